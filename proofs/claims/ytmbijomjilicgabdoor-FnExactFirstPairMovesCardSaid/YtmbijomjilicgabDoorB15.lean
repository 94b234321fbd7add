/- The first way by pairs: both ways. -/
import Derived.Test.YtmbijomjilicgabDoorB14
namespace Go.Proofs.YtmbijomjilicgabDoor
open Go Go.RowKit RM

theorem OwnI.ne_bar {w : World} {B g n x : Nat} {v : Value} {xs : List Int} (h : OwnI w B v xs) (hg : w.heap[g]? = some (barO n x)) : v.ownBlock ≠ some g := by
  rcases h.2 with ⟨rfl, _⟩ | ⟨g', cap, cur, rfl, _, hh, _⟩
  · intro e; cases e
  · intro e
    obtain rfl : g' = g := Option.some.inj e
    rw [hh] at hg
    simp [barO] at hg
theorem grow_bar {w w' : World} {B g n z : Nat} {o : Value} {pre : List Int} {ob : Obj} (hg : (w.alloc ob).grownBy w' o.ownBlock) (ho : OwnI w B o pre) (h : w.heap[g]? = some (barO n z)) : w'.heap[g]? = some (barO n z) := by
  have hl : g < w.heap.size := lt_of_block h
  rw [hg.block g (by simp; omega) (fun e => ho.ne_bar h e.symm), Below.heap_alloc _ _ _ hl]; exact h
theorem set_one {w : World} {g j : Nat} {c : Array Value} {t : TypeId} {fz : Nat × Nat} (h : w.heap[g]? = some (.cells c t fz)) (v : Value) : (w.setCell ⟨g, j, none⟩ v).heap[g]? = some (.cells (c.setIfInBounds j v) t fz) := by
  simp [World.setCell, Array.getElem?_modify, h]
theorem set_bar {w : World} {g n z : Nat} (h : w.heap[g]? = some (barO n z)) (z' : Nat) : ((((w.setCell ⟨g, 0, none⟩ (.int .i64 (ctz z'))).setCell ⟨g, 1, none⟩ (.bool (onB z'))).setCell ⟨g, 2, none⟩ (.int .i64 n)).setCell ⟨g, 3, none⟩ (.int .u64 z')).heap[g]? = some (barO n z') :=
  set_one (set_one (set_one (set_one h _) _) _) _
theorem ST_toList {n x y : Nat} (hx : x < 2 ^ n) (hy : y < 2 ^ n) (h : x ≠ y) : ((ST n x).toList == (ST n y).toList) = false := by
  refine beq_eq_false_iff_ne.2 fun e => h ?_
  rw [ByteArray.toList_eq, ByteArray.toList_eq] at e
  have e2 : ST n x = ST n y := ByteArray.ext (Array.toList_inj.1 e)
  exact (ST_inj hx hy e2).2

set_option maxRecDepth 100000 in
theorem nearer_core (n x N gm gw B j : Nat) (pm : List Int) (P : Int → Bool) (mk : Int) (w : World) (hN : N ≤ 4096) (hT : TabOk w) (hpm : Hid (pm.length ≤ 4000)) (hg : gm < w.heap.size)
    (hj : j < pm.length) (hmk : Hid (pm[j] = mk)) (hP : Hid (P pm[j] = true)) (hnP : Hid (∀ i (h : i < pm.length), i < j → P pm[i] = false))
    (hPM : Hid (∀ w, Calls Tryd.prog 61 #[(.agg #[.int .i64 ((ctz (x) : Nat) : Int), .bool (onB (x)), .int .i64 ((n : Nat) : Int), .int .u64 ((x : Nat) : Int)])] w fun e w' => ∃ v, e = .returned v ∧ OwnI w' (w.heap.size + 1) v pm ∧ Below w.heap.size w w'))
    (hF : Hid (∀ bp ba i (h : i < pm.length) w', Below w.heap.size w w' → w'.heap[bp]? = some (fndO n N gm gw) → w'.heap[ba]? = some (barO n x) → Calls Tryd.prog 73 #[.int .i64 pm[i], .pointer (some ⟨bp, 0, none⟩), .pointer (some ⟨ba, 0, none⟩)] w' fun e w'' => e = .returned (.bool (P pm[i])) ∧ Below w'.heap.size w' w'')) :
    Calls Tryd.prog 57 #[.agg #[.int .i64 n, .slice (some ⟨gm, 0, none⟩) N N, .slice (some ⟨gw, 0, none⟩) N N], (.agg #[.int .i64 ((ctz (x) : Nat) : Int), .bool (onB (x)), .int .i64 ((n : Nat) : Int), .int .u64 ((x : Nat) : Int)])] w fun e w' => e = .returned (.int .i64 mk) ∧ Below w.heap.size w w' := by
  have hT := Lib.hid hT
  have hmf : ∀ (fn : Fn) (first cap : Array Value) (w : World), (Instr.makeFunc fn first cap).run Tryd.prog w = .ok (.func fn first cap) w := fun _ _ _ _ => rfl
  have hpne : pm ≠ [] := by intro e; rw [e] at hj; simp at hj
  go_enter Tryd.func57, Tryd.ntmps57
  go_wp2_with fail
  refine (hPM.out _).mono ?_; rintro e w1 ⟨v, rfl, ho, hb1⟩
  have hp1 : w1.heap[w.heap.size]? = some (fndO n N gm gw) := (hb1.block _ (by simp; omega)).trans ((Below.heap_alloc _ _ _ (by simp)).trans (alloc_at w (fndO n N gm gw)))
  have ha1 : w1.heap[w.heap.size + 1]? = some (barO n x) := (hb1.block _ (by simp)).trans (alloc_at' _ _ _ (by simp))
  have hbb := bt (bt (ba w (fndO n N gm gw)) (ba _ (barO n x))) hb1
  rcases ho.form with ⟨_, e⟩ | ⟨gv, capv, rfl, hgv, hgvl, hvc, _, _⟩
  · exact absurd e hpne
  have hix := Lib.hid (ixf_any gv pm.length capv _ w.heap.size (w.heap.size + 1) j pm P w1 (by have := hpm.out; omega) rfl hj ho (Lib.hid fun _ => hP.out) hnP (Lib.hid fun i h w' hbw => hF.out _ _ i h w' (hbb.trans (hbw.mono hbb.size)) ((hbw.block _ (lt_of_block hp1)).trans hp1) ((hbw.block _ (lt_of_block ha1)).trans ha1)))
  have ho := Lib.hid ho
  have hp1 := Lib.hid hp1
  have ha1 := Lib.hid ha1
  have hbb := Lib.hid hbb
  have hb1 := Lib.hid hb1
  clear hvc hpne
  go_wp2_with fail
  refine hix.out.mono ?_; rintro e w2 ⟨rfl, hb2⟩
  obtain ⟨c0, _⟩ := (ho.out.below hb2).cell rfl j hj
  rw [hmk.out] at c0
  have hb2 := Lib.hid hb2
  go_wp2_with fail
  go_ret
  exact ⟨rfl, bt hbb.out hb2.out⟩
theorem nearer_any (n x y gm gw B : Nat) (w : World) (h2 : 2 ≤ n) (hn : n ≤ 12) (hx : x < 2 ^ n) (hy : y < 2 ^ n) (hne : num x ≠ num y) (hT : TabOk w) (ho : OwnI w B (.slice (some ⟨gm, 0, none⟩) (2 ^ n) (2 ^ n)) (sdL n y)) :
    Calls Tryd.prog 57 #[.agg #[.int .i64 n, .slice (some ⟨gm, 0, none⟩) (2 ^ n) (2 ^ n), .slice (some ⟨gw, 0, none⟩) (2 ^ n) (2 ^ n)], (.agg #[.int .i64 ((ctz (x) : Nat) : Int), .bool (onB (x)), .int .i64 ((n : Nat) : Int), .int .u64 ((x : Nat) : Int)])] w fun e w' => e = .returned (.int .i64 (nrK n (num y) x)) ∧ Below w.heap.size w w' := by
  have hq : 2 ^ n ≤ 2 ^ 12 := Nat.pow_le_pow_right (by omega) hn
  obtain ⟨hcan, _, j, hj, hjk, hlt, hnl⟩ := nrK_spec n (num y) x h2 hx (num_lt n y hy) hne
  refine nearer_core n x (2 ^ n) gm gw B j (pmL n x) (fun k => decide (dS y (x ^^^ msk k) < dS y x)) _ w (by omega) hT (Lib.hid (by have := pmL_le n x; omega)) (ho.lt gm rfl).2 hj (Lib.hid hjk) (Lib.hid (by unfold dS; simp; exact hlt)) (Lib.hid fun i h hi => by
      have := hnl i h hi
      unfold dS; simp; omega)
    (Lib.hid fun w => pairMoves_any n x w (by omega) (by omega) (by omega)) (Lib.hid fun bp bb i h w' hbw hp ha => ?_)
  have hk := pm_can n x _ (List.getElem_mem h)
  have hyy := Nat.xor_lt_two_pow hx (msk_lt n _ x h2 hk)
  have ho' : OwnI w' B (.slice (some ⟨gm, 0, none⟩) (2 ^ n) (2 ^ n)) (sdL n y) := ho.below hbw
  have c1 := (ho'.cell (sdL_len n y) _ (by rw [sdL_len]; exact hyy)).1
  have c2 := (ho'.cell (sdL_len n y) x (by rw [sdL_len]; exact hx)).1
  rw [sdL_get] at c1 c2
  exact closer_core n x _ (2 ^ n) gm gw bp bb _ _ _ w' hx hyy (by omega) (hT.below hbw) hp ha (ho'.lt gm rfl).2 c1 c2 (Lib.hid fun w hw => pairMoved_any n x _ w h2 (by omega) hx hk hw)
end Go.Proofs.YtmbijomjilicgabDoor
