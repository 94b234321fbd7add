/- The door, the program: what is left by all clues, and puzzles that are none. -/
import Derived.Test.YtmjeilimdnngpaaDoorPzE
namespace Go.Proofs.YtmjeilimdnngpaaDoor
open Go Go.RowKit RM
theorem TabOk.grownR {w w' : World} {row : Option Nat} (h : TabOk w) (hg : w.grownBy w' row) (hne : ∀ g, row = some g → g ≠ 3) : TabOk w' := fun j hj => by
  have h1 := h j hj
  have hl : 3 < w.heap.size := World.block_lt_of_cell? _ _ h1
  have h2 := hg.block _ hl (fun e => hne _ e.symm rfl)
  rw [← h1]
  simp only [World.cell?]
  rw [h2]
/-- what the door has made, while a row is written -/
structure SiV (R : Int) (u lv : Value) (ok : Bool) (w w2 : World) (row : Option Nat) : Prop where
  g : w.grownBy w2 row
  P : w2.heap[w.heap.size]? = some (puzO R u)
  L : w2.heap[w.heap.size + 1]? = some (.cells #[lv] 88)
  K : w2.heap[w.heap.size + 1 + 1]? = some (.cells #[.bool ok] 4)
theorem SiV.grown {R : Int} {u lv : Value} {ok : Bool} {w w2 w3 : World} {row : Option Nat} (h : SiV R u lv ok w w2 row) (hg : w2.grownBy w3 row) (hr : ∀ g, row = some g → g < w.heap.size) : SiV R u lv ok w w3 row := by
  have e : ∀ k o, w.heap.size ≤ k → w2.heap[k]? = some o → w3.heap[k]? = some o := fun k o hk ho => (hg.block k (hb_lt ho) (fun e => by have := hr k e.symm; omega)).trans ho
  exact ⟨h.g.trans hg, e _ _ (Nat.le_refl _) h.P, e _ _ (by omega) h.L, e _ _ (by omega) h.K⟩
theorem SiV.storeL {R : Int} {u lv : Value} {ok : Bool} {w w2 : World} {row : Option Nat} (h : SiV R u lv ok w w2 row) (v : Value) : SiV R u v ok w (w2.setCell ⟨w.heap.size + 1, 0, none⟩ v) row :=
  ⟨⟨h.g.os, h.g.tape, h.g.output, by have := h.g.size; simpa using this, fun k hk hn => (hb_ne v (by omega)).trans (h.g.block k hk hn)⟩, (hb_ne v (by omega)).trans h.P, hb_set h.L v, (hb_ne v (by omega)).trans h.K⟩
theorem SiV.storeK {R : Int} {u lv : Value} {ok : Bool} {w w2 : World} {row : Option Nat} (h : SiV R u lv ok w w2 row) (b : Bool) : SiV R u lv b w (w2.setCell ⟨w.heap.size + 1 + 1, 0, none⟩ (.bool b)) row :=
  ⟨⟨h.g.os, h.g.tape, h.g.output, by have := h.g.size; simpa using this, fun k hk hn => (hb_ne _ (by omega)).trans (h.g.block k hk hn)⟩, (hb_ne _ (by omega)).trans h.P, (hb_ne _ (by omega)).trans h.L, hb_set h.K _⟩
theorem SiW.v {R : Int} {u lv : Value} {ok : Bool} {w w2 : World} (h : SiW R u lv ok w w2) (row : Option Nat) : SiV R u lv ok w w2 row := ⟨grown_any h.b row, h.P, h.L, h.K⟩
theorem grown_set2 {w v : World} {row : Option Nat} {g i : Nat} (h : w.grownBy v row) (hg : w.heap.size ≤ g) (u : Value) : w.grownBy (v.setCell ⟨g, i, none⟩ u) row :=
  ⟨h.os, h.tape, h.output, by have := h.size; simpa using this, fun k hk hn => (hb_ne u (by omega)).trans (h.block k hk hn)⟩
theorem filt_step (n : Nat) (xs : List Nat) (cs : List Clu) (k : Nat) (hk : k < cs.length) :
    (xs.filter fun x => (cs.take k).all (fitZ n x)).filter (fun x => fitZ n x cs[k]) = xs.filter fun x => (cs.take (k + 1)).all (fitZ n x) := by
  rw [List.filter_filter]
  congr 1
  funext x
  rw [List.take_succ_eq_append_getElem hk, List.all_append]
  simp [Bool.and_comm]
set_option maxHeartbeats 1000000 in
theorem sift_len (n m c : Nat) (p : Option Addr) (v : Value) (w : World) (h1 : 1 ≤ n) (h7 : n ≤ 7) (hm : 6 < m) (hml : m ≤ 9223372036854775807) :
    Calls Tryd.prog 68 #[.agg #[.int .i64 n, .slice p m c], v] w fun e w' => e = .returned (.tuple #[.slice none 0 0, .bool false]) ∧ Below w.heap.size w w' := by
  have hmf : ∀ (fn : Fn) (first cap : Array Value) (w : World), (Instr.makeFunc fn first cap).run Tryd.prog w = .ok (.func fn first cap) w := fun _ _ _ _ => rfl
  have hI := Lib.hid fun w => isHid_any n w
  rw [show inB (n : Int) 1 7 = true from inB_of (by omega) (by omega)] at hI
  have hd : decide ((6 : Int) < (m : Int)) = true := by simp; omega
  obtain ⟨w2, hw2⟩ : ∃ w2, Hid (w2 = ((w.alloc (puzO n (.slice p m c))).alloc (.cells #[.slice none 0 0] 88)).alloc (.cells #[.bool false] 4)) := ⟨_, Lib.hid rfl⟩
  have hW := Lib.hid (show SiW n (.slice p m c) (.slice none 0 0) false w w2 by rw [hw2.out]; exact siW n _ w)
  have p0 : w2.cell? ⟨w.heap.size, 0, none⟩ = some (.int .i64 n) := hb_cell hW.out.P 0
  have p1 : w2.cell? ⟨w.heap.size, 1, none⟩ = some (.slice p m c) := hb_cell hW.out.P 1
  have l0 : w2.cell? ⟨w.heap.size + 1, 0, none⟩ = some (.slice none 0 0) := hb_cell hW.out.L 0
  have k0 : w2.cell? ⟨w.heap.size + 1 + 1, 0, none⟩ = some (.bool false) := hb_cell hW.out.K 0
  have fl := hb_frozen hW.out.L
  have fk := hb_frozen hW.out.K
  have lk := hb_lt hW.out.K
  have ll := hb_lt hW.out.L
  have hne : ¬ w.heap.size + 1 = w.heap.size + 1 + 1 := by omega
  go_enter_defers Tryd.func68, Tryd.ntmps68
  go_upto_region 1 with fail
  rw [← hw2.out]
  go_wp2_with fail
  refine (hI.out _).mono ?_; rintro e w' ⟨rfl, rfl⟩
  go_wp2_with fail
  refine door_ret (w.heap.size + 1) (w.heap.size + 1 + 1) _ (.slice none 0 0) false rfl rfl ?_ ?_ ⟨rfl, ?_⟩
  · simp [go_sem, l0, k0, hne]
  · simp [go_sem, l0, k0, hne]
  · have h0 := hW.out.b
    repeat (first | (with_reducible exact h0) | (with_reducible refine bt1 ?_ (ba1 _ _)) | (with_reducible refine Below.setCell ?_ ?_ _; rotate_left; (first | (show w.heap.size ≤ w.heap.size + 1 + 1; omega) | (show w.heap.size ≤ w.heap.size + 1; omega))))

/-- how the door ends -/
def SiE (n B : Nat) (xs : List Nat) (cs : List Clu) (v : Value) (w : World) (e : Ending) (w' : World) : Prop :=
  ∃ v', e = .returned (.tuple #[v', .bool (cs.all (cluOk n))]) ∧ (cs.all (cluOk n) = true → OwnG brE w' B v' (brX n (xs.filter fun x => cs.all (fitZ n x))) ∧ v'.ownBlock = v.ownBlock) ∧ (cs.all (cluOk n) = false → v' = .slice none 0 0) ∧ w.grownBy w' v.ownBlock
set_option maxHeartbeats 2000000 in
theorem sift_any (n B m c : Nat) (p : Option Addr) (cs : List Clu) (v : Value) (xs : List Nat) (w : World) (h1 : 1 ≤ n) (h7 : n ≤ 7) (hmc : cs.length = m) (hm : m ≤ 6) (hx : ∀ x ∈ xs, x < 2 ^ n) (hl : xs.length ≤ 200) (hT : TabOk w) (hB : 3 < B)
    (ho : OwnG brE w B v (brX n xs)) (hR : ∀ w', w.grownBy w' v.ownBlock → RG cluE w' p cs) :
    Calls Tryd.prog 68 #[.agg #[.int .i64 n, .slice p m c], v] w (SiE n B xs cs v w) := by
  have hmf : ∀ (fn : Fn) (first cap : Array Value) (w : World), (Instr.makeFunc fn first cap).run Tryd.prog w = .ok (.func fn first cap) w := fun _ _ _ _ => rfl
  have hI := Lib.hid fun w => isHid_any n w
  rw [show inB (n : Int) 1 7 = true from inB_of (by omega) (by omega)] at hI
  have hd : decide ((6 : Int) < (m : Int)) = false := by simp; omega
  have hvl := Lib.hid (fun g e => (ho.lt g e).2)
  have hvt := Lib.hid (fun g (e : v.ownBlock = some g) => show g ≠ 3 by have := (ho.lt g e).1; omega)
  obtain ⟨row, hrow⟩ : ∃ row, row = v.ownBlock := ⟨_, rfl⟩
  obtain ⟨pv, nv, cv, hve⟩ : ∃ p n c, v = .slice p n c := by
    obtain ⟨p, c, e⟩ := ho.sl
    exact ⟨p, _, c, e⟩
  obtain ⟨w2, hw2⟩ : ∃ w2, Hid (w2 = ((w.alloc (puzO n (.slice p m c))).alloc (.cells #[.slice none 0 0] 88)).alloc (.cells #[.bool false] 4)) := ⟨_, Lib.hid rfl⟩
  have hW := Lib.hid (show SiW n (.slice p m c) (.slice none 0 0) false w w2 by rw [hw2.out]; exact siW n _ w)
  have p0 : w2.cell? ⟨w.heap.size, 0, none⟩ = some (.int .i64 n) := hb_cell hW.out.P 0
  have p1 : w2.cell? ⟨w.heap.size, 1, none⟩ = some (.slice p m c) := hb_cell hW.out.P 1
  have l0 : w2.cell? ⟨w.heap.size + 1, 0, none⟩ = some (.slice none 0 0) := hb_cell hW.out.L 0
  have k0 : w2.cell? ⟨w.heap.size + 1 + 1, 0, none⟩ = some (.bool false) := hb_cell hW.out.K 0
  have fl := hb_frozen hW.out.L
  have fk := hb_frozen hW.out.K
  have lk := hb_lt hW.out.K
  have ll := hb_lt hW.out.L
  have hne : ¬ w.heap.size + 1 = w.heap.size + 1 + 1 := by omega
  have hne0 : ¬ w.heap.size = w.heap.size + 1 := by omega
  have ho2 := Lib.hid (ho.below hW.out.b)
  have hT2 := Lib.hid (hT.below hW.out.b)
  have hTb := Lib.hid (World.block_lt_of_cell? _ _ (hT 0 (by omega)))
  rw [← hrow] at hvl hvt hR
  have hS2 := Lib.hid ((hW.out.v row).storeL v)
  have ho3 : OwnG brE (w2.setCell ⟨w.heap.size + 1, 0, none⟩ v) B v (brX n xs) := ho2.out.kept (grown_set _ _ _ _) (by rw [← hrow]; exact .inr (fun e => by have := hvl.out _ e; omega))
  have hT3 : TabOk (w2.setCell ⟨w.heap.size + 1, 0, none⟩ v) := hT2.out.grownR (grown_set _ _ _ _) (fun g e => by
    have hg := World.block_lt_of_cell? _ _ (hT 0 (by omega))
    have := Option.some.inj e
    have : 3 < w.heap.size := hg
    omega)
  subst hve
  generalize hw3 : w2.setCell ⟨w.heap.size + 1, 0, none⟩ (.slice pv nv cv) = w3 at *
  replace hw3 := Lib.hid hw3
  replace ho3 := Lib.hid ho3
  replace hT3 := Lib.hid hT3
  replace hR := Lib.hid hR
  replace hx := Lib.hid hx
  replace hmc := Lib.hid hmc
  replace hrow := Lib.hid hrow
  clear ho hT
  go_enter_defers Tryd.func68, Tryd.ntmps68
  go_upto_region 1 with fail
  rw [← hw2.out]
  go_wp2_with fail
  refine (hI.out _).mono ?_; rintro e w' ⟨rfl, rfl⟩
  go_upto_region 5 with fail
  rw [hw3.out]
  clear p0 p1 l0 k0 fl fk lk ll hne0
  have p1 : w3.cell? ⟨w.heap.size, 1, none⟩ = some (.slice p m c) := hb_cell hS2.out.P 1
  go_wp2_with fail
  go_loopw [7, 23] (fun _ i wr => ∃ (k : Nat) (lv : Value), k ≤ m ∧ i = .int .i64 k ∧ Hid (SiV n (.slice p m c) lv false w wr row) ∧ Hid (OwnG brE wr B lv (brX n (xs.filter fun x => (cs.take k).all (fitZ n x)))) ∧ Hid (lv.ownBlock = row) ∧ Hid ((cs.take k).all (cluOk n) = true) ∧ Hid (TabOk wr)) (fun _ i _ => m - (intOf i).toNat)
  case atStart => exact ⟨0, _, Nat.zero_le _, rfl, hS2, Lib.hid (by rw [List.take_zero]; show OwnG brE w3 B _ (brX n (xs.filter fun _ => true)); rw [List.filter_eq_self.2 (fun _ _ => rfl)]; exact ho3.out), Lib.hid hrow.out.symm, Lib.hid (by simp), hT3⟩
  case round =>
    obtain ⟨k, lv, hk, rfl, hS, hol, hlv, hck, hTr⟩ := hrel
    clear p1
    have hne0 : ¬ w.heap.size = w.heap.size + 1 := by omega
    by_cases hlt : k < m
    · have hkx : k < cs.length := by rw [hmc.out]; exact hlt
      obtain ⟨g, rfl, hgl, c0, c1, c2⟩ := (hR.out _ hS.out.g).clu hkx
      have hno := Lib.hid (all_nott (cluOk n) cs k hkx)
      have hye := Lib.hid (all_snoct (cluOk n) cs k hkx hck.out)
      have hfs := Lib.hid (filt_step n xs cs k hkx)
      obtain ⟨ka, ki, kb, hke⟩ : ∃ a i b, cs[k] = ⟨a, i, b⟩ := ⟨_, _, _, rfl⟩
      rw [hke] at c0 c1 c2 hno hye hfs
      clear hke hkx
      obtain ⟨w4, hw4⟩ : ∃ w4, Hid (w4 = wr.alloc (cluO ka ki kb)) := ⟨_, Lib.hid rfl⟩
      have hb4 : Hid (Below wr.heap.size wr w4) := Lib.hid (by rw [hw4.out]; exact ba1 wr _)
      have C4 := Lib.hid (show w4.heap[wr.heap.size]? = some (cluO ka ki kb) by rw [hw4.out]; exact hb_new _ _)
      have hS4 := Lib.hid (hS.out.grown (grown_any hb4.out row) hvl.out)
      have hT4 := Lib.hid (hTr.out.below hb4.out)
      have ho4 := Lib.hid (hol.out.below hb4.out)
      have d0 : w4.cell? ⟨wr.heap.size, 0, none⟩ = some (.int .i64 ka) := hb_cell C4.out 0
      have d1 : w4.cell? ⟨wr.heap.size, 1, none⟩ = some (.int .i64 ki) := hb_cell C4.out 1
      have d2 : w4.cell? ⟨wr.heap.size, 2, none⟩ = some (.int .i64 kb) := hb_cell C4.out 2
      have p0 : w4.cell? ⟨w.heap.size, 0, none⟩ = some (.int .i64 n) := hb_cell hS4.out.P 0
      have l0 : w4.cell? ⟨w.heap.size + 1, 0, none⟩ = some lv := hb_cell hS4.out.L 0
      cases hok : cluOk n ⟨ka, ki, kb⟩ with
      | false =>
        have hBy := Lib.hid fun w => siftBy_bad n ka ki kb lv w h1 h7 hok
        have hF := Lib.hid (hno.out hok)
        clear hok
        go_upto_region 8 with fail
        rw [← hw4.out]
        go_wp2_with fail
        refine (hBy.out _).mono ?_; rintro e w5 ⟨rfl, hb5⟩
        have hS5 := Lib.hid (hS4.out.grown (grown_any hb5 row) hvl.out)
        go_wp2_with fail
        refine door_panic (w.heap.size + 1) (w.heap.size + 1 + 1) w5 lv false ka ki kb rfl rfl (hb_cell hS5.out.L 0) (hb_cell hS5.out.K 0) (hb_frozen hS5.out.L 0) (hb_frozen hS5.out.K 0) hne ?_
        refine ⟨_, by rw [hF.out], (fun h => by rw [hF.out] at h; cases h), fun _ => rfl, ?_⟩
        rw [← hrow.out]
        exact grown_set2 (grown_set2 (hS5.out.g.trans (grown_any (ba1 _ _) row)) (by omega) _) (by omega) _
      | true =>
        have hlen := Lib.hid (List.length_filter_le (fun x => (cs.take k).all (fitZ n x)) xs)
        have hBy := Lib.hid (siftBy_ok n B ka ki kb lv (xs.filter fun x => (cs.take k).all (fitZ n x)) w4 h1 h7 hok (fun x hxm => hx.out x ((List.mem_filter.1 hxm).1)) (by have := hlen.out; omega) hT4.out hB ho4.out)
        have hF := Lib.hid (hye.out hok)
        rw [hfs.out] at hBy
        clear hok
        go_upto_region 8 with fail
        rw [← hw4.out]
        go_wp2_with fail
        refine hBy.out.mono ?_; rintro e w5 ⟨v', rfl, ho5, hv5, hg5⟩
        obtain ⟨pv', cv', hv'⟩ := ho5.sl
        obtain ⟨nv', hnv'⟩ : ∃ q, q = (brX n (xs.filter fun x => (cs.take (k + 1)).all (fitZ n x))).length := ⟨_, rfl⟩
        rw [← hnv'] at hv'
        replace hnv' := Lib.hid hnv'
        rw [hlv.out] at hv5 hg5
        have hS5 := Lib.hid (hS4.out.grown hg5 hvl.out)
        have hT5 := Lib.hid (hT4.out.grownR hg5 hvt.out)
        have hS6 := Lib.hid (hS5.out.storeL v')
        have ho6 := Lib.hid (ho5.kept (grown_set w5 (w.heap.size + 1) 0 v') (by rw [hv5]; exact .inr (fun e => by have := hvl.out _ e; omega)))
        have hT6 := Lib.hid (hT5.out.grownR (grown_set w5 (w.heap.size + 1) 0 v') (fun g e => by
          have hgt := World.block_lt_of_cell? _ _ (hT2.out 0 (by omega))
          have e2 := Option.some.inj e
          intro e3
          rw [e3] at e2
          have := hW.out.b.size
          exact absurd (hTb.out) (by omega)))
        replace hv5 := Lib.hid hv5
        have fl := hb_frozen hS5.out.L
        have l0 : w5.cell? ⟨w.heap.size + 1, 0, none⟩ = some lv := hb_cell hS5.out.L 0
        clear hg5 ho5 c0 c1 c2 d0 d1 d2 p0
        subst hv'
        go_wp2_with fail
        go_roundw
        case rel => exact ⟨k + 1, _, by omega, by go_num, hS6, ho6, hv5, hF, hT6⟩
        all_goals (simp [intOf] <;> omega)
    · obtain rfl : k = m := by omega
      have htk : cs.take k = cs := List.take_of_length_le (by rw [hmc.out]; exact Nat.le_refl _)
      rw [htk] at hol hck
      clear htk
      obtain ⟨pv', cv', hv'⟩ := hol.out.sl
      obtain ⟨nv', hnv'⟩ : ∃ q, q = (brX n (xs.filter fun x => cs.all (fitZ n x))).length := ⟨_, rfl⟩
      rw [← hnv'] at hv'
      replace hnv' := Lib.hid hnv'
      subst hv'
      have fl := hb_frozen hS.out.L
      have fk := hb_frozen hS.out.K
      have l0 : wr.cell? ⟨w.heap.size + 1, 0, none⟩ = some (.slice pv' nv' cv') := hb_cell hS.out.L 0
      have k0 : wr.cell? ⟨w.heap.size + 1 + 1, 0, none⟩ = some (.bool false) := hb_cell hS.out.K 0
      have hS6 := Lib.hid ((hS.out.storeL (.slice pv' nv' cv')).storeK true)
      have ho6 := Lib.hid ((hol.out.kept (grown_set wr (w.heap.size + 1) 0 (.slice pv' nv' cv')) (by rw [hlv.out]; exact .inr (fun e => by have := hvl.out _ e; omega))).kept (grown_set _ (w.heap.size + 1 + 1) 0 (.bool true)) (by rw [hlv.out]; exact .inr (fun e => by have := hvl.out _ e; omega)))
      go_wp2_with fail
      refine door_ret (w.heap.size + 1) (w.heap.size + 1 + 1) _ (.slice pv' nv' cv') true rfl rfl (hb_cell hS6.out.L 0) (hb_cell hS6.out.K 0) ?_
      refine ⟨_, by rw [hck.out], fun _ => ⟨ho6.out.below (ba1 _ _), hlv.out.trans hrow.out⟩, (fun h => by rw [hck.out] at h; cases h), ?_⟩
      rw [← hrow.out]
      exact hS6.out.g.trans (grown_any (ba1 _ _) row)

end Go.Proofs.YtmjeilimdnngpaaDoor
