/- Puzzles and their solutions by the program. -/
import Derived.Test.YtmjeilimdnngpaaDoorPzF
import Derived.Test.YtmjeilimdnngpaaDoorPz5
namespace Go.Proofs.YtmjeilimdnngpaaDoor
open Go Go.RowKit RM
theorem goodZ_eq (n : Nat) (cs : List Clu) (h1 : 1 ≤ n) (h7 : n ≤ 7) (hl : cs.length ≤ 6) : cs.all (cluOk n) = goodZ n cs := (goodZ_yes n cs h1 h7 hl).symm
/-- the solutions, none of what is no puzzle -/
def solG (R : Int) (cs : List Clu) : List Nat := if goodZ R cs = true then solZ R.toNat cs else []
theorem solG_yes {n : Nat} {cs : List Clu} (h : goodZ n cs = true) : solG n cs = solZ n cs := by unfold solG; rw [if_pos h]; rfl
theorem solG_no {R : Int} {cs : List Clu} (h : goodZ R cs = false) : solG R cs = [] := by unfold solG; rw [if_neg (by rw [h]; simp)]
theorem goodZ_cases (R : Int) (cs : List Clu) : goodZ R cs = false ∨ ∃ n : Nat, R = n ∧ 1 ≤ n ∧ n ≤ 7 ∧ cs.length ≤ 6 ∧ cs.all (cluOk n) = true := by
  cases h : goodZ R cs with
  | false => exact .inl rfl
  | true =>
    right
    unfold goodZ at h
    rw [Bool.and_eq_true, Bool.and_eq_true, decide_eq_true_eq] at h
    obtain ⟨⟨h1, h2⟩, h3⟩ := h
    obtain ⟨a, b⟩ := inB_yes h1
    refine ⟨R.toNat, by omega, by omega, by omega, h2, ?_⟩
    exact h3
theorem solZ_len (n : Nat) (cs : List Clu) (h : n ≤ 7) : (solZ n cs).length ≤ 128 := by
  have := solK_len n cs (2 ^ n)
  have := pow7 h
  rw [solZ_K]; omega
theorem solG_len (R : Int) (cs : List Clu) : (solG R cs).length ≤ 128 := by
  rcases goodZ_cases R cs with h | ⟨n, rfl, h1, h7, hl, ho⟩
  · rw [solG_no h]; simp
  · have hg : goodZ n cs = true := by rw [← goodZ_eq n cs h1 h7 hl]; exact ho
    rw [solG_yes hg]; exact solZ_len n cs h7
/-- the door with no bars: only whether there is such a puzzle -/
theorem sift_nil (R : Int) (cs : List Clu) (v : Value) (w : World) (h : RdZ w v R cs) (hT : TabOk w) :
    Calls Tryd.prog 68 #[v, .slice none 0 0] w fun e w' => ∃ v', e = .returned (.tuple #[v', .bool (goodZ R cs)]) ∧ Below w.heap.size w w' := by
  obtain ⟨p, c, rfl, hm, hr⟩ := h.form
  cases hb : inB R 1 7 with
  | false =>
    rw [goodZ_no R cs hb]
    exact (sift_no R _ _ w hb).mono fun e w' ⟨he, hw⟩ => ⟨_, he, hw⟩
  | true =>
    obtain ⟨h1, h7⟩ := inB_yes hb
    obtain ⟨n, rfl⟩ : ∃ n : Nat, R = (n : Int) := ⟨R.toNat, by omega⟩
    by_cases hl : 6 < cs.length
    · rw [goodZ_len n cs hl]
      exact (sift_len n cs.length c p _ w (by omega) (by omega) hl hm).mono fun e w' ⟨he, hw⟩ => ⟨_, he, hw⟩
    · refine (sift_any n (w.heap.size) cs.length c p cs (.slice none 0 0) [] w (by omega) (by omega) rfl (by omega) (fun x hx => by cases hx) (by simp) hT (World.block_lt_of_cell? _ _ (hT 0 (by omega))) (OwnG.nil _ _) (fun w' hg => hr.below ((Below.refl _ _).grown hg (Nat.le_refl _) (fun k e => by cases e)))).mono ?_
      rintro e w' ⟨v', rfl, -, -, hg⟩
      refine ⟨v', by rw [goodZ_eq n cs (by omega) (by omega) (by omega)], (Below.refl _ _).grown hg (Nat.le_refl _) (fun k e => by cases e)⟩

theorem iIsPuzzle (R : Int) (cs : List Clu) (v : Value) (w : World) (h : RdZ w v R cs) (hT : TabOk w) :
    Calls Tryd.prog 41 #[v] w fun e w' => e = .returned (.bool (goodZ R cs)) ∧ Below w.heap.size w w' := by
  obtain ⟨p, c, rfl, hm, hr⟩ := h.form
  have hS := Lib.hid (sift_nil R cs _ (w.alloc (puzO R (.slice p cs.length c))) (h.below (ba1 w _)) (hT.below (ba1 w _)))
  generalize goodZ R cs = G at *
  generalize cs.length = m at *
  clear h hm hr hT
  go_enter Tryd.func41, Tryd.ntmps41
  go_wp2_with fail
  refine hS.out.mono ?_; rintro e w3 ⟨v', rfl, hb3⟩
  replace hb3 := Lib.hid (bt1 (ba1 w _) hb3)
  go_wp2_with fail
  go_ret; exact ⟨rfl, hb3.out⟩


/-- a puzzle in memory -/
abbrev BZ (g N : Nat) (R : Int) (u : Value) (v : World) : Prop := (v.cell? ⟨g, 0, none⟩ = some (.int .i64 R) ∧ v.cell? ⟨g, 1, none⟩ = some u) ∧ N ≤ v.heap.size
theorem BZ.of {g N : Nat} {R : Int} {u : Value} {W v : World} (hg : W.heap[g]? = some (puzO R u)) (hN : g < N) (hW : N ≤ W.heap.size) (hb : Below N W v) : BZ g N R u v := by
  have h := hb_below hb hN hg
  exact ⟨⟨hb_cell h 0, hb_cell h 1⟩, Nat.le_trans hW hb.size⟩
theorem BZ.drew {g N : Nat} {R : Int} {u : Value} {v : World} (h : BZ g N R u v) : BZ g N R u v.drew := h
set_option maxHeartbeats 1000000 in
theorem solve_core (R : Int) (n m c : Nat) (p : Option Addr) (xs ys : List Nat) (ok : Bool) (w : World) (hT : TabOk w)
    (hH : Hid (∀ W, TabOk W → Calls Tryd.prog 90 #[.int .i64 R] W fun e W' => ∃ hv, e = .returned hv ∧ OwnG brE W' W.heap.size hv (brX n xs) ∧ Below W.heap.size W W'))
    (hS : Hid (∀ W hv, Below (w.heap.size + 1) (w.alloc (puzO R (.slice p m c))) W → OwnG brE W (w.heap.size + 1) hv (brX n xs) → Calls Tryd.prog 68 #[.agg #[.int .i64 R, .slice p m c], hv] W fun e W' => ∃ v', e = .returned (.tuple #[v', .bool ok]) ∧ OwnG brE W' (w.heap.size + 1) v' (brX n ys) ∧ Below (w.heap.size + 1) (w.alloc (puzO R (.slice p m c))) W')) :
    Calls Tryd.prog 69 #[.agg #[.int .i64 R, .slice p m c]] w fun e w' => ∃ v', e = .returned (.tuple #[v', .bool ok]) ∧ OwnG brE w' w.heap.size v' (brX n ys) ∧ Below w.heap.size w w' := by
  obtain ⟨w2, hw2⟩ : ∃ w2, w2 = w.alloc (puzO R (.slice p m c)) := ⟨_, rfl⟩
  rw [← hw2] at hS
  replace hw2 := Lib.hid hw2
  have hb2 : Hid (Below w.heap.size w w2) := Lib.hid (by rw [hw2.out]; exact ba1 w _)
  have P2 := Lib.hid (show w2.heap[w.heap.size]? = some (puzO R (.slice p m c)) by rw [hw2.out]; exact hb_new _ _)
  have y2 : w2.heap.size = w.heap.size + 1 := by rw [hw2.out]; simp
  have hl1 : w.heap.size + 1 ≤ w2.heap.size := by omega
  have hl2 : w.heap.size < w.heap.size + 1 := by omega
  have hl1d : w.heap.size + 1 ≤ w2.drew.heap.size := by simpa using hl1
  replace y2 := Lib.hid y2
  have hT2 : Hid (TabOk w2.drew) := Lib.hid ((hT.below hb2.out).below (Below.refl _ _).drew)
  have hB0 : Hid (Below (w.heap.size + 1) w2 w2.drew) := Lib.hid (Below.refl _ _).drew
  have hS0 : BZ w.heap.size (w.heap.size + 1) R (.slice p m c) w2 := BZ.of P2.out hl2 hl1 (Below.refl _ _)
  clear hT
  go_enter Tryd.func69, Tryd.ntmps69
  go_wp2_with fail
  rw [← hw2.out]
  go_region_held3 (fun v => BZ w.heap.size (w.heap.size + 1) R (.slice p m c) v) (first | assumption | exact BZ.drew (by assumption) | (refine ⟨⟨?_, ?_⟩, ?_⟩ <;> first | assumption | go_keep | omega))
    (first | (go_at_call 90; with_reducible refine (hH.out _ hT2.out).mono ?_; rintro e w' ⟨hv, rfl, ho9, hb9⟩; have hB1 := Lib.hid (hB0.out.trans (hb9.mono hl1d)); have ho1 := Lib.hid (ho9.mono hl1d); have hbn := BZ.of P2.out hl2 hl1 hB1.out) | (go_at_call 68; with_reducible refine (hS.out _ _ hB1.out ho1.out).mono ?_; rintro e w' ⟨v', rfl, ho9, hb9⟩; have hB2 := Lib.hid hb9; have ho2 := Lib.hid ho9; have hbn := BZ.of P2.out hl2 hl1 hB2.out))
  all_goals
    have hfin := Lib.hid (show Below w.heap.size w _ from hb2.out.trans (hB2.out.mono (by omega)))
    clear hS0 hbn
    go_wp2_with fail
    go_ret2; exact ⟨_, rfl, ho2.out.mono (by omega), hfin.out⟩

theorem solve_any (R : Int) (cs : List Clu) (v : Value) (w : World) (h : RdZ w v R cs) (hT : TabOk w) :
    Calls Tryd.prog 69 #[v] w fun e w' => ∃ v', e = .returned (.tuple #[v', .bool (goodZ R cs)]) ∧ OwnG brE w' w.heap.size v' (brX R.toNat (solG R cs)) ∧ Below w.heap.size w w' := by
  obtain ⟨p, c, rfl, hm, hr⟩ := h.form
  have hTb : 3 < w.heap.size := World.block_lt_of_cell? _ _ (hT 0 (by omega))
  have y2 : (w.alloc (puzO R (.slice p cs.length c))).heap.size = w.heap.size + 1 := by simp
  have low : ∀ {W W' : World} {hv : Value} {zs : List (Nat × Nat)}, Below (w.heap.size + 1) (w.alloc (puzO R (.slice p cs.length c))) W → OwnG brE W (w.heap.size + 1) hv zs → W.grownBy W' hv.ownBlock → Below (w.heap.size + 1) (w.alloc (puzO R (.slice p cs.length c))) W' :=
    fun hb ho hg => hb.grown hg (by have := hb.size; rw [y2] at this; exact this) (fun k e => (ho.lt k e).1)
  cases hb : inB R 1 7 with
  | false =>
    rw [goodZ_no R cs hb, solG_no (goodZ_no R cs hb)]
    refine solve_core R R.toNat cs.length c p [] [] false w hT (Lib.hid fun W _ => (hidBars_no R W hb).mono fun e W' ⟨he, hw⟩ => ⟨_, he, by subst hw; exact OwnG.nil _ _, by subst hw; exact Below.refl _ _⟩) (Lib.hid fun W hv hbW hoW => (sift_no R _ hv W hb).mono fun e W' ⟨he, hw⟩ => ⟨_, he, OwnG.nil _ _, hbW.trans (hw.mono (by have := hbW.size; rw [y2] at this; exact this))⟩)
  | true =>
    obtain ⟨h1, h7⟩ := inB_yes hb
    obtain ⟨n, rfl⟩ : ∃ n : Nat, R = (n : Int) := ⟨R.toNat, by omega⟩
    have hp7 := pow7 (n := n) (by omega)
    have hH : Hid (∀ W, TabOk W → Calls Tryd.prog 90 #[.int .i64 (n : Int)] W fun e W' => ∃ hv, e = .returned hv ∧ OwnG brE W' W.heap.size hv (brX n (grayL (2 ^ n))) ∧ Below W.heap.size W W') := Lib.hid fun W hW => hidBars_yes n W (by omega) (by omega) hW
    by_cases hl : 6 < cs.length
    · rw [goodZ_len n cs hl, solG_no (goodZ_len n cs hl)]
      exact solve_core n n cs.length c p _ [] false w hT hH (Lib.hid fun W hv hbW hoW => (sift_len n cs.length c p hv W (by omega) (by omega) hl hm).mono fun e W' ⟨he, hw⟩ => ⟨_, he, OwnG.nil _ _, hbW.trans (hw.mono (by have := hbW.size; rw [y2] at this; exact this))⟩)
    · refine solve_core n n cs.length c p _ (solG n cs) (goodZ n cs) w hT hH (Lib.hid fun W hv hbW hoW => (sift_any n (w.heap.size + 1) cs.length c p cs hv (grayL (2 ^ n)) W (by omega) (by omega) rfl (by omega) (fun x hx => ?_) (by rw [grayL_len]; omega) ?_ (by omega) hoW (fun W' hg => ?_)).mono ?_)
      · unfold grayL at hx
        obtain ⟨q, hq, rfl⟩ := List.mem_map.1 hx
        exact gray_lt n q (List.mem_range.1 hq)
      · exact (hT.below (ba1 w (puzO n (.slice p cs.length c)))).below (by rw [y2]; exact hbW)
      · exact (hr.below (ba1 w (puzO n (.slice p cs.length c)))).below (by rw [y2]; exact low hbW hoW hg)
      · rintro e W' ⟨v', rfl, hy, hn, hg⟩
        have hgb := low hbW hoW hg
        have hE := goodZ_eq n cs (by omega) (by omega) (by omega)
        rw [hE] at hy hn ⊢
        cases hG : goodZ n cs with
        | true =>
          refine ⟨v', rfl, ?_, hgb⟩
          rw [solG_yes hG]
          exact (hy hG).1
        | false =>
          refine ⟨v', rfl, ?_, hgb⟩
          rw [solG_no hG, hn hG]
          exact OwnG.nil _ _

end Go.Proofs.YtmjeilimdnngpaaDoor
