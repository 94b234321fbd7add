/- What a bar tells and whether it fits a clue, by the program: the rest; hidden bars. -/
import Derived.Test.YtmjeilimdnngpaaDoorPz6
import Derived.Deep.RegionHeld3
namespace Go.Proofs.YtmjeilimdnngpaaDoor
open Go Go.RowKit RM
/-- a bar in memory -/
abbrev BQ (n x g N : Nat) (v : World) : Prop := (v.cell? ⟨g, 0, none⟩ = some (.int .i64 (ctz x)) ∧ v.cell? ⟨g, 1, none⟩ = some (.bool (onB x)) ∧ v.cell? ⟨g, 2, none⟩ = some (.int .i64 n) ∧ v.cell? ⟨g, 3, none⟩ = some (.int .u64 x)) ∧ N ≤ v.heap.size
theorem BQ.keep {n x g N : Nat} {a b : World} (hg : g < N) (k : Below a.heap.size a b) (h : BQ n x g N a) : BQ n x g N b := by
  obtain ⟨⟨a0, a1, a2, a3⟩, hN⟩ := h
  have e : ∀ o, b.cell? ⟨g, o, none⟩ = a.cell? ⟨g, o, none⟩ := fun o => k.cell (p := ⟨g, o, none⟩) (by show g < _; omega)
  exact ⟨⟨by rw [e]; exact a0, by rw [e]; exact a1, by rw [e]; exact a2, by rw [e]; exact a3⟩, Nat.le_trans hN k.size⟩
set_option maxHeartbeats 1000000 in
theorem clue_3 (n x A : Nat) (w : World) (h1 : 1 ≤ n) (h7 : n ≤ 7) (hx : x < 2 ^ n) (hA : A < 2 ^ n) (hT : TabOk w) :
    Calls Tryd.prog 60 #[(.agg #[.int .i64 ((ctz (x) : Nat) : Int), .bool (onB (x)), .int .i64 ((n : Nat) : Int), .int .u64 ((x : Nat) : Int)]), .int .i64 3, .int .i64 A] w fun e w' => e = .returned (cluV (cluOf n x 3 A)) ∧ Below w.heap.size w w' := by
  have hp7 := pow7 h7
  have hgA := gray_lt n A hA
  have hN := Lib.hid fun w hw => barOfNumber_any n A w (by omega) (by omega) hw
  have hM := Lib.hid fun w => apart_any n x (gray A) w (by omega) (by omega)
  rw [num_gray] at hM
  have hE : Hid (cluV (cluOf n x 3 A) = .agg #[.int .i64 3, .int .i64 A, .int .i64 (max (num x : Int) (A : Int) - min (num x : Int) (A : Int))]) := Lib.hid (by
    have e : max (((num x : Nat) : Int) - A) (-(((num x : Nat) : Int) - A)) = max (num x : Int) (A : Int) - min (num x : Int) (A : Int) := by omega
    show Value.agg #[.int .i64 3, .int .i64 A, .int .i64 (max (((num x : Nat) : Int) - A) (-(((num x : Nat) : Int) - A)))] = _
    rw [e])
  generalize cluV (cluOf n x 3 A) = E at *
  generalize max (num x : Int) (A : Int) - min (num x : Int) (A : Int) = R at *
  generalize gray A = y at *
  replace hT := Lib.hid hT
  obtain ⟨w2, hw2⟩ : ∃ w2, Hid (w2 = ((w.alloc (barO n x)).alloc (cluO 0 0 0)).alloc (cluO 3 A 0)) := ⟨_, Lib.hid rfl⟩
  have hW := Lib.hid (show ClW n x 3 A w w2 by rw [hw2.out]; exact clW n x 3 A w)
  have hl2 := hb_lt hW.out.C
  have hT2 : Hid (TabOk w2.drew) := Lib.hid ((hT.out.below hW.out.b).below (Below.refl _ _).drew)
  have hW0 := Lib.hid (hW.out.below (Below.refl _ _).drew)
  have hcg : ¬ w.heap.size + 1 + 1 = w.heap.size := by omega
  have hS0 : BQ n x w.heap.size w2.heap.size w2 := ⟨⟨hb_cell hW.out.B 0, hb_cell hW.out.B 1, hb_cell hW.out.B 2, hb_cell hW.out.B 3⟩, Nat.le_refl _⟩
  go_enter Tryd.func60, Tryd.ntmps60
  go_upto_region 2 with fail
  rw [← hw2.out]
  go_wp2_with fail
  go_region_held3 (fun v => BQ n x w.heap.size w2.heap.size v) (first | assumption | exact BQ.drew (by assumption) | exact BQ.store hcg hbn | exact BQ.store hcg (by assumption) | (refine ⟨⟨?_, ?_, ?_, ?_⟩, ?_⟩ <;> first | assumption | go_keep | omega))
    (first | (go_at_call 80; with_reducible refine (hN.out _ hT2.out).mono ?_; rintro e w' ⟨rfl, hb9⟩; have hbn := BQ.keep (n := n) (x := x) (g := w.heap.size) (N := w2.heap.size) (by omega) hb9 (by assumption); have hW1 := Lib.hid (hW0.out.below hb9)) | (go_at_call 79; with_reducible refine (hM.out _).mono ?_; rintro e w' ⟨rfl, hb9⟩; have hbn := BQ.keep (n := n) (x := x) (g := w.heap.size) (N := w2.heap.size) (by omega) hb9 (by assumption); have hW2 := Lib.hid (hW1.out.below hb9); have hc2 := hb_cell hW2.out.C 2; have hz2 := hb_frozen hW2.out.C 2))
  all_goals
    rename World => w5
    have r0 : w5.cell? ⟨w.heap.size + 1, 0, none⟩ = some (.int .i64 0) := hb_cell hW2.out.R 0
    have r1 : w5.cell? ⟨w.heap.size + 1, 1, none⟩ = some (.int .i64 0) := hb_cell hW2.out.R 1
    have r2 : w5.cell? ⟨w.heap.size + 1, 2, none⟩ = some (.int .i64 0) := hb_cell hW2.out.R 2
    have c0 : w5.cell? ⟨w.heap.size + 1 + 1, 0, none⟩ = some (.int .i64 3) := hb_cell hW2.out.C 0
    have c1 : w5.cell? ⟨w.heap.size + 1 + 1, 1, none⟩ = some (.int .i64 A) := hb_cell hW2.out.C 1
    have c2 : w5.cell? ⟨w.heap.size + 1 + 1, 2, none⟩ = some (.int .i64 0) := hb_cell hW2.out.C 2
    have zr := hb_frozen hW2.out.R
    have zc := hb_frozen hW2.out.C
    have lr := hb_lt hW2.out.R
    have lc := hb_lt hW2.out.C
    have hm1 : ¬ w.heap.size + 1 + 1 = w.heap.size + 1 := by omega
    have hbf := Lib.hid hW2.out.b
    clear hbn hc2 hz2 hS0
    go_wp2_with fail
    refine bodyPost_ret (v := .agg #[.int .i64 3, .int .i64 A, .int .i64 R]) ?_ rfl ⟨?_, ?_⟩
    · simp [results, Tryd.results60, go_sem, lr, lc, r0, r1, r2, hm1]
    · rw [hE.out]
    · have h0 := hbf.out
      repeat (first | (with_reducible exact h0) | (with_reducible refine Below.setCell ?_ ?_ _; rotate_left; (first | (show w.heap.size ≤ w.heap.size + 1 + 1; omega) | (show w.heap.size ≤ w.heap.size + 1; omega))))
theorem clue_any (n x : Nat) (k a : Int) (w : World) (h1 : 1 ≤ n) (h7 : n ≤ 7) (hx : x < 2 ^ n) (hT : TabOk w) (h : okZa n k a = true) :
    Calls Tryd.prog 60 #[(.agg #[.int .i64 ((ctz (x) : Nat) : Int), .bool (onB (x)), .int .i64 ((n : Nat) : Int), .int .u64 ((x : Nat) : Int)]), .int .i64 k, .int .i64 a] w fun e w' => e = .returned (cluV (cluOf n x k a)) ∧ Below w.heap.size w w' := by
  unfold okZa at h
  split at h
  · rename_i hk; subst hk
    obtain ⟨e1, e2⟩ := inB_yes h
    obtain ⟨A, rfl⟩ : ∃ A : Nat, a = A := ⟨a.toNat, by omega⟩
    exact clue_0 n x A (by omega) w h1 h7 hx
  split at h
  · rename_i hk; subst hk; exact clue_1 n x a w h1 h7 hx
  split at h
  · rename_i hk; subst hk
    obtain ⟨e1, e2⟩ := inB_yes h
    exact clue_2 n x a e1 e2 w h1 h7 hx
  split at h
  · rename_i hk; subst hk
    obtain ⟨e1, e2⟩ := inB_yes h
    obtain ⟨A, rfl⟩ : ∃ A : Nat, a = A := ⟨a.toNat, by omega⟩
    exact clue_3 n x A w h1 h7 hx (by omega) hT
  split at h
  · rename_i hk; subst hk; exact clue_4 n x a w h1 h7 hx
  · cases h

end Go.Proofs.YtmjeilimdnngpaaDoor
