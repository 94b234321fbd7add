/- CanTurn, by the program. -/
import Derived.Test.YtbeciklnknkilaaXN
namespace Go.Proofs.Ytbeciklnknkilaa
open Go Go.RowKit RM
set_option maxRecDepth 100000 in
set_option maxHeartbeats 2000000 in
theorem iCT_no (v : Value) (P S : Int) (rs : List ByteArray) (t : ByteArray) (part by' : Int) (w : World) (hz : ∀ s ∈ rs, s.size ≤ maxLen) (ht : t.size ≤ maxLen) (hA : askB P S rs t part by' = false) (h : RdX w v P S rs) :
    Calls Try.prog 8 #[v, .string t, .int .i64 part, .int .i64 by'] w fun e w' => e = .returned (.tuple #[.bool false, .bool false]) ∧ Below w.heap.size w w' := by
  obtain ⟨G, hG⟩ : ∃ b, (goodX P S rs && stB P.toNat S.toNat t) = b := ⟨_, rfl⟩
  have hQ := Lib.hid (fun w' (hb : Below w.heap.size w w') => stateOf_core v P S rs t w' hz ht (h.below hb) G hG)
  unfold askB at hA
  rw [hG] at hA
  generalize (if G = true then tF t t.size else fun _ => 0) = f at *
  obtain ⟨u, rfl, -⟩ := h
  obtain ⟨w1, hw1⟩ : ∃ w1, Hid (w1 = w.alloc (boxO P S u)) := ⟨_, Lib.hid rfl⟩
  have hb1 : Hid (Below w.heap.size w w1) := Lib.hid (by rw [hw1.out]; exact ba1 w _)
  have F1 := Lib.hid (show w1.heap[w.heap.size]? = some (boxO P S u) by rw [hw1.out]; exact hb_new _ _)
  have f0 : w1.cell? ⟨w.heap.size, 0, none⟩ = some (.int .i64 P) := hb_cell F1.out 0
  have f1 : w1.cell? ⟨w.heap.size, 1, none⟩ = some (.int .i64 S) := hb_cell F1.out 1
  have f2 : w1.cell? ⟨w.heap.size, 2, none⟩ = some u := hb_cell F1.out 2
  have l1 := hb_lt F1.out
  cases G with
  | false =>
    clear hA hG hz ht
    go_enter Try.func8, Try.ntmps8
    go_wp2_with fail
    rw [← hw1.out]
    go_wp2_with fail
    refine (hQ.out _ hb1.out).mono ?_; rintro e w2 ⟨rfl, hb⟩
    go_wp2_with fail
    go_ret2; exact ⟨rfl, (bt1 hb1.out hb).alloc (by have h1 := hb1.out.size; have h2 := hb.size; omega) _⟩
  | true =>
    rw [Bool.true_and] at hA
    obtain ⟨D, hD⟩ : ∃ b, (decide (0 ≤ part) && decide (part < P)) = b := ⟨_, rfl⟩
    have hp : (decide (0 ≤ part) && decide (part ≤ P - 1)) = D := by
      rw [← hD, Bool.eq_iff_iff]; simp only [Bool.and_eq_true, decide_eq_true_eq]; omega
    have hH := Lib.hid (fun w => hasPart_any P S part u w D hD)
    unfold pbB at hA
    rw [hp] at hA
    clear hD hp hG hz ht
    have hN : D = true → (by' != 1) = true ∧ (by' != -1) = true := by
      intro h
      rw [h, Bool.true_and, Bool.or_eq_false_iff] at hA
      simp only [bne, hA.1, hA.2]; exact ⟨rfl, rfl⟩
    clear hA
    cases D with
    | false =>
      clear hN
      go_enter Try.func8, Try.ntmps8
      go_wp2_with fail
      rw [← hw1.out]
      go_wp2_with fail
      refine (hQ.out _ hb1.out).mono ?_; rintro e w2 ⟨rfl, hb⟩
      have F2 := Lib.hid (hb_below hb l1 F1.out)
      obtain ⟨w3, hw3⟩ : ∃ w3, Hid (w3 = w2.alloc (bsO f)) := ⟨_, Lib.hid rfl⟩
      have hb3 : Hid (Below w.heap.size w w3) := Lib.hid (by rw [hw3.out]; exact (bt1 hb1.out hb).alloc (by have h1 := hb1.out.size; have h2 := hb.size; omega) _)
      have F3 := Lib.hid (show w3.heap[w.heap.size]? = some (boxO P S u) by rw [hw3.out]; exact hb_old _ F2.out)
      have g0 : w3.cell? ⟨w.heap.size, 0, none⟩ = some (.int .i64 P) := hb_cell F3.out 0
      have g1 : w3.cell? ⟨w.heap.size, 1, none⟩ = some (.int .i64 S) := hb_cell F3.out 1
      have g2 : w3.cell? ⟨w.heap.size, 2, none⟩ = some u := hb_cell F3.out 2
      clear hb
      go_upto_region 2 with fail
      rw [← hw3.out]
      go_wp2_with fail
      refine (hH.out _).mono ?_; rintro e w4 ⟨rfl, hb4⟩
      go_wp2_with fail
      go_ret2; exact ⟨rfl, bt1 hb3.out hb4⟩
    | true =>
      obtain ⟨n1, n2⟩ := hN rfl
      clear hN
      go_enter Try.func8, Try.ntmps8
      go_wp2_with fail
      rw [← hw1.out]
      go_wp2_with fail
      refine (hQ.out _ hb1.out).mono ?_; rintro e w2 ⟨rfl, hb⟩
      have F2 := Lib.hid (hb_below hb l1 F1.out)
      obtain ⟨w3, hw3⟩ : ∃ w3, Hid (w3 = w2.alloc (bsO f)) := ⟨_, Lib.hid rfl⟩
      have hb3 : Hid (Below w.heap.size w w3) := Lib.hid (by rw [hw3.out]; exact (bt1 hb1.out hb).alloc (by have h1 := hb1.out.size; have h2 := hb.size; omega) _)
      have F3 := Lib.hid (show w3.heap[w.heap.size]? = some (boxO P S u) by rw [hw3.out]; exact hb_old _ F2.out)
      have g0 : w3.cell? ⟨w.heap.size, 0, none⟩ = some (.int .i64 P) := hb_cell F3.out 0
      have g1 : w3.cell? ⟨w.heap.size, 1, none⟩ = some (.int .i64 S) := hb_cell F3.out 1
      have g2 : w3.cell? ⟨w.heap.size, 2, none⟩ = some u := hb_cell F3.out 2
      clear hb
      go_upto_region 2 with fail
      rw [← hw3.out]
      go_wp2_with fail
      refine (hH.out _).mono ?_; rintro e w4 ⟨rfl, hb4⟩
      go_wp2_with fail
      go_ret2; exact ⟨rfl, bt1 hb3.out hb4⟩
set_option maxRecDepth 100000 in
set_option maxHeartbeats 2000000 in
theorem iCT_yes (v : Value) (p s : Nat) (rs : List ByteArray) (d : List Nat) (k : Nat) (up : Bool) (w : World) (hz : ∀ s ∈ rs, s.size ≤ maxLen) (hA : askB p s rs (tS d) k (byX up) = true) (hG : GX p s rs) (hd : stOk p s d) (hk : k < p) (h : RdX w v p s rs) :
    Calls Try.prog 8 #[v, .string (tS d), .int .i64 k, .int .i64 (byX up)] w fun e w' => e = .returned (.tuple #[.bool (tuB s rs d k up), .bool true]) ∧ Below w.heap.size w w' := by
  have hGs : (goodX (p : Int) s rs && stB (p : Int).toNat (s : Int).toNat (tS d)) = true := by
    unfold askB at hA; simp only [Bool.and_eq_true] at hA ⊢; exact hA.1
  have hQ := Lib.hid (fun w' (hb : Below w.heap.size w w') => stateOf_core v p s rs (tS d) w' hz (by rw [tS_size, hd.1]; have := hG.p6; unfold maxLen; omega) (h.below hb) true hGs)
  rw [if_pos rfl, tF_end (by have := hG.s5; omega) hd] at hQ
  have hT := Lib.hid (fun w' (hb : Below w.heap.size w w') => findTurn_any v p s rs d k up w' hG hd hk (h.below hb))
  have hby : byX up = 1 ∨ byX up = -1 := by cases up <;> simp [byX]
  obtain ⟨tn, htn⟩ : ∃ x, x = ftC (tuB s rs d k up) k (byX up) (dF (tuD d k up)) := ⟨_, rfl⟩
  generalize tuB s rs d k up = TB at *
  obtain ⟨k9, y9, f9, hft⟩ : ∃ (k9 y9 : Int) (f9 : Nat → Int), ftC TB k (byX up) (dF (tuD d k up)) = tnC k9 y9 f9 := by
    cases TB
    · exact ⟨0, 0, fun _ => 0, rfl⟩
    · exact ⟨_, _, _, rfl⟩
  rw [hft] at hT
  clear htn hft tn hGs hA
  generalize dF d = f at *
  generalize tS d = st at *
  obtain ⟨Y, hY⟩ : ∃ Y, byX up = Y := ⟨_, rfl⟩
  rw [hY] at hT hby ⊢
  obtain ⟨u, rfl, -⟩ := h
  have hH := Lib.hid (fun w => hasPart_any p s k u w true (by simp; omega))
  obtain ⟨w1, hw1⟩ : ∃ w1, Hid (w1 = w.alloc (boxO p s u)) := ⟨_, Lib.hid rfl⟩
  have hb1 : Hid (Below w.heap.size w w1) := Lib.hid (by rw [hw1.out]; exact ba1 w _)
  have F1 := Lib.hid (show w1.heap[w.heap.size]? = some (boxO p s u) by rw [hw1.out]; exact hb_new _ _)
  have f0 : w1.cell? ⟨w.heap.size, 0, none⟩ = some (.int .i64 p) := hb_cell F1.out 0
  have f1 : w1.cell? ⟨w.heap.size, 1, none⟩ = some (.int .i64 s) := hb_cell F1.out 1
  have f2 : w1.cell? ⟨w.heap.size, 2, none⟩ = some u := hb_cell F1.out 2
  have l1 := hb_lt F1.out
  clear hz hG hd hY
  rcases hby with rfl | rfl
  all_goals
    go_enter Try.func8, Try.ntmps8
    go_wp2_with fail
    rw [← hw1.out]
    go_wp2_with fail
    refine (hQ.out _ hb1.out).mono ?_; rintro e w2 ⟨rfl, hb⟩
    have F2 := Lib.hid (hb_below hb l1 F1.out)
    obtain ⟨w3, hw3⟩ : ∃ w3, Hid (w3 = w2.alloc (bsO f)) := ⟨_, Lib.hid rfl⟩
    have hs2 : w.heap.size < w2.heap.size := hb_lt F2.out
    have hb3 : Hid (Below w.heap.size w w3) := Lib.hid (by rw [hw3.out]; exact (bt1 hb1.out hb).alloc (by omega) _)
    have F3 := Lib.hid (show w3.heap[w.heap.size]? = some (boxO p s u) by rw [hw3.out]; exact hb_old _ F2.out)
    have G3 := Lib.hid (show w3.heap[w2.heap.size]? = some (bsO f) by rw [hw3.out]; exact hb_new _ _)
    have g0 : w3.cell? ⟨w.heap.size, 0, none⟩ = some (.int .i64 p) := hb_cell F3.out 0
    have g1 : w3.cell? ⟨w.heap.size, 1, none⟩ = some (.int .i64 s) := hb_cell F3.out 1
    have g2 : w3.cell? ⟨w.heap.size, 2, none⟩ = some u := hb_cell F3.out 2
    clear hb f0 f1 f2
    go_upto_region 2 with fail
    rw [← hw3.out]
    go_wp2_with fail
    refine (hH.out _).mono ?_; rintro e w4 ⟨rfl, hb4⟩
    have F4 := Lib.hid (hb_below hb4 (hb_lt F3.out) F3.out)
    have G4 := Lib.hid (hb_below hb4 (hb_lt G3.out) G3.out)
    have f0 : w4.cell? ⟨w.heap.size, 0, none⟩ = some (.int .i64 p) := hb_cell F4.out 0
    have f1 : w4.cell? ⟨w.heap.size, 1, none⟩ = some (.int .i64 s) := hb_cell F4.out 1
    have f2 : w4.cell? ⟨w.heap.size, 2, none⟩ = some u := hb_cell F4.out 2
    have h0 : w4.cell? ⟨w2.heap.size, 0, none⟩ = some (.int .i64 (f 0)) := hb_cell G4.out 0
    have h1 : w4.cell? ⟨w2.heap.size, 1, none⟩ = some (.int .i64 (f 1)) := hb_cell G4.out 1
    have h2 : w4.cell? ⟨w2.heap.size, 2, none⟩ = some (.int .i64 (f 2)) := hb_cell G4.out 2
    have h3 : w4.cell? ⟨w2.heap.size, 3, none⟩ = some (.int .i64 (f 3)) := hb_cell G4.out 3
    have h4 : w4.cell? ⟨w2.heap.size, 4, none⟩ = some (.int .i64 (f 4)) := hb_cell G4.out 4
    have h5 : w4.cell? ⟨w2.heap.size, 5, none⟩ = some (.int .i64 (f 5)) := hb_cell G4.out 5
    have hbw4 := Lib.hid (bt1 hb3.out hb4)
    clear hb4 g0 g1 g2
    go_wp2_with fail
    refine (hT.out _ hbw4.out).mono ?_; rintro e w5 ⟨rfl, hb5⟩
    have hs4 : w.heap.size < w4.heap.size := hb_lt F4.out
    go_wp2_with fail
    go_ret2; exact ⟨rfl, (bt1 hbw4.out hb5).alloc (by have := hb5.size; omega) _⟩
theorem CanTurn_both (P S : Int) (rs : List ByteArray) (hz : ∀ s ∈ rs, s.size ≤ maxLen) (t : ByteArray) (part by' : Int) (ht : t.size ≤ maxLen) (_ : (Lit.int .i64 part).wf = true) (_ : (Lit.int .i64 by').wf = true) : ∃ (r0 r1 : Bool),
    (∀ w v, RdX w v P S rs → Calls Try.prog 6 #[v, .string t, .int .i64 part, .int .i64 by'] w fun e w' => e = .returned (.tuple #[.bool r0, .bool r1]) ∧ Below w.heap.size w w') ∧
    (∀ w v, RdX w v P S rs → Calls Try.prog 8 #[v, .string t, .int .i64 part, .int .i64 by'] w fun e w' => e = .returned (.tuple #[.bool r0, .bool r1]) ∧ Below w.heap.size w w') := by
  cases hA : askB P S rs t part by' with
  | false => exact ⟨_, _, fun w v h => sCT_no v P S rs t part by' w hz ht hA h, fun w v h => iCT_no v P S rs t part by' w hz ht hA h⟩
  | true =>
    obtain ⟨p, s, d, k, up, rfl, rfl, hG, hd, rfl, rfl, hk, rfl⟩ := askB_nat hA
    exact ⟨_, _, fun w v h => sCT_yes v p s rs d k up w hz hA hG hd hk h, fun w v h => iCT_yes v p s rs d k up w hz hA hG hd hk h⟩
end Go.Proofs.Ytbeciklnknkilaa
