/- TurnPart, both sides. -/
import Derived.Test.YtbeciklnknkilaaXP
namespace Go.Proofs.Ytbeciklnknkilaa
open Go Go.RowKit RM
set_option maxRecDepth 100000 in
set_option maxHeartbeats 2000000 in
theorem iTP_bad (v : Value) (P S : Int) (rs : List ByteArray) (t : ByteArray) (part by' : Int) (w : World) (hz : ∀ s ∈ rs, s.size ≤ maxLen) (ht : t.size ≤ maxLen) (hG : (goodX P S rs && stB P.toNat S.toNat t) = false) (h : RdX w v P S rs) :
    Calls Try.prog 11 #[v, .string t, .int .i64 part, .int .i64 by'] w fun e w' => e = .returned (.tuple #[.string ⟨#[]⟩, .bool false]) ∧ Below w.heap.size w w' := by
  have hQ := Lib.hid (fun w' (hb : Below w.heap.size w w') => stateOf_core v P S rs t w' hz ht (h.below hb) false hG)
  obtain ⟨u, rfl, -⟩ := h
  obtain ⟨w1, hw1⟩ : ∃ w1, Hid (w1 = w.alloc (boxO P S u)) := ⟨_, Lib.hid rfl⟩
  have hb1 : Hid (Below w.heap.size w w1) := Lib.hid (by rw [hw1.out]; exact ba1 w _)
  have F1 := Lib.hid (show w1.heap[w.heap.size]? = some (boxO P S u) by rw [hw1.out]; exact hb_new _ _)
  have f0 : w1.cell? ⟨w.heap.size, 0, none⟩ = some (.int .i64 P) := hb_cell F1.out 0
  have f1 : w1.cell? ⟨w.heap.size, 1, none⟩ = some (.int .i64 S) := hb_cell F1.out 1
  have f2 : w1.cell? ⟨w.heap.size, 2, none⟩ = some u := hb_cell F1.out 2
  clear hG hz ht
  go_enter Try.func11, Try.ntmps11
  go_wp2_with fail
  rw [← hw1.out]
  go_wp2_with fail
  refine (hQ.out _ hb1.out).mono ?_; rintro e w2 ⟨rfl, hb⟩
  go_wp2_with fail
  go_ret2; exact ⟨rfl, (bt1 hb1.out hb).alloc (by have h1 := hb1.out.size; have h2 := hb.size; omega) _⟩
set_option maxRecDepth 100000 in
set_option maxHeartbeats 2000000 in
theorem iTP_core (v : Value) (p s : Nat) (rs : List ByteArray) (d : List Nat) (part by' : Int) (w : World) (hz : ∀ s ∈ rs, s.size ≤ maxLen) (hG : GX p s rs) (hd : stOk p s d) (h : RdX w v p s rs) (hGs : (goodX (p : Int) s rs && stB p s (tS d)) = true)
    (T : Bool) (k9 y9 : Int) (f9 : Nat → Int) (d2 : List Nat) (h2 : T = true → stOk p s d2 ∧ f9 = dF d2)
    (hT : ∀ w', Below w.heap.size w w' → Calls Try.prog 18 #[v, bsV (dF d), .int .i64 part, .int .i64 by'] w' fun e w2 => e = .returned (.tuple #[.agg (tnC k9 y9 f9), .bool T]) ∧ Below w'.heap.size w' w2) :
    Calls Try.prog 11 #[v, .string (tS d), .int .i64 part, .int .i64 by'] w fun e w' => e = .returned (.tuple #[.string (if T then tS d2 else ⟨#[]⟩), .bool T]) ∧ Below w.heap.size w w' := by
  have hQ := Lib.hid (fun w' (hb : Below w.heap.size w w') => stateOf_core v p s rs (tS d) w' hz (by rw [tS_size, hd.1]; have := hG.p6; unfold maxLen; omega) (h.below hb) true hGs)
  rw [if_pos rfl, tF_end (by have := hG.s5; omega) hd] at hQ
  replace hT := Lib.hid hT
  have h6 := hG.p6
  have h5 := hG.s5
  obtain ⟨u, rfl, -⟩ := h
  have hX : Hid (T = true → ∀ w, Calls Try.prog 20 #[.agg #[.int .i64 p, .int .i64 s, u], bsV f9] w fun e w' => e = .returned (.string (tS d2)) ∧ Below w.heap.size w w') := Lib.hid (fun h w => by
    obtain ⟨h8, rfl⟩ := h2 h
    exact stateText_any p s u d2 w h6 h5 h8)
  generalize dF d = f at *
  generalize tS d = st at *
  generalize tS d2 = st2 at *
  clear h2 hGs hG hd hz
  obtain ⟨w1, hw1⟩ : ∃ w1, Hid (w1 = w.alloc (boxO p s u)) := ⟨_, Lib.hid rfl⟩
  have hb1 : Hid (Below w.heap.size w w1) := Lib.hid (by rw [hw1.out]; exact ba1 w _)
  have F1 := Lib.hid (show w1.heap[w.heap.size]? = some (boxO p s u) by rw [hw1.out]; exact hb_new _ _)
  have f0 : w1.cell? ⟨w.heap.size, 0, none⟩ = some (.int .i64 p) := hb_cell F1.out 0
  have f1 : w1.cell? ⟨w.heap.size, 1, none⟩ = some (.int .i64 s) := hb_cell F1.out 1
  have f2 : w1.cell? ⟨w.heap.size, 2, none⟩ = some u := hb_cell F1.out 2
  have l1 := hb_lt F1.out
  cases T
  all_goals
    go_enter Try.func11, Try.ntmps11
    go_wp2_with fail
    rw [← hw1.out]
    go_wp2_with fail
    refine (hQ.out _ hb1.out).mono ?_; rintro e w2 ⟨rfl, hb⟩
    have F2 := Lib.hid (hb_below hb l1 F1.out)
    obtain ⟨w3, hw3⟩ : ∃ w3, Hid (w3 = w2.alloc (bsO f)) := ⟨_, Lib.hid rfl⟩
    have hs2 : w.heap.size < w2.heap.size := hb_lt F2.out
    have hb3 : Hid (Below w.heap.size w w3) := Lib.hid (by rw [hw3.out]; exact (bt1 hb1.out hb).alloc (by omega) _)
    have F3 := Lib.hid (show w3.heap[w.heap.size]? = some (boxO p s u) by rw [hw3.out]; exact hb_old _ F2.out)
    have G3 := Lib.hid (show w3.heap[w2.heap.size]? = some (bsO f) by rw [hw3.out]; exact hb_new _ _)
    clear hb f0 f1 f2
    have f0 : w3.cell? ⟨w.heap.size, 0, none⟩ = some (.int .i64 p) := hb_cell F3.out 0
    have f1 : w3.cell? ⟨w.heap.size, 1, none⟩ = some (.int .i64 s) := hb_cell F3.out 1
    have f2 : w3.cell? ⟨w.heap.size, 2, none⟩ = some u := hb_cell F3.out 2
    have h0 : w3.cell? ⟨w2.heap.size, 0, none⟩ = some (.int .i64 (f 0)) := hb_cell G3.out 0
    have h1 : w3.cell? ⟨w2.heap.size, 1, none⟩ = some (.int .i64 (f 1)) := hb_cell G3.out 1
    have h2 : w3.cell? ⟨w2.heap.size, 2, none⟩ = some (.int .i64 (f 2)) := hb_cell G3.out 2
    have h3 : w3.cell? ⟨w2.heap.size, 3, none⟩ = some (.int .i64 (f 3)) := hb_cell G3.out 3
    have h4 : w3.cell? ⟨w2.heap.size, 4, none⟩ = some (.int .i64 (f 4)) := hb_cell G3.out 4
    have h5 : w3.cell? ⟨w2.heap.size, 5, none⟩ = some (.int .i64 (f 5)) := hb_cell G3.out 5
    go_upto_region 2 with fail
    rw [← hw3.out]
    go_wp2_with fail
    refine (hT.out _ hb3.out).mono ?_; rintro e w5 ⟨rfl, hb5⟩
    have F5 := Lib.hid (hb_below hb5 (hb_lt F3.out) F3.out)
    obtain ⟨w6, hw6⟩ : ∃ x, Hid (x = w5.alloc (tnO k9 y9 f9)) := ⟨_, Lib.hid rfl⟩
    have hs5 : w.heap.size < w5.heap.size := hb_lt F5.out
    have hb6 : Hid (Below w.heap.size w w6) := Lib.hid (by rw [hw6.out]; exact (bt1 hb3.out hb5).alloc (by omega) _)
    have F6 := Lib.hid (show w6.heap[w.heap.size]? = some (boxO p s u) by rw [hw6.out]; exact hb_old _ F5.out)
    have G6 := Lib.hid (show w6.heap[w5.heap.size]? = some (tnO k9 y9 f9) by rw [hw6.out]; exact hb_new _ _)
    clear hb5 f0 f1 f2 h0 h1 h2 h3 h4 h5
    have f0 : w6.cell? ⟨w.heap.size, 0, none⟩ = some (.int .i64 p) := hb_cell F6.out 0
    have f1 : w6.cell? ⟨w.heap.size, 1, none⟩ = some (.int .i64 s) := hb_cell F6.out 1
    have f2 : w6.cell? ⟨w.heap.size, 2, none⟩ = some u := hb_cell F6.out 2
    have h0 : w6.cell? ⟨w5.heap.size, 2, none⟩ = some (.int .i64 (f9 0)) := hb_cell G6.out 2
    have h1 : w6.cell? ⟨w5.heap.size, 3, none⟩ = some (.int .i64 (f9 1)) := hb_cell G6.out 3
    have h2 : w6.cell? ⟨w5.heap.size, 4, none⟩ = some (.int .i64 (f9 2)) := hb_cell G6.out 4
    have h3 : w6.cell? ⟨w5.heap.size, 5, none⟩ = some (.int .i64 (f9 3)) := hb_cell G6.out 5
    have h4 : w6.cell? ⟨w5.heap.size, 6, none⟩ = some (.int .i64 (f9 4)) := hb_cell G6.out 6
    have h5 : w6.cell? ⟨w5.heap.size, 7, none⟩ = some (.int .i64 (f9 5)) := hb_cell G6.out 7
    go_upto_region 5 with fail
    rw [← hw6.out]
    go_wp2_with fail
  · go_ret2; exact ⟨rfl, hb6.out⟩
  · refine (hX.out (by trivial) _).mono ?_; rintro e w7 ⟨rfl, hb7⟩
    go_wp2_with fail
    go_ret2; exact ⟨rfl, bt1 hb6.out hb7⟩
theorem TurnPart_both (P S : Int) (rs : List ByteArray) (hz : ∀ s ∈ rs, s.size ≤ maxLen) (t : ByteArray) (part by' : Int) (ht : t.size ≤ maxLen) (_ : (Lit.int .i64 part).wf = true) (_ : (Lit.int .i64 by').wf = true) : ∃ (r0 : ByteArray) (r1 : Bool),
    (∀ w v, RdX w v P S rs → Calls Try.prog 10 #[v, .string t, .int .i64 part, .int .i64 by'] w fun e w' => e = .returned (.tuple #[.string r0, .bool r1]) ∧ Below w.heap.size w w') ∧
    (∀ w v, RdX w v P S rs → Calls Try.prog 11 #[v, .string t, .int .i64 part, .int .i64 by'] w fun e w' => e = .returned (.tuple #[.string r0, .bool r1]) ∧ Below w.heap.size w w') := by
  cases hA : askB P S rs t part by' with
  | false =>
    refine ⟨_, _, fun w v h => sTP_no v P S rs t part by' w hz ht hA h, fun w v h => ?_⟩
    cases hG : (goodX P S rs && stB P.toNat S.toNat t) with
    | false => exact iTP_bad v P S rs t part by' w hz ht hG h
    | true =>
      have hpb : pbB P part by' = false := by unfold askB at hA; rw [hG, Bool.true_and] at hA; exact hA
      have hG2 := hG
      rw [Bool.and_eq_true] at hG2
      obtain ⟨p, s, rfl, rfl, hGX, -⟩ := GX.of hG2.1
      rw [Int.toNat_natCast, Int.toNat_natCast] at hG2 hG
      have := hGX.s5
      obtain ⟨d, hd, rfl⟩ := stB_nat (by omega) hG2.2
      exact iTP_core v p s rs d part by' w hz hGX hd h hG false 0 0 (fun _ => 0) [] (fun h => by cases h) (fun w' hb => findTurn_none v p s rs d part by' w' hGX hd hpb (h.below hb))
  | true =>
    obtain ⟨p, s, d, k, up, rfl, rfl, hG, hd, rfl, rfl, hk, rfl⟩ := askB_nat hA
    refine ⟨_, _, fun w v h => sTP_yes v p s rs d k up w hz hA hG hd hk h, fun w v h => ?_⟩
    have hGs : (goodX (p : Int) s rs && stB p s (tS d)) = true := by
      unfold askB at hA; simp only [Bool.and_eq_true, Int.toNat_natCast] at hA ⊢; exact hA.1
    cases hTB : tuB s rs d k up with
    | false =>
      exact iTP_core v p s rs d k (byX up) w hz hG hd h hGs false 0 0 (fun _ => 0) (tuD d k up) (fun h => by cases h) (fun w' hb => by
        have := findTurn_any v p s rs d k up w' hG hd hk (h.below hb)
        rw [hTB] at this; exact this)
    | true =>
      have hvx : vX s d k up = true := by
        have e : (vX s d k up && fitX (rs.getD (k * (s - 1) + loX d k up) ⟨#[]⟩) d) = true := hTB
        rw [Bool.and_eq_true] at e; exact e.1
      exact iTP_core v p s rs d k (byX up) w hz hG hd h hGs true k (byX up) (dF (tuD d k up)) (tuD d k up) (fun _ => ⟨tuD_ok hd hk hvx, rfl⟩) (fun w' hb => by
        have := findTurn_any v p s rs d k up w' hG hd hk (h.below hb)
        rw [hTB] at this; exact this)
end Go.Proofs.Ytbeciklnknkilaa
