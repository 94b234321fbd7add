/- What is asked of a turn, by the model; CanTurn, TurnPart by the model. -/
import Derived.Test.YtbeciklnknkilaaXH
namespace Go.Proofs.Ytbeciklnknkilaa
open Go Go.RowKit RM
/-- a part and a way -/
def pbB (P part by' : Int) : Bool := (decide (0 ≤ part) && decide (part ≤ P - 1)) && (by' == 1 || by' == -1)
def askB (P S : Int) (rs : List ByteArray) (t : ByteArray) (part by' : Int) : Bool := goodX P S rs && stB P.toNat S.toNat t && pbB P part by'
theorem pbB_nat {p : Nat} {part by' : Int} (h : pbB p part by' = true) : ∃ (k : Nat) (up : Bool), part = k ∧ k < p ∧ by' = byX up := by
  unfold pbB at h
  simp only [Bool.and_eq_true, Bool.or_eq_true, decide_eq_true_eq, beq_iff_eq] at h
  rcases h.2 with h2 | h2
  · exact ⟨part.toNat, true, by omega, by omega, h2⟩
  · exact ⟨part.toNat, false, by omega, by omega, h2⟩
theorem askB_nat {P S : Int} {rs : List ByteArray} {t : ByteArray} {part by' : Int} (h : askB P S rs t part by' = true) : ∃ (p s : Nat) (d : List Nat) (k : Nat) (up : Bool), P = p ∧ S = s ∧ GX p s rs ∧ stOk p s d ∧ t = tS d ∧ part = k ∧ k < p ∧ by' = byX up := by
  unfold askB at h
  simp only [Bool.and_eq_true] at h
  obtain ⟨⟨h1, h2⟩, h3⟩ := h
  obtain ⟨p, s, rfl, rfl, hG, -⟩ := GX.of h1
  simp only [Int.toNat_natCast] at h2
  have := hG.s5
  obtain ⟨d, hd, rfl⟩ := stB_nat (by omega) h2
  obtain ⟨k, up, rfl, hk, rfl⟩ := pbB_nat h3
  exact ⟨p, s, d, k, up, rfl, rfl, hG, hd, rfl, rfl, hk, rfl⟩
set_option maxRecDepth 100000 in
theorem bxAsked_any (v : Value) (P S : Int) (rs : List ByteArray) (t : ByteArray) (part by' : Int) (w : World) (hz : ∀ s ∈ rs, s.size ≤ maxLen) (ht : t.size ≤ maxLen) (h : RdX w v P S rs) :
    Calls Try.prog 13 #[v, .string t, .int .i64 part, .int .i64 by'] w fun e w' => e = .returned (.bool (askB P S rs t part by')) ∧ Below w.heap.size w w' := by
  have hGo := Lib.hid (fun w' (hb : Below w.heap.size w w') => bxGood_any v P S rs w' hz (h.below hb))
  have hA : askB P S rs t part by' = (goodX P S rs && stB P.toNat S.toNat t && pbB P part by') := rfl
  rw [hA]
  obtain ⟨u, rfl, -⟩ := h
  obtain ⟨w1, hw1⟩ : ∃ w1, Hid (w1 = w.alloc (boxO P S u)) := ⟨_, Lib.hid rfl⟩
  have hb1 : Hid (Below w.heap.size w w1) := Lib.hid (by rw [hw1.out]; exact ba1 w _)
  have F1 := Lib.hid (show w1.heap[w.heap.size]? = some (boxO P S u) by rw [hw1.out]; exact hb_new _ _)
  have f0 : w1.cell? ⟨w.heap.size, 0, none⟩ = some (.int .i64 P) := hb_cell F1.out 0
  have f1 : w1.cell? ⟨w.heap.size, 1, none⟩ = some (.int .i64 S) := hb_cell F1.out 1
  have f2 : w1.cell? ⟨w.heap.size, 2, none⟩ = some u := hb_cell F1.out 2
  have l1 := hb_lt F1.out
  clear hA
  cases hg : goodX P S rs with
  | false =>
    rw [hg] at hGo
    rw [Bool.false_and, Bool.false_and]
    clear hg
    go_enter Try.func13, Try.ntmps13
    go_wp2_with fail
    rw [← hw1.out]
    go_wp2_with fail
    refine (hGo.out _ hb1.out).mono ?_; rintro e w2 ⟨rfl, hb⟩
    go_wp2_with fail
    go_ret; exact ⟨rfl, bt1 hb1.out hb⟩
  | true =>
    rw [hg] at hGo
    obtain ⟨p, s, rfl, rfl, hG, -⟩ := GX.of hg
    have h6 := hG.p6
    have hSt := Lib.hid (fun w => bxState_any p s u t w ht hG.p6 hG.s2 hG.s5)
    rw [Int.toNat_natCast, Int.toNat_natCast, Bool.true_and]
    have hpb : pbB p part by' = ((decide (0 ≤ part) && decide (part ≤ (p : Int) - 1)) && (by' == 1 || by' == -1)) := rfl
    have hI := Lib.hid (fun w => l1In_any part 0 ((p : Int) - 1) _ w rfl)
    rw [hpb]
    clear hg hpb hG
    generalize stB p s t = ST at *
    generalize (decide (0 ≤ part) && decide (part ≤ (p : Int) - 1)) = PB at *
    have ep : IntKind.i64.wrap ((p : Int) - 1) = (p : Int) - 1 := by rw [IntKind.wrap_i64]; omega
    cases ST with
    | false =>
      rw [Bool.false_and]
      go_enter Try.func13, Try.ntmps13
      go_wp2_with fail
      rw [← hw1.out]
      go_wp2_with fail
      refine (hGo.out _ hb1.out).mono ?_; rintro e w2 ⟨rfl, hb⟩
      have F2 := Lib.hid (hb_below hb l1 F1.out)
      have g0 : w2.cell? ⟨w.heap.size, 0, none⟩ = some (.int .i64 p) := hb_cell F2.out 0
      have g1 : w2.cell? ⟨w.heap.size, 1, none⟩ = some (.int .i64 s) := hb_cell F2.out 1
      have g2 : w2.cell? ⟨w.heap.size, 2, none⟩ = some u := hb_cell F2.out 2
      replace hb := Lib.hid (bt1 hb1.out hb)
      go_wp2_with fail
      refine (hSt.out _).mono ?_; rintro e w3 ⟨rfl, hb3⟩
      go_wp2_with fail
      go_ret; exact ⟨rfl, bt1 hb.out hb3⟩
    | true =>
      rw [Bool.true_and]
      obtain ⟨B1, hB1⟩ : ∃ b, (by' == 1) = b := ⟨_, rfl⟩
      obtain ⟨B2, hB2⟩ : ∃ b, (by' == -1) = b := ⟨_, rfl⟩
      rw [hB1, hB2]
      go_enter Try.func13, Try.ntmps13
      go_wp2_with fail
      rw [← hw1.out]
      go_wp2_with fail
      refine (hGo.out _ hb1.out).mono ?_; rintro e w2 ⟨rfl, hb⟩
      have F2 := Lib.hid (hb_below hb l1 F1.out)
      have g0 : w2.cell? ⟨w.heap.size, 0, none⟩ = some (.int .i64 p) := hb_cell F2.out 0
      have g1 : w2.cell? ⟨w.heap.size, 1, none⟩ = some (.int .i64 s) := hb_cell F2.out 1
      have g2 : w2.cell? ⟨w.heap.size, 2, none⟩ = some u := hb_cell F2.out 2
      have l2 := hb_lt F2.out
      replace hb := Lib.hid (bt1 hb1.out hb)
      go_wp2_with fail
      refine (hSt.out _).mono ?_; rintro e w3 ⟨rfl, hb3⟩
      have F3 := Lib.hid (hb_below hb3 l2 F2.out)
      have k0 : w3.cell? ⟨w.heap.size, 0, none⟩ = some (.int .i64 p) := hb_cell F3.out 0
      replace hb3 := Lib.hid (bt1 hb.out hb3)
      cases PB with
      | false =>
        go_wp2_with fail
        refine (hI.out _).mono ?_; rintro e w4 ⟨rfl, rfl⟩
        go_wp2_with fail
        go_ret; exact ⟨rfl, hb3.out⟩
      | true =>
        cases B1 with
        | true =>
          go_wp2_with fail
          refine (hI.out _).mono ?_; rintro e w4 ⟨rfl, rfl⟩
          go_wp2_with fail
          go_ret; exact ⟨rfl, hb3.out⟩
        | false =>
          go_wp2_with fail
          refine (hI.out _).mono ?_; rintro e w4 ⟨rfl, rfl⟩
          go_wp2_with fail
          go_ret; exact ⟨by simp [*], hb3.out⟩
theorem sCT_no (v : Value) (P S : Int) (rs : List ByteArray) (t : ByteArray) (part by' : Int) (w : World) (hz : ∀ s ∈ rs, s.size ≤ maxLen) (ht : t.size ≤ maxLen) (hA : askB P S rs t part by' = false) (h : RdX w v P S rs) :
    Calls Try.prog 6 #[v, .string t, .int .i64 part, .int .i64 by'] w fun e w' => e = .returned (.tuple #[.bool false, .bool false]) ∧ Below w.heap.size w w' := by
  have hQ := Lib.hid (fun w' (hb : Below w.heap.size w w') => bxAsked_any v P S rs t part by' w' hz ht (h.below hb))
  rw [hA] at hQ
  obtain ⟨u, rfl, -⟩ := h
  go_enter Try.func6, Try.ntmps6
  go_wp2_with fail
  refine (hQ.out _ (ba1 w _)).mono ?_; rintro e w' ⟨rfl, hb⟩
  go_wp2_with fail
  go_ret2; exact ⟨rfl, bt1 (ba1 w _) hb⟩
theorem sCT_yes (v : Value) (p s : Nat) (rs : List ByteArray) (d : List Nat) (k : Nat) (up : Bool) (w : World) (hz : ∀ s ∈ rs, s.size ≤ maxLen) (hA : askB p s rs (tS d) k (byX up) = true) (hG : GX p s rs) (hd : stOk p s d) (hk : k < p) (h : RdX w v p s rs) :
    Calls Try.prog 6 #[v, .string (tS d), .int .i64 k, .int .i64 (byX up)] w fun e w' => e = .returned (.tuple #[.bool (tuB s rs d k up), .bool true]) ∧ Below w.heap.size w w' := by
  have hQ := Lib.hid (fun w' (hb : Below w.heap.size w w') => bxAsked_any v p s rs (tS d) k (byX up) w' hz (by rw [tS_size, hd.1]; have := hG.p6; unfold maxLen; omega) (h.below hb))
  rw [hA] at hQ
  have hT := Lib.hid (fun w' (hb : Below w.heap.size w w') => bxTurn_any v p s rs d k up w' hG (h.below hb) hd hk)
  obtain ⟨TX, hTX⟩ : ∃ t : ByteArray, (if tuB s rs d k up then tS (tuD d k up) else ⟨#[]⟩) = t := ⟨_, rfl⟩
  rw [hTX] at hT
  clear hTX
  obtain ⟨u, rfl, -⟩ := h
  obtain ⟨w1, hw1⟩ : ∃ w1, Hid (w1 = w.alloc (boxO p s u)) := ⟨_, Lib.hid rfl⟩
  have hb1 : Hid (Below w.heap.size w w1) := Lib.hid (by rw [hw1.out]; exact ba1 w _)
  have F1 := Lib.hid (show w1.heap[w.heap.size]? = some (boxO p s u) by rw [hw1.out]; exact hb_new _ _)
  have f0 : w1.cell? ⟨w.heap.size, 0, none⟩ = some (.int .i64 p) := hb_cell F1.out 0
  have f1 : w1.cell? ⟨w.heap.size, 1, none⟩ = some (.int .i64 s) := hb_cell F1.out 1
  have f2 : w1.cell? ⟨w.heap.size, 2, none⟩ = some u := hb_cell F1.out 2
  generalize tuB s rs d k up = TB at *
  go_enter Try.func6, Try.ntmps6
  go_wp2_with fail
  rw [← hw1.out]
  go_wp2_with fail
  refine (hQ.out _ hb1.out).mono ?_; rintro e w2 ⟨rfl, hb⟩
  have F2 := Lib.hid (hb_below hb (hb_lt F1.out) F1.out)
  have g0 : w2.cell? ⟨w.heap.size, 0, none⟩ = some (.int .i64 p) := hb_cell F2.out 0
  have g1 : w2.cell? ⟨w.heap.size, 1, none⟩ = some (.int .i64 s) := hb_cell F2.out 1
  have g2 : w2.cell? ⟨w.heap.size, 2, none⟩ = some u := hb_cell F2.out 2
  replace hb := Lib.hid (bt1 hb1.out hb)
  go_wp2_with fail
  refine (hT.out _ hb.out).mono ?_; rintro e w3 ⟨rfl, hb3⟩
  go_wp2_with fail
  go_ret2; exact ⟨rfl, bt1 hb.out hb3⟩
theorem sTP_no (v : Value) (P S : Int) (rs : List ByteArray) (t : ByteArray) (part by' : Int) (w : World) (hz : ∀ s ∈ rs, s.size ≤ maxLen) (ht : t.size ≤ maxLen) (hA : askB P S rs t part by' = false) (h : RdX w v P S rs) :
    Calls Try.prog 10 #[v, .string t, .int .i64 part, .int .i64 by'] w fun e w' => e = .returned (.tuple #[.string ⟨#[]⟩, .bool false]) ∧ Below w.heap.size w w' := by
  have hQ := Lib.hid (fun w' (hb : Below w.heap.size w w') => bxAsked_any v P S rs t part by' w' hz ht (h.below hb))
  rw [hA] at hQ
  obtain ⟨u, rfl, -⟩ := h
  go_enter Try.func10, Try.ntmps10
  go_wp2_with fail
  refine (hQ.out _ (ba1 w _)).mono ?_; rintro e w' ⟨rfl, hb⟩
  go_wp2_with fail
  go_ret2; exact ⟨rfl, bt1 (ba1 w _) hb⟩
theorem sTP_yes (v : Value) (p s : Nat) (rs : List ByteArray) (d : List Nat) (k : Nat) (up : Bool) (w : World) (hz : ∀ s ∈ rs, s.size ≤ maxLen) (hA : askB p s rs (tS d) k (byX up) = true) (hG : GX p s rs) (hd : stOk p s d) (hk : k < p) (h : RdX w v p s rs) :
    Calls Try.prog 10 #[v, .string (tS d), .int .i64 k, .int .i64 (byX up)] w fun e w' => e = .returned (.tuple #[.string (if tuB s rs d k up then tS (tuD d k up) else ⟨#[]⟩), .bool (tuB s rs d k up)]) ∧ Below w.heap.size w w' := by
  have hQ := Lib.hid (fun w' (hb : Below w.heap.size w w') => bxAsked_any v p s rs (tS d) k (byX up) w' hz (by rw [tS_size, hd.1]; have := hG.p6; unfold maxLen; omega) (h.below hb))
  rw [hA] at hQ
  have hT := Lib.hid (fun w' (hb : Below w.heap.size w w') => bxTurn_any v p s rs d k up w' hG (h.below hb) hd hk)
  obtain ⟨u, rfl, -⟩ := h
  obtain ⟨w1, hw1⟩ : ∃ w1, Hid (w1 = w.alloc (boxO p s u)) := ⟨_, Lib.hid rfl⟩
  have hb1 : Hid (Below w.heap.size w w1) := Lib.hid (by rw [hw1.out]; exact ba1 w _)
  have F1 := Lib.hid (show w1.heap[w.heap.size]? = some (boxO p s u) by rw [hw1.out]; exact hb_new _ _)
  have f0 : w1.cell? ⟨w.heap.size, 0, none⟩ = some (.int .i64 p) := hb_cell F1.out 0
  have f1 : w1.cell? ⟨w.heap.size, 1, none⟩ = some (.int .i64 s) := hb_cell F1.out 1
  have f2 : w1.cell? ⟨w.heap.size, 2, none⟩ = some u := hb_cell F1.out 2
  cases hTB : tuB s rs d k up
  all_goals
    rw [hTB] at hT
    clear hTB
    go_enter Try.func10, Try.ntmps10
    go_wp2_with fail
    rw [← hw1.out]
    go_wp2_with fail
    refine (hQ.out _ hb1.out).mono ?_; rintro e w2 ⟨rfl, hb⟩
    have F2 := Lib.hid (hb_below hb (hb_lt F1.out) F1.out)
    have g0 : w2.cell? ⟨w.heap.size, 0, none⟩ = some (.int .i64 p) := hb_cell F2.out 0
    have g1 : w2.cell? ⟨w.heap.size, 1, none⟩ = some (.int .i64 s) := hb_cell F2.out 1
    have g2 : w2.cell? ⟨w.heap.size, 2, none⟩ = some u := hb_cell F2.out 2
    replace hb := Lib.hid (bt1 hb1.out hb)
    go_wp2_with fail
    refine (hT.out _ hb.out).mono ?_; rintro e w3 ⟨rfl, hb3⟩
    go_wp2_with fail
    go_ret2; exact ⟨by first | rfl | simp, bt1 hb.out hb3⟩
end Go.Proofs.Ytbeciklnknkilaa
