/- An allowed state as places; places as a text: by the program. -/
import Derived.Test.YtcfeaaakfjilgaaF4
namespace Go.Proofs.Ytcfeaaakfjilgaa
open Go Go.RowKit RM
theorem aPO_no (v : Value) (psI : List Int) (bs : List Blk) (s : ByteArray) (w : World) (h : Bo w v psI bs)
    (hP : Hid (∀ w v, Bo w v psI bs → Calls Try.prog 86 #[v, .string s] w fun e w' => e = .returned (.tuple #[(.agg #[.int .i64 0, .int .i64 0, .int .i64 0, .int .i64 0, .int .i64 0, .int .i64 0]), .bool false]) ∧ Below w.heap.size w w')) :
    Calls Try.prog 60 #[v, .string s] w fun e w' => e = .returned (.tuple #[(.agg #[.int .i64 0, .int .i64 0, .int .i64 0, .int .i64 0, .int .i64 0, .int .i64 0]), .bool false]) ∧ Below w.heap.size w w' := by
  have h0 := Lib.hid h
  obtain ⟨pv, bv, rfl, -, -⟩ := h
  obtain ⟨w2, hw2⟩ : ∃ w2, Hid (w2 = (w.alloc (.cells #[pv, bv] 31)).alloc (.cells #[.int .i64 0, .int .i64 0, .int .i64 0, .int .i64 0, .int .i64 0, .int .i64 0] 68)) := ⟨_, Lib.hid rfl⟩
  have hb2 : Hid (Below w.heap.size w w2) := Lib.hid (by rw [hw2.out]; exact (ba1 w _).alloc (by simp) _)
  have R := Lib.hid (show w2.heap[w.heap.size + 1]? = some (.cells #[.int .i64 0, .int .i64 0, .int .i64 0, .int .i64 0, .int .i64 0, .int .i64 0] 68) by rw [hw2.out]; exact hb_new' _ _ _ (by simp))
  have hA := Lib.hid (hP.out w2 _ (h0.out.below hb2.out))
  go_enter Try.func60, Try.ntmps60
  go_wp2_with fail
  rw [← hw2.out]
  refine hA.out.mono ?_; rintro e w3 ⟨rfl, hb3⟩
  have R3 := Lib.hid (hb_below hb3 (hb_lt R.out) R.out)
  replace hb3 := Lib.hid (bt1 hb2.out hb3)
  obtain ⟨w4, hw4⟩ : ∃ w4, Hid (w4 = w3.alloc (.cells #[.int .i64 0, .int .i64 0, .int .i64 0, .int .i64 0, .int .i64 0, .int .i64 0] 68)) := ⟨_, Lib.hid rfl⟩
  have hb4 := Lib.hid (show Below w3.heap.size w3 w4 by rw [hw4.out]; exact ba1 w3 _)
  have R4 := Lib.hid (hb_below hb4.out (hb_lt R3.out) R3.out)
  have z := hb_frozen R3.out
  have r := hb_cell R3.out
  have l := hb_lt R3.out
  have m3 : ¬ w.heap.size + 1 = w3.heap.size := by omega
  obtain ⟨w5, hw5⟩ : ∃ w5, Hid (w5 = ((((((w3.setCell ⟨w.heap.size + 1, 0, none⟩ (.int .i64 0)).setCell ⟨w.heap.size + 1, 1, none⟩ (.int .i64 0)).setCell ⟨w.heap.size + 1, 2, none⟩ (.int .i64 0)).setCell ⟨w.heap.size + 1, 3, none⟩ (.int .i64 0)).setCell ⟨w.heap.size + 1, 4, none⟩ (.int .i64 0)).setCell ⟨w.heap.size + 1, 5, none⟩ (.int .i64 0))) := ⟨_, Lib.hid rfl⟩
  have Z5 := Lib.hid (show w5.heap[w.heap.size + 1]? = some (.cells #[.int .i64 0, .int .i64 0, .int .i64 0, .int .i64 0, .int .i64 0, .int .i64 0] 68) by rw [hw5.out]; exact six_at R3.out _ _ _ _ _ _)
  have hb5 := Lib.hid (show Below w.heap.size w w5 by rw [hw5.out]; exact six_below hb3.out (by omega) _ _ _ _ _ _)
  go_wp2_with fail
  rw [← hw5.out]
  refine bodyPost_ret (v := .tuple #[(.agg #[.int .i64 0, .int .i64 0, .int .i64 0, .int .i64 0, .int .i64 0, .int .i64 0]), .bool false]) ?_ rfl ⟨rfl, hb5.out.alloc hb5.out.size _⟩
  have c := hb_cell (hb_old (.cells #[.int .i64 0, .int .i64 0, .int .i64 0, .int .i64 0, .int .i64 0, .int .i64 0] 68) Z5.out)
  have l := hb_lt Z5.out
  have l2 : w.heap.size + 1 < w5.heap.size + 1 := by omega
  have m5 : ¬ w.heap.size + 1 = w5.heap.size := by omega
  have c5 := hb_cell Z5.out
  simp [results, Try.results60, go_sem, c5, l, m5]
theorem aPO_forb (v : Value) (ps : List Nat) (bs : List Blk) (d : List Nat) (w : World) (hG : GB ps bs) (hf : fr bs d = false) (h : Bo w v (ints ps) bs)
    (hP : Hid (∀ w v, Bo w v (ints ps) bs → Calls Try.prog 86 #[v, .string (tS d)] w fun e w' => e = .returned (.tuple #[(.agg #[.int .i64 ((pl (d) 0 : Nat) : Int), .int .i64 ((pl (d) 1 : Nat) : Int), .int .i64 ((pl (d) 2 : Nat) : Int), .int .i64 ((pl (d) 3 : Nat) : Int), .int .i64 ((pl (d) 4 : Nat) : Int), .int .i64 ((pl (d) 5 : Nat) : Int)]), .bool true]) ∧ Below w.heap.size w w')) :
    Calls Try.prog 60 #[v, .string (tS d)] w fun e w' => e = .returned (.tuple #[(.agg #[.int .i64 0, .int .i64 0, .int .i64 0, .int .i64 0, .int .i64 0, .int .i64 0]), .bool false]) ∧ Below w.heap.size w w' := by
  have h0 := Lib.hid h
  obtain ⟨pv, bv, rfl, -, -⟩ := h
  have hC := Lib.hid (fun w' hb => allows_any _ ps bs d w' hG (h0.out.below hb))
  rw [hf] at hC
  clear hG hf
  generalize tS d = s at *
  obtain ⟨w2, hw2⟩ : ∃ w2, Hid (w2 = (w.alloc (.cells #[pv, bv] 31)).alloc (.cells #[.int .i64 0, .int .i64 0, .int .i64 0, .int .i64 0, .int .i64 0, .int .i64 0] 68)) := ⟨_, Lib.hid rfl⟩
  have hb2 : Hid (Below w.heap.size w w2) := Lib.hid (by rw [hw2.out]; exact (ba1 w _).alloc (by simp) _)
  have F := Lib.hid (show w2.heap[w.heap.size]? = some (.cells #[pv, bv] 31) by rw [hw2.out]; exact hb_old _ (hb_new _ _))
  have R := Lib.hid (show w2.heap[w.heap.size + 1]? = some (.cells #[.int .i64 0, .int .i64 0, .int .i64 0, .int .i64 0, .int .i64 0, .int .i64 0] 68) by rw [hw2.out]; exact hb_new' _ _ _ (by simp))
  have hA := Lib.hid (hP.out w2 _ (h0.out.below hb2.out))
  go_enter Try.func60, Try.ntmps60
  go_wp2_with fail
  rw [← hw2.out]
  refine hA.out.mono ?_; rintro e w3 ⟨rfl, hb3⟩
  have F3 := Lib.hid (hb_below hb3 (hb_lt F.out) F.out)
  have R3 := Lib.hid (hb_below hb3 (hb_lt R.out) R.out)
  replace hb3 := Lib.hid (bt1 hb2.out hb3)
  obtain ⟨w4, hw4⟩ : ∃ w4, Hid (w4 = w3.alloc (.cells #[.int .i64 ((pl (d) 0 : Nat) : Int), .int .i64 ((pl (d) 1 : Nat) : Int), .int .i64 ((pl (d) 2 : Nat) : Int), .int .i64 ((pl (d) 3 : Nat) : Int), .int .i64 ((pl (d) 4 : Nat) : Int), .int .i64 ((pl (d) 5 : Nat) : Int)] 68)) := ⟨_, Lib.hid rfl⟩
  have hb4 := Lib.hid (show Below w3.heap.size w3 w4 by rw [hw4.out]; exact ba1 w3 _)
  have R4 := Lib.hid (hb_below hb4.out (hb_lt R3.out) R3.out)
  have f0 : w3.cell? ⟨w.heap.size, 0, none⟩ = some pv := hb_cell F3.out 0
  have f1 : w3.cell? ⟨w.heap.size, 1, none⟩ = some bv := hb_cell F3.out 1
  have l0 := hb_lt F3.out
  have m0 : ¬ w.heap.size = w3.heap.size := by omega
  go_wp2_with fail
  rw [← hw4.out]
  refine (hC.out _ (bt1 hb3.out hb4.out)).mono ?_; rintro e w5 ⟨rfl, hb5⟩
  have R5 := Lib.hid (hb_below hb5 (hb_lt R4.out) R4.out)
  replace hb5 := Lib.hid (bt1 (bt1 hb3.out hb4.out) hb5)
  have z := hb_frozen R5.out
  have r := hb_cell R5.out
  have l := hb_lt R5.out
  obtain ⟨w6, hw6⟩ : ∃ w6, Hid (w6 = ((((((w5.setCell ⟨w.heap.size + 1, 0, none⟩ (.int .i64 0)).setCell ⟨w.heap.size + 1, 1, none⟩ (.int .i64 0)).setCell ⟨w.heap.size + 1, 2, none⟩ (.int .i64 0)).setCell ⟨w.heap.size + 1, 3, none⟩ (.int .i64 0)).setCell ⟨w.heap.size + 1, 4, none⟩ (.int .i64 0)).setCell ⟨w.heap.size + 1, 5, none⟩ (.int .i64 0))) := ⟨_, Lib.hid rfl⟩
  have Z6 := Lib.hid (show w6.heap[w.heap.size + 1]? = some (.cells #[.int .i64 0, .int .i64 0, .int .i64 0, .int .i64 0, .int .i64 0, .int .i64 0] 68) by rw [hw6.out]; exact six_at R5.out _ _ _ _ _ _)
  have hb6 := Lib.hid (show Below w.heap.size w w6 by rw [hw6.out]; exact six_below hb5.out (by omega) _ _ _ _ _ _)
  go_wp2_with fail
  rw [← hw6.out]
  refine bodyPost_ret (v := .tuple #[(.agg #[.int .i64 0, .int .i64 0, .int .i64 0, .int .i64 0, .int .i64 0, .int .i64 0]), .bool false]) ?_ rfl ⟨rfl, hb6.out⟩
  have c := hb_cell Z6.out
  have l := hb_lt Z6.out
  simp [results, Try.results60, go_sem, c, l]
theorem aPO_yes (v : Value) (ps : List Nat) (bs : List Blk) (d : List Nat) (w : World) (hG : GB ps bs) (hf : fr bs d = true) (h : Bo w v (ints ps) bs)
    (hP : Hid (∀ w v, Bo w v (ints ps) bs → Calls Try.prog 86 #[v, .string (tS d)] w fun e w' => e = .returned (.tuple #[(.agg #[.int .i64 ((pl (d) 0 : Nat) : Int), .int .i64 ((pl (d) 1 : Nat) : Int), .int .i64 ((pl (d) 2 : Nat) : Int), .int .i64 ((pl (d) 3 : Nat) : Int), .int .i64 ((pl (d) 4 : Nat) : Int), .int .i64 ((pl (d) 5 : Nat) : Int)]), .bool true]) ∧ Below w.heap.size w w')) :
    Calls Try.prog 60 #[v, .string (tS d)] w fun e w' => e = .returned (.tuple #[(.agg #[.int .i64 ((pl (d) 0 : Nat) : Int), .int .i64 ((pl (d) 1 : Nat) : Int), .int .i64 ((pl (d) 2 : Nat) : Int), .int .i64 ((pl (d) 3 : Nat) : Int), .int .i64 ((pl (d) 4 : Nat) : Int), .int .i64 ((pl (d) 5 : Nat) : Int)]), .bool true]) ∧ Below w.heap.size w w' := by
  have h0 := Lib.hid h
  obtain ⟨pv, bv, rfl, -, -⟩ := h
  have hC := Lib.hid (fun w' hb => allows_any _ ps bs d w' hG (h0.out.below hb))
  rw [hf] at hC
  clear hG hf
  generalize tS d = s at *
  obtain ⟨w2, hw2⟩ : ∃ w2, Hid (w2 = (w.alloc (.cells #[pv, bv] 31)).alloc (.cells #[.int .i64 0, .int .i64 0, .int .i64 0, .int .i64 0, .int .i64 0, .int .i64 0] 68)) := ⟨_, Lib.hid rfl⟩
  have hb2 : Hid (Below w.heap.size w w2) := Lib.hid (by rw [hw2.out]; exact (ba1 w _).alloc (by simp) _)
  have F := Lib.hid (show w2.heap[w.heap.size]? = some (.cells #[pv, bv] 31) by rw [hw2.out]; exact hb_old _ (hb_new _ _))
  have R := Lib.hid (show w2.heap[w.heap.size + 1]? = some (.cells #[.int .i64 0, .int .i64 0, .int .i64 0, .int .i64 0, .int .i64 0, .int .i64 0] 68) by rw [hw2.out]; exact hb_new' _ _ _ (by simp))
  have hA := Lib.hid (hP.out w2 _ (h0.out.below hb2.out))
  go_enter Try.func60, Try.ntmps60
  go_wp2_with fail
  rw [← hw2.out]
  refine hA.out.mono ?_; rintro e w3 ⟨rfl, hb3⟩
  have F3 := Lib.hid (hb_below hb3 (hb_lt F.out) F.out)
  have R3 := Lib.hid (hb_below hb3 (hb_lt R.out) R.out)
  replace hb3 := Lib.hid (bt1 hb2.out hb3)
  obtain ⟨w4, hw4⟩ : ∃ w4, Hid (w4 = w3.alloc (.cells #[.int .i64 ((pl (d) 0 : Nat) : Int), .int .i64 ((pl (d) 1 : Nat) : Int), .int .i64 ((pl (d) 2 : Nat) : Int), .int .i64 ((pl (d) 3 : Nat) : Int), .int .i64 ((pl (d) 4 : Nat) : Int), .int .i64 ((pl (d) 5 : Nat) : Int)] 68)) := ⟨_, Lib.hid rfl⟩
  have hb4 := Lib.hid (show Below w3.heap.size w3 w4 by rw [hw4.out]; exact ba1 w3 _)
  have R4 := Lib.hid (hb_below hb4.out (hb_lt R3.out) R3.out)
  have A4 := Lib.hid (show w4.heap[w3.heap.size]? = some (.cells #[.int .i64 ((pl (d) 0 : Nat) : Int), .int .i64 ((pl (d) 1 : Nat) : Int), .int .i64 ((pl (d) 2 : Nat) : Int), .int .i64 ((pl (d) 3 : Nat) : Int), .int .i64 ((pl (d) 4 : Nat) : Int), .int .i64 ((pl (d) 5 : Nat) : Int)] 68) by rw [hw4.out]; exact hb_new _ _)
  have f0 : w3.cell? ⟨w.heap.size, 0, none⟩ = some pv := hb_cell F3.out 0
  have f1 : w3.cell? ⟨w.heap.size, 1, none⟩ = some bv := hb_cell F3.out 1
  have l0 := hb_lt F3.out
  have m0 : ¬ w.heap.size = w3.heap.size := by omega
  go_wp2_with fail
  rw [← hw4.out]
  refine (hC.out _ (bt1 hb3.out hb4.out)).mono ?_; rintro e w5 ⟨rfl, hb5⟩
  have R5 := Lib.hid (hb_below hb5 (hb_lt R4.out) R4.out)
  have A5 := Lib.hid (hb_below hb5 (hb_lt A4.out) A4.out)
  replace hb5 := Lib.hid (bt1 (bt1 hb3.out hb4.out) hb5)
  have z := hb_frozen R5.out
  have r := hb_cell R5.out
  have l := hb_lt R5.out
  have ca := hb_cell A5.out
  obtain ⟨w6, hw6⟩ : ∃ w6, Hid (w6 = ((((((w5.setCell ⟨w.heap.size + 1, 0, none⟩ (.int .i64 ((pl (d) 0 : Nat) : Int))).setCell ⟨w.heap.size + 1, 1, none⟩ (.int .i64 ((pl (d) 1 : Nat) : Int))).setCell ⟨w.heap.size + 1, 2, none⟩ (.int .i64 ((pl (d) 2 : Nat) : Int))).setCell ⟨w.heap.size + 1, 3, none⟩ (.int .i64 ((pl (d) 3 : Nat) : Int))).setCell ⟨w.heap.size + 1, 4, none⟩ (.int .i64 ((pl (d) 4 : Nat) : Int))).setCell ⟨w.heap.size + 1, 5, none⟩ (.int .i64 ((pl (d) 5 : Nat) : Int)))) := ⟨_, Lib.hid rfl⟩
  have Z6 := Lib.hid (show w6.heap[w.heap.size + 1]? = some (.cells #[.int .i64 ((pl (d) 0 : Nat) : Int), .int .i64 ((pl (d) 1 : Nat) : Int), .int .i64 ((pl (d) 2 : Nat) : Int), .int .i64 ((pl (d) 3 : Nat) : Int), .int .i64 ((pl (d) 4 : Nat) : Int), .int .i64 ((pl (d) 5 : Nat) : Int)] 68) by rw [hw6.out]; exact six_at R5.out _ _ _ _ _ _)
  have hb6 := Lib.hid (show Below w.heap.size w w6 by rw [hw6.out]; exact six_below hb5.out (by omega) _ _ _ _ _ _)
  go_wp2_with fail
  rw [← hw6.out]
  refine bodyPost_ret (v := .tuple #[(.agg #[.int .i64 ((pl (d) 0 : Nat) : Int), .int .i64 ((pl (d) 1 : Nat) : Int), .int .i64 ((pl (d) 2 : Nat) : Int), .int .i64 ((pl (d) 3 : Nat) : Int), .int .i64 ((pl (d) 4 : Nat) : Int), .int .i64 ((pl (d) 5 : Nat) : Int)]), .bool true]) ?_ rfl ⟨rfl, hb6.out⟩
  have c := hb_cell Z6.out
  have l := hb_lt Z6.out
  simp [results, Try.results60, go_sem, c, l]
/-- what is asked of bolts and an allowed state: both sides -/
theorem ask_cases (psI : List Int) (bs : List Blk) (s : ByteArray) (hs : s.size ≤ maxLen) :
    ((∀ w v, Bo w v psI bs → Calls Try.prog 59 #[v, .string s] w fun e w' => e = .returned (.bool false) ∧ Below w.heap.size w w') ∧
     (∀ w v, Bo w v psI bs → Calls Try.prog 60 #[v, .string s] w fun e w' => e = .returned (.tuple #[(.agg #[.int .i64 0, .int .i64 0, .int .i64 0, .int .i64 0, .int .i64 0, .int .i64 0]), .bool false]) ∧ Below w.heap.size w w')) ∨
    ∃ ps d, psI = ints ps ∧ GB ps bs ∧ isSt ps d ∧ fr bs d = true ∧ s = tS d ∧
     (∀ w v, Bo w v psI bs → Calls Try.prog 59 #[v, .string s] w fun e w' => e = .returned (.bool true) ∧ Below w.heap.size w w') ∧
     (∀ w v, Bo w v psI bs → Calls Try.prog 60 #[v, .string s] w fun e w' => e = .returned (.tuple #[(.agg #[.int .i64 ((pl (d) 0 : Nat) : Int), .int .i64 ((pl (d) 1 : Nat) : Int), .int .i64 ((pl (d) 2 : Nat) : Int), .int .i64 ((pl (d) 3 : Nat) : Int), .int .i64 ((pl (d) 4 : Nat) : Int), .int .i64 ((pl (d) 5 : Nat) : Int)]), .bool true]) ∧ Below w.heap.size w w') := by
  rcases st_cases psI bs s with h | ⟨ps, rfl, hG, -, hI | ⟨d, hd, rfl, -⟩⟩
  · left; exact ⟨fun w v hB => boAsked_bad v psI bs s w h hB, fun w v hB => aPO_no v psI bs s w hB (Lib.hid fun w v hB => places_no psI bs s hs (.inl h) w v hB)⟩
  · left; exact ⟨fun w v hB => boAsked_no v ps bs s w hG hI hs hB, fun w v hB => aPO_no v (ints ps) bs s w hB (Lib.hid fun w v hB => places_no (ints ps) bs s hs (.inr ⟨ps, rfl, hG, hI⟩) w v hB)⟩
  · cases hf : fr bs d with
    | false =>
      left
      refine ⟨fun w v hB => ?_, fun w v hB => aPO_forb v ps bs d w hG hf hB (Lib.hid fun w v hB => places_st ps bs d hG hd w v hB)⟩
      have := boAsked_st v ps bs d w hG hd hB
      rwa [hf] at this
    | true =>
      right
      refine ⟨ps, d, rfl, hG, hd, hf, rfl, fun w v hB => ?_, fun w v hB => aPO_yes v ps bs d w hG hf hB (Lib.hid fun w v hB => places_st ps bs d hG hd w v hB)⟩
      have := boAsked_st v ps bs d w hG hd hB
      rwa [hf] at this
end Go.Proofs.Ytcfeaaakfjilgaa
