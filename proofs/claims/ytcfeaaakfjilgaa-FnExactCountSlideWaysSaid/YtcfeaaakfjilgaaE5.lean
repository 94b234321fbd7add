/- Whether a state is allowed, both sides; what is asked of a state. -/
import Derived.Test.YtcfeaaakfjilgaaE4
namespace Go.Proofs.Ytcfeaaakfjilgaa
open Go Go.RowKit RM
/-- what holds of bolts and a text: no state of them, or one that is forbidden, or an allowed one -/
theorem st_cases (psI : List Int) (bs : List Blk) (s : ByteArray) :
    goodBo psI bs = false ∨ ∃ ps, psI = ints ps ∧ GB ps bs ∧ goodBo psI bs = true ∧ ((isText ps s = false) ∨ ∃ d, isSt ps d ∧ s = tS d ∧ isText ps s = true) := by
  rcases good_cases psI bs with h | ⟨ps, rfl, hG, h⟩
  · left; exact h
  · right; exact ⟨ps, rfl, hG, h, text_cases hG s⟩
theorem boAsked_bad (v : Value) (psI : List Int) (bs : List Blk) (s : ByteArray) (w : World) (hG : goodBo psI bs = false) (h : Bo w v psI bs) :
    Calls Try.prog 59 #[v, .string s] w fun e w' => e = .returned (.bool false) ∧ Below w.heap.size w w' := by
  have h0 := Lib.hid h
  obtain ⟨pv, bv, rfl, -, -⟩ := h
  have hA := Lib.hid (boGood_any _ psI bs (w.alloc (.cells #[pv, bv] 31)) (h0.out.below (ba1 w _)))
  rw [hG] at hA
  clear hG
  go_enter Try.func59, Try.ntmps59
  go_wp2_with fail
  refine hA.out.mono ?_; rintro e w3 ⟨rfl, hb3⟩
  go_wp2_with fail
  go_ret; exact ⟨rfl, bt1 (ba1 w _) hb3⟩
theorem boAsked_no (v : Value) (ps : List Nat) (bs : List Blk) (s : ByteArray) (w : World) (hG : GB ps bs) (hI : isText ps s = false) (hs : s.size ≤ maxLen) (h : Bo w v (ints ps) bs) :
    Calls Try.prog 59 #[v, .string s] w fun e w' => e = .returned (.bool false) ∧ Below w.heap.size w w' := by
  have h0 := Lib.hid h
  obtain ⟨pv, bv, rfl, -, -⟩ := h
  obtain ⟨w2, hw2⟩ : ∃ w2, Hid (w2 = w.alloc (.cells #[pv, bv] 31)) := ⟨_, Lib.hid rfl⟩
  have hb2 : Hid (Below w.heap.size w w2) := Lib.hid (by rw [hw2.out]; exact ba1 w _)
  have F := Lib.hid (show w2.heap[w.heap.size]? = some (.cells #[pv, bv] 31) by rw [hw2.out]; exact hb_new _ _)
  have hA := Lib.hid (boGood_any _ (ints ps) bs w2 (h0.out.below hb2.out))
  rw [hG.good] at hA
  have hB := Lib.hid (fun w' hb => boIs_any _ ps bs bs s w' hG (h0.out.below hb) hs)
  rw [hI] at hB
  clear hG hI
  go_enter Try.func59, Try.ntmps59
  go_wp2_with fail
  rw [← hw2.out]
  refine hA.out.mono ?_; rintro e w3 ⟨rfl, hb3⟩
  have F3 := Lib.hid (hb_below hb3 (hb_lt F.out) F.out)
  have f0 : w3.cell? ⟨w.heap.size, 0, none⟩ = some pv := hb_cell F3.out 0
  have f1 : w3.cell? ⟨w.heap.size, 1, none⟩ = some bv := hb_cell F3.out 1
  replace hb3 := Lib.hid (bt1 hb2.out hb3)
  go_wp2_with fail
  refine (hB.out _ hb3.out).mono ?_; rintro e w4 ⟨rfl, hb4⟩
  go_wp2_with fail
  go_ret; exact ⟨rfl, bt1 hb3.out hb4⟩
theorem boAsked_st (v : Value) (ps : List Nat) (bs : List Blk) (d : List Nat) (w : World) (hG : GB ps bs) (hd : isSt ps d) (h : Bo w v (ints ps) bs) :
    Calls Try.prog 59 #[v, .string (tS d)] w fun e w' => e = .returned (.bool (fr bs d)) ∧ Below w.heap.size w w' := by
  have h0 := Lib.hid h
  obtain ⟨pv, bv, rfl, -, -⟩ := h
  obtain ⟨w2, hw2⟩ : ∃ w2, Hid (w2 = w.alloc (.cells #[pv, bv] 31)) := ⟨_, Lib.hid rfl⟩
  have hb2 : Hid (Below w.heap.size w w2) := Lib.hid (by rw [hw2.out]; exact ba1 w _)
  have F := Lib.hid (show w2.heap[w.heap.size]? = some (.cells #[pv, bv] 31) by rw [hw2.out]; exact hb_new _ _)
  have hA := Lib.hid (boGood_any _ (ints ps) bs w2 (h0.out.below hb2.out))
  rw [hG.good] at hA
  have hB := Lib.hid (fun w' hb => boIs_any _ ps bs bs (tS d) w' hG (h0.out.below hb) (by rw [tS_size, hd.1]; have := hG.l6; unfold maxLen; omega))
  rw [isText_tS hG hd] at hB
  have hC := Lib.hid (fun w' hb => boFree_any _ ps bs d w' hG (h0.out.below hb) hd)
  clear hG hd
  generalize fr bs d = G at *
  generalize tS d = s at *
  go_enter Try.func59, Try.ntmps59
  go_wp2_with fail
  rw [← hw2.out]
  refine hA.out.mono ?_; rintro e w3 ⟨rfl, hb3⟩
  have F3 := Lib.hid (hb_below hb3 (hb_lt F.out) F.out)
  have f0 : w3.cell? ⟨w.heap.size, 0, none⟩ = some pv := hb_cell F3.out 0
  have f1 : w3.cell? ⟨w.heap.size, 1, none⟩ = some bv := hb_cell F3.out 1
  replace hb3 := Lib.hid (bt1 hb2.out hb3)
  go_wp2_with fail
  refine (hB.out _ hb3.out).mono ?_; rintro e w4 ⟨rfl, hb4⟩
  have F4 := Lib.hid (hb_below hb4 (hb_lt F3.out) F3.out)
  clear f0 f1
  have f0 : w4.cell? ⟨w.heap.size, 0, none⟩ = some pv := hb_cell F4.out 0
  have f1 : w4.cell? ⟨w.heap.size, 1, none⟩ = some bv := hb_cell F4.out 1
  replace hb4 := Lib.hid (bt1 hb3.out hb4)
  go_wp2_with fail
  refine (hC.out _ hb4.out).mono ?_; rintro e w5 ⟨rfl, hb5⟩
  go_wp2_with fail
  go_ret; exact ⟨rfl, bt1 hb4.out hb5⟩
theorem places_no (psI : List Int) (bs : List Blk) (s : ByteArray) (hs : s.size ≤ maxLen) (h : goodBo psI bs = false ∨ ∃ ps, psI = ints ps ∧ GB ps bs ∧ isText ps s = false) (w : World) (v : Value) (hB : Bo w v psI bs) :
    Calls Try.prog 86 #[v, .string s] w fun e w' => e = .returned (.tuple #[(.agg #[.int .i64 0, .int .i64 0, .int .i64 0, .int .i64 0, .int .i64 0, .int .i64 0]), .bool false]) ∧ Below w.heap.size w w' := by
  rcases h with h | ⟨ps, rfl, hG, hI⟩
  · exact placesOf_bad v psI bs s w h hB
  · by_cases hsz : s.size = ps.length
    · exact placesOf_no v ps bs s w hG hB hsz hI
    · exact placesOf_len v ps bs s w hG hB hs hsz
theorem places_st (ps : List Nat) (bs : List Blk) (d : List Nat) (hG : GB ps bs) (hd : isSt ps d) (w : World) (v : Value) (hB : Bo w v (ints ps) bs) :
    Calls Try.prog 86 #[v, .string (tS d)] w fun e w' => e = .returned (.tuple #[(.agg #[.int .i64 ((pl (d) 0 : Nat) : Int), .int .i64 ((pl (d) 1 : Nat) : Int), .int .i64 ((pl (d) 2 : Nat) : Int), .int .i64 ((pl (d) 3 : Nat) : Int), .int .i64 ((pl (d) 4 : Nat) : Int), .int .i64 ((pl (d) 5 : Nat) : Int)]), .bool true]) ∧ Below w.heap.size w w' := by
  have := placesOf_yes v ps bs (tS d) w hG hB (by rw [tS_size, hd.1]) (isText_tS hG hd)
  rwa [dN_tS hG hd] at this
end Go.Proofs.Ytcfeaaakfjilgaa
