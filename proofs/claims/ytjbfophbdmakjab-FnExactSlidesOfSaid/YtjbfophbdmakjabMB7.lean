/- All slides from a state, on both sides. -/
import Derived.Test.YtjbfophbdmakjabMB6
import Derived.Test.YtjbfophbdmakjabE7
namespace Go.Proofs.Ytjbfophbdmakjab
open Go Go.RowKit RM
theorem sSO_no (v : Value) (psI : List Int) (bs : List Blk) (s : ByteArray) (w : World) (h : Bo w v psI bs)
    (hP : Hid (∀ w v, Bo w v psI bs → Calls Try.prog 54 #[v, .string s] w fun e w' => e = .returned (.bool false) ∧ Below w.heap.size w w')) :
    Calls Try.prog 27 #[v, .string s] w fun e w' => RetM w [] false e w' := by
  have h0 := Lib.hid h
  obtain ⟨pv, bv, rfl, -, -⟩ := h
  obtain ⟨w2, hw2⟩ : ∃ w2, Hid (w2 = w.alloc (.cells #[pv, bv] 31)) := ⟨_, Lib.hid rfl⟩
  have hb2 : Hid (Below w.heap.size w w2) := Lib.hid (by rw [hw2.out]; exact ba1 w _)
  have F := Lib.hid (show w2.heap[w.heap.size]? = some (.cells #[pv, bv] 31) by rw [hw2.out]; exact hb_new _ _)
  have hA := Lib.hid (hP.out w2 _ (h0.out.below hb2.out))
  clear hP
  have f0 : w2.cell? ⟨w.heap.size, 0, none⟩ = some pv := hb_cell F.out 0
  have f1 : w2.cell? ⟨w.heap.size, 1, none⟩ = some bv := hb_cell F.out 1
  go_enter Try.func27, Try.ntmps27
  go_wp2_with fail
  rw [← hw2.out]
  go_wp2_with fail
  refine hA.out.mono ?_; rintro e w3 ⟨rfl, hb3⟩
  replace hb3 := Lib.hid (bt1 hb2.out hb3)
  go_wp2_with fail
  go_ret2; exact ⟨_, rfl, OwnG.nil _ _, hb3.out⟩
theorem sSO_yes (v : Value) (ps : List Nat) (bs : List Blk) (d : List Nat) (w : World) (hG : GB ps bs) (h : Bo w v (ints ps) bs) (hd : isSt ps d)
    (hP : Hid (∀ w v, Bo w v (ints ps) bs → Calls Try.prog 54 #[v, .string (tS d)] w fun e w' => e = .returned (.bool true) ∧ Below w.heap.size w w')) :
    Calls Try.prog 27 #[v, .string (tS d)] w fun e w' => RetM w ((slS ps bs d).map slV) true e w' := by
  have h0 := Lib.hid h
  obtain ⟨pv, bv, rfl, -, -⟩ := h
  obtain ⟨w2, hw2⟩ : ∃ w2, Hid (w2 = w.alloc (.cells #[pv, bv] 31)) := ⟨_, Lib.hid rfl⟩
  have hb2 : Hid (Below w.heap.size w w2) := Lib.hid (by rw [hw2.out]; exact ba1 w _)
  have F := Lib.hid (show w2.heap[w.heap.size]? = some (.cells #[pv, bv] 31) by rw [hw2.out]; exact hb_new _ _)
  have hA := Lib.hid (hP.out w2 _ (h0.out.below hb2.out))
  clear hP
  have hT := Lib.hid (fun w' hb => boSlides_any _ ps bs d w' hG (h0.out.below hb) hd)
  generalize (slS ps bs d).map slV = T at *
  have f0 : w2.cell? ⟨w.heap.size, 0, none⟩ = some pv := hb_cell F.out 0
  have f1 : w2.cell? ⟨w.heap.size, 1, none⟩ = some bv := hb_cell F.out 1
  go_enter Try.func27, Try.ntmps27
  go_wp2_with fail
  rw [← hw2.out]
  go_wp2_with fail
  refine hA.out.mono ?_; rintro e w3 ⟨rfl, hb3⟩
  have F3 := Lib.hid (hb_below hb3 (hb_lt F.out) F.out)
  replace hb3 := Lib.hid (bt1 hb2.out hb3)
  clear f0 f1
  have f0 : w3.cell? ⟨w.heap.size, 0, none⟩ = some pv := hb_cell F3.out 0
  have f1 : w3.cell? ⟨w.heap.size, 1, none⟩ = some bv := hb_cell F3.out 1
  go_wp2_with fail
  refine (hT.out w3 hb3.out).mono ?_; rintro e w4 ⟨u, rfl, ho4, hb4⟩
  replace ho4 := Lib.hid (ho4.mono hb3.out.size)
  replace hb4 := Lib.hid (bt1 hb3.out hb4)
  go_wp2_with fail
  go_ret2; exact ⟨_, rfl, ho4.out, hb4.out⟩
theorem iSO_no (v : Value) (psI : List Int) (bs : List Blk) (s : ByteArray) (w : World) (h : Bo w v psI bs)
    (hP : Hid (∀ w v, Bo w v psI bs → Calls Try.prog 56 #[v, .string s] w fun e w' => e = .returned (.tuple #[(.agg #[.int .i64 0, .int .i64 0, .int .i64 0, .int .i64 0, .int .i64 0, .int .i64 0]), .bool false]) ∧ Below w.heap.size w w')) :
    Calls Try.prog 28 #[v, .string s] w fun e w' => RetM w [] false e w' := by
  have h0 := Lib.hid h
  obtain ⟨pv, bv, rfl, -, -⟩ := h
  obtain ⟨w2, hw2⟩ : ∃ w2, Hid (w2 = w.alloc (.cells #[pv, bv] 31)) := ⟨_, Lib.hid rfl⟩
  have hb2 : Hid (Below w.heap.size w w2) := Lib.hid (by rw [hw2.out]; exact ba1 w _)
  have F := Lib.hid (show w2.heap[w.heap.size]? = some (.cells #[pv, bv] 31) by rw [hw2.out]; exact hb_new _ _)
  have hA := Lib.hid (hP.out w2 _ (h0.out.below hb2.out))
  clear hP
  have f0 : w2.cell? ⟨w.heap.size, 0, none⟩ = some pv := hb_cell F.out 0
  have f1 : w2.cell? ⟨w.heap.size, 1, none⟩ = some bv := hb_cell F.out 1
  go_enter Try.func28, Try.ntmps28
  go_wp2_with fail
  rw [← hw2.out]
  go_wp2_with fail
  refine hA.out.mono ?_; rintro e w3 ⟨rfl, hb3⟩
  replace hb3 := Lib.hid (bt1 hb2.out hb3)
  go_wp2_with fail
  go_ret2; exact ⟨_, rfl, OwnG.nil _ _, (hb3.out.alloc hb3.out.size _)⟩
theorem iSO_yes (v : Value) (ps : List Nat) (bs : List Blk) (d : List Nat) (w : World) (hG : GB ps bs) (h : Bo w v (ints ps) bs) (hd : isSt ps d)
    (hP : Hid (∀ w v, Bo w v (ints ps) bs → Calls Try.prog 56 #[v, .string (tS d)] w fun e w' => e = .returned (.tuple #[(.agg #[.int .i64 ((pl (d) 0 : Nat) : Int), .int .i64 ((pl (d) 1 : Nat) : Int), .int .i64 ((pl (d) 2 : Nat) : Int), .int .i64 ((pl (d) 3 : Nat) : Int), .int .i64 ((pl (d) 4 : Nat) : Int), .int .i64 ((pl (d) 5 : Nat) : Int)]), .bool true]) ∧ Below w.heap.size w w')) :
    Calls Try.prog 28 #[v, .string (tS d)] w fun e w' => RetM w ((slS ps bs d).map slV) true e w' := by
  have h0 := Lib.hid h
  obtain ⟨pv, bv, rfl, -, -⟩ := h
  obtain ⟨w2, hw2⟩ : ∃ w2, Hid (w2 = w.alloc (.cells #[pv, bv] 31)) := ⟨_, Lib.hid rfl⟩
  have hb2 : Hid (Below w.heap.size w w2) := Lib.hid (by rw [hw2.out]; exact ba1 w _)
  have F := Lib.hid (show w2.heap[w.heap.size]? = some (.cells #[pv, bv] 31) by rw [hw2.out]; exact hb_new _ _)
  have hA := Lib.hid (hP.out w2 _ (h0.out.below hb2.out))
  clear hP
  have hT := Lib.hid (fun w' hb => slides_any _ ps bs d w' hG (h0.out.below hb) hd)
  generalize (slS ps bs d).map slV = T at *
  have f0 : w2.cell? ⟨w.heap.size, 0, none⟩ = some pv := hb_cell F.out 0
  have f1 : w2.cell? ⟨w.heap.size, 1, none⟩ = some bv := hb_cell F.out 1
  go_enter Try.func28, Try.ntmps28
  go_wp2_with fail
  rw [← hw2.out]
  go_wp2_with fail
  refine hA.out.mono ?_; rintro e w3 ⟨rfl, hb3⟩
  have F3 := Lib.hid (hb_below hb3 (hb_lt F.out) F.out)
  replace hb3 := Lib.hid (bt1 hb2.out hb3)
  clear f0 f1
  obtain ⟨w3b, hw3b⟩ : ∃ w3b, Hid (w3b = w3.alloc (.cells #[.int .i64 ((pl (d) 0 : Nat) : Int), .int .i64 ((pl (d) 1 : Nat) : Int), .int .i64 ((pl (d) 2 : Nat) : Int), .int .i64 ((pl (d) 3 : Nat) : Int), .int .i64 ((pl (d) 4 : Nat) : Int), .int .i64 ((pl (d) 5 : Nat) : Int)] 66)) := ⟨_, Lib.hid rfl⟩
  have hbx := Lib.hid (show Below w3.heap.size w3 w3b by rw [hw3b.out]; exact ba1 w3 _)
  have A3b := Lib.hid (show w3b.heap[w3.heap.size]? = some (.cells #[.int .i64 ((pl (d) 0 : Nat) : Int), .int .i64 ((pl (d) 1 : Nat) : Int), .int .i64 ((pl (d) 2 : Nat) : Int), .int .i64 ((pl (d) 3 : Nat) : Int), .int .i64 ((pl (d) 4 : Nat) : Int), .int .i64 ((pl (d) 5 : Nat) : Int)] 66) by rw [hw3b.out]; exact hb_new _ _)
  have F3b := Lib.hid (hb_below hbx.out (hb_lt F3.out) F3.out)
  have f0 : w3.cell? ⟨w.heap.size, 0, none⟩ = some pv := hb_cell F3.out 0
  have f1 : w3.cell? ⟨w.heap.size, 1, none⟩ = some bv := hb_cell F3.out 1
  have lw := hb_lt F3.out
  have mw : ¬ w.heap.size = w3.heap.size := by omega
  have hb3b := Lib.hid (bt1 hb3.out hbx.out)
  go_wp2_with fail
  rw [← hw3b.out]
  refine (hT.out w3b hb3b.out).mono ?_; rintro e w4 ⟨u, rfl, ho4, hb4⟩
  replace ho4 := Lib.hid (ho4.mono hb3b.out.size)
  replace hb4 := Lib.hid (bt1 hb3b.out hb4)
  go_wp2_with fail
  go_ret2; exact ⟨_, rfl, ho4.out, hb4.out⟩
theorem SlidesOf_both (psI : List Int) (bs : List Blk) (s : ByteArray) (hs : s.size ≤ maxLen) : ∃ (r : List (Int × Int)) (ok : Bool), r.length ≤ 1000 ∧
    (∀ w v, Bo w v psI bs → Calls Try.prog 27 #[v, .string s] w fun e w' => RetM w r ok e w') ∧
    (∀ w v, Bo w v psI bs → Calls Try.prog 28 #[v, .string s] w fun e w' => RetM w r ok e w') := by
  rcases ask_cases psI bs s hs with ⟨h1, h2⟩ | ⟨ps, d, rfl, hG, hd, hf, rfl, h1, h2⟩
  · exact ⟨[], false, by simp, fun w v h => sSO_no v psI bs s w h (Lib.hid h1), fun w v h => iSO_no v psI bs s w h (Lib.hid h2)⟩
  · exact ⟨(slS ps bs d).map slV, true, by have := slK_len (ps := ps) (bs := bs) d ps.length; have := hG.l6; have e : slS ps bs d = slK ps bs d ps.length := rfl; rw [List.length_map, e]; omega, fun w v h => sSO_yes v ps bs d w hG h hd (Lib.hid h1), fun w v h => iSO_yes v ps bs d w hG h hd (Lib.hid h2)⟩
end Go.Proofs.Ytjbfophbdmakjab
