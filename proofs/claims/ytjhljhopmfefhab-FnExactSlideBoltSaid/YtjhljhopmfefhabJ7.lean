/- The state behind a slide, on both sides. -/
import Derived.Test.YtjhljhopmfefhabJ5
import Derived.Test.YtjhljhopmfefhabJ6
import Derived.Test.YtjhljhopmfefhabE7
import Derived.BigQuiet
namespace Go.Proofs.Ytjhljhopmfefhab
open Go Go.RowKit RM
theorem sSB_no (v : Value) (psI : List Int) (bs : List Blk) (s : ByteArray) (x y : Int) (w : World) (h : Bo w v psI bs)
    (hP : Hid (∀ w v, Bo w v psI bs → Calls Try.prog 54 #[v, .string s] w fun e w' => e = .returned (.bool false) ∧ Below w.heap.size w w')) :
    Calls Try.prog 32 #[v, .string s, .agg #[.int .i64 x, .int .i64 y]] w fun e w' => e = .returned (.tuple #[.string ⟨#[]⟩, .bool false]) ∧ Below w.heap.size w w' := by
  have h0 := Lib.hid h
  obtain ⟨pv, bv, rfl, -, -⟩ := h
  obtain ⟨w2, hw2⟩ : ∃ w2, Hid (w2 = (w.alloc (.cells #[pv, bv] 31)).alloc (.cells #[.int .i64 x, .int .i64 y] 57)) := ⟨_, Lib.hid rfl⟩
  have hb2 : Hid (Below w.heap.size w w2) := Lib.hid (by rw [hw2.out]; exact (ba1 w _).alloc (by simp) _)
  have F2 := Lib.hid (show w2.heap[w.heap.size]? = some (.cells #[pv, bv] 31) by rw [hw2.out]; exact hb_old _ (hb_new _ _))
  have M2 := Lib.hid (show w2.heap[w.heap.size + 1]? = some (.cells #[.int .i64 x, .int .i64 y] 57) by rw [hw2.out]; exact hb_new' _ _ _ (by simp))
  have hA := Lib.hid (hP.out w2 _ (h0.out.below hb2.out))
  clear hP
  go_enter Try.func32, Try.ntmps32
  have f0 : w2.cell? ⟨w.heap.size, 0, none⟩ = some pv := hb_cell F2.out 0
  have f1 : w2.cell? ⟨w.heap.size, 1, none⟩ = some bv := hb_cell F2.out 1
  have m0 : w2.cell? ⟨w.heap.size + 1, 0, none⟩ = some (.int .i64 x) := hb_cell M2.out 0
  have m1 : w2.cell? ⟨w.heap.size + 1, 1, none⟩ = some (.int .i64 y) := hb_cell M2.out 1
  go_wp2_with fail
  rw [← hw2.out]
  go_wp2_with fail
  refine hA.out.mono ?_; rintro e w3 ⟨rfl, hb3⟩
  clear f0 f1 m0 m1
  have F3 := Lib.hid (hb_below hb3 (hb_lt F2.out) F2.out)
  have M3 := Lib.hid (hb_below hb3 (hb_lt M2.out) M2.out)
  have f0 : w3.cell? ⟨w.heap.size, 0, none⟩ = some pv := hb_cell F3.out 0
  have f1 : w3.cell? ⟨w.heap.size, 1, none⟩ = some bv := hb_cell F3.out 1
  have m0 : w3.cell? ⟨w.heap.size + 1, 0, none⟩ = some (.int .i64 x) := hb_cell M3.out 0
  have m1 : w3.cell? ⟨w.heap.size + 1, 1, none⟩ = some (.int .i64 y) := hb_cell M3.out 1
  replace hb3 := Lib.hid (bt1 hb2.out hb3)
  go_wp2_with fail
  go_ret2; exact ⟨rfl, hb3.out⟩
theorem sSB_bad (v : Value) (psI : List Int) (bs : List Blk) (s t : ByteArray) (x y : Int) (w : World) (h : Bo w v psI bs)
    (hP : Hid (∀ w v, Bo w v psI bs → Calls Try.prog 54 #[v, .string s] w fun e w' => e = .returned (.bool true) ∧ Below w.heap.size w w'))
    (hQ : Hid (∀ w v, Bo w v psI bs → Calls Try.prog 59 #[v, .string s, .agg #[.int .i64 x, .int .i64 y]] w fun e w' => ∃ t, e = .returned (.tuple #[.string t, .bool false]) ∧ Below w.heap.size w w')) :
    Calls Try.prog 32 #[v, .string s, .agg #[.int .i64 x, .int .i64 y]] w fun e w' => e = .returned (.tuple #[.string ⟨#[]⟩, .bool false]) ∧ Below w.heap.size w w' := by
  have h0 := Lib.hid h
  obtain ⟨pv, bv, rfl, -, -⟩ := h
  obtain ⟨w2, hw2⟩ : ∃ w2, Hid (w2 = (w.alloc (.cells #[pv, bv] 31)).alloc (.cells #[.int .i64 x, .int .i64 y] 57)) := ⟨_, Lib.hid rfl⟩
  have hb2 : Hid (Below w.heap.size w w2) := Lib.hid (by rw [hw2.out]; exact (ba1 w _).alloc (by simp) _)
  have F2 := Lib.hid (show w2.heap[w.heap.size]? = some (.cells #[pv, bv] 31) by rw [hw2.out]; exact hb_old _ (hb_new _ _))
  have M2 := Lib.hid (show w2.heap[w.heap.size + 1]? = some (.cells #[.int .i64 x, .int .i64 y] 57) by rw [hw2.out]; exact hb_new' _ _ _ (by simp))
  have hA := Lib.hid (hP.out w2 _ (h0.out.below hb2.out))
  clear hP
  go_enter Try.func32, Try.ntmps32
  have f0 : w2.cell? ⟨w.heap.size, 0, none⟩ = some pv := hb_cell F2.out 0
  have f1 : w2.cell? ⟨w.heap.size, 1, none⟩ = some bv := hb_cell F2.out 1
  have m0 : w2.cell? ⟨w.heap.size + 1, 0, none⟩ = some (.int .i64 x) := hb_cell M2.out 0
  have m1 : w2.cell? ⟨w.heap.size + 1, 1, none⟩ = some (.int .i64 y) := hb_cell M2.out 1
  go_wp2_with fail
  rw [← hw2.out]
  go_wp2_with fail
  refine hA.out.mono ?_; rintro e w3 ⟨rfl, hb3⟩
  clear f0 f1 m0 m1
  have F3 := Lib.hid (hb_below hb3 (hb_lt F2.out) F2.out)
  have M3 := Lib.hid (hb_below hb3 (hb_lt M2.out) M2.out)
  have f0 : w3.cell? ⟨w.heap.size, 0, none⟩ = some pv := hb_cell F3.out 0
  have f1 : w3.cell? ⟨w.heap.size, 1, none⟩ = some bv := hb_cell F3.out 1
  have m0 : w3.cell? ⟨w.heap.size + 1, 0, none⟩ = some (.int .i64 x) := hb_cell M3.out 0
  have m1 : w3.cell? ⟨w.heap.size + 1, 1, none⟩ = some (.int .i64 y) := hb_cell M3.out 1
  replace hb3 := Lib.hid (bt1 hb2.out hb3)
  have hB := Lib.hid (hQ.out w3 _ (h0.out.below hb3.out))
  go_wp2_with fail
  refine hB.out.mono ?_; rintro e w4 ⟨t, rfl, hb4⟩
  clear f0 f1 m0 m1
  have F4 := Lib.hid (hb_below hb4 (hb_lt F3.out) F3.out)
  have M4 := Lib.hid (hb_below hb4 (hb_lt M3.out) M3.out)
  have f0 : w4.cell? ⟨w.heap.size, 0, none⟩ = some pv := hb_cell F4.out 0
  have f1 : w4.cell? ⟨w.heap.size, 1, none⟩ = some bv := hb_cell F4.out 1
  have m0 : w4.cell? ⟨w.heap.size + 1, 0, none⟩ = some (.int .i64 x) := hb_cell M4.out 0
  have m1 : w4.cell? ⟨w.heap.size + 1, 1, none⟩ = some (.int .i64 y) := hb_cell M4.out 1
  replace hb4 := Lib.hid (bt1 hb3.out hb4)
  go_wp2_with fail
  go_ret2; exact ⟨rfl, hb4.out⟩
theorem sSB_yes (v : Value) (psI : List Int) (bs : List Blk) (s t : ByteArray) (x y : Int) (w : World) (h : Bo w v psI bs)
    (hP : Hid (∀ w v, Bo w v psI bs → Calls Try.prog 54 #[v, .string s] w fun e w' => e = .returned (.bool true) ∧ Below w.heap.size w w'))
    (hQ : Hid (∀ w v, Bo w v psI bs → Calls Try.prog 59 #[v, .string s, .agg #[.int .i64 x, .int .i64 y]] w fun e w' => e = .returned (.tuple #[.string t, .bool true]) ∧ Below w.heap.size w w')) :
    Calls Try.prog 32 #[v, .string s, .agg #[.int .i64 x, .int .i64 y]] w fun e w' => e = .returned (.tuple #[.string t, .bool true]) ∧ Below w.heap.size w w' := by
  have h0 := Lib.hid h
  obtain ⟨pv, bv, rfl, -, -⟩ := h
  obtain ⟨w2, hw2⟩ : ∃ w2, Hid (w2 = (w.alloc (.cells #[pv, bv] 31)).alloc (.cells #[.int .i64 x, .int .i64 y] 57)) := ⟨_, Lib.hid rfl⟩
  have hb2 : Hid (Below w.heap.size w w2) := Lib.hid (by rw [hw2.out]; exact (ba1 w _).alloc (by simp) _)
  have F2 := Lib.hid (show w2.heap[w.heap.size]? = some (.cells #[pv, bv] 31) by rw [hw2.out]; exact hb_old _ (hb_new _ _))
  have M2 := Lib.hid (show w2.heap[w.heap.size + 1]? = some (.cells #[.int .i64 x, .int .i64 y] 57) by rw [hw2.out]; exact hb_new' _ _ _ (by simp))
  have hA := Lib.hid (hP.out w2 _ (h0.out.below hb2.out))
  clear hP
  go_enter Try.func32, Try.ntmps32
  have f0 : w2.cell? ⟨w.heap.size, 0, none⟩ = some pv := hb_cell F2.out 0
  have f1 : w2.cell? ⟨w.heap.size, 1, none⟩ = some bv := hb_cell F2.out 1
  have m0 : w2.cell? ⟨w.heap.size + 1, 0, none⟩ = some (.int .i64 x) := hb_cell M2.out 0
  have m1 : w2.cell? ⟨w.heap.size + 1, 1, none⟩ = some (.int .i64 y) := hb_cell M2.out 1
  go_wp2_with fail
  rw [← hw2.out]
  go_wp2_with fail
  refine hA.out.mono ?_; rintro e w3 ⟨rfl, hb3⟩
  clear f0 f1 m0 m1
  have F3 := Lib.hid (hb_below hb3 (hb_lt F2.out) F2.out)
  have M3 := Lib.hid (hb_below hb3 (hb_lt M2.out) M2.out)
  have f0 : w3.cell? ⟨w.heap.size, 0, none⟩ = some pv := hb_cell F3.out 0
  have f1 : w3.cell? ⟨w.heap.size, 1, none⟩ = some bv := hb_cell F3.out 1
  have m0 : w3.cell? ⟨w.heap.size + 1, 0, none⟩ = some (.int .i64 x) := hb_cell M3.out 0
  have m1 : w3.cell? ⟨w.heap.size + 1, 1, none⟩ = some (.int .i64 y) := hb_cell M3.out 1
  replace hb3 := Lib.hid (bt1 hb2.out hb3)
  have hB := Lib.hid (hQ.out w3 _ (h0.out.below hb3.out))
  go_wp2_with fail
  refine hB.out.mono ?_; rintro e w4 ⟨rfl, hb4⟩
  clear f0 f1 m0 m1
  have F4 := Lib.hid (hb_below hb4 (hb_lt F3.out) F3.out)
  have M4 := Lib.hid (hb_below hb4 (hb_lt M3.out) M3.out)
  have f0 : w4.cell? ⟨w.heap.size, 0, none⟩ = some pv := hb_cell F4.out 0
  have f1 : w4.cell? ⟨w.heap.size, 1, none⟩ = some bv := hb_cell F4.out 1
  have m0 : w4.cell? ⟨w.heap.size + 1, 0, none⟩ = some (.int .i64 x) := hb_cell M4.out 0
  have m1 : w4.cell? ⟨w.heap.size + 1, 1, none⟩ = some (.int .i64 y) := hb_cell M4.out 1
  replace hb4 := Lib.hid (bt1 hb3.out hb4)
  go_wp2_with fail
  go_ret2; exact ⟨rfl, hb4.out⟩
set_option maxHeartbeats 400000 in
theorem iSB_no (v : Value) (psI : List Int) (bs : List Blk) (s : ByteArray) (x y : Int) (w : World) (h : Bo w v psI bs)
    (hP : Hid (∀ w v, Bo w v psI bs → Calls Try.prog 56 #[v, .string s] w fun e w' => e = .returned (.tuple #[(.agg #[.int .i64 0, .int .i64 0, .int .i64 0, .int .i64 0, .int .i64 0, .int .i64 0]), .bool false]) ∧ Below w.heap.size w w')) :
    Calls Try.prog 34 #[v, .string s, .agg #[.int .i64 x, .int .i64 y]] w fun e w' => e = .returned (.tuple #[.string ⟨#[]⟩, .bool false]) ∧ Below w.heap.size w w' := by
  have h0 := Lib.hid h
  obtain ⟨pv, bv, rfl, -, -⟩ := h
  obtain ⟨w2, hw2⟩ : ∃ w2, Hid (w2 = (w.alloc (.cells #[pv, bv] 31)).alloc (.cells #[.int .i64 x, .int .i64 y] 57)) := ⟨_, Lib.hid rfl⟩
  have hb2 : Hid (Below w.heap.size w w2) := Lib.hid (by rw [hw2.out]; exact (ba1 w _).alloc (by simp) _)
  have F2 := Lib.hid (show w2.heap[w.heap.size]? = some (.cells #[pv, bv] 31) by rw [hw2.out]; exact hb_old _ (hb_new _ _))
  have M2 := Lib.hid (show w2.heap[w.heap.size + 1]? = some (.cells #[.int .i64 x, .int .i64 y] 57) by rw [hw2.out]; exact hb_new' _ _ _ (by simp))
  have hA := Lib.hid (hP.out w2 _ (h0.out.below hb2.out))
  clear hP
  go_enter Try.func34, Try.ntmps34
  have f0 : w2.cell? ⟨w.heap.size, 0, none⟩ = some pv := hb_cell F2.out 0
  have f1 : w2.cell? ⟨w.heap.size, 1, none⟩ = some bv := hb_cell F2.out 1
  have m0 : w2.cell? ⟨w.heap.size + 1, 0, none⟩ = some (.int .i64 x) := hb_cell M2.out 0
  have m1 : w2.cell? ⟨w.heap.size + 1, 1, none⟩ = some (.int .i64 y) := hb_cell M2.out 1
  go_wp2_with fail
  rw [← hw2.out]
  go_wp2_with fail
  refine hA.out.mono ?_; rintro e w3 ⟨rfl, hb3⟩
  replace hb3 := Lib.hid (bt1 hb2.out hb3)
  obtain ⟨w3b, hw3b⟩ : ∃ w3b, Hid (w3b = w3.alloc (.cells #[.int .i64 0, .int .i64 0, .int .i64 0, .int .i64 0, .int .i64 0, .int .i64 0] 66)) := ⟨_, Lib.hid rfl⟩
  have hbx := Lib.hid (show Below w.heap.size w w3b by rw [hw3b.out]; exact hb3.out.alloc hb3.out.size _)
  clear f0 f1 m0 m1
  go_wp2_with fail
  rw [← hw3b.out]
  go_quiet (fail)
  go_wp2_with fail
  go_ret2; exact ⟨rfl, below_drewN hbx.out _⟩
set_option maxHeartbeats 2000000 in
theorem iSB_bad (v : Value) (ps : List Nat) (bs : List Blk) (d : List Nat) (x y : Int) (w : World) (hG : GB ps bs) (hd : isSt ps d) (h : Bo w v (ints ps) bs) (hbad : (x, y) ∉ (slS ps bs d).map slV)
    (hP : Hid (∀ w v, Bo w v (ints ps) bs → Calls Try.prog 56 #[v, .string (tS d)] w fun e w' => e = .returned (.tuple #[(.agg #[.int .i64 ((pl (d) 0 : Nat) : Int), .int .i64 ((pl (d) 1 : Nat) : Int), .int .i64 ((pl (d) 2 : Nat) : Int), .int .i64 ((pl (d) 3 : Nat) : Int), .int .i64 ((pl (d) 4 : Nat) : Int), .int .i64 ((pl (d) 5 : Nat) : Int)]), .bool true]) ∧ Below w.heap.size w w')) :
    Calls Try.prog 34 #[v, .string (tS d), .agg #[.int .i64 x, .int .i64 y]] w fun e w' => e = .returned (.tuple #[.string ⟨#[]⟩, .bool false]) ∧ Below w.heap.size w w' := by
  have h0 := Lib.hid h
  obtain ⟨pv, bv, rfl, -, -⟩ := h
  obtain ⟨w2, hw2⟩ : ∃ w2, Hid (w2 = (w.alloc (.cells #[pv, bv] 31)).alloc (.cells #[.int .i64 x, .int .i64 y] 57)) := ⟨_, Lib.hid rfl⟩
  have hb2 : Hid (Below w.heap.size w w2) := Lib.hid (by rw [hw2.out]; exact (ba1 w _).alloc (by simp) _)
  have F2 := Lib.hid (show w2.heap[w.heap.size]? = some (.cells #[pv, bv] 31) by rw [hw2.out]; exact hb_old _ (hb_new _ _))
  have M2 := Lib.hid (show w2.heap[w.heap.size + 1]? = some (.cells #[.int .i64 x, .int .i64 y] 57) by rw [hw2.out]; exact hb_new' _ _ _ (by simp))
  have hA := Lib.hid (hP.out w2 _ (h0.out.below hb2.out))
  clear hP
  have hL : (slS ps bs d).length ≤ 1000 := by have := slK_len (ps := ps) (bs := bs) d ps.length; have := hG.l6; have e : slS ps bs d = slK ps bs d ps.length := rfl; rw [e]; omega
  go_enter Try.func34, Try.ntmps34
  have f0 : w2.cell? ⟨w.heap.size, 0, none⟩ = some pv := hb_cell F2.out 0
  have f1 : w2.cell? ⟨w.heap.size, 1, none⟩ = some bv := hb_cell F2.out 1
  have m0 : w2.cell? ⟨w.heap.size + 1, 0, none⟩ = some (.int .i64 x) := hb_cell M2.out 0
  have m1 : w2.cell? ⟨w.heap.size + 1, 1, none⟩ = some (.int .i64 y) := hb_cell M2.out 1
  go_wp2_with fail
  rw [← hw2.out]
  go_wp2_with fail
  refine hA.out.mono ?_; rintro e w3 ⟨rfl, hb3⟩
  clear f0 f1 m0 m1
  have F3 := Lib.hid (hb_below hb3 (hb_lt F2.out) F2.out)
  have M3 := Lib.hid (hb_below hb3 (hb_lt M2.out) M2.out)
  have f0 : w3.cell? ⟨w.heap.size, 0, none⟩ = some pv := hb_cell F3.out 0
  have f1 : w3.cell? ⟨w.heap.size, 1, none⟩ = some bv := hb_cell F3.out 1
  have m0 : w3.cell? ⟨w.heap.size + 1, 0, none⟩ = some (.int .i64 x) := hb_cell M3.out 0
  have m1 : w3.cell? ⟨w.heap.size + 1, 1, none⟩ = some (.int .i64 y) := hb_cell M3.out 1
  replace hb3 := Lib.hid (bt1 hb2.out hb3)
  obtain ⟨w3b, hw3b⟩ : ∃ w3b, Hid (w3b = w3.alloc (.cells #[.int .i64 ((pl (d) 0 : Nat) : Int), .int .i64 ((pl (d) 1 : Nat) : Int), .int .i64 ((pl (d) 2 : Nat) : Int), .int .i64 ((pl (d) 3 : Nat) : Int), .int .i64 ((pl (d) 4 : Nat) : Int), .int .i64 ((pl (d) 5 : Nat) : Int)] 66)) := ⟨_, Lib.hid rfl⟩
  have hbx := Lib.hid (show Below w3.heap.size w3 w3b by rw [hw3b.out]; exact ba1 w3 _)
  have A3b := Lib.hid (show w3b.heap[w3.heap.size]? = some (.cells #[.int .i64 ((pl (d) 0 : Nat) : Int), .int .i64 ((pl (d) 1 : Nat) : Int), .int .i64 ((pl (d) 2 : Nat) : Int), .int .i64 ((pl (d) 3 : Nat) : Int), .int .i64 ((pl (d) 4 : Nat) : Int), .int .i64 ((pl (d) 5 : Nat) : Int)] 66) by rw [hw3b.out]; exact hb_new _ _)
  clear f0 f1 m0 m1
  have F3b := Lib.hid (hb_below hbx.out (hb_lt F3.out) F3.out)
  have M3b := Lib.hid (hb_below hbx.out (hb_lt M3.out) M3.out)
  have f0 : w3b.cell? ⟨w.heap.size, 0, none⟩ = some pv := hb_cell F3b.out 0
  have f1 : w3b.cell? ⟨w.heap.size, 1, none⟩ = some bv := hb_cell F3b.out 1
  have m0 : w3b.cell? ⟨w.heap.size + 1, 0, none⟩ = some (.int .i64 x) := hb_cell M3b.out 0
  have m1 : w3b.cell? ⟨w.heap.size + 1, 1, none⟩ = some (.int .i64 y) := hb_cell M3b.out 1
  have a0 : w3b.cell? ⟨w3.heap.size, 0, none⟩ = some (.int .i64 ((pl d 0 : Nat) : Int)) := hb_cell A3b.out 0
  have a1 : w3b.cell? ⟨w3.heap.size, 1, none⟩ = some (.int .i64 ((pl d 1 : Nat) : Int)) := hb_cell A3b.out 1
  have a2 : w3b.cell? ⟨w3.heap.size, 2, none⟩ = some (.int .i64 ((pl d 2 : Nat) : Int)) := hb_cell A3b.out 2
  have a3 : w3b.cell? ⟨w3.heap.size, 3, none⟩ = some (.int .i64 ((pl d 3 : Nat) : Int)) := hb_cell A3b.out 3
  have a4 : w3b.cell? ⟨w3.heap.size, 4, none⟩ = some (.int .i64 ((pl d 4 : Nat) : Int)) := hb_cell A3b.out 4
  have a5 : w3b.cell? ⟨w3.heap.size, 5, none⟩ = some (.int .i64 ((pl d 5 : Nat) : Int)) := hb_cell A3b.out 5
  have hb3b := Lib.hid (bt1 hb3.out hbx.out)
  have hS := Lib.hid (fun w' (hb : Below w3b.heap.size w3b w') => slides_any _ ps bs d w' hG (h0.out.below (bt1 hb3b.out hb)) hd)
  have hLm : ((slS ps bs d).map slV).length ≤ 1000 := by simpa using hL
  generalize (slS ps bs d).map slV = L at *
  have hC := Lib.hid (fun w' p c (hr : RG slE w' p L) => contains_sl p _ c L x y w' rfl hLm hr)
  rw [decide_eq_false hbad] at hC
  have l1 := hb_lt F3b.out
  have l2 := hb_lt M3b.out
  have l3 := hb_lt A3b.out
  go_wp2_with fail
  rw [← hw3b.out]
  go_region_held3 (fun v => (v.cell? ⟨w.heap.size, 0, none⟩ = some pv ∧ v.cell? ⟨w.heap.size, 1, none⟩ = some bv) ∧ (v.cell? ⟨w3.heap.size, 0, none⟩ = some (.int .i64 ((pl d 0 : Nat) : Int)) ∧ v.cell? ⟨w3.heap.size, 1, none⟩ = some (.int .i64 ((pl d 1 : Nat) : Int)) ∧ v.cell? ⟨w3.heap.size, 2, none⟩ = some (.int .i64 ((pl d 2 : Nat) : Int)) ∧ v.cell? ⟨w3.heap.size, 3, none⟩ = some (.int .i64 ((pl d 3 : Nat) : Int)) ∧ v.cell? ⟨w3.heap.size, 4, none⟩ = some (.int .i64 ((pl d 4 : Nat) : Int)) ∧ v.cell? ⟨w3.heap.size, 5, none⟩ = some (.int .i64 ((pl d 5 : Nat) : Int))) ∧ v.cell? ⟨w3.heap.size, 0, none⟩ = some (.int .i64 ((pl d 0 : Nat) : Int)) ∧ (v.cell? ⟨w.heap.size + 1, 0, none⟩ = some (.int .i64 x) ∧ v.cell? ⟨w.heap.size + 1, 1, none⟩ = some (.int .i64 y)) ∧ w.heap.size < v.heap.size ∧ w3.heap.size < v.heap.size ∧ w.heap.size + 1 < v.heap.size ∧ Below w3b.heap.size w3b v) ((first | assumption | (refine ⟨⟨?_, ?_⟩, ⟨?_, ?_, ?_, ?_, ?_, ?_⟩, ?_, ⟨?_, ?_⟩, ?_, ?_, ?_, ?_⟩ <;> first | assumption | go_keep | omega | exact (Below.refl _ _).drew)))
    (first | (go_at_call 57; refine (hS.out _ (keepMF (by assumption))).mono ?_; rintro e w' ⟨u, rfl, ho, hb9⟩; obtain ⟨p, c, rfl, hm, hr⟩ := ho.rd; replace hr := Lib.hid hr; clear ho; have hbn := keepM hb9 (by assumption)) | (go_at_call 60; refine (hC.out _ _ _ hr.out).mono ?_; rintro e w' ⟨rfl, hb9⟩; have hbn := keepM hb9 (by assumption)))
  all_goals
    have hfin := Lib.hid (keepMF (by assumption))
    go_wp2_with fail
    go_ret2; exact ⟨rfl, bt1 hb3b.out hfin.out⟩
set_option maxHeartbeats 2000000 in
theorem iSB_yes (v : Value) (ps : List Nat) (bs : List Blk) (d : List Nat) (B : Nat) (up : Bool) (w : World) (hG : GB ps bs) (hd : isSt ps d) (h : Bo w v (ints ps) bs) (hB : B < ps.length) (hc : canS ps bs d B up = true)
    (hP : Hid (∀ w v, Bo w v (ints ps) bs → Calls Try.prog 56 #[v, .string (tS d)] w fun e w' => e = .returned (.tuple #[(.agg #[.int .i64 ((pl (d) 0 : Nat) : Int), .int .i64 ((pl (d) 1 : Nat) : Int), .int .i64 ((pl (d) 2 : Nat) : Int), .int .i64 ((pl (d) 3 : Nat) : Int), .int .i64 ((pl (d) 4 : Nat) : Int), .int .i64 ((pl (d) 5 : Nat) : Int)]), .bool true]) ∧ Below w.heap.size w w')) :
    Calls Try.prog 34 #[v, .string (tS d), .agg #[.int .i64 B, .int .i64 (byI up)]] w fun e w' => e = .returned (.tuple #[.string (tS (mvS d B up)), .bool true]) ∧ Below w.heap.size w w' := by
  have h0 := Lib.hid h
  obtain ⟨pv, bv, rfl, -, -⟩ := h
  obtain ⟨w2, hw2⟩ : ∃ w2, Hid (w2 = (w.alloc (.cells #[pv, bv] 31)).alloc (.cells #[.int .i64 (B : Int), .int .i64 (byI up)] 57)) := ⟨_, Lib.hid rfl⟩
  have hb2 : Hid (Below w.heap.size w w2) := Lib.hid (by rw [hw2.out]; exact (ba1 w _).alloc (by simp) _)
  have F2 := Lib.hid (show w2.heap[w.heap.size]? = some (.cells #[pv, bv] 31) by rw [hw2.out]; exact hb_old _ (hb_new _ _))
  have M2 := Lib.hid (show w2.heap[w.heap.size + 1]? = some (.cells #[.int .i64 (B : Int), .int .i64 (byI up)] 57) by rw [hw2.out]; exact hb_new' _ _ _ (by simp))
  have hA := Lib.hid (hP.out w2 _ (h0.out.below hb2.out))
  clear hP
  have hL : (slS ps bs d).length ≤ 1000 := by have := slK_len (ps := ps) (bs := bs) d ps.length; have := hG.l6; have e : slS ps bs d = slK ps bs d ps.length := rfl; rw [e]; omega
  have hin : ((B : Int), byI up) ∈ (slS ps bs d).map slV := List.mem_map.2 ⟨(B, up), mem_sl.2 ⟨hB, hc⟩, rfl⟩
  have h6 := hG.l6
  have hdl := hd.1
  have hst := mv_st hd hB hc
  have hpk := hG.p B hB
  obtain ⟨x, hx, hx9, hmv⟩ : ∃ x : Nat, ((pl d B : Nat) : Int) + byI up = (x : Int) ∧ x ≤ 9 ∧ mvS d B up = d.set B x := by
    rcases can_eq (bs := bs) hd B hB up with ⟨e, -⟩ | ⟨e1, e2, -, e4⟩
    · rw [e] at hc; cases hc
    · unfold plS at e1 e2 e4
      exact ⟨(((pl d B : Nat) : Int) + byI up).toNat, by omega, by omega, e4.1⟩
  rw [hmv] at hst ⊢
  have hSl := Lib.hid (fun w => slid_any d B x (byI up) w (by omega) (by omega) hx hx9)
  clear hmv hc
  go_enter Try.func34, Try.ntmps34
  have f0 : w2.cell? ⟨w.heap.size, 0, none⟩ = some pv := hb_cell F2.out 0
  have f1 : w2.cell? ⟨w.heap.size, 1, none⟩ = some bv := hb_cell F2.out 1
  have m0 : w2.cell? ⟨w.heap.size + 1, 0, none⟩ = some (.int .i64 (B : Int)) := hb_cell M2.out 0
  have m1 : w2.cell? ⟨w.heap.size + 1, 1, none⟩ = some (.int .i64 (byI up)) := hb_cell M2.out 1
  go_wp2_with fail
  rw [← hw2.out]
  go_wp2_with fail
  refine hA.out.mono ?_; rintro e w3 ⟨rfl, hb3⟩
  clear f0 f1 m0 m1
  have F3 := Lib.hid (hb_below hb3 (hb_lt F2.out) F2.out)
  have M3 := Lib.hid (hb_below hb3 (hb_lt M2.out) M2.out)
  have f0 : w3.cell? ⟨w.heap.size, 0, none⟩ = some pv := hb_cell F3.out 0
  have f1 : w3.cell? ⟨w.heap.size, 1, none⟩ = some bv := hb_cell F3.out 1
  have m0 : w3.cell? ⟨w.heap.size + 1, 0, none⟩ = some (.int .i64 (B : Int)) := hb_cell M3.out 0
  have m1 : w3.cell? ⟨w.heap.size + 1, 1, none⟩ = some (.int .i64 (byI up)) := hb_cell M3.out 1
  replace hb3 := Lib.hid (bt1 hb2.out hb3)
  obtain ⟨w3b, hw3b⟩ : ∃ w3b, Hid (w3b = w3.alloc (.cells #[.int .i64 ((pl (d) 0 : Nat) : Int), .int .i64 ((pl (d) 1 : Nat) : Int), .int .i64 ((pl (d) 2 : Nat) : Int), .int .i64 ((pl (d) 3 : Nat) : Int), .int .i64 ((pl (d) 4 : Nat) : Int), .int .i64 ((pl (d) 5 : Nat) : Int)] 66)) := ⟨_, Lib.hid rfl⟩
  have hbx := Lib.hid (show Below w3.heap.size w3 w3b by rw [hw3b.out]; exact ba1 w3 _)
  have A3b := Lib.hid (show w3b.heap[w3.heap.size]? = some (.cells #[.int .i64 ((pl (d) 0 : Nat) : Int), .int .i64 ((pl (d) 1 : Nat) : Int), .int .i64 ((pl (d) 2 : Nat) : Int), .int .i64 ((pl (d) 3 : Nat) : Int), .int .i64 ((pl (d) 4 : Nat) : Int), .int .i64 ((pl (d) 5 : Nat) : Int)] 66) by rw [hw3b.out]; exact hb_new _ _)
  clear f0 f1 m0 m1
  have F3b := Lib.hid (hb_below hbx.out (hb_lt F3.out) F3.out)
  have M3b := Lib.hid (hb_below hbx.out (hb_lt M3.out) M3.out)
  have f0 : w3b.cell? ⟨w.heap.size, 0, none⟩ = some pv := hb_cell F3b.out 0
  have f1 : w3b.cell? ⟨w.heap.size, 1, none⟩ = some bv := hb_cell F3b.out 1
  have m0 : w3b.cell? ⟨w.heap.size + 1, 0, none⟩ = some (.int .i64 (B : Int)) := hb_cell M3b.out 0
  have m1 : w3b.cell? ⟨w.heap.size + 1, 1, none⟩ = some (.int .i64 (byI up)) := hb_cell M3b.out 1
  have a0 : w3b.cell? ⟨w3.heap.size, 0, none⟩ = some (.int .i64 ((pl d 0 : Nat) : Int)) := hb_cell A3b.out 0
  have a1 : w3b.cell? ⟨w3.heap.size, 1, none⟩ = some (.int .i64 ((pl d 1 : Nat) : Int)) := hb_cell A3b.out 1
  have a2 : w3b.cell? ⟨w3.heap.size, 2, none⟩ = some (.int .i64 ((pl d 2 : Nat) : Int)) := hb_cell A3b.out 2
  have a3 : w3b.cell? ⟨w3.heap.size, 3, none⟩ = some (.int .i64 ((pl d 3 : Nat) : Int)) := hb_cell A3b.out 3
  have a4 : w3b.cell? ⟨w3.heap.size, 4, none⟩ = some (.int .i64 ((pl d 4 : Nat) : Int)) := hb_cell A3b.out 4
  have a5 : w3b.cell? ⟨w3.heap.size, 5, none⟩ = some (.int .i64 ((pl d 5 : Nat) : Int)) := hb_cell A3b.out 5
  have hb3b := Lib.hid (bt1 hb3.out hbx.out)
  have hS := Lib.hid (fun w' (hb : Below w3b.heap.size w3b w') => slides_any _ ps bs d w' hG (h0.out.below (bt1 hb3b.out hb)) hd)
  have hLm : ((slS ps bs d).map slV).length ≤ 1000 := by simpa using hL
  generalize (slS ps bs d).map slV = L at *
  have hC := Lib.hid (fun w' p c (hr : RG slE w' p L) => contains_sl p _ c L (B : Int) (byI up) w' rfl hLm hr)
  rw [decide_eq_true hin] at hC
  have l1 := hb_lt F3b.out
  have l2 := hb_lt M3b.out
  have l3 := hb_lt A3b.out
  have hT := Lib.hid (fun w' (hb : Below w3b.heap.size w3b w') => text_any _ ps bs bs (d.set B x) w' hG hst (h0.out.below (bt1 hb3b.out hb)))
  go_wp2_with fail
  rw [← hw3b.out]
  go_region_held3 (fun v => (v.cell? ⟨w.heap.size, 0, none⟩ = some pv ∧ v.cell? ⟨w.heap.size, 1, none⟩ = some bv) ∧ (v.cell? ⟨w3.heap.size, 0, none⟩ = some (.int .i64 ((pl d 0 : Nat) : Int)) ∧ v.cell? ⟨w3.heap.size, 1, none⟩ = some (.int .i64 ((pl d 1 : Nat) : Int)) ∧ v.cell? ⟨w3.heap.size, 2, none⟩ = some (.int .i64 ((pl d 2 : Nat) : Int)) ∧ v.cell? ⟨w3.heap.size, 3, none⟩ = some (.int .i64 ((pl d 3 : Nat) : Int)) ∧ v.cell? ⟨w3.heap.size, 4, none⟩ = some (.int .i64 ((pl d 4 : Nat) : Int)) ∧ v.cell? ⟨w3.heap.size, 5, none⟩ = some (.int .i64 ((pl d 5 : Nat) : Int))) ∧ v.cell? ⟨w3.heap.size, 0, none⟩ = some (.int .i64 ((pl d 0 : Nat) : Int)) ∧ (v.cell? ⟨w.heap.size + 1, 0, none⟩ = some (.int .i64 (B : Int)) ∧ v.cell? ⟨w.heap.size + 1, 1, none⟩ = some (.int .i64 (byI up))) ∧ w.heap.size < v.heap.size ∧ w3.heap.size < v.heap.size ∧ w.heap.size + 1 < v.heap.size ∧ Below w3b.heap.size w3b v) ((first | assumption | (refine ⟨⟨?_, ?_⟩, ⟨?_, ?_, ?_, ?_, ?_, ?_⟩, ?_, ⟨?_, ?_⟩, ?_, ?_, ?_, ?_⟩ <;> first | assumption | go_keep | omega | exact (Below.refl _ _).drew)))
    (first | (go_at_call 57; refine (hS.out _ (keepMF (by assumption))).mono ?_; rintro e w' ⟨u, rfl, ho, hb9⟩; obtain ⟨p, c, rfl, hm, hr⟩ := ho.rd; replace hr := Lib.hid hr; clear ho; have hbn := keepM hb9 (by assumption)) | (go_at_call 60; refine (hC.out _ _ _ hr.out).mono ?_; rintro e w' ⟨rfl, hb9⟩; have hbn := keepM hb9 (by assumption)))
  all_goals
    have hfin := Lib.hid (keepMF (by assumption))
    go_wp2_with fail
    go_region_held3 (fun v => (v.cell? ⟨w.heap.size, 0, none⟩ = some pv ∧ v.cell? ⟨w.heap.size, 1, none⟩ = some bv) ∧ (v.cell? ⟨w3.heap.size, 0, none⟩ = some (.int .i64 ((pl d 0 : Nat) : Int)) ∧ v.cell? ⟨w3.heap.size, 1, none⟩ = some (.int .i64 ((pl d 1 : Nat) : Int)) ∧ v.cell? ⟨w3.heap.size, 2, none⟩ = some (.int .i64 ((pl d 2 : Nat) : Int)) ∧ v.cell? ⟨w3.heap.size, 3, none⟩ = some (.int .i64 ((pl d 3 : Nat) : Int)) ∧ v.cell? ⟨w3.heap.size, 4, none⟩ = some (.int .i64 ((pl d 4 : Nat) : Int)) ∧ v.cell? ⟨w3.heap.size, 5, none⟩ = some (.int .i64 ((pl d 5 : Nat) : Int))) ∧ v.cell? ⟨w3.heap.size, 0, none⟩ = some (.int .i64 ((pl d 0 : Nat) : Int)) ∧ (v.cell? ⟨w.heap.size + 1, 0, none⟩ = some (.int .i64 (B : Int)) ∧ v.cell? ⟨w.heap.size + 1, 1, none⟩ = some (.int .i64 (byI up))) ∧ w.heap.size < v.heap.size ∧ w3.heap.size < v.heap.size ∧ w.heap.size + 1 < v.heap.size ∧ Below w3b.heap.size w3b v) ((first | assumption | (refine ⟨⟨?_, ?_⟩, ⟨?_, ?_, ?_, ?_, ?_, ?_⟩, ?_, ⟨?_, ?_⟩, ?_, ?_, ?_, ?_⟩ <;> first | assumption | go_keep | omega | exact hfin.out.drew)))
      (first | (go_at_call 61; refine (hSl.out _).mono ?_; rintro e w' ⟨rfl, hb9⟩; have hbn := keepM hb9 (by assumption)) | (go_at_call 48; refine (hT.out _ (keepMF (by assumption))).mono ?_; rintro e w' ⟨rfl, hb9⟩; have hbn := keepM hb9 (by assumption)))
    all_goals
      have hfin := Lib.hid (keepMF (by assumption))
      go_wp2_with fail
      go_ret2; exact ⟨rfl, bt1 hb3b.out hfin.out⟩
theorem SlideBolt_both (psI : List Int) (bs : List Blk) (s : ByteArray) (x y : Int) (hs : s.size ≤ maxLen) (wx : (Lit.int .i64 x).wf = true) (wy : (Lit.int .i64 y).wf = true) : ∃ (r : ByteArray) (ok : Bool),
    (∀ w v, Bo w v psI bs → Calls Try.prog 32 #[v, .string s, .agg #[.int .i64 x, .int .i64 y]] w fun e w' => e = .returned (.tuple #[.string r, .bool ok]) ∧ Below w.heap.size w w') ∧
    (∀ w v, Bo w v psI bs → Calls Try.prog 34 #[v, .string s, .agg #[.int .i64 x, .int .i64 y]] w fun e w' => e = .returned (.tuple #[.string r, .bool ok]) ∧ Below w.heap.size w w') := by
  rcases ask_cases psI bs s hs with ⟨h1, h2⟩ | ⟨ps, d, rfl, hG, hd, hf, rfl, h1, h2⟩
  · exact ⟨⟨#[]⟩, false, fun w v hB => sSB_no v psI bs s x y w hB (Lib.hid h1), fun w v hB => iSB_no v psI bs s x y w hB (Lib.hid h2)⟩
  · have badI : ∀ w v, Bo w v (ints ps) bs → (x, y) ∉ (slS ps bs d).map slV → _ := fun w v hB hm => iSB_bad v ps bs d x y w hG hd hB hm (Lib.hid h2)
    by_cases hbad : x < 0 ∨ (ps.length : Int) ≤ x ∨ (y ≠ 1 ∧ y ≠ -1)
    · have hm : (x, y) ∉ (slS ps bs d).map slV := by
        intro hm
        obtain ⟨⟨B, up⟩, hmem, e⟩ := List.mem_map.1 hm
        have hl := sl_lt hmem
        simp only [slV, Prod.mk.injEq] at e
        simp only at hl
        obtain ⟨e1, e2⟩ := e
        cases up <;> simp [byI] at e2 <;> omega
      exact ⟨⟨#[]⟩, false, fun w v hB => sSB_bad v (ints ps) bs (tS d) ⟨#[]⟩ x y w hB (Lib.hid h1) (Lib.hid fun w v hB => (boPut_bad v ps bs bs (tS d) x y w hG hB hbad).mono fun _ _ h => ⟨_, h.1, h.2⟩), fun w v hB => badI w v hB hm⟩
    · obtain ⟨B, rfl⟩ : ∃ B : Nat, x = (B : Int) := ⟨x.toNat, by omega⟩
      have hB : B < ps.length := by omega
      obtain ⟨up, rfl⟩ : ∃ up, y = byI up := by
        by_cases h1 : y = 1
        · exact ⟨true, h1⟩
        · exact ⟨false, by simp only [byI]; simp; omega⟩
      cases hc : canS ps bs d B up with
      | false =>
        have hm : ((B : Int), byI up) ∉ (slS ps bs d).map slV := by
          intro hm
          obtain ⟨⟨B', up'⟩, hmem, e⟩ := List.mem_map.1 hm
          have hl := mem_sl.1 hmem
          simp only [slV, Prod.mk.injEq] at e
          obtain ⟨e1, e2⟩ := e
          have : B' = B := by omega
          subst this
          have : up' = up := by cases up <;> cases up' <;> simp [byI] at e2 <;> rfl
          subst this
          rw [hc] at hl
          cases hl.2
        exact ⟨⟨#[]⟩, false, fun w v hv => sSB_bad v (ints ps) bs (tS d) ⟨#[]⟩ B (byI up) w hv (Lib.hid h1) (Lib.hid fun w v hv => (boPut_at v ps bs d B up w hG hv hd hB).mono fun _ _ h => by
          obtain ⟨t, e, -, hb⟩ := h
          rw [hc] at e
          exact ⟨t, e, hb⟩), fun w v hv => badI w v hv hm⟩
      | true =>
        exact ⟨tS (mvS d B up), true, fun w v hv => sSB_yes v (ints ps) bs (tS d) (tS (mvS d B up)) B (byI up) w hv (Lib.hid h1) (Lib.hid fun w v hv => (boPut_at v ps bs d B up w hG hv hd hB).mono fun _ _ h => by
          obtain ⟨t, e, ht, hb⟩ := h
          rw [hc] at e
          rw [ht hc] at e
          exact ⟨e, hb⟩), fun w v hv => iSB_yes v ps bs d B up w hG hd hv hB hc (Lib.hid h2)⟩
end Go.Proofs.Ytjhljhopmfefhab
