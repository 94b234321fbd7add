/- How many states the part of a state has: by the model and by the program. -/
import Derived.Test.YtcfeaaakfjilgaaSG
import Derived.Test.YtcfeaaakfjilgaaSI
import Derived.Test.YtcfeaaakfjilgaaE6
namespace Go.Proofs.Ytcfeaaakfjilgaa
set_option linter.unusedSimpArgs false
set_option linter.unusedVariables false
open Go Go.RowKit RM Go.Maps Go.WideMaps
abbrev MW : Nat := 1000000000000001
set_option maxRecDepth 100000 in
theorem fldS0 (a b : Value) (w : World) : (Instr.field 73 (.agg #[a, b]) 0).run Try.prog w = .ok a w := by first | rfl | simp [go_sem]
set_option maxRecDepth 100000 in
theorem fldS1 (a b : Value) (w : World) : (Instr.field 73 (.agg #[a, b]) 1).run Try.prog w = .ok b w := by first | rfl | simp [go_sem]
/-- the program's search with no end told -/
theorem searchAll_any (v : Value) (ps : List Nat) (bs : List Blk) (d : List Nat) (w : World) (hG : GB ps bs) (h : Bo w v (ints ps) bs) (hdU : d ∈ allU ps bs) :
    Calls Try.prog 47 #[v, (.agg #[.int .i64 ((pl (d) 0 : Nat) : Int), .int .i64 ((pl (d) 1 : Nat) : Int), .int .i64 ((pl (d) 2 : Nat) : Int), .int .i64 ((pl (d) 3 : Nat) : Int), .int .i64 ((pl (d) 4 : Nat) : Int), .int .i64 ((pl (d) 5 : Nat) : Int)]), .slice none 0 0] w fun e w' => ∃ b1 b2, e = .returned (.agg #[.map (some b1), .map (some b2)]) ∧ SrM ps b1 b2 (fin MW (nbS ps bs) (allU ps bs) d) w' ∧ w.heap.size ≤ b1 ∧ w.heap.size ≤ b2 ∧ b1 < w'.heap.size ∧ b2 < w'.heap.size ∧ b1 ≠ b2 ∧ Below w.heap.size w w' := by
  have h0 := h
  obtain ⟨pv, bv, rfl, -, -⟩ := h
  refine (searchS_any pv bv ps bs d [] none 0 0 MW w rfl hG h0 hdU (fun e he => by cases he) rfl (by omega) (fun h => absurd rfl h)).mono ?_
  rintro e w' ⟨b1, b2, k, rfl, hk, hm, r⟩
  rcases hk with hk | ⟨t, ht, -⟩
  · rw [(univS hG).fin_at hdU hk] at hm
    exact ⟨b1, b2, rfl, hm, r⟩
  · cases ht
theorem fin_sb {ps : List Nat} {bs : List Blk} (hG : GB ps bs) {d : List Nat} (hdU : d ∈ allU ps bs) : SB 1000000000000001 (allU ps bs) (fin MW (nbS ps bs) (allU ps bs) d) := sb_run (M := MW) (by decide) (univS hG) hdU _
theorem sCS_no (v : Value) (psI : List Int) (bs : List Blk) (s : ByteArray) (w : World) (h : Bo w v psI bs)
    (hA : Hid (∀ w v, Bo w v psI bs → Calls Try.prog 59 #[v, .string s] w fun e w' => e = .returned (.bool false) ∧ Below w.heap.size w w')) :
    Calls Try.prog 25 #[v, .string s] w fun e w' => e = .returned (.tuple #[.int .i64 0, .bool false]) ∧ Below w.heap.size w w' := by
  have h0 := Lib.hid h
  obtain ⟨pv, bv, rfl, -, -⟩ := h
  obtain ⟨w2, hw2⟩ : ∃ w2, Hid (w2 = w.alloc (.cells #[pv, bv] 31)) := ⟨_, Lib.hid rfl⟩
  have hb2 : Hid (Below w.heap.size w w2) := Lib.hid (by rw [hw2.out]; exact ba1 w _)
  have hA2 := Lib.hid (hA.out w2 _ (h0.out.below hb2.out))
  go_enter Try.func25, Try.ntmps25
  go_wp2_with fail
  rw [← hw2.out]
  refine hA2.out.mono ?_; rintro e w3 ⟨rfl, hb3⟩
  go_wp2_with fail
  go_ret2; exact ⟨rfl, bt1 hb2.out hb3⟩
theorem sCS_yes (v : Value) (ps : List Nat) (bs : List Blk) (d : List Nat) (w : World) (hG : GB ps bs) (h : Bo w v (ints ps) bs) (hdU : d ∈ allU ps bs)
    (hA : Hid (∀ w v, Bo w v (ints ps) bs → Calls Try.prog 59 #[v, .string (tS d)] w fun e w' => e = .returned (.bool true) ∧ Below w.heap.size w w')) :
    Calls Try.prog 25 #[v, .string (tS d)] w fun e w' => e = .returned (.tuple #[.int .i64 (((fin MW (nbS ps bs) (allU ps bs) d).q.length : Nat) : Int), .bool true]) ∧ Below w.heap.size w w' := by
  have h0 := Lib.hid h
  obtain ⟨pv, bv, rfl, -, -⟩ := h
  obtain ⟨w2, hw2⟩ : ∃ w2, Hid (w2 = w.alloc (.cells #[pv, bv] 31)) := ⟨_, Lib.hid rfl⟩
  have hb2 : Hid (Below w.heap.size w w2) := Lib.hid (by rw [hw2.out]; exact ba1 w _)
  have F := Lib.hid (show w2.heap[w.heap.size]? = some (.cells #[pv, bv] 31) by rw [hw2.out]; exact hb_new _ _)
  have hA2 := Lib.hid (hA.out w2 _ (h0.out.below hb2.out))
  have hB := Lib.hid (fun w' hb => boFar_any MW _ ps bs d w' hG (h0.out.below hb) hdU (by decide))
  obtain ⟨n, hn⟩ : ∃ n, (fin MW (nbS ps bs) (allU ps bs) d).q.length = n := ⟨_, rfl⟩
  rw [hn]
  replace hn := Lib.hid hn
  go_enter Try.func25, Try.ntmps25
  go_wp2_with fail
  rw [← hw2.out]
  refine hA2.out.mono ?_; rintro e w3 ⟨rfl, hb3⟩
  have F3 := Lib.hid (hb_below hb3 (hb_lt F.out) F.out)
  have f0 : w3.cell? ⟨w.heap.size, 0, none⟩ = some pv := hb_cell F3.out 0
  have f1 : w3.cell? ⟨w.heap.size, 1, none⟩ = some bv := hb_cell F3.out 1
  replace hb3 := Lib.hid (bt1 hb2.out hb3)
  go_wp2_with fail
  refine (hB.out _ hb3.out).mono ?_; rintro e w4 ⟨gm, u, rfl, -, ho, hb4⟩
  obtain ⟨p, c, rfl⟩ : ∃ p c, u = .slice p n c := by
    rcases ho.form with ⟨rfl, e⟩ | ⟨g, cap, rfl, _⟩
    · have h0 : n = 0 := by rw [← hn.out, ← List.length_map (f := tS), e]; rfl
      exact ⟨none, 0, by rw [h0]⟩
    · exact ⟨_, cap, by rw [List.length_map, hn.out]⟩
  clear ho
  go_wp2_with fail
  go_ret2; exact ⟨rfl, bt1 hb3.out hb4⟩
set_option maxRecDepth 1000000 in
theorem iCS_no (v : Value) (psI : List Int) (bs : List Blk) (s : ByteArray) (w : World) (h : Bo w v psI bs)
    (hA : Hid (∀ w v, Bo w v psI bs → Calls Try.prog 60 #[v, .string s] w fun e w' => e = .returned (.tuple #[(.agg #[.int .i64 0, .int .i64 0, .int .i64 0, .int .i64 0, .int .i64 0, .int .i64 0]), .bool false]) ∧ Below w.heap.size w w')) :
    Calls Try.prog 26 #[v, .string s] w fun e w' => e = .returned (.tuple #[.int .i64 0, .bool false]) ∧ Below w.heap.size w w' := by
  have h0 := Lib.hid h
  obtain ⟨pv, bv, rfl, -, -⟩ := h
  obtain ⟨w2, hw2⟩ : ∃ w2, Hid (w2 = w.alloc (.cells #[pv, bv] 31)) := ⟨_, Lib.hid rfl⟩
  have hb2 : Hid (Below w.heap.size w w2) := Lib.hid (by rw [hw2.out]; exact ba1 w _)
  have hA2 := Lib.hid (hA.out w2 _ (h0.out.below hb2.out))
  go_enter Try.func26, Try.ntmps26
  go_wp2_with fail
  rw [← hw2.out]
  refine hA2.out.mono ?_; rintro e w3 ⟨rfl, hb3⟩
  have hb4 := ba1 w3 (.cells #[.int .i64 0, .int .i64 0, .int .i64 0, .int .i64 0, .int .i64 0, .int .i64 0] 68)
  replace hb3 := Lib.hid hb3
  go_wp2_with fail
  go_ret2; exact ⟨rfl, bt1 hb2.out (bt1 hb3.out hb4)⟩
set_option maxRecDepth 1000000 in
theorem iCS_yes (v : Value) (ps : List Nat) (bs : List Blk) (d : List Nat) (w : World) (hG : GB ps bs) (h : Bo w v (ints ps) bs) (hdU : d ∈ allU ps bs)
    (hA : Hid (∀ w v, Bo w v (ints ps) bs → Calls Try.prog 60 #[v, .string (tS d)] w fun e w' => e = .returned (.tuple #[(.agg #[.int .i64 ((pl (d) 0 : Nat) : Int), .int .i64 ((pl (d) 1 : Nat) : Int), .int .i64 ((pl (d) 2 : Nat) : Int), .int .i64 ((pl (d) 3 : Nat) : Int), .int .i64 ((pl (d) 4 : Nat) : Int), .int .i64 ((pl (d) 5 : Nat) : Int)]), .bool true]) ∧ Below w.heap.size w w')) :
    Calls Try.prog 26 #[v, .string (tS d)] w fun e w' => e = .returned (.tuple #[.int .i64 (((fin MW (nbS ps bs) (allU ps bs) d).q.length : Nat) : Int), .bool true]) ∧ Below w.heap.size w w' := by
  have h0 := Lib.hid h
  obtain ⟨pv, bv, rfl, -, -⟩ := h
  obtain ⟨w2, hw2⟩ : ∃ w2, Hid (w2 = w.alloc (.cells #[pv, bv] 31)) := ⟨_, Lib.hid rfl⟩
  have hb2 : Hid (Below w.heap.size w w2) := Lib.hid (by rw [hw2.out]; exact ba1 w _)
  have F := Lib.hid (show w2.heap[w.heap.size]? = some (.cells #[pv, bv] 31) by rw [hw2.out]; exact hb_new _ _)
  have hA2 := Lib.hid (hA.out w2 _ (h0.out.below hb2.out))
  have hB := Lib.hid (fun w' hb => searchAll_any _ ps bs d w' hG (h0.out.below hb) hdU)
  obtain ⟨n, hn⟩ : ∃ n, (fin MW (nbS ps bs) (allU ps bs) d).q.length = n := ⟨_, rfl⟩
  rw [hn]
  replace hn := Lib.hid hn
  go_enter Try.func26, Try.ntmps26
  go_wp2_with fail
  rw [← hw2.out]
  refine hA2.out.mono ?_; rintro e w3 ⟨rfl, hb3⟩
  obtain ⟨w4, hw4⟩ : ∃ w4, Hid (w4 = w3.alloc (.cells #[.int .i64 ((pl (d) 0 : Nat) : Int), .int .i64 ((pl (d) 1 : Nat) : Int), .int .i64 ((pl (d) 2 : Nat) : Int), .int .i64 ((pl (d) 3 : Nat) : Int), .int .i64 ((pl (d) 4 : Nat) : Int), .int .i64 ((pl (d) 5 : Nat) : Int)] 68)) := ⟨_, Lib.hid rfl⟩
  have hb4 := Lib.hid (show Below w3.heap.size w3 w4 by rw [hw4.out]; exact ba1 w3 _)
  have F3 := Lib.hid (hb_below hb3 (hb_lt F.out) F.out)
  have F4 := Lib.hid (hb_below hb4.out (hb_lt F3.out) F3.out)
  have A4 := Lib.hid (show w4.heap[w3.heap.size]? = some (.cells #[.int .i64 ((pl (d) 0 : Nat) : Int), .int .i64 ((pl (d) 1 : Nat) : Int), .int .i64 ((pl (d) 2 : Nat) : Int), .int .i64 ((pl (d) 3 : Nat) : Int), .int .i64 ((pl (d) 4 : Nat) : Int), .int .i64 ((pl (d) 5 : Nat) : Int)] 68) by rw [hw4.out]; exact hb_new _ _)
  have f0 : w4.cell? ⟨w.heap.size, 0, none⟩ = some pv := hb_cell F4.out 0
  have f1 : w4.cell? ⟨w.heap.size, 1, none⟩ = some bv := hb_cell F4.out 1
  have a0 : w4.cell? ⟨w3.heap.size, 0, none⟩ = some (.int .i64 ((pl d 0 : Nat) : Int)) := hb_cell A4.out 0
  have a1 : w4.cell? ⟨w3.heap.size, 1, none⟩ = some (.int .i64 ((pl d 1 : Nat) : Int)) := hb_cell A4.out 1
  have a2 : w4.cell? ⟨w3.heap.size, 2, none⟩ = some (.int .i64 ((pl d 2 : Nat) : Int)) := hb_cell A4.out 2
  have a3 : w4.cell? ⟨w3.heap.size, 3, none⟩ = some (.int .i64 ((pl d 3 : Nat) : Int)) := hb_cell A4.out 3
  have a4 : w4.cell? ⟨w3.heap.size, 4, none⟩ = some (.int .i64 ((pl d 4 : Nat) : Int)) := hb_cell A4.out 4
  have a5 : w4.cell? ⟨w3.heap.size, 5, none⟩ = some (.int .i64 ((pl d 5 : Nat) : Int)) := hb_cell A4.out 5
  have hbw := Lib.hid (bt1 hb2.out (bt1 hb3 hb4.out))
  clear hb3
  go_upto_region 4 with fail
  rw [← hw4.out]
  go_wp2_with fail
  refine (hB.out w4 hbw.out).mono ?_; rintro e w5 ⟨b1, b2, rfl, hm, -, -, -, -, -, hb5⟩
  obtain ⟨D1, h1, h2⟩ := hm.one
  have hlen := fun ty => h1.len Try.underlying71 ty
  rw [SrM.size1 hG (fin_sb hG hdU) h1 h2 (fun _ => Iff.rfl), hn.out] at hlen
  replace hb5 := Lib.hid hb5
  clear hm h1 h2
  have hfd := fldS0
  go_wp2_with fail
  go_ret2; exact ⟨rfl, bt1 hbw.out hb5.out⟩
theorem CountSlid_both (psI : List Int) (bs : List Blk) (s : ByteArray) (hs : s.size ≤ maxLen) : ∃ r ok, (∀ w v, Bo w v psI bs → Calls Try.prog 25 #[v, .string s] w fun e w' => e = .returned (.tuple #[.int .i64 r, .bool ok]) ∧ Below w.heap.size w w') ∧ (∀ w v, Bo w v psI bs → Calls Try.prog 26 #[v, .string s] w fun e w' => e = .returned (.tuple #[.int .i64 r, .bool ok]) ∧ Below w.heap.size w w') := by
  rcases ask_cases psI bs s hs with ⟨h1, h2⟩ | ⟨ps, d, rfl, hG, hd, hf, rfl, h1, h2⟩
  · exact ⟨0, false, fun w v hB => sCS_no v psI bs s w hB (Lib.hid h1), fun w v hB => iCS_no v psI bs s w hB (Lib.hid h2)⟩
  · have hdU := (mem_U hG).2 ⟨hd, hf⟩
    exact ⟨_, true, fun w v hB => sCS_yes v ps bs d w hG hB hdU (Lib.hid h1), fun w v hB => iCS_yes v ps bs d w hG hB hdU (Lib.hid h2)⟩
end Go.Proofs.Ytcfeaaakfjilgaa
