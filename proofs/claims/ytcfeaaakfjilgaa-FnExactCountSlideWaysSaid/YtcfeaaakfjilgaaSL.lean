/- The fewest slides between two states: by the model and by the program. -/
import Derived.Test.YtcfeaaakfjilgaaSK
import Derived.Deep.DeepCutAuto
import Derived.Deep.RegionHeld3
import Derived.BigRegion
namespace Go.Proofs.Ytcfeaaakfjilgaa
set_option linter.unusedSimpArgs false
set_option linter.unusedVariables false
open Go Go.RowKit RM Go.Maps Go.WideMaps
theorem keep14 {W a b : World} {x g h : Nat} {pv bv a0 a1 a2 a3 a4 a5 b0 b1 b2 b3 b4 b5 : Value} (hb : Below a.heap.size a b) (hS : (a.cell? ⟨x, 0, none⟩ = some pv ∧ a.cell? ⟨x, 1, none⟩ = some bv ∧ a.cell? ⟨g, 0, none⟩ = some a0 ∧ a.cell? ⟨g, 1, none⟩ = some a1 ∧ a.cell? ⟨g, 2, none⟩ = some a2 ∧ a.cell? ⟨g, 3, none⟩ = some a3 ∧ a.cell? ⟨g, 4, none⟩ = some a4 ∧ a.cell? ⟨g, 5, none⟩ = some a5 ∧ a.cell? ⟨h, 0, none⟩ = some b0 ∧ a.cell? ⟨h, 1, none⟩ = some b1 ∧ a.cell? ⟨h, 2, none⟩ = some b2 ∧ a.cell? ⟨h, 3, none⟩ = some b3 ∧ a.cell? ⟨h, 4, none⟩ = some b4 ∧ a.cell? ⟨h, 5, none⟩ = some b5) ∧ (x < a.heap.size ∧ g < a.heap.size ∧ h < a.heap.size) ∧ Below W.heap.size W a) : (b.cell? ⟨x, 0, none⟩ = some pv ∧ b.cell? ⟨x, 1, none⟩ = some bv ∧ b.cell? ⟨g, 0, none⟩ = some a0 ∧ b.cell? ⟨g, 1, none⟩ = some a1 ∧ b.cell? ⟨g, 2, none⟩ = some a2 ∧ b.cell? ⟨g, 3, none⟩ = some a3 ∧ b.cell? ⟨g, 4, none⟩ = some a4 ∧ b.cell? ⟨g, 5, none⟩ = some a5 ∧ b.cell? ⟨h, 0, none⟩ = some b0 ∧ b.cell? ⟨h, 1, none⟩ = some b1 ∧ b.cell? ⟨h, 2, none⟩ = some b2 ∧ b.cell? ⟨h, 3, none⟩ = some b3 ∧ b.cell? ⟨h, 4, none⟩ = some b4 ∧ b.cell? ⟨h, 5, none⟩ = some b5) ∧ (x < b.heap.size ∧ g < b.heap.size ∧ h < b.heap.size) ∧ Below W.heap.size W b := by
  obtain ⟨⟨h0, h1, h2, h3, h4, h5, h6, h7, h8, h9, h10, h11, h12, h13⟩, ⟨l1, l2, l3⟩, hB⟩ := hS
  have hz := hb.size
  have e1 : ∀ o, b.cell? ⟨x, o, none⟩ = a.cell? ⟨x, o, none⟩ := fun o => hb.cell (p := ⟨x, o, none⟩) l1
  have e2 : ∀ o, b.cell? ⟨g, o, none⟩ = a.cell? ⟨g, o, none⟩ := fun o => hb.cell (p := ⟨g, o, none⟩) l2
  have e3 : ∀ o, b.cell? ⟨h, o, none⟩ = a.cell? ⟨h, o, none⟩ := fun o => hb.cell (p := ⟨h, o, none⟩) l3
  exact ⟨⟨(e1 _).trans h0, (e1 _).trans h1, (e2 _).trans h2, (e2 _).trans h3, (e2 _).trans h4, (e2 _).trans h5, (e2 _).trans h6, (e2 _).trans h7, (e3 _).trans h8, (e3 _).trans h9, (e3 _).trans h10, (e3 _).trans h11, (e3 _).trans h12, (e3 _).trans h13⟩, ⟨by omega, by omega, by omega⟩, bt1 hB hb⟩
theorem keep14B {W a : World} {x g h : Nat} {pv bv a0 a1 a2 a3 a4 a5 b0 b1 b2 b3 b4 b5 : Value} (hS : (a.cell? ⟨x, 0, none⟩ = some pv ∧ a.cell? ⟨x, 1, none⟩ = some bv ∧ a.cell? ⟨g, 0, none⟩ = some a0 ∧ a.cell? ⟨g, 1, none⟩ = some a1 ∧ a.cell? ⟨g, 2, none⟩ = some a2 ∧ a.cell? ⟨g, 3, none⟩ = some a3 ∧ a.cell? ⟨g, 4, none⟩ = some a4 ∧ a.cell? ⟨g, 5, none⟩ = some a5 ∧ a.cell? ⟨h, 0, none⟩ = some b0 ∧ a.cell? ⟨h, 1, none⟩ = some b1 ∧ a.cell? ⟨h, 2, none⟩ = some b2 ∧ a.cell? ⟨h, 3, none⟩ = some b3 ∧ a.cell? ⟨h, 4, none⟩ = some b4 ∧ a.cell? ⟨h, 5, none⟩ = some b5) ∧ (x < a.heap.size ∧ g < a.heap.size ∧ h < a.heap.size) ∧ Below W.heap.size W a) : Below W.heap.size W a := hS.2.2
theorem sFS_no (v : Value) (psI : List Int) (bs : List Blk) (x y : ByteArray) (w : World) (h : Bo w v psI bs)
    (hA : Hid (∀ w v, Bo w v psI bs → Calls Try.prog 41 #[v, .string x, .string y] w fun e w' => e = .returned (.bool false) ∧ Below w.heap.size w w')) :
    Calls Try.prog 13 #[v, .string x, .string y] w fun e w' => e = .returned (.tuple #[.int .i64 0, .bool false]) ∧ Below w.heap.size w w' := by
  have h0 := Lib.hid h
  obtain ⟨pv, bv, rfl, -, -⟩ := h
  obtain ⟨w2, hw2⟩ : ∃ w2, Hid (w2 = w.alloc (.cells #[pv, bv] 31)) := ⟨_, Lib.hid rfl⟩
  have hb2 : Hid (Below w.heap.size w w2) := Lib.hid (by rw [hw2.out]; exact ba1 w _)
  have hA2 := Lib.hid (hA.out w2 _ (h0.out.below hb2.out))
  go_enter Try.func13, Try.ntmps13
  go_wp2_with fail
  rw [← hw2.out]
  refine hA2.out.mono ?_; rintro e w3 ⟨rfl, hb3⟩
  replace hb3 := Lib.hid hb3
  go_wp2_with fail
  go_ret2; exact ⟨rfl, bt1 hb2.out hb3.out⟩
set_option maxRecDepth 100000 in
theorem sFS_yes (v : Value) (ps : List Nat) (bs : List Blk) (dx dy : List Nat) (w : World) (hG : GB ps bs) (h : Bo w v (ints ps) bs) (hxU : dx ∈ allU ps bs) (hyU : dy ∈ allU ps bs)
    (hA : Hid (∀ w v, Bo w v (ints ps) bs → Calls Try.prog 41 #[v, .string (tS dx), .string (tS dy)] w fun e w' => e = .returned (.bool true) ∧ Below w.heap.size w w')) (o : Option Nat) (ho : (fin MW (nbS ps bs) (allU ps bs) dx).far dy = o) :
    Calls Try.prog 13 #[v, .string (tS dx), .string (tS dy)] w fun e w' => e = .returned (.tuple #[.int .i64 ((o.getD 0 : Nat) : Int), .bool o.isSome]) ∧ Below w.heap.size w w' := by
  have h0 := Lib.hid h
  obtain ⟨pv, bv, rfl, -, -⟩ := h
  obtain ⟨w2, hw2⟩ : ∃ w2, Hid (w2 = w.alloc (.cells #[pv, bv] 31)) := ⟨_, Lib.hid rfl⟩
  have hb2 : Hid (Below w.heap.size w w2) := Lib.hid (by rw [hw2.out]; exact ba1 w _)
  have F := Lib.hid (show w2.heap[w.heap.size]? = some (.cells #[pv, bv] 31) by rw [hw2.out]; exact hb_new _ _)
  have hA2 := Lib.hid (hA.out w2 _ (h0.out.below hb2.out))
  have hB := Lib.hid (fun w' hb => boFar_any MW _ ps bs dx w' hG (h0.out.below hb) hxU (by decide))
  have hdy := Lib.hid ((mem_U hG).1 hyU).1
  have hN := Lib.hid (fun w' hb => boNumber_any _ ps bs dy w' hG (h0.out.below hb) hdy.out)
  have hnt := nm_st hdy.out
  have hpr := hG.n
  go_enter Try.func13, Try.ntmps13
  go_wp2_with fail
  rw [← hw2.out]
  refine hA2.out.mono ?_; rintro e w3 ⟨rfl, hb3⟩
  have F3 := Lib.hid (hb_below hb3 (hb_lt F.out) F.out)
  have f0 : w3.cell? ⟨w.heap.size, 0, none⟩ = some pv := hb_cell F3.out 0
  have f1 : w3.cell? ⟨w.heap.size, 1, none⟩ = some bv := hb_cell F3.out 1
  replace hb3 := Lib.hid (bt1 hb2.out hb3)
  go_wp2_with fail
  refine (hB.out _ hb3.out).mono ?_; rintro e w4 ⟨gm, u, rfl, hm, -, hb4⟩
  have F4 := Lib.hid (hb_below hb4 (hb_lt F3.out) F3.out)
  clear f0 f1
  have f0 : w4.cell? ⟨w.heap.size, 0, none⟩ = some pv := hb_cell F4.out 0
  have f1 : w4.cell? ⟨w.heap.size, 1, none⟩ = some bv := hb_cell F4.out 1
  replace hb4 := Lib.hid (bt1 hb3.out hb4)
  replace hm := Lib.hid hm
  go_wp2_with fail
  refine (hN.out _ hb4.out).mono ?_; rintro e w5 ⟨rfl, hb5⟩
  have hm5 := hm.out.below hb5
  obtain ⟨c0, -⟩ := hm5.cell (mS_len _ _) (nm ps dy ps.length) (by rw [mS_len]; exact hnt)
  rw [mS_get hdy.out, ho] at c0
  replace hb5 := Lib.hid hb5
  clear hm5
  cases o with
  | none =>
    have c0 : w5.cell? ⟨gm, nm ps dy ps.length, none⟩ = some (.int .i64 (-1)) := c0
    generalize nm ps dy ps.length = nt at *
    generalize pr ps ps.length = N at *
    go_wp2_with fail
    go_ret2; exact ⟨rfl, bt1 hb4.out hb5.out⟩
  | some n =>
    have c0 : w5.cell? ⟨gm, nm ps dy ps.length, none⟩ = some (.int .i64 (n : Int)) := c0
    have hn0 : decide ((n : Int) < 0) = false := by rw [decide_eq_false]; omega
    generalize nm ps dy ps.length = nt at *
    generalize pr ps ps.length = N at *
    go_wp2_with fail
    go_ret2; exact ⟨rfl, bt1 hb4.out hb5.out⟩
set_option maxRecDepth 1000000 in
theorem iFS_no (v : Value) (psI : List Int) (bs : List Blk) (x y : ByteArray) (w : World) (h : Bo w v psI bs)
    (hA : Hid (∀ w v, Bo w v psI bs → Calls Try.prog 46 #[v, .string x, .string y] w fun e w' => e = .returned (.tuple #[(.agg #[.int .i64 0, .int .i64 0, .int .i64 0, .int .i64 0, .int .i64 0, .int .i64 0]), (.agg #[.int .i64 0, .int .i64 0, .int .i64 0, .int .i64 0, .int .i64 0, .int .i64 0]), .bool false]) ∧ Below w.heap.size w w')) :
    Calls Try.prog 15 #[v, .string x, .string y] w fun e w' => e = .returned (.tuple #[.int .i64 0, .bool false]) ∧ Below w.heap.size w w' := by
  have h0 := Lib.hid h
  obtain ⟨pv, bv, rfl, -, -⟩ := h
  obtain ⟨w2, hw2⟩ : ∃ w2, Hid (w2 = w.alloc (.cells #[pv, bv] 31)) := ⟨_, Lib.hid rfl⟩
  have hb2 : Hid (Below w.heap.size w w2) := Lib.hid (by rw [hw2.out]; exact ba1 w _)
  have hA2 := Lib.hid (hA.out w2 _ (h0.out.below hb2.out))
  go_enter Try.func15, Try.ntmps15
  go_wp2_with fail
  rw [← hw2.out]
  refine hA2.out.mono ?_; rintro e w3 ⟨rfl, hb3⟩
  replace hb3 := Lib.hid hb3
  have hb4 := Lib.hid (show Below w3.heap.size w3 ((w3.alloc (.cells #[.int .i64 0, .int .i64 0, .int .i64 0, .int .i64 0, .int .i64 0, .int .i64 0] 68)).alloc (.cells #[.int .i64 0, .int .i64 0, .int .i64 0, .int .i64 0, .int .i64 0, .int .i64 0] 68)) from (ba1 w3 _).alloc (by simp) _)
  go_wp2_with fail
  go_ret2; exact ⟨rfl, bt1 hb2.out (bt1 hb3.out hb4.out)⟩
set_option maxRecDepth 1000000 in
set_option maxHeartbeats 4000000 in
theorem iFS_yes (v : Value) (ps : List Nat) (bs : List Blk) (x y : ByteArray) (dx dy : List Nat) (w : World) (hG : GB ps bs) (h : Bo w v (ints ps) bs) (hxU : dx ∈ allU ps bs) (hyU : dy ∈ allU ps bs)
    (hA : Hid (∀ w v, Bo w v (ints ps) bs → Calls Try.prog 46 #[v, .string x, .string y] w fun e w' => e = .returned (.tuple #[(.agg #[.int .i64 ((pl (dx) 0 : Nat) : Int), .int .i64 ((pl (dx) 1 : Nat) : Int), .int .i64 ((pl (dx) 2 : Nat) : Int), .int .i64 ((pl (dx) 3 : Nat) : Int), .int .i64 ((pl (dx) 4 : Nat) : Int), .int .i64 ((pl (dx) 5 : Nat) : Int)]), (.agg #[.int .i64 ((pl (dy) 0 : Nat) : Int), .int .i64 ((pl (dy) 1 : Nat) : Int), .int .i64 ((pl (dy) 2 : Nat) : Int), .int .i64 ((pl (dy) 3 : Nat) : Int), .int .i64 ((pl (dy) 4 : Nat) : Int), .int .i64 ((pl (dy) 5 : Nat) : Int)]), .bool true]) ∧ Below w.heap.size w w')) (o : Option Nat) (ho : (fin MW (nbS ps bs) (allU ps bs) dx).far dy = o) :
    Calls Try.prog 15 #[v, .string x, .string y] w fun e w' => e = .returned (.tuple #[.int .i64 ((o.getD 0 : Nat) : Int), .bool o.isSome]) ∧ Below w.heap.size w w' := by
  have h0 := Lib.hid h
  obtain ⟨pv, bv, rfl, -, -⟩ := h
  have hdy := Lib.hid ((mem_U hG).1 hyU).1
  obtain ⟨w2, hw2⟩ : ∃ w2, Hid (w2 = w.alloc (.cells #[pv, bv] 31)) := ⟨_, Lib.hid rfl⟩
  have hb2 : Hid (Below w.heap.size w w2) := Lib.hid (by rw [hw2.out]; exact ba1 w _)
  have F := Lib.hid (show w2.heap[w.heap.size]? = some (.cells #[pv, bv] 31) by rw [hw2.out]; exact hb_new _ _)
  have hA2 := Lib.hid (hA.out w2 _ (h0.out.below hb2.out))
  have hB := Lib.hid (fun w' hb p hr => searchS_any pv bv ps bs dx [dy] p 1 1 MW w' rfl hG (h0.out.below hb) hxU (fun e he => by rw [List.mem_singleton.1 he]; exact hdy.out) rfl (by omega) hr)
  have hFar := Lib.hid (show ∀ k, ((run MW (nbS ps bs) dx k).q[k]? = none ∨ ∃ t ∈ [dy], (run MW (nbS ps bs) dx k).q[k]? = some t) → (run MW (nbS ps bs) dx k).far dy = o from by
    intro k hk
    rw [← ho]
    rcases hk with hk | ⟨t, ht, hk⟩
    · rw [(univS hG).fin_at hxU hk]
    · rw [List.mem_singleton.1 ht] at hk
      exact ((univS hG).far_fin hxU hk).symm)
  go_enter Try.func15, Try.ntmps15
  go_wp2_with fail
  rw [← hw2.out]
  refine hA2.out.mono ?_; rintro e w3 ⟨rfl, hb3⟩
  obtain ⟨w4, hw4⟩ : ∃ w4, Hid (w4 = (w3.alloc (.cells #[.int .i64 ((pl (dx) 0 : Nat) : Int), .int .i64 ((pl (dx) 1 : Nat) : Int), .int .i64 ((pl (dx) 2 : Nat) : Int), .int .i64 ((pl (dx) 3 : Nat) : Int), .int .i64 ((pl (dx) 4 : Nat) : Int), .int .i64 ((pl (dx) 5 : Nat) : Int)] 68)).alloc (.cells #[.int .i64 ((pl (dy) 0 : Nat) : Int), .int .i64 ((pl (dy) 1 : Nat) : Int), .int .i64 ((pl (dy) 2 : Nat) : Int), .int .i64 ((pl (dy) 3 : Nat) : Int), .int .i64 ((pl (dy) 4 : Nat) : Int), .int .i64 ((pl (dy) 5 : Nat) : Int)] 68)) := ⟨_, Lib.hid rfl⟩
  have hb4 := Lib.hid (show Below w2.heap.size w2 w4 by rw [hw4.out]; exact bt1 hb3 ((ba1 w3 _).alloc (by simp) _))
  have X4 := Lib.hid (show w4.heap[w3.heap.size]? = some (.cells #[.int .i64 ((pl (dx) 0 : Nat) : Int), .int .i64 ((pl (dx) 1 : Nat) : Int), .int .i64 ((pl (dx) 2 : Nat) : Int), .int .i64 ((pl (dx) 3 : Nat) : Int), .int .i64 ((pl (dx) 4 : Nat) : Int), .int .i64 ((pl (dx) 5 : Nat) : Int)] 68) by rw [hw4.out]; exact hb_old _ (hb_new _ _))
  have Y4 := Lib.hid (show w4.heap[w3.heap.size + 1]? = some (.cells #[.int .i64 ((pl (dy) 0 : Nat) : Int), .int .i64 ((pl (dy) 1 : Nat) : Int), .int .i64 ((pl (dy) 2 : Nat) : Int), .int .i64 ((pl (dy) 3 : Nat) : Int), .int .i64 ((pl (dy) 4 : Nat) : Int), .int .i64 ((pl (dy) 5 : Nat) : Int)] 68) by rw [hw4.out]; exact hb_new' _ _ _ (by simp))
  have F4 := Lib.hid (hb_below hb4.out (hb_lt F.out) F.out)
  have hbw := Lib.hid (bt1 hb2.out hb4.out)
  go_upto_region 4 with fail
  rw [← hw4.out]
  have f0 : w4.cell? ⟨w.heap.size, 0, none⟩ = some pv := hb_cell F4.out 0
  have f1 : w4.cell? ⟨w.heap.size, 1, none⟩ = some bv := hb_cell F4.out 1
  have x0 : w4.cell? ⟨w3.heap.size, 0, none⟩ = some (.int .i64 ((pl dx 0 : Nat) : Int)) := hb_cell X4.out 0
  have x1 : w4.cell? ⟨w3.heap.size, 1, none⟩ = some (.int .i64 ((pl dx 1 : Nat) : Int)) := hb_cell X4.out 1
  have x2 : w4.cell? ⟨w3.heap.size, 2, none⟩ = some (.int .i64 ((pl dx 2 : Nat) : Int)) := hb_cell X4.out 2
  have x3 : w4.cell? ⟨w3.heap.size, 3, none⟩ = some (.int .i64 ((pl dx 3 : Nat) : Int)) := hb_cell X4.out 3
  have x4 : w4.cell? ⟨w3.heap.size, 4, none⟩ = some (.int .i64 ((pl dx 4 : Nat) : Int)) := hb_cell X4.out 4
  have x5 : w4.cell? ⟨w3.heap.size, 5, none⟩ = some (.int .i64 ((pl dx 5 : Nat) : Int)) := hb_cell X4.out 5
  have y0 : w4.cell? ⟨w3.heap.size + 1, 0, none⟩ = some (.int .i64 ((pl dy 0 : Nat) : Int)) := hb_cell Y4.out 0
  have y1 : w4.cell? ⟨w3.heap.size + 1, 1, none⟩ = some (.int .i64 ((pl dy 1 : Nat) : Int)) := hb_cell Y4.out 1
  have y2 : w4.cell? ⟨w3.heap.size + 1, 2, none⟩ = some (.int .i64 ((pl dy 2 : Nat) : Int)) := hb_cell Y4.out 2
  have y3 : w4.cell? ⟨w3.heap.size + 1, 3, none⟩ = some (.int .i64 ((pl dy 3 : Nat) : Int)) := hb_cell Y4.out 3
  have y4 : w4.cell? ⟨w3.heap.size + 1, 4, none⟩ = some (.int .i64 ((pl dy 4 : Nat) : Int)) := hb_cell Y4.out 4
  have y5 : w4.cell? ⟨w3.heap.size + 1, 5, none⟩ = some (.int .i64 ((pl dy 5 : Nat) : Int)) := hb_cell Y4.out 5
  have l1 := hb_lt F4.out
  have l2 := hb_lt X4.out
  have l3 := hb_lt Y4.out
  have hfd := fldS0
  clear hb3
  go_cut [11, 12] (fun t1 t2 wx => t1 = .int .i64 ((o.getD 0 : Nat) : Int) ∧ t2 = .bool o.isSome ∧ Below w4.heap.size w4 wx)
  case first =>
    have hSS : (w4.cell? ⟨w.heap.size, 0, none⟩ = some pv ∧ w4.cell? ⟨w.heap.size, 1, none⟩ = some bv ∧ w4.cell? ⟨w3.heap.size, 0, none⟩ = some (.int .i64 ((pl dx 0 : Nat) : Int)) ∧ w4.cell? ⟨w3.heap.size, 1, none⟩ = some (.int .i64 ((pl dx 1 : Nat) : Int)) ∧ w4.cell? ⟨w3.heap.size, 2, none⟩ = some (.int .i64 ((pl dx 2 : Nat) : Int)) ∧ w4.cell? ⟨w3.heap.size, 3, none⟩ = some (.int .i64 ((pl dx 3 : Nat) : Int)) ∧ w4.cell? ⟨w3.heap.size, 4, none⟩ = some (.int .i64 ((pl dx 4 : Nat) : Int)) ∧ w4.cell? ⟨w3.heap.size, 5, none⟩ = some (.int .i64 ((pl dx 5 : Nat) : Int)) ∧ w4.cell? ⟨w3.heap.size + 1, 0, none⟩ = some (.int .i64 ((pl dy 0 : Nat) : Int)) ∧ w4.cell? ⟨w3.heap.size + 1, 1, none⟩ = some (.int .i64 ((pl dy 1 : Nat) : Int)) ∧ w4.cell? ⟨w3.heap.size + 1, 2, none⟩ = some (.int .i64 ((pl dy 2 : Nat) : Int)) ∧ w4.cell? ⟨w3.heap.size + 1, 3, none⟩ = some (.int .i64 ((pl dy 3 : Nat) : Int)) ∧ w4.cell? ⟨w3.heap.size + 1, 4, none⟩ = some (.int .i64 ((pl dy 4 : Nat) : Int)) ∧ w4.cell? ⟨w3.heap.size + 1, 5, none⟩ = some (.int .i64 ((pl dy 5 : Nat) : Int))) ∧ (w.heap.size < w4.heap.size ∧ w3.heap.size < w4.heap.size ∧ w3.heap.size + 1 < w4.heap.size) ∧ Below w4.heap.size w4 w4 := ⟨⟨f0, f1, x0, x1, x2, x3, x4, x5, y0, y1, y2, y3, y4, y5⟩, ⟨l1, l2, l3⟩, Below.refl _ _⟩
    go_region_held3 (fun v => (v.cell? ⟨w.heap.size, 0, none⟩ = some pv ∧ v.cell? ⟨w.heap.size, 1, none⟩ = some bv ∧ v.cell? ⟨w3.heap.size, 0, none⟩ = some (.int .i64 ((pl dx 0 : Nat) : Int)) ∧ v.cell? ⟨w3.heap.size, 1, none⟩ = some (.int .i64 ((pl dx 1 : Nat) : Int)) ∧ v.cell? ⟨w3.heap.size, 2, none⟩ = some (.int .i64 ((pl dx 2 : Nat) : Int)) ∧ v.cell? ⟨w3.heap.size, 3, none⟩ = some (.int .i64 ((pl dx 3 : Nat) : Int)) ∧ v.cell? ⟨w3.heap.size, 4, none⟩ = some (.int .i64 ((pl dx 4 : Nat) : Int)) ∧ v.cell? ⟨w3.heap.size, 5, none⟩ = some (.int .i64 ((pl dx 5 : Nat) : Int)) ∧ v.cell? ⟨w3.heap.size + 1, 0, none⟩ = some (.int .i64 ((pl dy 0 : Nat) : Int)) ∧ v.cell? ⟨w3.heap.size + 1, 1, none⟩ = some (.int .i64 ((pl dy 1 : Nat) : Int)) ∧ v.cell? ⟨w3.heap.size + 1, 2, none⟩ = some (.int .i64 ((pl dy 2 : Nat) : Int)) ∧ v.cell? ⟨w3.heap.size + 1, 3, none⟩ = some (.int .i64 ((pl dy 3 : Nat) : Int)) ∧ v.cell? ⟨w3.heap.size + 1, 4, none⟩ = some (.int .i64 ((pl dy 4 : Nat) : Int)) ∧ v.cell? ⟨w3.heap.size + 1, 5, none⟩ = some (.int .i64 ((pl dy 5 : Nat) : Int))) ∧ (w.heap.size < v.heap.size ∧ w3.heap.size < v.heap.size ∧ w3.heap.size + 1 < v.heap.size) ∧ Below w4.heap.size w4 v) (first | assumption | exact keep14 (Below.refl _ _).drew (by assumption) | exact keep14 (ba1 _ _) (by assumption) | exact keep14 (ba1 _ _).drew (by assumption))
      (first | (go_at_call 47; refine (hB.out _ ?_ _ ?_).mono ?_; (exact bt1 hbw.out (keep14B (by assumption))); (first | exact (own_plc _ dy).rg | exact (own_plc _ dy).rg.below (Below.refl _ _).drew); rintro e w' ⟨b1, b2, k, rfl, hk, hm, -, -, -, -, -, hb9⟩; have hbn := keep14 hb9 (by assumption); obtain ⟨D1, h1, h2⟩ := hm.one; have hlk := lkO hG hdy.out h1 h2; have hfar := hFar.out k hk; rw [hfar] at hlk))
    all_goals
      have hbf := keep14B hbn
      go_wp2_with fail
      go_meet
      exact ⟨rfl, rfl, hbf⟩
  case rest =>
    obtain ⟨rfl, rfl, hbx⟩ := hcut
    replace hbx := Lib.hid hbx
    go_wp2_with fail
    go_ret2; exact ⟨rfl, bt1 hbw.out hbx.out⟩
theorem FewestSlides_both (psI : List Int) (bs : List Blk) (x y : ByteArray) (hx : x.size ≤ maxLen) (hy : y.size ≤ maxLen) : ∃ r ok, (∀ w v, Bo w v psI bs → Calls Try.prog 13 #[v, .string x, .string y] w fun e w' => e = .returned (.tuple #[.int .i64 r, .bool ok]) ∧ Below w.heap.size w w') ∧ (∀ w v, Bo w v psI bs → Calls Try.prog 15 #[v, .string x, .string y] w fun e w' => e = .returned (.tuple #[.int .i64 r, .bool ok]) ∧ Below w.heap.size w w') := by
  rcases ask_cases psI bs x hx with ⟨h1, h2⟩ | ⟨ps, dx, rfl, hG, hd, hf, rfl, h1, h2⟩
  · rcases ask_cases psI bs y hy with ⟨k1, k2⟩ | ⟨ps, dy, rfl, hG, hd, hf, rfl, k1, k2⟩
    · exact ⟨0, false, fun w v hB => sFS_no v psI bs x y w hB (Lib.hid fun w v hB => boTwo_any v psI bs x y false false w hB (Lib.hid h1) (Lib.hid k1)), fun w v hB => iFS_no v psI bs x y w hB (Lib.hid fun w v hB => twoAP_no v psI bs x y [] [] false false rfl w hB (Lib.hid h2) (Lib.hid k2))⟩
    · exact ⟨0, false, fun w v hB => sFS_no v _ bs x _ w hB (Lib.hid fun w v hB => boTwo_any v _ bs x _ false true w hB (Lib.hid h1) (Lib.hid k1)), fun w v hB => iFS_no v _ bs x _ w hB (Lib.hid fun w v hB => twoAP_no v _ bs x _ [] dy false true rfl w hB (Lib.hid h2) (Lib.hid k2))⟩
  · rcases ask_cases (ints ps) bs y hy with ⟨k1, k2⟩ | ⟨qs, dy, e, hG', hd', hf', rfl, k1, k2⟩
    · exact ⟨0, false, fun w v hB => sFS_no v _ bs _ y w hB (Lib.hid fun w v hB => boTwo_any v _ bs _ y true false w hB (Lib.hid h1) (Lib.hid k1)), fun w v hB => iFS_no v _ bs _ y w hB (Lib.hid fun w v hB => twoAP_no v _ bs _ y dx [] true false rfl w hB (Lib.hid h2) (Lib.hid k2))⟩
    · have e2 : ps = qs := by
        have := congrArg (List.map Int.toNat) e
        simpa [ints, Function.comp_def] using this
      subst e2
      have hxU := (mem_U hG).2 ⟨hd, hf⟩
      have hyU := (mem_U hG).2 ⟨hd', hf'⟩
      exact ⟨_, _, fun w v hB => sFS_yes v ps bs dx dy w hG hB hxU hyU (Lib.hid fun w v hB => boTwo_any v _ bs _ _ true true w hB (Lib.hid h1) (Lib.hid k1)) _ rfl, fun w v hB => iFS_yes v ps bs _ _ dx dy w hG hB hxU hyU (Lib.hid fun w v hB => twoAP_yes v _ bs _ _ dx dy w hB (Lib.hid h2) (Lib.hid k2)) _ rfl⟩
end Go.Proofs.Ytcfeaaakfjilgaa
