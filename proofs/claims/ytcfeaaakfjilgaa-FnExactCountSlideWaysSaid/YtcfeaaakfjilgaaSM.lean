/- In how many ways so few slides lead from one state to another one: by the program. -/
import Derived.Test.YtcfeaaakfjilgaaSL
import Derived.Deep.DeepCutAuto
import Derived.Deep.RegionHeld3
import Derived.BigRegion
namespace Go.Proofs.Ytcfeaaakfjilgaa
set_option linter.unusedSimpArgs false
set_option linter.unusedVariables false
open Go Go.RowKit RM Go.Maps Go.WideMaps
set_option maxRecDepth 1000000 in
theorem iCW_no (v : Value) (psI : List Int) (bs : List Blk) (x y : ByteArray) (w : World) (h : Bo w v psI bs)
    (hA : Hid (∀ w v, Bo w v psI bs → Calls Try.prog 46 #[v, .string x, .string y] w fun e w' => e = .returned (.tuple #[(.agg #[.int .i64 0, .int .i64 0, .int .i64 0, .int .i64 0, .int .i64 0, .int .i64 0]), (.agg #[.int .i64 0, .int .i64 0, .int .i64 0, .int .i64 0, .int .i64 0, .int .i64 0]), .bool false]) ∧ Below w.heap.size w w')) :
    Calls Try.prog 24 #[v, .string x, .string y] w fun e w' => e = .returned (.tuple #[.int .i64 0, .bool false]) ∧ Below w.heap.size w w' := by
  have h0 := Lib.hid h
  obtain ⟨pv, bv, rfl, -, -⟩ := h
  obtain ⟨w2, hw2⟩ : ∃ w2, Hid (w2 = w.alloc (.cells #[pv, bv] 31)) := ⟨_, Lib.hid rfl⟩
  have hb2 : Hid (Below w.heap.size w w2) := Lib.hid (by rw [hw2.out]; exact ba1 w _)
  have hA2 := Lib.hid (hA.out w2 _ (h0.out.below hb2.out))
  go_enter Try.func24, Try.ntmps24
  go_wp2_with fail
  rw [← hw2.out]
  refine hA2.out.mono ?_; rintro e w3 ⟨rfl, hb3⟩
  replace hb3 := Lib.hid hb3
  have hb4 := Lib.hid (show Below w3.heap.size w3 ((w3.alloc (.cells #[.int .i64 0, .int .i64 0, .int .i64 0, .int .i64 0, .int .i64 0, .int .i64 0] 68)).alloc (.cells #[.int .i64 0, .int .i64 0, .int .i64 0, .int .i64 0, .int .i64 0, .int .i64 0] 68)) from (ba1 w3 _).alloc (by simp) _)
  go_wp2_with fail
  go_ret2; exact ⟨rfl, bt1 hb2.out (bt1 hb3.out hb4.out)⟩
set_option maxRecDepth 1000000 in
set_option maxHeartbeats 4000000 in
theorem iCW_yes (v : Value) (ps : List Nat) (bs : List Blk) (x y : ByteArray) (dx dy : List Nat) (w : World) (hG : GB ps bs) (h : Bo w v (ints ps) bs) (hxU : dx ∈ allU ps bs) (hyU : dy ∈ allU ps bs)
    (hA : Hid (∀ w v, Bo w v (ints ps) bs → Calls Try.prog 46 #[v, .string x, .string y] w fun e w' => e = .returned (.tuple #[(.agg #[.int .i64 ((pl (dx) 0 : Nat) : Int), .int .i64 ((pl (dx) 1 : Nat) : Int), .int .i64 ((pl (dx) 2 : Nat) : Int), .int .i64 ((pl (dx) 3 : Nat) : Int), .int .i64 ((pl (dx) 4 : Nat) : Int), .int .i64 ((pl (dx) 5 : Nat) : Int)]), (.agg #[.int .i64 ((pl (dy) 0 : Nat) : Int), .int .i64 ((pl (dy) 1 : Nat) : Int), .int .i64 ((pl (dy) 2 : Nat) : Int), .int .i64 ((pl (dy) 3 : Nat) : Int), .int .i64 ((pl (dy) 4 : Nat) : Int), .int .i64 ((pl (dy) 5 : Nat) : Int)]), .bool true]) ∧ Below w.heap.size w w')) (n : Nat) (ho : (fin MW (nbS ps bs) (allU ps bs) dx).way dy = n) (r : Int) (ok : Bool) (hr1 : Hid (1000000000000000 < n → r = 0 ∧ ok = false)) (hr2 : Hid (¬ 1000000000000000 < n → r = (n : Int) ∧ ok = true)) :
    Calls Try.prog 24 #[v, .string x, .string y] w fun e w' => e = .returned (.tuple #[.int .i64 r, .bool ok]) ∧ Below w.heap.size w w' := by
  have h0 := Lib.hid h
  obtain ⟨pv, bv, rfl, -, -⟩ := h
  have hdy := Lib.hid ((mem_U hG).1 hyU).1
  obtain ⟨w2, hw2⟩ : ∃ w2, Hid (w2 = w.alloc (.cells #[pv, bv] 31)) := ⟨_, Lib.hid rfl⟩
  have hb2 : Hid (Below w.heap.size w w2) := Lib.hid (by rw [hw2.out]; exact ba1 w _)
  have F := Lib.hid (show w2.heap[w.heap.size]? = some (.cells #[pv, bv] 31) by rw [hw2.out]; exact hb_new _ _)
  have hA2 := Lib.hid (hA.out w2 _ (h0.out.below hb2.out))
  have hB := Lib.hid (fun w' hb p hr => searchS_any pv bv ps bs dx [dy] p 1 1 MW w' rfl hG (h0.out.below hb) hxU (fun e he => by rw [List.mem_singleton.1 he]; exact hdy.out) rfl (by omega) hr)
  have hFar := Lib.hid (show ∀ k, ((run MW (nbS ps bs) dx k).q[k]? = none ∨ ∃ t ∈ [dy], (run MW (nbS ps bs) dx k).q[k]? = some t) → (wyF (run MW (nbS ps bs) dx k) dy).getD 0 = n from by
    intro k hk
    rw [← ho]
    rcases hk with hk | ⟨t, ht, hk⟩
    · rw [(univS hG).fin_at hxU hk]
      cases e : (fin MW (nbS ps bs) (allU ps bs) dx).far dy with
      | none => rw [wy_none e, (fin_sb hG hxU).z dy e]; rfl
      | some m => rw [wy_some e]; rfl
    · rw [List.mem_singleton.1 ht] at hk
      rw [(univS hG).way_fin hxU hk, wy_some ((run_ok MW (nbS ps bs) dx k).dst (List.mem_of_getElem? hk))]; rfl)
  go_enter Try.func24, Try.ntmps24
  go_wp2_with fail
  rw [← hw2.out]
  refine hA2.out.mono ?_; rintro e w3 ⟨rfl, hb3⟩
  obtain ⟨w4, hw4⟩ : ∃ w4, Hid (w4 = (w3.alloc (.cells #[.int .i64 ((pl (dx) 0 : Nat) : Int), .int .i64 ((pl (dx) 1 : Nat) : Int), .int .i64 ((pl (dx) 2 : Nat) : Int), .int .i64 ((pl (dx) 3 : Nat) : Int), .int .i64 ((pl (dx) 4 : Nat) : Int), .int .i64 ((pl (dx) 5 : Nat) : Int)] 68)).alloc (.cells #[.int .i64 ((pl (dy) 0 : Nat) : Int), .int .i64 ((pl (dy) 1 : Nat) : Int), .int .i64 ((pl (dy) 2 : Nat) : Int), .int .i64 ((pl (dy) 3 : Nat) : Int), .int .i64 ((pl (dy) 4 : Nat) : Int), .int .i64 ((pl (dy) 5 : Nat) : Int)] 68)) := ⟨_, Lib.hid rfl⟩
  have hb4 := Lib.hid (show Below w2.heap.size w2 w4 by rw [hw4.out]; exact bt1 hb3 ((ba1 w3 _).alloc (by simp) _))
  have X4 := Lib.hid (show w4.heap[w3.heap.size]? = some (.cells #[.int .i64 ((pl (dx) 0 : Nat) : Int), .int .i64 ((pl (dx) 1 : Nat) : Int), .int .i64 ((pl (dx) 2 : Nat) : Int), .int .i64 ((pl (dx) 3 : Nat) : Int), .int .i64 ((pl (dx) 4 : Nat) : Int), .int .i64 ((pl (dx) 5 : Nat) : Int)] 68) by rw [hw4.out]; exact hb_old _ (hb_new _ _))
  have Y4 := Lib.hid (show w4.heap[w3.heap.size + 1]? = some (.cells #[.int .i64 ((pl (dy) 0 : Nat) : Int), .int .i64 ((pl (dy) 1 : Nat) : Int), .int .i64 ((pl (dy) 2 : Nat) : Int), .int .i64 ((pl (dy) 3 : Nat) : Int), .int .i64 ((pl (dy) 4 : Nat) : Int), .int .i64 ((pl (dy) 5 : Nat) : Int)] 68) by rw [hw4.out]; exact hb_new' _ _ _ (by simp))
  have F4 := Lib.hid (hb_below hb4.out (hb_lt F.out) F.out)
  have hbw := Lib.hid (bt1 hb2.out hb4.out)
  go_upto_region 4 with fail
  rw [← hw4.out]
  have f0 : w4.cell? ⟨w.heap.size, 0, none⟩ = some pv := hb_cell F4.out 0
  have f1 : w4.cell? ⟨w.heap.size, 1, none⟩ = some bv := hb_cell F4.out 1
  have x0 : w4.cell? ⟨w3.heap.size, 0, none⟩ = some (.int .i64 ((pl dx 0 : Nat) : Int)) := hb_cell X4.out 0
  have x1 : w4.cell? ⟨w3.heap.size, 1, none⟩ = some (.int .i64 ((pl dx 1 : Nat) : Int)) := hb_cell X4.out 1
  have x2 : w4.cell? ⟨w3.heap.size, 2, none⟩ = some (.int .i64 ((pl dx 2 : Nat) : Int)) := hb_cell X4.out 2
  have x3 : w4.cell? ⟨w3.heap.size, 3, none⟩ = some (.int .i64 ((pl dx 3 : Nat) : Int)) := hb_cell X4.out 3
  have x4 : w4.cell? ⟨w3.heap.size, 4, none⟩ = some (.int .i64 ((pl dx 4 : Nat) : Int)) := hb_cell X4.out 4
  have x5 : w4.cell? ⟨w3.heap.size, 5, none⟩ = some (.int .i64 ((pl dx 5 : Nat) : Int)) := hb_cell X4.out 5
  have y0 : w4.cell? ⟨w3.heap.size + 1, 0, none⟩ = some (.int .i64 ((pl dy 0 : Nat) : Int)) := hb_cell Y4.out 0
  have y1 : w4.cell? ⟨w3.heap.size + 1, 1, none⟩ = some (.int .i64 ((pl dy 1 : Nat) : Int)) := hb_cell Y4.out 1
  have y2 : w4.cell? ⟨w3.heap.size + 1, 2, none⟩ = some (.int .i64 ((pl dy 2 : Nat) : Int)) := hb_cell Y4.out 2
  have y3 : w4.cell? ⟨w3.heap.size + 1, 3, none⟩ = some (.int .i64 ((pl dy 3 : Nat) : Int)) := hb_cell Y4.out 3
  have y4 : w4.cell? ⟨w3.heap.size + 1, 4, none⟩ = some (.int .i64 ((pl dy 4 : Nat) : Int)) := hb_cell Y4.out 4
  have y5 : w4.cell? ⟨w3.heap.size + 1, 5, none⟩ = some (.int .i64 ((pl dy 5 : Nat) : Int)) := hb_cell Y4.out 5
  have l1 := hb_lt F4.out
  have l2 := hb_lt X4.out
  have l3 := hb_lt Y4.out
  have hfd := fldS1
  clear hb3
  go_cut [11] (fun t1 wx => t1 = .int .i64 (n : Int) ∧ Below w4.heap.size w4 wx)
  case first =>
    have hSS : (w4.cell? ⟨w.heap.size, 0, none⟩ = some pv ∧ w4.cell? ⟨w.heap.size, 1, none⟩ = some bv ∧ w4.cell? ⟨w3.heap.size, 0, none⟩ = some (.int .i64 ((pl dx 0 : Nat) : Int)) ∧ w4.cell? ⟨w3.heap.size, 1, none⟩ = some (.int .i64 ((pl dx 1 : Nat) : Int)) ∧ w4.cell? ⟨w3.heap.size, 2, none⟩ = some (.int .i64 ((pl dx 2 : Nat) : Int)) ∧ w4.cell? ⟨w3.heap.size, 3, none⟩ = some (.int .i64 ((pl dx 3 : Nat) : Int)) ∧ w4.cell? ⟨w3.heap.size, 4, none⟩ = some (.int .i64 ((pl dx 4 : Nat) : Int)) ∧ w4.cell? ⟨w3.heap.size, 5, none⟩ = some (.int .i64 ((pl dx 5 : Nat) : Int)) ∧ w4.cell? ⟨w3.heap.size + 1, 0, none⟩ = some (.int .i64 ((pl dy 0 : Nat) : Int)) ∧ w4.cell? ⟨w3.heap.size + 1, 1, none⟩ = some (.int .i64 ((pl dy 1 : Nat) : Int)) ∧ w4.cell? ⟨w3.heap.size + 1, 2, none⟩ = some (.int .i64 ((pl dy 2 : Nat) : Int)) ∧ w4.cell? ⟨w3.heap.size + 1, 3, none⟩ = some (.int .i64 ((pl dy 3 : Nat) : Int)) ∧ w4.cell? ⟨w3.heap.size + 1, 4, none⟩ = some (.int .i64 ((pl dy 4 : Nat) : Int)) ∧ w4.cell? ⟨w3.heap.size + 1, 5, none⟩ = some (.int .i64 ((pl dy 5 : Nat) : Int))) ∧ (w.heap.size < w4.heap.size ∧ w3.heap.size < w4.heap.size ∧ w3.heap.size + 1 < w4.heap.size) ∧ Below w4.heap.size w4 w4 := ⟨⟨f0, f1, x0, x1, x2, x3, x4, x5, y0, y1, y2, y3, y4, y5⟩, ⟨l1, l2, l3⟩, Below.refl _ _⟩
    go_region_held3 (fun v => (v.cell? ⟨w.heap.size, 0, none⟩ = some pv ∧ v.cell? ⟨w.heap.size, 1, none⟩ = some bv ∧ v.cell? ⟨w3.heap.size, 0, none⟩ = some (.int .i64 ((pl dx 0 : Nat) : Int)) ∧ v.cell? ⟨w3.heap.size, 1, none⟩ = some (.int .i64 ((pl dx 1 : Nat) : Int)) ∧ v.cell? ⟨w3.heap.size, 2, none⟩ = some (.int .i64 ((pl dx 2 : Nat) : Int)) ∧ v.cell? ⟨w3.heap.size, 3, none⟩ = some (.int .i64 ((pl dx 3 : Nat) : Int)) ∧ v.cell? ⟨w3.heap.size, 4, none⟩ = some (.int .i64 ((pl dx 4 : Nat) : Int)) ∧ v.cell? ⟨w3.heap.size, 5, none⟩ = some (.int .i64 ((pl dx 5 : Nat) : Int)) ∧ v.cell? ⟨w3.heap.size + 1, 0, none⟩ = some (.int .i64 ((pl dy 0 : Nat) : Int)) ∧ v.cell? ⟨w3.heap.size + 1, 1, none⟩ = some (.int .i64 ((pl dy 1 : Nat) : Int)) ∧ v.cell? ⟨w3.heap.size + 1, 2, none⟩ = some (.int .i64 ((pl dy 2 : Nat) : Int)) ∧ v.cell? ⟨w3.heap.size + 1, 3, none⟩ = some (.int .i64 ((pl dy 3 : Nat) : Int)) ∧ v.cell? ⟨w3.heap.size + 1, 4, none⟩ = some (.int .i64 ((pl dy 4 : Nat) : Int)) ∧ v.cell? ⟨w3.heap.size + 1, 5, none⟩ = some (.int .i64 ((pl dy 5 : Nat) : Int))) ∧ (w.heap.size < v.heap.size ∧ w3.heap.size < v.heap.size ∧ w3.heap.size + 1 < v.heap.size) ∧ Below w4.heap.size w4 v) (first | assumption | exact keep14 (Below.refl _ _).drew (by assumption) | exact keep14 (ba1 _ _) (by assumption) | exact keep14 (ba1 _ _).drew (by assumption))
      (first | (go_at_call 47; refine (hB.out _ ?_ _ ?_).mono ?_; (exact bt1 hbw.out (keep14B (by assumption))); (first | exact (own_plc _ dy).rg | exact (own_plc _ dy).rg.below (Below.refl _ _).drew); rintro e w' ⟨b1, b2, k, rfl, hk, hm, -, -, -, -, -, hb9⟩; have hbn := keep14 hb9 (by assumption); obtain ⟨D1, h1, h2⟩ := hm.two; have hlk := lkI hG hdy.out h1 h2; have hfar := hFar.out k hk; rw [hfar] at hlk))
    all_goals
      have hbf := keep14B hbn
      go_wp2_with fail
      go_meet
      exact ⟨rfl, hbf⟩
  case rest =>
    obtain ⟨rfl, hbx⟩ := hcut
    replace hbx := Lib.hid hbx
    by_cases hbig : 1000000000000000 < n
    · have hc : decide ((n : Int) > 1000000000000000) = true := by rw [decide_eq_true]; omega
      obtain ⟨rfl, rfl⟩ := hr1.out hbig
      replace hbig := Lib.hid hbig
      go_wp2_with fail
      go_ret2; exact ⟨rfl, bt1 hbw.out hbx.out⟩
    · have hc : decide ((n : Int) > 1000000000000000) = false := by rw [decide_eq_false]; omega
      obtain ⟨rfl, rfl⟩ := hr2.out hbig
      replace hbig := Lib.hid hbig
      go_wp2_with fail
      go_ret2; exact ⟨rfl, bt1 hbw.out hbx.out⟩
end Go.Proofs.Ytcfeaaakfjilgaa
