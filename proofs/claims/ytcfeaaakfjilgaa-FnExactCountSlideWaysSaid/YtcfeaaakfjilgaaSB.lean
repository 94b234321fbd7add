/- What a search tells of a state, and ways that are added to one: by the program. -/
import Derived.Test.YtcfeaaakfjilgaaSA
import Derived.RegionTactic
import Derived.BigRegion
import Derived.BigQuiet
namespace Go.Proofs.Ytcfeaaakfjilgaa
set_option linter.unusedSimpArgs false
set_option linter.unusedVariables false
open Go Go.RowKit RM Go.Maps Go.WideMaps
/-- all but two blocks stays as it was -/
structure K2 (b1 b2 : Nat) (w w' : World) : Prop where
  os : w'.os = w.os
  tape : w'.tape = w.tape
  output : w'.output = w.output
  size : w.heap.size ≤ w'.heap.size
  block : ∀ k, k < w.heap.size → k ≠ b1 → k ≠ b2 → w'.heap[k]? = w.heap[k]?
theorem K2.refl (b1 b2 : Nat) (w : World) : K2 b1 b2 w w := ⟨rfl, rfl, rfl, Nat.le_refl _, fun _ _ _ _ => rfl⟩
theorem K2.trans {b1 b2 : Nat} {w w' w'' : World} (h : K2 b1 b2 w w') (k : K2 b1 b2 w' w'') : K2 b1 b2 w w'' := ⟨k.os.trans h.os, k.tape.trans h.tape, k.output.trans h.output, Nat.le_trans h.size k.size, fun i hi h1 h2 => (k.block i (Nat.lt_of_lt_of_le hi h.size) h1 h2).trans (h.block i hi h1 h2)⟩
theorem K2.below {b1 b2 : Nat} {w w' : World} (h : Below w.heap.size w w') : K2 b1 b2 w w' := ⟨h.os, h.tape, h.output, h.size, fun i hi _ _ => h.block i hi⟩
theorem K2.one {b1 b2 : Nat} {w w' : World} (h : w.grownBy w' (some b1)) : K2 b1 b2 w w' := ⟨h.os, h.tape, h.output, h.size, fun i hi h1 _ => h.block i hi (fun e => h1 (Option.some.inj e))⟩
theorem K2.two {b1 b2 : Nat} {w w' : World} (h : w.grownBy w' (some b2)) : K2 b1 b2 w w' := ⟨h.os, h.tape, h.output, h.size, fun i hi _ h2 => h.block i hi (fun e => h2 (Option.some.inj e))⟩
theorem K2.drew {b1 b2 : Nat} (w : World) : K2 b1 b2 w w.drew := ⟨rfl, rfl, rfl, Nat.le_refl _, fun _ _ _ _ => rfl⟩
theorem K2.out {b1 b2 B : Nat} {w0 w w' : World} (h : K2 b1 b2 w w') (h0 : Below B w0 w) (hB : B ≤ w0.heap.size) (h1 : B ≤ b1) (h2 : B ≤ b2) : Below B w0 w' := ⟨h.os.trans h0.os, h.tape.trans h0.tape, h.output.trans h0.output, Nat.le_trans h0.size h.size, fun i hi => (h.block i (Nat.lt_of_lt_of_le hi (Nat.le_trans hB h0.size)) (by omega) (by omega)).trans (h0.block i hi)⟩
set_option maxRecDepth 1000000 in
theorem hasR_any (ps : List Nat) (bs : List Blk) (d : List Nat) (b1 b2 : Nat) (D : DataW Unit) (f : List Nat → Option Nat) (w : World) (hG : GB ps bs) (hd : isSt ps d) (hm : MapP w b1 D) (hF : MF ps D f) :
    Calls Try.prog 52 #[.agg #[.map (some b1), .map (some b2)], (.agg #[.int .i64 ((pl (d) 0 : Nat) : Int), .int .i64 ((pl (d) 1 : Nat) : Int), .int .i64 ((pl (d) 2 : Nat) : Int), .int .i64 ((pl (d) 3 : Nat) : Int), .int .i64 ((pl (d) 4 : Nat) : Int), .int .i64 ((pl (d) 5 : Nat) : Int)])] w fun e w' => e = .returned (.bool (f d).isSome) ∧ Below w.heap.size w w' := by
  have hkey := keyS hG hd
  have hh := hF.has d hd
  obtain ⟨w2, hw2⟩ : ∃ w2, Hid (w2 = (w.alloc (.cells #[.map (some b1), .map (some b2)] 73)).alloc (.cells #[.int .i64 ((pl (d) 0 : Nat) : Int), .int .i64 ((pl (d) 1 : Nat) : Int), .int .i64 ((pl (d) 2 : Nat) : Int), .int .i64 ((pl (d) 3 : Nat) : Int), .int .i64 ((pl (d) 4 : Nat) : Int), .int .i64 ((pl (d) 5 : Nat) : Int)] 68)) := ⟨_, Lib.hid rfl⟩
  have hb2 := Lib.hid (show Below w.heap.size w w2 by rw [hw2.out]; exact bt1 (ba1 w _) (ba1 _ _))
  have hm2 := Lib.hid (show MapP w2 b1 D by rw [hw2.out]; exact (hm.alloc _).alloc _)
  have X2 := Lib.hid (show w2.heap[w.heap.size]? = some (.cells #[.map (some b1), .map (some b2)] 73) by rw [hw2.out]; exact hb_old _ (hb_new _ _))
  have A2 := Lib.hid (show w2.heap[w.heap.size + 1]? = some (.cells #[.int .i64 ((pl (d) 0 : Nat) : Int), .int .i64 ((pl (d) 1 : Nat) : Int), .int .i64 ((pl (d) 2 : Nat) : Int), .int .i64 ((pl (d) 3 : Nat) : Int), .int .i64 ((pl (d) 4 : Nat) : Int), .int .i64 ((pl (d) 5 : Nat) : Int)] 68) by rw [hw2.out]; exact hb_new' _ _ _ (by simp))
  have x0 : w2.cell? ⟨w.heap.size, 0, none⟩ = some (.map (some b1)) := hb_cell X2.out 0
  have x1 : w2.cell? ⟨w.heap.size, 1, none⟩ = some (.map (some b2)) := hb_cell X2.out 1
  have a := hb_cell A2.out
  have a0 : w2.cell? ⟨w.heap.size + 1, 0, none⟩ = some (.int .i64 ((pl d 0 : Nat) : Int)) := a 0
  have a1 : w2.cell? ⟨w.heap.size + 1, 1, none⟩ = some (.int .i64 ((pl d 1 : Nat) : Int)) := a 1
  have a2 : w2.cell? ⟨w.heap.size + 1, 2, none⟩ = some (.int .i64 ((pl d 2 : Nat) : Int)) := a 2
  have a3 : w2.cell? ⟨w.heap.size + 1, 3, none⟩ = some (.int .i64 ((pl d 3 : Nat) : Int)) := a 3
  have a4 : w2.cell? ⟨w.heap.size + 1, 4, none⟩ = some (.int .i64 ((pl d 4 : Nat) : Int)) := a 4
  have a5 : w2.cell? ⟨w.heap.size + 1, 5, none⟩ = some (.int .i64 ((pl d 5 : Nat) : Int)) := a 5
  have l0 := hb_lt A2.out
  clear a

  obtain ⟨v, qs, hrun, hv⟩ := hm2.out.look_ok lawP Try.underlying71 (Try.zeroValue3 w2) (plainElem_int (H := Unit) Try.underlying3 (by decide)) hkey
  obtain ⟨c, rfl, -, -⟩ := plainElem_int_inv Try.underlying3 hv
  clear hkey hm hF hv
  go_enter Try.func52, Try.ntmps52
  go_wp2_with fail
  rw [← hw2.out]
  go_wp2_with fail
  rw [hrun]
  go_wp2_with fail
  go_ret; exact ⟨rfl, hb2.out⟩
/-- the ways, as a map has them -/
def wyF (st : Sr (List Nat)) : List Nat → Option Nat := fun u => match st.far u with | none => none | some _ => some (st.way u)
set_option maxRecDepth 1000000 in
theorem lkI {ps : List Nat} {bs : List Blk} {d : List Nat} {b : Nat} {D : DataW Unit} {f : List Nat → Option Nat} {w : World} (hG : GB ps bs) (hd : isSt ps d) (hm : MapP w b D) (hF : MF ps D f) : (Instr.lookup 71 (.map (some b)) (.agg #[.int .i64 ((pl (d) 0 : Nat) : Int), .int .i64 ((pl (d) 1 : Nat) : Int), .int .i64 ((pl (d) 2 : Nat) : Int), .int .i64 ((pl (d) 3 : Nat) : Int), .int .i64 ((pl (d) 4 : Nat) : Int), .int .i64 ((pl (d) 5 : Nat) : Int)]) false).run Try.prog w = .ok (.int .i64 (((f d).getD 0 : Nat) : Int)) w := by
  obtain ⟨c, h1, h2, -⟩ := hm.lookup_int lawP Try.underlying71 Try.underlying3 (Try.zeroValue3 w) (keyS hG hd)
  rw [hF.at_ d hd] at h2
  have e : (((f d).getD 0 : Nat) : Int) = c := by
    have := h2; injection this with this; injection this
  rw [h1, e]
set_option maxRecDepth 1000000 in
theorem lkO {ps : List Nat} {bs : List Blk} {d : List Nat} {b : Nat} {D : DataW Unit} {f : List Nat → Option Nat} {w : World} (hG : GB ps bs) (hd : isSt ps d) (hm : MapP w b D) (hF : MF ps D f) : (Instr.lookup 71 (.map (some b)) (.agg #[.int .i64 ((pl (d) 0 : Nat) : Int), .int .i64 ((pl (d) 1 : Nat) : Int), .int .i64 ((pl (d) 2 : Nat) : Int), .int .i64 ((pl (d) 3 : Nat) : Int), .int .i64 ((pl (d) 4 : Nat) : Int), .int .i64 ((pl (d) 5 : Nat) : Int)]) true).run Try.prog w = .ok (.tuple #[.int .i64 (((f d).getD 0 : Nat) : Int), .bool (f d).isSome]) w := by
  obtain ⟨v, qs, h1, h2⟩ := hm.look_ok lawP Try.underlying71 (Try.zeroValue3 w) (plainElem_int (H := Unit) Try.underlying3 (by decide)) (keyS hG hd)
  obtain ⟨c, rfl, h3, -⟩ := plainElem_int_inv Try.underlying3 h2
  rw [hF.at_ d hd] at h3
  have e : (((f d).getD 0 : Nat) : Int) = c := by
    have := h3; injection this with this; injection this with this; injection this
  rw [h1, e, hF.has d hd]
set_option maxRecDepth 1000000 in
theorem upI {ps : List Nat} {bs : List Blk} {d : List Nat} {b : Nat} {D : DataW Unit} {f : List Nat → Option Nat} {w : World} (hG : GB ps bs) (hd : isSt ps d) (hm : MapP w b D) (hF : MF ps D f) (hz : Maps.size D ≤ 100000) (n : Nat) (hn : n ≤ 1000000000000001) :
    ∃ w', (Instr.mapUpdate 71 (.map (some b)) (.agg #[.int .i64 ((pl (d) 0 : Nat) : Int), .int .i64 ((pl (d) 1 : Nat) : Int), .int .i64 ((pl (d) 2 : Nat) : Int), .int .i64 ((pl (d) 3 : Nat) : Int), .int .i64 ((pl (d) 4 : Nat) : Int), .int .i64 ((pl (d) 5 : Nat) : Int)]) (.int .i64 (n : Int))).run Try.prog w = .ok () w' ∧ ∃ D', MapP w' b D' ∧ MF ps D' (fun u => if u = d then some n else f u) ∧ w.grownBy w' (some b) := by
  have hw : (Lit.int .i64 (n : Int)).wf = true := by
    show (decide (IntKind.i64.min ≤ (n : Int)) && decide ((n : Int) ≤ IntKind.i64.max)) = true
    rw [Bool.and_eq_true, decide_eq_true_eq, decide_eq_true_eq]
    show (-9223372036854775808 : Int) ≤ (n : Int) ∧ (n : Int) ≤ 9223372036854775807
    omega
  have hlt : Maps.size D < maxLen := Nat.lt_of_le_of_lt hz (by decide)
  obtain ⟨w', h1, h2, h3⟩ := hm.update lawP Try.underlying71 hlt (keyS hG hd) (plainElem_int (H := Unit) Try.underlying3 hw)
  exact ⟨w', h1, _, ownP_tight h2, hF.put hG hd n (h2.isMap), h3⟩
theorem minI0 (a M : Nat) : ((min a M : Nat) : Int) = min (a : Int) (M : Int) := by omega
theorem minI (a : Nat) : ((min a 1000000000000001 : Nat) : Int) = min (a : Int) 1000000000000001 := minI0 a 1000000000000001
theorem sumI (o wy : Nat) (ho : o ≤ 1000000000000001) (hwy : wy ≤ 1000000000000001) : wrap64 ((o : Int) + (wy : Int)) = (o : Int) + (wy : Int) := by unfold wrap64; omega
set_option maxRecDepth 1000000 in
set_option maxHeartbeats 2000000 in
theorem addW_new (ps : List Nat) (bs : List Blk) (d : List Nat) (b1 b2 sl wy : Nat) (D1 D2 : DataW Unit) (f1 f2 : List Nat → Option Nat) (w : World) (hG : GB ps bs) (hd : isSt ps d) (hm1 : MapP w b1 D1) (hF1 : MF ps D1 f1) (hm2 : MapP w b2 D2) (hF2 : MF ps D2 f2) (hne : b1 ≠ b2)
    (hz1 : Maps.size D1 ≤ 1000) (hz2 : Maps.size D2 ≤ 1000) (hsl : sl ≤ 100000) (hwy : wy ≤ 1000000000000001) (h1 : f1 d = none) (h2 : f2 d = none) :
    Calls Try.prog 79 #[.agg #[.map (some b1), .map (some b2)], (.agg #[.int .i64 ((pl (d) 0 : Nat) : Int), .int .i64 ((pl (d) 1 : Nat) : Int), .int .i64 ((pl (d) 2 : Nat) : Int), .int .i64 ((pl (d) 3 : Nat) : Int), .int .i64 ((pl (d) 4 : Nat) : Int), .int .i64 ((pl (d) 5 : Nat) : Int)]), .int .i64 sl, .int .i64 wy] w fun e w' => e = .returned (.bool true) ∧ ∃ D1' D2', MapP w' b1 D1' ∧ MF ps D1' (fun u => if u = d then some sl else f1 u) ∧ MapP w' b2 D2' ∧ MF ps D2' (fun u => if u = d then some (min wy 1000000000000001) else f2 u) ∧ K2 b1 b2 w w' := by
  obtain ⟨w2, hw2⟩ : ∃ w2, Hid (w2 = (w.alloc (.cells #[.map (some b1), .map (some b2)] 73)).alloc (.cells #[.int .i64 ((pl (d) 0 : Nat) : Int), .int .i64 ((pl (d) 1 : Nat) : Int), .int .i64 ((pl (d) 2 : Nat) : Int), .int .i64 ((pl (d) 3 : Nat) : Int), .int .i64 ((pl (d) 4 : Nat) : Int), .int .i64 ((pl (d) 5 : Nat) : Int)] 68)) := ⟨_, Lib.hid rfl⟩
  have hb2 := Lib.hid (show Below w.heap.size w w2 by rw [hw2.out]; exact bt1 (ba1 w _) (ba1 _ _))
  have hm12 := Lib.hid (show MapP w2 b1 D1 by rw [hw2.out]; exact (hm1.alloc _).alloc _)
  have hm22 := Lib.hid (show MapP w2 b2 D2 by rw [hw2.out]; exact (hm2.alloc _).alloc _)
  have X2 := Lib.hid (show w2.heap[w.heap.size]? = some (.cells #[.map (some b1), .map (some b2)] 73) by rw [hw2.out]; exact hb_old _ (hb_new _ _))
  have A2 := Lib.hid (show w2.heap[w.heap.size + 1]? = some (.cells #[.int .i64 ((pl (d) 0 : Nat) : Int), .int .i64 ((pl (d) 1 : Nat) : Int), .int .i64 ((pl (d) 2 : Nat) : Int), .int .i64 ((pl (d) 3 : Nat) : Int), .int .i64 ((pl (d) 4 : Nat) : Int), .int .i64 ((pl (d) 5 : Nat) : Int)] 68) by rw [hw2.out]; exact hb_new' _ _ _ (by simp))
  have hR2 := Lib.hid (hasR_any ps bs d b1 b2 D1 f1 w2 hG hd hm12.out hF1)
  rw [h1] at hR2
  have hl1 := hm1.lt
  have hl2 := hm2.lt
  go_enter Try.func79, Try.ntmps79
  have x0 : w2.cell? ⟨w.heap.size, 0, none⟩ = some (.map (some b1)) := hb_cell X2.out 0
  have x1 : w2.cell? ⟨w.heap.size, 1, none⟩ = some (.map (some b2)) := hb_cell X2.out 1
  have xa0 : w2.cell? ⟨w.heap.size + 1, 0, none⟩ = some (.int .i64 ((pl d 0 : Nat) : Int)) := hb_cell A2.out 0
  have xa1 : w2.cell? ⟨w.heap.size + 1, 1, none⟩ = some (.int .i64 ((pl d 1 : Nat) : Int)) := hb_cell A2.out 1
  have xa2 : w2.cell? ⟨w.heap.size + 1, 2, none⟩ = some (.int .i64 ((pl d 2 : Nat) : Int)) := hb_cell A2.out 2
  have xa3 : w2.cell? ⟨w.heap.size + 1, 3, none⟩ = some (.int .i64 ((pl d 3 : Nat) : Int)) := hb_cell A2.out 3
  have xa4 : w2.cell? ⟨w.heap.size + 1, 4, none⟩ = some (.int .i64 ((pl d 4 : Nat) : Int)) := hb_cell A2.out 4
  have xa5 : w2.cell? ⟨w.heap.size + 1, 5, none⟩ = some (.int .i64 ((pl d 5 : Nat) : Int)) := hb_cell A2.out 5
  have l0 := hb_lt A2.out
  have l1 := hb_lt X2.out
  go_wp2_with fail
  rw [← hw2.out]
  go_wp2_with fail
  refine hR2.out.mono ?_; rintro e w3 ⟨rfl, hb3⟩
  have hm13 := (hm12.out.kept (grown_any hb3 none) (by simp))
  have hm23 := (hm22.out.kept (grown_any hb3 none) (by simp))
  have X3 := (hb3.block _ l1).trans X2.out
  have A3 := (hb3.block _ l0).trans A2.out
  have y0 : w3.cell? ⟨w.heap.size, 0, none⟩ = some (.map (some b1)) := hb_cell X3 0
  have y1 : w3.cell? ⟨w.heap.size, 1, none⟩ = some (.map (some b2)) := hb_cell X3 1
  have ya0 : w3.cell? ⟨w.heap.size + 1, 0, none⟩ = some (.int .i64 ((pl d 0 : Nat) : Int)) := hb_cell A3 0
  have ya1 : w3.cell? ⟨w.heap.size + 1, 1, none⟩ = some (.int .i64 ((pl d 1 : Nat) : Int)) := hb_cell A3 1
  have ya2 : w3.cell? ⟨w.heap.size + 1, 2, none⟩ = some (.int .i64 ((pl d 2 : Nat) : Int)) := hb_cell A3 2
  have ya3 : w3.cell? ⟨w.heap.size + 1, 3, none⟩ = some (.int .i64 ((pl d 3 : Nat) : Int)) := hb_cell A3 3
  have ya4 : w3.cell? ⟨w.heap.size + 1, 4, none⟩ = some (.int .i64 ((pl d 4 : Nat) : Int)) := hb_cell A3 4
  have ya5 : w3.cell? ⟨w.heap.size + 1, 5, none⟩ = some (.int .i64 ((pl d 5 : Nat) : Int)) := hb_cell A3 5
  obtain ⟨w4, hr4, D1', hm14, hF1', hg4⟩ := upI hG hd hm13 hF1 (Nat.le_trans hz1 (by decide)) sl (by omega)
  have hm24 := hm23.kept hg4 (by simp; exact fun e => hne e.symm)
  have X4 := (hg4.block _ (hb_lt X3) (by simp; omega)).trans X3
  have A4 := (hg4.block _ (hb_lt A3) (by simp; omega)).trans A3
  have hk1 := lkI hG hd hm14 hF1'
  have hm24d : MapP w4.drew b2 D2 := hm24.drew
  have hk2 := lkI hG hd hm24d hF2
  obtain ⟨w5, hr5, D2', hm25, hF2', hg5⟩ := upI hG hd hm24d hF2 (Nat.le_trans hz2 (by decide)) (min wy 1000000000000001) (Nat.min_le_right _ _)
  have hsum : wrap64 (0 + (wy : Int)) = (wy : Int) := by unfold wrap64; omega
  have hmi := minI wy
  rw [hmi] at hr5; clear hmi
  rw [if_pos rfl] at hk1
  rw [h2] at hk2
  have z0 : w4.cell? ⟨w.heap.size, 0, none⟩ = some (.map (some b1)) := hb_cell X4 0
  have z1 : w4.cell? ⟨w.heap.size, 1, none⟩ = some (.map (some b2)) := hb_cell X4 1
  have za0 : w4.cell? ⟨w.heap.size + 1, 0, none⟩ = some (.int .i64 ((pl d 0 : Nat) : Int)) := hb_cell A4 0
  have za1 : w4.cell? ⟨w.heap.size + 1, 1, none⟩ = some (.int .i64 ((pl d 1 : Nat) : Int)) := hb_cell A4 1
  have za2 : w4.cell? ⟨w.heap.size + 1, 2, none⟩ = some (.int .i64 ((pl d 2 : Nat) : Int)) := hb_cell A4 2
  have za3 : w4.cell? ⟨w.heap.size + 1, 3, none⟩ = some (.int .i64 ((pl d 3 : Nat) : Int)) := hb_cell A4 3
  have za4 : w4.cell? ⟨w.heap.size + 1, 4, none⟩ = some (.int .i64 ((pl d 4 : Nat) : Int)) := hb_cell A4 4
  have za5 : w4.cell? ⟨w.heap.size + 1, 5, none⟩ = some (.int .i64 ((pl d 5 : Nat) : Int)) := hb_cell A4 5
  go_wp2_with fail
  go_region
  go_wp2_with fail
  go_ret; exact ⟨rfl, D1', D2', (World.ownsMap.drew hm14).kept hg5 (by simp; exact hne), hF1', hm25, hF2', ((K2.below hb2.out).trans (K2.below hb3)).trans ((K2.one hg4).trans ((K2.drew w4).trans (K2.two hg5)))⟩
set_option maxRecDepth 1000000 in
set_option maxHeartbeats 2000000 in
theorem addW_same (ps : List Nat) (bs : List Blk) (d : List Nat) (b1 b2 sl wy : Nat) (D1 D2 : DataW Unit) (f1 f2 : List Nat → Option Nat) (w : World) (hG : GB ps bs) (hd : isSt ps d) (hm1 : MapP w b1 D1) (hF1 : MF ps D1 f1) (hm2 : MapP w b2 D2) (hF2 : MF ps D2 f2) (hne : b1 ≠ b2)
    (hz1 : Maps.size D1 ≤ 1000) (hz2 : Maps.size D2 ≤ 1000) (hsl : sl ≤ 100000) (hwy : wy ≤ 1000000000000001) (n1 : Nat) (h1 : f1 d = some n1) (hn : n1 = sl) (o : Nat) (h2 : f2 d = some o) (ho : o ≤ 1000000000000001) (m : Nat) (hmv : m = min (o + wy) 1000000000000001) :
    Calls Try.prog 79 #[.agg #[.map (some b1), .map (some b2)], (.agg #[.int .i64 ((pl (d) 0 : Nat) : Int), .int .i64 ((pl (d) 1 : Nat) : Int), .int .i64 ((pl (d) 2 : Nat) : Int), .int .i64 ((pl (d) 3 : Nat) : Int), .int .i64 ((pl (d) 4 : Nat) : Int), .int .i64 ((pl (d) 5 : Nat) : Int)]), .int .i64 sl, .int .i64 wy] w fun e w' => e = .returned (.bool false) ∧ ∃ D2', MapP w' b1 D1 ∧ MapP w' b2 D2' ∧ MF ps D2' (fun u => if u = d then some m else f2 u) ∧ K2 b1 b2 w w' := by
  obtain ⟨w2, hw2⟩ : ∃ w2, Hid (w2 = (w.alloc (.cells #[.map (some b1), .map (some b2)] 73)).alloc (.cells #[.int .i64 ((pl (d) 0 : Nat) : Int), .int .i64 ((pl (d) 1 : Nat) : Int), .int .i64 ((pl (d) 2 : Nat) : Int), .int .i64 ((pl (d) 3 : Nat) : Int), .int .i64 ((pl (d) 4 : Nat) : Int), .int .i64 ((pl (d) 5 : Nat) : Int)] 68)) := ⟨_, Lib.hid rfl⟩
  have hb2 := Lib.hid (show Below w.heap.size w w2 by rw [hw2.out]; exact bt1 (ba1 w _) (ba1 _ _))
  have hm12 := Lib.hid (show MapP w2 b1 D1 by rw [hw2.out]; exact (hm1.alloc _).alloc _)
  have hm22 := Lib.hid (show MapP w2 b2 D2 by rw [hw2.out]; exact (hm2.alloc _).alloc _)
  have X2 := Lib.hid (show w2.heap[w.heap.size]? = some (.cells #[.map (some b1), .map (some b2)] 73) by rw [hw2.out]; exact hb_old _ (hb_new _ _))
  have A2 := Lib.hid (show w2.heap[w.heap.size + 1]? = some (.cells #[.int .i64 ((pl (d) 0 : Nat) : Int), .int .i64 ((pl (d) 1 : Nat) : Int), .int .i64 ((pl (d) 2 : Nat) : Int), .int .i64 ((pl (d) 3 : Nat) : Int), .int .i64 ((pl (d) 4 : Nat) : Int), .int .i64 ((pl (d) 5 : Nat) : Int)] 68) by rw [hw2.out]; exact hb_new' _ _ _ (by simp))
  have hR2 := Lib.hid (hasR_any ps bs d b1 b2 D1 f1 w2 hG hd hm12.out hF1)
  rw [h1] at hR2
  have hl1 := hm1.lt
  have hl2 := hm2.lt
  go_enter Try.func79, Try.ntmps79
  have x0 : w2.cell? ⟨w.heap.size, 0, none⟩ = some (.map (some b1)) := hb_cell X2.out 0
  have x1 : w2.cell? ⟨w.heap.size, 1, none⟩ = some (.map (some b2)) := hb_cell X2.out 1
  have xa0 : w2.cell? ⟨w.heap.size + 1, 0, none⟩ = some (.int .i64 ((pl d 0 : Nat) : Int)) := hb_cell A2.out 0
  have xa1 : w2.cell? ⟨w.heap.size + 1, 1, none⟩ = some (.int .i64 ((pl d 1 : Nat) : Int)) := hb_cell A2.out 1
  have xa2 : w2.cell? ⟨w.heap.size + 1, 2, none⟩ = some (.int .i64 ((pl d 2 : Nat) : Int)) := hb_cell A2.out 2
  have xa3 : w2.cell? ⟨w.heap.size + 1, 3, none⟩ = some (.int .i64 ((pl d 3 : Nat) : Int)) := hb_cell A2.out 3
  have xa4 : w2.cell? ⟨w.heap.size + 1, 4, none⟩ = some (.int .i64 ((pl d 4 : Nat) : Int)) := hb_cell A2.out 4
  have xa5 : w2.cell? ⟨w.heap.size + 1, 5, none⟩ = some (.int .i64 ((pl d 5 : Nat) : Int)) := hb_cell A2.out 5
  have l0 := hb_lt A2.out
  have l1 := hb_lt X2.out
  go_wp2_with fail
  rw [← hw2.out]
  go_wp2_with fail
  refine hR2.out.mono ?_; rintro e w3 ⟨rfl, hb3⟩
  have hm13 := (hm12.out.kept (grown_any hb3 none) (by simp))
  have hm23 := (hm22.out.kept (grown_any hb3 none) (by simp))
  have X3 := (hb3.block _ l1).trans X2.out
  have A3 := (hb3.block _ l0).trans A2.out
  have y0 : w3.cell? ⟨w.heap.size, 0, none⟩ = some (.map (some b1)) := hb_cell X3 0
  have y1 : w3.cell? ⟨w.heap.size, 1, none⟩ = some (.map (some b2)) := hb_cell X3 1
  have ya0 : w3.cell? ⟨w.heap.size + 1, 0, none⟩ = some (.int .i64 ((pl d 0 : Nat) : Int)) := hb_cell A3 0
  have ya1 : w3.cell? ⟨w.heap.size + 1, 1, none⟩ = some (.int .i64 ((pl d 1 : Nat) : Int)) := hb_cell A3 1
  have ya2 : w3.cell? ⟨w.heap.size + 1, 2, none⟩ = some (.int .i64 ((pl d 2 : Nat) : Int)) := hb_cell A3 2
  have ya3 : w3.cell? ⟨w.heap.size + 1, 3, none⟩ = some (.int .i64 ((pl d 3 : Nat) : Int)) := hb_cell A3 3
  have ya4 : w3.cell? ⟨w.heap.size + 1, 4, none⟩ = some (.int .i64 ((pl d 4 : Nat) : Int)) := hb_cell A3 4
  have ya5 : w3.cell? ⟨w.heap.size + 1, 5, none⟩ = some (.int .i64 ((pl d 5 : Nat) : Int)) := hb_cell A3 5
  have hmM : m ≤ 1000000000000001 := by rw [hmv]; exact Nat.min_le_right _ _
  have hmi : (m : Int) = min ((o : Int) + (wy : Int)) 1000000000000001 := by rw [hmv, minI, Int.natCast_add]
  clear hmv
  have hk1 := lkI hG hd hm13 hF1
  have hm23d : MapP w3.drew b2 D2 := hm23.drew
  have hk2 := lkI hG hd hm23d hF2
  obtain ⟨w5, hr5, D2', hm25, hF2', hg5⟩ := upI hG hd hm23d hF2 (Nat.le_trans hz2 (by decide)) m hmM
  rw [← sumI o wy ho hwy] at hmi
  rw [hmi] at hr5; clear hmi ho hwy hmM
  rw [h1, hn] at hk1
  rw [h2] at hk2
  go_wp2_with fail
  go_region
  go_wp2_with fail
  go_ret; exact ⟨rfl, D2', (World.ownsMap.drew hm13).kept hg5 (by simp; exact hne), hm25, hF2', ((K2.below hb2.out).trans (K2.below hb3)).trans ((K2.drew w3).trans (K2.two hg5))⟩
set_option maxRecDepth 1000000 in
set_option maxHeartbeats 2000000 in
theorem addW_far (ps : List Nat) (bs : List Blk) (d : List Nat) (b1 b2 sl wy : Nat) (D1 D2 : DataW Unit) (f1 f2 : List Nat → Option Nat) (w : World) (hG : GB ps bs) (hd : isSt ps d) (hm1 : MapP w b1 D1) (hF1 : MF ps D1 f1) (hm2 : MapP w b2 D2) (hF2 : MF ps D2 f2) (hne : b1 ≠ b2)
    (hz1 : Maps.size D1 ≤ 1000) (hz2 : Maps.size D2 ≤ 1000) (hsl : sl ≤ 100000) (hwy : wy ≤ 1000000000000001) (n1 : Nat) (h1 : f1 d = some n1) (hn : n1 ≠ sl) :
    Calls Try.prog 79 #[.agg #[.map (some b1), .map (some b2)], (.agg #[.int .i64 ((pl (d) 0 : Nat) : Int), .int .i64 ((pl (d) 1 : Nat) : Int), .int .i64 ((pl (d) 2 : Nat) : Int), .int .i64 ((pl (d) 3 : Nat) : Int), .int .i64 ((pl (d) 4 : Nat) : Int), .int .i64 ((pl (d) 5 : Nat) : Int)]), .int .i64 sl, .int .i64 wy] w fun e w' => e = .returned (.bool false) ∧ (MapP w' b1 D1 ∧ MapP w' b2 D2) ∧ K2 b1 b2 w w' := by
  obtain ⟨w2, hw2⟩ : ∃ w2, Hid (w2 = (w.alloc (.cells #[.map (some b1), .map (some b2)] 73)).alloc (.cells #[.int .i64 ((pl (d) 0 : Nat) : Int), .int .i64 ((pl (d) 1 : Nat) : Int), .int .i64 ((pl (d) 2 : Nat) : Int), .int .i64 ((pl (d) 3 : Nat) : Int), .int .i64 ((pl (d) 4 : Nat) : Int), .int .i64 ((pl (d) 5 : Nat) : Int)] 68)) := ⟨_, Lib.hid rfl⟩
  have hb2 := Lib.hid (show Below w.heap.size w w2 by rw [hw2.out]; exact bt1 (ba1 w _) (ba1 _ _))
  have hm12 := Lib.hid (show MapP w2 b1 D1 by rw [hw2.out]; exact (hm1.alloc _).alloc _)
  have hm22 := Lib.hid (show MapP w2 b2 D2 by rw [hw2.out]; exact (hm2.alloc _).alloc _)
  have X2 := Lib.hid (show w2.heap[w.heap.size]? = some (.cells #[.map (some b1), .map (some b2)] 73) by rw [hw2.out]; exact hb_old _ (hb_new _ _))
  have A2 := Lib.hid (show w2.heap[w.heap.size + 1]? = some (.cells #[.int .i64 ((pl (d) 0 : Nat) : Int), .int .i64 ((pl (d) 1 : Nat) : Int), .int .i64 ((pl (d) 2 : Nat) : Int), .int .i64 ((pl (d) 3 : Nat) : Int), .int .i64 ((pl (d) 4 : Nat) : Int), .int .i64 ((pl (d) 5 : Nat) : Int)] 68) by rw [hw2.out]; exact hb_new' _ _ _ (by simp))
  have hR2 := Lib.hid (hasR_any ps bs d b1 b2 D1 f1 w2 hG hd hm12.out hF1)
  rw [h1] at hR2
  have hl1 := hm1.lt
  have hl2 := hm2.lt
  go_enter Try.func79, Try.ntmps79
  have x0 : w2.cell? ⟨w.heap.size, 0, none⟩ = some (.map (some b1)) := hb_cell X2.out 0
  have x1 : w2.cell? ⟨w.heap.size, 1, none⟩ = some (.map (some b2)) := hb_cell X2.out 1
  have xa0 : w2.cell? ⟨w.heap.size + 1, 0, none⟩ = some (.int .i64 ((pl d 0 : Nat) : Int)) := hb_cell A2.out 0
  have xa1 : w2.cell? ⟨w.heap.size + 1, 1, none⟩ = some (.int .i64 ((pl d 1 : Nat) : Int)) := hb_cell A2.out 1
  have xa2 : w2.cell? ⟨w.heap.size + 1, 2, none⟩ = some (.int .i64 ((pl d 2 : Nat) : Int)) := hb_cell A2.out 2
  have xa3 : w2.cell? ⟨w.heap.size + 1, 3, none⟩ = some (.int .i64 ((pl d 3 : Nat) : Int)) := hb_cell A2.out 3
  have xa4 : w2.cell? ⟨w.heap.size + 1, 4, none⟩ = some (.int .i64 ((pl d 4 : Nat) : Int)) := hb_cell A2.out 4
  have xa5 : w2.cell? ⟨w.heap.size + 1, 5, none⟩ = some (.int .i64 ((pl d 5 : Nat) : Int)) := hb_cell A2.out 5
  have l0 := hb_lt A2.out
  have l1 := hb_lt X2.out
  go_wp2_with fail
  rw [← hw2.out]
  go_wp2_with fail
  refine hR2.out.mono ?_; rintro e w3 ⟨rfl, hb3⟩
  have hm13 := (hm12.out.kept (grown_any hb3 none) (by simp))
  have hm23 := (hm22.out.kept (grown_any hb3 none) (by simp))
  have X3 := (hb3.block _ l1).trans X2.out
  have A3 := (hb3.block _ l0).trans A2.out
  have y0 : w3.cell? ⟨w.heap.size, 0, none⟩ = some (.map (some b1)) := hb_cell X3 0
  have y1 : w3.cell? ⟨w.heap.size, 1, none⟩ = some (.map (some b2)) := hb_cell X3 1
  have ya0 : w3.cell? ⟨w.heap.size + 1, 0, none⟩ = some (.int .i64 ((pl d 0 : Nat) : Int)) := hb_cell A3 0
  have ya1 : w3.cell? ⟨w.heap.size + 1, 1, none⟩ = some (.int .i64 ((pl d 1 : Nat) : Int)) := hb_cell A3 1
  have ya2 : w3.cell? ⟨w.heap.size + 1, 2, none⟩ = some (.int .i64 ((pl d 2 : Nat) : Int)) := hb_cell A3 2
  have ya3 : w3.cell? ⟨w.heap.size + 1, 3, none⟩ = some (.int .i64 ((pl d 3 : Nat) : Int)) := hb_cell A3 3
  have ya4 : w3.cell? ⟨w.heap.size + 1, 4, none⟩ = some (.int .i64 ((pl d 4 : Nat) : Int)) := hb_cell A3 4
  have ya5 : w3.cell? ⟨w.heap.size + 1, 5, none⟩ = some (.int .i64 ((pl d 5 : Nat) : Int)) := hb_cell A3 5
  have hk1 := lkI hG hd hm13 hF1
  rw [h1] at hk1
  have hnn : ((n1 : Int) == (sl : Int)) = false := by rw [beq_eq_false_iff_ne]; omega
  have hnn2 : ¬ ((n1 : Int) = (sl : Int)) := by omega
  go_wp2_with fail
  go_ret; exact ⟨rfl, ⟨hm13, hm23⟩, (K2.below hb2.out).trans (K2.below hb3)⟩
end Go.Proofs.Ytcfeaaakfjilgaa
