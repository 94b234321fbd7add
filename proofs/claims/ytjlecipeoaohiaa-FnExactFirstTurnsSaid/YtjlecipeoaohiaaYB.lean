/- Two states of a box asked for, by the program and by the model. -/
import Derived.Test.YtjlecipeoaohiaaYA
namespace Go.Proofs.Ytjlecipeoaohiaa
set_option linter.unusedSimpArgs false
set_option linter.unusedVariables false
open Go Go.RowKit RM Go.Maps Go.WideMaps
theorem six_at {w : World} {g : Nat} {a0 a1 a2 a3 a4 a5 : Value} {t : TypeId} (h : w.heap[g]? = some (.cells #[a0, a1, a2, a3, a4, a5] t (0, 0))) (v0 v1 v2 v3 v4 v5 : Value) :
    ((((((w.setCell ⟨g, 0, none⟩ v0).setCell ⟨g, 1, none⟩ v1).setCell ⟨g, 2, none⟩ v2).setCell ⟨g, 3, none⟩ v3).setCell ⟨g, 4, none⟩ v4).setCell ⟨g, 5, none⟩ v5).heap[g]? = some (.cells #[v0, v1, v2, v3, v4, v5] t (0, 0)) :=
  hb_set (hb_set (hb_set (hb_set (hb_set (hb_set h v0) v1) v2) v3) v4) v5
theorem six_ne {w : World} {g k : Nat} (hk : k ≠ g) (v0 v1 v2 v3 v4 v5 : Value) :
    ((((((w.setCell ⟨g, 0, none⟩ v0).setCell ⟨g, 1, none⟩ v1).setCell ⟨g, 2, none⟩ v2).setCell ⟨g, 3, none⟩ v3).setCell ⟨g, 4, none⟩ v4).setCell ⟨g, 5, none⟩ v5).heap[k]? = w.heap[k]? := by
  rw [hb_ne _ hk, hb_ne _ hk, hb_ne _ hk, hb_ne _ hk, hb_ne _ hk, hb_ne _ hk]
theorem six_below {B : Nat} {w w' : World} {g : Nat} (h : Below B w w') (hg : B ≤ g) (v0 v1 v2 v3 v4 v5 : Value) :
    Below B w ((((((w'.setCell ⟨g, 0, none⟩ v0).setCell ⟨g, 1, none⟩ v1).setCell ⟨g, 2, none⟩ v2).setCell ⟨g, 3, none⟩ v3).setCell ⟨g, 4, none⟩ v4).setCell ⟨g, 5, none⟩ v5) :=
  (((((h.setCell hg _).setCell hg _).setCell hg _).setCell hg _).setCell hg _).setCell hg _
set_option maxRecDepth 1000000 in
set_option maxHeartbeats 4000000 in
theorem twoSO_yes (v : Value) (P S : Int) (rs : List ByteArray) (x y : ByteArray) (fx fy : Nat → Int) (w : World) (h : RdX w v P S rs)
    (hx : Hid (∀ w v, RdX w v P S rs → Calls Try.prog 56 #[v, .string x] w fun e w' => e = .returned (.tuple #[bsV fx, .bool true]) ∧ Below w.heap.size w w'))
    (hy : Hid (∀ w v, RdX w v P S rs → Calls Try.prog 56 #[v, .string y] w fun e w' => e = .returned (.tuple #[bsV fy, .bool true]) ∧ Below w.heap.size w w')) :
    Calls Try.prog 64 #[v, .string x, .string y] w fun e w' => e = .returned (.tuple #[bsV fx, bsV fy, .bool true]) ∧ Below w.heap.size w w' := by
  have h0 := Lib.hid h
  obtain ⟨u, rfl, -⟩ := h
  obtain ⟨w2, hw2⟩ : ∃ w2, Hid (w2 = ((w.alloc (boxO P S u)).alloc (.cells #[.int .i64 0, .int .i64 0, .int .i64 0, .int .i64 0, .int .i64 0, .int .i64 0] 64)).alloc (.cells #[.int .i64 0, .int .i64 0, .int .i64 0, .int .i64 0, .int .i64 0, .int .i64 0] 64)) := ⟨_, Lib.hid rfl⟩
  have hb2 : Hid (Below w.heap.size w w2) := Lib.hid (by rw [hw2.out]; exact ((ba1 w _).alloc (by simp) _).alloc (by simp; omega) _)
  have F := Lib.hid (show w2.heap[w.heap.size]? = some (boxO P S u) by rw [hw2.out]; exact hb_old _ (hb_old _ (hb_new _ _)))
  have R := Lib.hid (show w2.heap[w.heap.size + 1]? = some (.cells #[.int .i64 0, .int .i64 0, .int .i64 0, .int .i64 0, .int .i64 0, .int .i64 0] 64) by rw [hw2.out]; exact hb_old _ (hb_new' _ _ _ (by simp)))
  have SZ := Lib.hid (show w2.heap[w.heap.size + 1 + 1]? = some (.cells #[.int .i64 0, .int .i64 0, .int .i64 0, .int .i64 0, .int .i64 0, .int .i64 0] 64) by rw [hw2.out]; exact hb_new' _ _ _ (by simp))
  have hA2 := Lib.hid (hx.out w2 _ (h0.out.below hb2.out))
  have hB := Lib.hid (fun w' hb => hy.out w' _ (h0.out.below hb))
  go_enter Try.func64, Try.ntmps64
  go_wp2_with fail
  rw [← hw2.out]
  refine hA2.out.mono ?_; rintro e w3 ⟨rfl, hb3⟩
  obtain ⟨w4, hw4⟩ : ∃ w4, Hid (w4 = w3.alloc (.cells (bsC fx) 64)) := ⟨_, Lib.hid rfl⟩
  have hb4 := Lib.hid (show Below w2.heap.size w2 w4 by rw [hw4.out]; exact bt1 hb3 (ba1 w3 _))
  have X4 := Lib.hid (show w4.heap[w3.heap.size]? = some (.cells (bsC fx) 64) by rw [hw4.out]; exact hb_new _ _)
  have hz3 := hb3.size
  clear hb3
  have F4 := Lib.hid (hb_below hb4.out (hb_lt F.out) F.out)
  have R4 := Lib.hid (hb_below hb4.out (hb_lt R.out) R.out)
  have S4 := Lib.hid (hb_below hb4.out (hb_lt SZ.out) SZ.out)
  have hl := hb_lt SZ.out
  have f0 : w4.cell? ⟨w.heap.size, 0, none⟩ = some (.int .i64 P) := hb_cell F4.out 0
  have f1 : w4.cell? ⟨w.heap.size, 1, none⟩ = some (.int .i64 S) := hb_cell F4.out 1
  have f2 : w4.cell? ⟨w.heap.size, 2, none⟩ = some u := hb_cell F4.out 2
  go_upto_region 2 with fail
  rw [← hw4.out]
  go_wp2_with fail
  refine (hB.out _ (bt1 hb2.out hb4.out)).mono ?_; rintro e w5 ⟨rfl, hb5⟩
  obtain ⟨w6, hw6⟩ : ∃ w6, Hid (w6 = w5.alloc (.cells (bsC fy) 64)) := ⟨_, Lib.hid rfl⟩
  have hb6 := Lib.hid (show Below w4.heap.size w4 w6 by rw [hw6.out]; exact bt1 hb5 (ba1 w5 _))
  have Y6 := Lib.hid (show w6.heap[w5.heap.size]? = some (.cells (bsC fy) 64) by rw [hw6.out]; exact hb_new _ _)
  have hz5 := hb5.size
  clear hb5 f0 f1 f2
  have X6 := Lib.hid (hb_below hb6.out (hb_lt X4.out) X4.out)
  have R6 := Lib.hid (hb_below hb6.out (hb_lt R4.out) R4.out)
  have S6 := Lib.hid (hb_below hb6.out (hb_lt S4.out) S4.out)
  have hbw := Lib.hid (bt1 hb2.out (bt1 hb4.out hb6.out))
  have hl4 := hb_lt X4.out
  have cx := hb_cell X6.out
  have cy := hb_cell Y6.out
  have cr := hb_cell R6.out
  have cs := hb_cell S6.out
  have zr := hb_frozen R6.out
  have zs := hb_frozen S6.out
  have lx := hb_lt X6.out
  have ly := hb_lt Y6.out
  have n1 : ¬ w3.heap.size = w.heap.size + 1 := by omega
  have n2 : ¬ w3.heap.size = w.heap.size + 1 + 1 := by omega
  have n3 : ¬ w5.heap.size = w.heap.size + 1 := by omega
  have n4 : ¬ w5.heap.size = w.heap.size + 1 + 1 := by omega
  have lr := hb_lt R6.out
  have ls := hb_lt S6.out
  go_upto_region 5 with fail
  rw [← hw6.out]
  go_region
  obtain ⟨w7, hw7⟩ : ∃ w7, Hid (w7 = ((((((w6.setCell ⟨w.heap.size + 1, 0, none⟩ (.int .i64 (fx 0))).setCell ⟨w.heap.size + 1, 1, none⟩ (.int .i64 (fx 1))).setCell ⟨w.heap.size + 1, 2, none⟩ (.int .i64 (fx 2))).setCell ⟨w.heap.size + 1, 3, none⟩ (.int .i64 (fx 3))).setCell ⟨w.heap.size + 1, 4, none⟩ (.int .i64 (fx 4))).setCell ⟨w.heap.size + 1, 5, none⟩ (.int .i64 (fx 5)))) := ⟨_, Lib.hid rfl⟩
  rw [← hw7.out]
  obtain ⟨w8, hw8⟩ : ∃ w8, Hid (w8 = ((((((w7.setCell ⟨w.heap.size + 1 + 1, 0, none⟩ (.int .i64 (fy 0))).setCell ⟨w.heap.size + 1 + 1, 1, none⟩ (.int .i64 (fy 1))).setCell ⟨w.heap.size + 1 + 1, 2, none⟩ (.int .i64 (fy 2))).setCell ⟨w.heap.size + 1 + 1, 3, none⟩ (.int .i64 (fy 3))).setCell ⟨w.heap.size + 1 + 1, 4, none⟩ (.int .i64 (fy 4))).setCell ⟨w.heap.size + 1 + 1, 5, none⟩ (.int .i64 (fy 5)))) := ⟨_, Lib.hid rfl⟩
  rw [← hw8.out]
  have R7 := Lib.hid (show w7.heap[w.heap.size + 1]? = some (.cells (bsC fx) 64) by rw [hw7.out]; exact six_at R6.out _ _ _ _ _ _)
  have S7 := Lib.hid (show w7.heap[w.heap.size + 1 + 1]? = some (.cells #[.int .i64 0, .int .i64 0, .int .i64 0, .int .i64 0, .int .i64 0, .int .i64 0] 64) by rw [hw7.out]; exact (six_ne (by omega) _ _ _ _ _ _).trans S6.out)
  have R8a := Lib.hid (show w8.heap[w.heap.size + 1]? = some (.cells (bsC fx) 64) by rw [hw8.out]; exact (six_ne (w := w7) (g := w.heap.size + 1 + 1) (k := w.heap.size + 1) (by omega) _ _ _ _ _ _).trans R7.out)
  have S8a := Lib.hid (show w8.heap[w.heap.size + 1 + 1]? = some (.cells (bsC fy) 64) by rw [hw8.out]; exact six_at (w := w7) S7.out _ _ _ _ _ _)
  have R8 := Lib.hid (show w8.drew.heap[w.heap.size + 1]? = some (.cells (bsC fx) 64) from R8a.out)
  have S8 := Lib.hid (show w8.drew.heap[w.heap.size + 1 + 1]? = some (.cells (bsC fy) 64) from S8a.out)
  have hb7 := Lib.hid (show Below w.heap.size w w7 by rw [hw7.out]; exact six_below hbw.out (by omega) _ _ _ _ _ _)
  have hb8a := Lib.hid (show Below w.heap.size w w8 by rw [hw8.out]; exact six_below hb7.out (by omega) _ _ _ _ _ _)
  have hb8 := Lib.hid hb8a.out.drew
  generalize w8.drew = w9 at *
  go_wp2_with fail
  refine bodyPost_ret (v := .tuple #[bsV fx, bsV fy, .bool true]) ?_ rfl ⟨rfl, hb8.out⟩
  have c := hb_cell R8.out
  have c2 := hb_cell S8.out
  have l := hb_lt R8.out
  have l2 := hb_lt S8.out
  simp [results, Try.results64, go_sem, c, c2, l, l2]
set_option maxRecDepth 1000000 in
set_option maxHeartbeats 4000000 in
theorem twoSO_no (v : Value) (P S : Int) (rs : List ByteArray) (x y : ByteArray) (fx fy : Nat → Int) (r1 r2 : Bool) (hr : (r1 && r2) = false) (w : World) (h : RdX w v P S rs)
    (hx : Hid (∀ w v, RdX w v P S rs → Calls Try.prog 56 #[v, .string x] w fun e w' => e = .returned (.tuple #[bsV fx, .bool r1]) ∧ Below w.heap.size w w'))
    (hy : Hid (∀ w v, RdX w v P S rs → Calls Try.prog 56 #[v, .string y] w fun e w' => e = .returned (.tuple #[bsV fy, .bool r2]) ∧ Below w.heap.size w w')) :
    Calls Try.prog 64 #[v, .string x, .string y] w fun e w' => e = .returned (.tuple #[(.agg #[.int .i64 0, .int .i64 0, .int .i64 0, .int .i64 0, .int .i64 0, .int .i64 0]), (.agg #[.int .i64 0, .int .i64 0, .int .i64 0, .int .i64 0, .int .i64 0, .int .i64 0]), .bool false]) ∧ Below w.heap.size w w' := by
  have h0 := Lib.hid h
  obtain ⟨u, rfl, -⟩ := h
  obtain ⟨w2, hw2⟩ : ∃ w2, Hid (w2 = ((w.alloc (boxO P S u)).alloc (.cells #[.int .i64 0, .int .i64 0, .int .i64 0, .int .i64 0, .int .i64 0, .int .i64 0] 64)).alloc (.cells #[.int .i64 0, .int .i64 0, .int .i64 0, .int .i64 0, .int .i64 0, .int .i64 0] 64)) := ⟨_, Lib.hid rfl⟩
  have hb2 : Hid (Below w.heap.size w w2) := Lib.hid (by rw [hw2.out]; exact ((ba1 w _).alloc (by simp) _).alloc (by simp; omega) _)
  have F := Lib.hid (show w2.heap[w.heap.size]? = some (boxO P S u) by rw [hw2.out]; exact hb_old _ (hb_old _ (hb_new _ _)))
  have R := Lib.hid (show w2.heap[w.heap.size + 1]? = some (.cells #[.int .i64 0, .int .i64 0, .int .i64 0, .int .i64 0, .int .i64 0, .int .i64 0] 64) by rw [hw2.out]; exact hb_old _ (hb_new' _ _ _ (by simp)))
  have SZ := Lib.hid (show w2.heap[w.heap.size + 1 + 1]? = some (.cells #[.int .i64 0, .int .i64 0, .int .i64 0, .int .i64 0, .int .i64 0, .int .i64 0] 64) by rw [hw2.out]; exact hb_new' _ _ _ (by simp))
  have hA2 := Lib.hid (hx.out w2 _ (h0.out.below hb2.out))
  have hB := Lib.hid (fun w' hb => hy.out w' _ (h0.out.below hb))
  go_enter Try.func64, Try.ntmps64
  go_wp2_with fail
  rw [← hw2.out]
  refine hA2.out.mono ?_; rintro e w3 ⟨rfl, hb3⟩
  obtain ⟨w4, hw4⟩ : ∃ w4, Hid (w4 = w3.alloc (.cells (bsC fx) 64)) := ⟨_, Lib.hid rfl⟩
  have hb4 := Lib.hid (show Below w2.heap.size w2 w4 by rw [hw4.out]; exact bt1 hb3 (ba1 w3 _))
  clear hb3
  have F4 := Lib.hid (hb_below hb4.out (hb_lt F.out) F.out)
  have R4 := Lib.hid (hb_below hb4.out (hb_lt R.out) R.out)
  have S4 := Lib.hid (hb_below hb4.out (hb_lt SZ.out) SZ.out)
  have f0 : w4.cell? ⟨w.heap.size, 0, none⟩ = some (.int .i64 P) := hb_cell F4.out 0
  have f1 : w4.cell? ⟨w.heap.size, 1, none⟩ = some (.int .i64 S) := hb_cell F4.out 1
  have f2 : w4.cell? ⟨w.heap.size, 2, none⟩ = some u := hb_cell F4.out 2
  go_upto_region 2 with fail
  rw [← hw4.out]
  go_wp2_with fail
  refine (hB.out _ (bt1 hb2.out hb4.out)).mono ?_; rintro e w5 ⟨rfl, hb5⟩
  obtain ⟨w6, hw6⟩ : ∃ w6, Hid (w6 = w5.alloc (.cells (bsC fy) 64)) := ⟨_, Lib.hid rfl⟩
  have hb6 := Lib.hid (show Below w4.heap.size w4 w6 by rw [hw6.out]; exact bt1 hb5 (ba1 w5 _))
  clear hb5 f0 f1 f2
  have R6 := Lib.hid (hb_below hb6.out (hb_lt R4.out) R4.out)
  have S6 := Lib.hid (hb_below hb6.out (hb_lt S4.out) S4.out)
  have hbw := Lib.hid (bt1 hb2.out (bt1 hb4.out hb6.out))
  have cr := hb_cell R6.out
  have cs := hb_cell S6.out
  have zr := hb_frozen R6.out
  have zs := hb_frozen S6.out
  have lr := hb_lt R6.out
  have ls := hb_lt S6.out
  go_upto_region 3 with fail
  rw [← hw6.out]
  cases r1 <;> cases r2 <;> first | (cases hr; done) | skip
  all_goals
    obtain ⟨w7, hw7⟩ : ∃ w7, Hid (w7 = ((((((w6.setCell ⟨w.heap.size + 1, 0, none⟩ (.int .i64 0)).setCell ⟨w.heap.size + 1, 1, none⟩ (.int .i64 0)).setCell ⟨w.heap.size + 1, 2, none⟩ (.int .i64 0)).setCell ⟨w.heap.size + 1, 3, none⟩ (.int .i64 0)).setCell ⟨w.heap.size + 1, 4, none⟩ (.int .i64 0)).setCell ⟨w.heap.size + 1, 5, none⟩ (.int .i64 0))) := ⟨_, Lib.hid rfl⟩
    obtain ⟨w8, hw8⟩ : ∃ w8, Hid (w8 = ((((((w7.setCell ⟨w.heap.size + 1 + 1, 0, none⟩ (.int .i64 0)).setCell ⟨w.heap.size + 1 + 1, 1, none⟩ (.int .i64 0)).setCell ⟨w.heap.size + 1 + 1, 2, none⟩ (.int .i64 0)).setCell ⟨w.heap.size + 1 + 1, 3, none⟩ (.int .i64 0)).setCell ⟨w.heap.size + 1 + 1, 4, none⟩ (.int .i64 0)).setCell ⟨w.heap.size + 1 + 1, 5, none⟩ (.int .i64 0))) := ⟨_, Lib.hid rfl⟩
    have R7 := Lib.hid (show w7.heap[w.heap.size + 1]? = some (.cells #[.int .i64 0, .int .i64 0, .int .i64 0, .int .i64 0, .int .i64 0, .int .i64 0] 64) by rw [hw7.out]; exact six_at R6.out _ _ _ _ _ _)
    have S7 := Lib.hid (show w7.heap[w.heap.size + 1 + 1]? = some (.cells #[.int .i64 0, .int .i64 0, .int .i64 0, .int .i64 0, .int .i64 0, .int .i64 0] 64) by rw [hw7.out]; exact (six_ne (by omega) _ _ _ _ _ _).trans S6.out)
    have R8 := Lib.hid (show w8.heap[w.heap.size + 1]? = some (.cells #[.int .i64 0, .int .i64 0, .int .i64 0, .int .i64 0, .int .i64 0, .int .i64 0] 64) by rw [hw8.out]; exact (six_ne (w := w7) (g := w.heap.size + 1 + 1) (k := w.heap.size + 1) (by omega) _ _ _ _ _ _).trans R7.out)
    have S8 := Lib.hid (show w8.heap[w.heap.size + 1 + 1]? = some (.cells #[.int .i64 0, .int .i64 0, .int .i64 0, .int .i64 0, .int .i64 0, .int .i64 0] 64) by rw [hw8.out]; exact six_at (w := w7) S7.out _ _ _ _ _ _)
    have hb7 := Lib.hid (show Below w.heap.size w w7 by rw [hw7.out]; exact six_below hbw.out (by omega) _ _ _ _ _ _)
    have hb8 := Lib.hid (show Below w.heap.size w w8 by rw [hw8.out]; exact six_below hb7.out (by omega) _ _ _ _ _ _)
    go_wp2_with fail
    rw [← hw7.out, ← hw8.out]
    refine bodyPost_ret (v := .tuple #[(.agg #[.int .i64 0, .int .i64 0, .int .i64 0, .int .i64 0, .int .i64 0, .int .i64 0]), (.agg #[.int .i64 0, .int .i64 0, .int .i64 0, .int .i64 0, .int .i64 0, .int .i64 0]), .bool false]) ?_ rfl ⟨rfl, hb8.out⟩
    have c := hb_cell R8.out
    have c2 := hb_cell S8.out
    have l := hb_lt R8.out
    have l2 := hb_lt S8.out
    simp [results, Try.results64, go_sem, c, c2, l, l2]
end Go.Proofs.Ytjlecipeoaohiaa
