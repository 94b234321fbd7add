/- What a search by keys knows of the states: a row of moves and ways; ways over a state added. -/
import Derived.Test.YtcfeaaakfjilgabDoorW1
import Derived.Test.YtcfeaaakfjilgabDoorV5
namespace Go.Proofs.YtcfeaaakfjilgabDoor
set_option linter.unusedSimpArgs false
set_option linter.unusedVariables false
open Go Go.RowKit RM
def kwE : Elt (Nat × Nat) where
  e := 64
  n := 2
  bytes := 16
  z := .agg #[.int .i64 0, .int .u64 0]
  d := (0, 0)
  cells k := [.int .i64 ((k.1 : Nat) : Int), .int .u64 ((k.2 : Nat) : Int)]
  len _ := rfl
  one x u hu := by simp at hu; rcases hu with rfl | rfl <;> rfl
  pos := by decide
  zs := rfl
  info := by kernel_rfl
  small := by decide
theorem kw_cells {w : World} {g B N c : Nat} {R : List (Nat × Nat)} (h : OwnG kwE w B (.slice (some ⟨g, 0, none⟩) N c) R) (hN : R.length = N) (t : Nat) (ht : t < R.length) :
    w.cell? ⟨g, t * 2, none⟩ = some (.int .i64 ((R[t].1 : Nat) : Int)) ∧ w.cell? ⟨g, t * 2 + 1, none⟩ = some (.int .u64 ((R[t].2 : Nat) : Int)) :=
  ⟨h.cells hN.symm t ht 0 (by decide), h.cells hN.symm t ht 1 (by decide)⟩
theorem kw_st0 {w : World} {g B N c : Nat} {R : List (Nat × Nat)} (h : OwnG kwE w B (.slice (some ⟨g, 0, none⟩) N c) R) (hN : R.length = N) (t : Nat) (ht : t < R.length) (m : Nat) :
    OwnG kwE (w.setCell ⟨g, t * 2, none⟩ (.int .i64 (m : Int))) B (.slice (some ⟨g, 0, none⟩) N c) (R.set t (m, R[t].2)) ∧ w.grownBy (w.setCell ⟨g, t * 2, none⟩ (.int .i64 (m : Int))) (some g) :=
  h.stored hN.symm t ht 0 (by decide) (.int .i64 (m : Int)) (m, R[t].2) (by rfl)
theorem kw_st1 {w : World} {g B N c : Nat} {R : List (Nat × Nat)} (h : OwnG kwE w B (.slice (some ⟨g, 0, none⟩) N c) R) (hN : R.length = N) (t : Nat) (ht : t < R.length) (y : Nat) :
    OwnG kwE (w.setCell ⟨g, t * 2 + 1, none⟩ (.int .u64 (y : Int))) B (.slice (some ⟨g, 0, none⟩) N c) (R.set t (R[t].1, y)) ∧ w.grownBy (w.setCell ⟨g, t * 2 + 1, none⟩ (.int .u64 (y : Int))) (some g) :=
  h.stored hN.symm t ht 1 (by decide) (.int .u64 (y : Int)) (R[t].1, y) (by rfl)
set_option maxHeartbeats 1000000 in
/-- to a state that is not known yet -/
theorem addW_new (g N c B t L b : Nat) (R : List (Nat × Nat)) (w : World) (h : OwnG kwE w B (.slice (some ⟨g, 0, none⟩) N c) R) (hN : R.length = N) (ht : t < R.length) (hL : L ≤ 2000) (hb1 : 1 ≤ b) (hb2 : b ≤ 9223372036854775808) (h0 : R[t].2 = 0) :
    Calls Tryd.prog 60 #[.pointer (some ⟨g, t * 2, none⟩), .agg #[.int .i64 L, .int .u64 b]] w fun e w' => e = .returned (.bool true) ∧ OwnG kwE w' B (.slice (some ⟨g, 0, none⟩) N c) (R.set t (L + 1, b)) ∧ w.grownBy w' (some g) := by
  obtain ⟨c0, c1⟩ := kw_cells h hN t ht
  rw [h0] at c1
  have hfz := fun j => h.frozen hN.symm j
  have lw : g < w.heap.size := (h.lt _ rfl).2
  have mw : ¬ g = w.heap.size := by omega
  have hL2 : ((L + 1 : Nat) : Int) = (L : Int) + 1 := by omega
  obtain ⟨s0, g0⟩ := kw_st0 h hN t ht (L + 1)
  have hst := Lib.hid (fun (W : World) (hW : OwnG kwE W B (.slice (some ⟨g, 0, none⟩) N c) (R.set t (L + 1, R[t].2))) => show OwnG kwE (W.setCell ⟨g, t * 2 + 1, none⟩ (.int .u64 (b : Int))) B (.slice (some ⟨g, 0, none⟩) N c) (R.set t (L + 1, b)) ∧ W.grownBy (W.setCell ⟨g, t * 2 + 1, none⟩ (.int .u64 (b : Int))) (some g) by
    have h9 := kw_st1 hW (by simpa using hN) t (by simpa using ht) b
    rw [List.set_set, List.getElem_set_self] at h9
    exact h9)
  rw [hL2] at s0 g0
  replace s0 := Lib.hid s0
  replace g0 := Lib.hid g0
  generalize R[t].1 = m at *
  have e1 : IntKind.i64.wrap ((L : Int) + 1) = (L : Int) + 1 := by rw [IntKind.wrap_i64]; omega
  have hmin : min (b : Int) 9223372036854775808 = (b : Int) := by omega
  have heq : ((L : Int) + 1 == (L : Int) + 1) = true := by simp
  clear h h0 hL2
  go_enter Tryd.func60, Tryd.ntmps60
  go_wp2_with fail
  go_quiet (fail)
  go_wp2_with fail
  go_region
  go_wp2_with fail
  obtain ⟨s9, g9⟩ := hst.out _ ((s0.out.alloc _).drewN _)
  go_ret; exact ⟨rfl, s9, g0.out.trans ((grown_any (ba1 _ _) _).trans ((grown_any (below_drewN (Below.refl _ _) _) _).trans g9))⟩
set_option maxHeartbeats 1000000 in
/-- to a state of the next level that is known -/
theorem addW_same (g N c B t L b : Nat) (R : List (Nat × Nat)) (w : World) (h : OwnG kwE w B (.slice (some ⟨g, 0, none⟩) N c) R) (hN : R.length = N) (ht : t < R.length) (hL : L ≤ 2000) (hb1 : 1 ≤ b) (hb2 : b ≤ 9223372036854775808) (h0 : 1 ≤ R[t].2) (h1 : R[t].2 ≤ 9223372036854775808) (hm : R[t].1 = L + 1) :
    Calls Tryd.prog 60 #[.pointer (some ⟨g, t * 2, none⟩), .agg #[.int .i64 L, .int .u64 b]] w fun e w' => e = .returned (.bool false) ∧ OwnG kwE w' B (.slice (some ⟨g, 0, none⟩) N c) (R.set t (L + 1, R[t].2 + min b (9223372036854775808 - R[t].2))) ∧ w.grownBy w' (some g) := by
  obtain ⟨c0, c1⟩ := kw_cells h hN t ht
  rw [hm] at c0
  have hfz := fun j => h.frozen hN.symm j
  have lw : g < w.heap.size := (h.lt _ rfl).2
  have mw : ¬ g = w.heap.size := by omega
  have hL2 : ((L + 1 : Nat) : Int) = (L : Int) + 1 := by omega
  rw [hL2] at c0
  have hst := Lib.hid (fun (W : World) (hW : OwnG kwE W B (.slice (some ⟨g, 0, none⟩) N c) R) y => show OwnG kwE (W.setCell ⟨g, t * 2 + 1, none⟩ (.int .u64 ((y : Nat) : Int))) B (.slice (some ⟨g, 0, none⟩) N c) (R.set t (L + 1, y)) ∧ W.grownBy (W.setCell ⟨g, t * 2 + 1, none⟩ (.int .u64 ((y : Nat) : Int))) (some g) by
    have h9 := kw_st1 hW hN t ht y
    rw [hm] at h9
    exact h9)
  replace h := Lib.hid h
  generalize R[t].2 = y at *
  have e1 : IntKind.i64.wrap ((L : Int) + 1) = (L : Int) + 1 := by rw [IntKind.wrap_i64]; omega
  have heq : ((L : Int) + 1 == (L : Int) + 1) = true := by simp
  have hy0 : ((y : Int) == 0) = false := by simp; omega
  have hsub : IntKind.u64.wrap (9223372036854775808 - (y : Int)) = ((9223372036854775808 - y : Nat) : Int) := by rw [IntKind.wrap_u64]; omega
  have hmin : min (b : Int) ((9223372036854775808 - y : Nat) : Int) = ((min b (9223372036854775808 - y) : Nat) : Int) := by omega
  have hle := Nat.min_le_right b (9223372036854775808 - y)
  have hadd : IntKind.u64.wrap ((y : Int) + ((min b (9223372036854775808 - y) : Nat) : Int)) = ((y + min b (9223372036854775808 - y) : Nat) : Int) := by rw [IntKind.wrap_u64]; omega
  clear hm hL2
  go_enter Tryd.func60, Tryd.ntmps60
  go_wp2_with fail
  go_quiet (fail)
  go_wp2_with fail
  go_region
  go_wp2_with fail
  obtain ⟨s9, g9⟩ := hst.out _ ((h.out.alloc _).drewN _) (y + min b (9223372036854775808 - y))
  rw [show ((y + min b (9223372036854775808 - y) : Nat) : Int) = (y : Int) + ((min b (9223372036854775808 - y) : Nat) : Int) by simp] at s9 g9
  go_ret; exact ⟨rfl, s9, (grown_any (ba1 _ _) _).trans ((grown_any (below_drewN (Below.refl _ _) _) _).trans g9)⟩
set_option maxHeartbeats 1000000 in
/-- to a state that is nearer -/
theorem addW_near (g N c B t L b : Nat) (R : List (Nat × Nat)) (w : World) (h : OwnG kwE w B (.slice (some ⟨g, 0, none⟩) N c) R) (hN : R.length = N) (ht : t < R.length) (hL : L ≤ 2000) (h0 : 1 ≤ R[t].2) (hm : R[t].1 ≠ L + 1) :
    Calls Tryd.prog 60 #[.pointer (some ⟨g, t * 2, none⟩), .agg #[.int .i64 L, .int .u64 b]] w fun e w' => e = .returned (.bool false) ∧ OwnG kwE w' B (.slice (some ⟨g, 0, none⟩) N c) R ∧ w.grownBy w' (some g) := by
  obtain ⟨c0, c1⟩ := kw_cells h hN t ht
  have lw : g < w.heap.size := (h.lt _ rfl).2
  have mw : ¬ g = w.heap.size := by omega
  replace h := Lib.hid h
  generalize R[t].2 = y at *
  generalize R[t].1 = m at *
  have e1 : IntKind.i64.wrap ((L : Int) + 1) = (L : Int) + 1 := by rw [IntKind.wrap_i64]; omega
  have heq : ((m : Int) == (L : Int) + 1) = false := by simp; omega
  have hy0 : ((y : Int) == 0) = false := by simp; omega
  clear hm
  go_enter Tryd.func60, Tryd.ntmps60
  go_wp2_with fail
  go_quiet (fail)
  go_wp2_with fail
  go_ret; exact ⟨rfl, (h.out.alloc _).drewN _, (grown_any (ba1 _ _) _).trans (grown_any (below_drewN (Below.refl _ _) _) _)⟩
end Go.Proofs.YtcfeaaakfjilgabDoor
