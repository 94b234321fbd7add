/- The functions of chapter 1 that take two states, both ways. -/
import Derived.Test.YtkcoabdngjbhdadDoorA2
import Derived.Deep.RegionHeld3
import Derived.BigRegion
namespace Go.Proofs.YtkcoabdngjbhdadDoor
open Go Go.RowKit RM

def CellsOf (w : World) (b n x : Nat) : Prop := w.cell? ⟨b, 0, none⟩ = some (.int .i64 (ctz x)) ∧ w.cell? ⟨b, 1, none⟩ = some (.bool (onB x)) ∧ w.cell? ⟨b, 2, none⟩ = some (.int .i64 n) ∧ w.cell? ⟨b, 3, none⟩ = some (.int .u64 x)

theorem keepB {A B : Prop} {N : Nat} {w a b : World} (k : Below a.heap.size a b) (h : A ∧ B ∧ N + 2 ≤ a.heap.size ∧ Below N w a) : Below N w b := h.2.2.2.trans (k.mono (by omega))
theorem keepL {A B : Prop} {N : Nat} {w a b : World} (_ : Below a.heap.size a b) (h : A ∧ B ∧ N + 2 ≤ a.heap.size ∧ Below N w a) : N < a.heap.size ∧ N + 1 < a.heap.size := ⟨by omega, by omega⟩
set_option maxHeartbeats 1000000 in
set_option maxRecDepth 100000 in
theorem apart_any0 (n x y : Nat) (w : World) (hx : x < 1048576) (hy : y < 1048576) (hX : num x < 1048576) (hY : num y < 1048576) :
    Calls Tryd.prog 19 #[(.agg #[.int .i64 ((ctz (x) : Nat) : Int), .bool (onB (x)), .int .i64 ((n : Nat) : Int), .int .u64 ((x : Nat) : Int)]), (.agg #[.int .i64 ((ctz (y) : Nat) : Int), .bool (onB (y)), .int .i64 ((n : Nat) : Int), .int .u64 ((y : Nat) : Int)])] w fun e w' => e = .returned (.int .i64 (max (num x : Int) (num y) - min (num x : Int) (num y))) ∧ Below w.heap.size w w' := by
  go_enter Tryd.func19, Tryd.ntmps19
  go_wp2_with fail
  obtain ⟨W, hW⟩ : ∃ W, W = (w.alloc (.cells #[.int .i64 (ctz x), .bool (onB x), .int .i64 n, .int .u64 x] 34)).alloc (.cells #[.int .i64 (ctz y), .bool (onB y), .int .i64 n, .int .u64 y] 34) := ⟨_, rfl⟩
  have hb : Below w.heap.size w W := by subst hW; exact bt (ba _ _) (ba _ _)
  have hs : W.heap.size = w.heap.size + 2 := by subst hW; simp
  have c0 : CellsOf W w.heap.size n x := by subst hW; simp [CellsOf]
  have c1 : CellsOf W (w.heap.size + 1) n y := by subst hW; simp [CellsOf]
  obtain ⟨p0, p1, p2, p3⟩ := c0
  obtain ⟨q0, q1, q2, q3⟩ := c1
  rw [← hW]
  clear hW
  go_region_held3 (fun w' => (w'.cell? ⟨w.heap.size, 0, none⟩ = some (.int .i64 (ctz x)) ∧ w'.cell? ⟨w.heap.size, 1, none⟩ = some (.bool (onB x)) ∧ w'.cell? ⟨w.heap.size, 2, none⟩ = some (.int .i64 n) ∧ w'.cell? ⟨w.heap.size, 3, none⟩ = some (.int .u64 x)) ∧ (w'.cell? ⟨w.heap.size + 1, 0, none⟩ = some (.int .i64 (ctz y)) ∧ w'.cell? ⟨w.heap.size + 1, 1, none⟩ = some (.bool (onB y)) ∧ w'.cell? ⟨w.heap.size + 1, 2, none⟩ = some (.int .i64 n) ∧ w'.cell? ⟨w.heap.size + 1, 3, none⟩ = some (.int .u64 y)) ∧ w.heap.size + 2 ≤ w'.heap.size ∧ Below w.heap.size w w') ((refine ⟨⟨?_, ?_, ?_, ?_⟩, ⟨?_, ?_, ?_, ?_⟩, ?_, ?_⟩ <;> first | assumption | go_keep | omega | exact hb.drew))
    (first | (go_at_call 16; refine (number_any _ _ _ ?_).mono ?_; (first | exact hx | exact hy); rintro e w' ⟨rfl, hb2⟩; obtain ⟨hc, hf⟩ := bcell hb2; have hz := hb2.size; have hbn := keepB hb2 (by assumption); obtain ⟨hl0, hl1⟩ := keepL hb2 (by assumption)))
  all_goals
    go_wp2_with fail
    go_ret
    refine ⟨ret_int ?_, by assumption⟩
    rw [IntKind.wrap_i64]; omega

theorem apart_any (n x y : Nat) (w : World) (hx : x < 1048576) (hy : y < 1048576) :
    Calls Tryd.prog 19 #[(.agg #[.int .i64 ((ctz (x) : Nat) : Int), .bool (onB (x)), .int .i64 ((n : Nat) : Int), .int .u64 ((x : Nat) : Int)]), (.agg #[.int .i64 ((ctz (y) : Nat) : Int), .bool (onB (y)), .int .i64 ((n : Nat) : Int), .int .u64 ((y : Nat) : Int)])] w fun e w' => e = .returned (.int .i64 (max (num x : Int) (num y) - min (num x : Int) (num y))) ∧ Below w.heap.size w w' :=
  apart_any0 n x y w hx hy (num_lt 20 x hx) (num_lt 20 y hy)

theorem two_core (a b : ByteArray) (n m x y : Nat) (oa ob : Bool) (w : World) (hT : TabOk w)
    (hA : Hid (∀ w, TabOk w → Calls Tryd.prog 15 #[.string a] w fun e w' => e = .returned (.tuple #[(.agg #[.int .i64 ((ctz (x) : Nat) : Int), .bool (onB (x)), .int .i64 ((n : Nat) : Int), .int .u64 ((x : Nat) : Int)]), .bool oa]) ∧ Below w.heap.size w w'))
    (hB : Hid (∀ w, TabOk w → Calls Tryd.prog 15 #[.string b] w fun e w' => e = .returned (.tuple #[(.agg #[.int .i64 ((ctz (y) : Nat) : Int), .bool (onB (y)), .int .i64 ((m : Nat) : Int), .int .u64 ((y : Nat) : Int)]), .bool ob]) ∧ Below w.heap.size w w')) (hn : ((n : Int) != (m : Int)) = false) (ho : oa = true) (hp : ob = true) (hnm : n = m) :
    Calls Tryd.prog 10 #[.string a, .string b] w fun e w' => e = .returned (.tuple #[(.agg #[.int .i64 ((ctz (x) : Nat) : Int), .bool (onB (x)), .int .i64 ((n : Nat) : Int), .int .u64 ((x : Nat) : Int)]), (.agg #[.int .i64 ((ctz (y) : Nat) : Int), .bool (onB (y)), .int .i64 ((m : Nat) : Int), .int .u64 ((y : Nat) : Int)]), .bool true]) ∧ Below w.heap.size w w' := by
  have hT := Lib.hid hT
  subst ho hp hnm
  go_enter Tryd.func10, Tryd.ntmps10
  go_wp2_with fail
  refine (hA.out _ ?_).mono ?_
  · repeat (first | exact hT.out | apply TabOk.alloc | apply TabOk.drew | apply TabOk.drewN)
  rintro e w1 ⟨rfl, hb1⟩
  have hT1 := Lib.hid (TabOk.below (w := (w.alloc _).alloc _) (by repeat (first | exact hT.out | apply TabOk.alloc | apply TabOk.drew | apply TabOk.drewN)) hb1)
  have hb1 := Lib.hid hb1
  go_wp2_with fail
  refine (hB.out _ (hT1.out.alloc _)).mono ?_
  rintro e w2 ⟨rfl, hb2⟩
  have hs1 := hb1.out.size
  have hs2 := hb2.size
  simp only [World.size_alloc] at hs1 hs2
  have hbb := Lib.hid (hb1.out.trans (((ba w1 _).trans (hb2.mono (by simp))).mono (by simp; omega)))
  have f0 : ∀ o, w2.cell? ⟨w.heap.size, o, none⟩ = _ := fun o => hbb.out.cell (p := ⟨w.heap.size, o, none⟩) (by simp; omega)
  have f1 : ∀ o, w2.cell? ⟨w.heap.size + 1, o, none⟩ = _ := fun o => hbb.out.cell (p := ⟨w.heap.size + 1, o, none⟩) (by simp)
  have g0 : ∀ o, w2.frozen? ⟨w.heap.size, o, none⟩ = _ := fun o => hbb.out.frozen (p := ⟨w.heap.size, o, none⟩) (by simp; omega)
  have g1 : ∀ o, w2.frozen? ⟨w.heap.size + 1, o, none⟩ = _ := fun o => hbb.out.frozen (p := ⟨w.heap.size + 1, o, none⟩) (by simp)
  have f2 : ∀ o, w2.cell? ⟨w1.heap.size, o, none⟩ = _ := fun o => hb2.cell (p := ⟨w1.heap.size, o, none⟩) (by simp)
  have hb2 := Lib.hid hb2
  have hne1 : ¬ w1.heap.size = w.heap.size := by omega
  have hne2 : ¬ w1.heap.size = w.heap.size + 1 := by omega
  have l0 : w.heap.size < w2.heap.size := by omega
  have l1 : w.heap.size + 1 < w2.heap.size := by omega
  have l2 : w1.heap.size < w2.heap.size := by omega
  have m0 : ¬ w.heap.size = w2.heap.size := by omega
  have m1 : ¬ w.heap.size + 1 = w2.heap.size := by omega
  have m2 : ¬ w1.heap.size = w2.heap.size := by omega
  go_wp2_with fail
  go_region
  go_wp2_with fail
  refine bodyPost_ret (v := .tuple #[(.agg #[.int .i64 ((ctz (x) : Nat) : Int), .bool (onB (x)), .int .i64 ((n : Nat) : Int), .int .u64 ((x : Nat) : Int)]), (.agg #[.int .i64 ((ctz (y) : Nat) : Int), .bool (onB (y)), .int .i64 ((n : Nat) : Int), .int .u64 ((y : Nat) : Int)]), .bool true]) ?_ rfl ⟨rfl, ?_⟩
  · simp [results, Tryd.results10, go_sem, f0, f1, l0, l1]
  · have hB := Lib.hid (bt (bt (ba w _) (ba _ _)) hbb.out)
    refine Below.drew (Below.alloc (Below.setCell (Below.setCell (Below.setCell (Below.setCell (Below.setCell (Below.setCell (Below.setCell (Below.setCell hB.out ?_ _) ?_ _) ?_ _) ?_ _) ?_ _) ?_ _) ?_ _) ?_ _) ?_ _)
    all_goals (simp <;> omega)

theorem two_core_no (a b : ByteArray) (n m x y : Nat) (oa ob : Bool) (w : World) (hT : TabOk w)
    (hA : Hid (∀ w, TabOk w → Calls Tryd.prog 15 #[.string a] w fun e w' => e = .returned (.tuple #[(.agg #[.int .i64 ((ctz (x) : Nat) : Int), .bool (onB (x)), .int .i64 ((n : Nat) : Int), .int .u64 ((x : Nat) : Int)]), .bool oa]) ∧ Below w.heap.size w w'))
    (hB : Hid (∀ w, TabOk w → Calls Tryd.prog 15 #[.string b] w fun e w' => e = .returned (.tuple #[(.agg #[.int .i64 ((ctz (y) : Nat) : Int), .bool (onB (y)), .int .i64 ((m : Nat) : Int), .int .u64 ((y : Nat) : Int)]), .bool ob]) ∧ Below w.heap.size w w')) (hno : oa = false ∨ (oa = true ∧ ob = false) ∨ (oa = true ∧ ob = true ∧ ((n : Int) != (m : Int)) = true)) :
    Calls Tryd.prog 10 #[.string a, .string b] w fun e w' => e = .returned (.tuple #[(.agg #[.int .i64 ((ctz (0) : Nat) : Int), .bool (onB (0)), .int .i64 ((0 : Nat) : Int), .int .u64 ((0 : Nat) : Int)]), (.agg #[.int .i64 ((ctz (0) : Nat) : Int), .bool (onB (0)), .int .i64 ((0 : Nat) : Int), .int .u64 ((0 : Nat) : Int)]), .bool false]) ∧ Below w.heap.size w w' := by
  rw [← bz]
  have hT := Lib.hid hT
  rcases hno with rfl | ⟨rfl, rfl⟩ | ⟨rfl, rfl, hn⟩
  all_goals
    go_enter Tryd.func10, Tryd.ntmps10
    go_wp2_with fail
    refine (hA.out _ ?_).mono ?_
    · repeat (first | exact hT.out | apply TabOk.alloc | apply TabOk.drew | apply TabOk.drewN)
    rintro e w1 ⟨rfl, hb1⟩
    have hT1 := Lib.hid (TabOk.below (w := (w.alloc _).alloc _) (by repeat (first | exact hT.out | apply TabOk.alloc | apply TabOk.drew | apply TabOk.drewN)) hb1)
    have hb1 := Lib.hid hb1
    go_wp2_with fail
    refine (hB.out _ (hT1.out.alloc _)).mono ?_
    rintro e w2 ⟨rfl, hb2⟩
    have hs1 := hb1.out.size
    have hs2 := hb2.size
    simp only [World.size_alloc] at hs1 hs2
    have hbb := Lib.hid (hb1.out.trans (((ba w1 _).trans (hb2.mono (by simp))).mono (by simp; omega)))
    have f0 : ∀ o, w2.cell? ⟨w.heap.size, o, none⟩ = _ := fun o => hbb.out.cell (p := ⟨w.heap.size, o, none⟩) (by simp; omega)
    have f1 : ∀ o, w2.cell? ⟨w.heap.size + 1, o, none⟩ = _ := fun o => hbb.out.cell (p := ⟨w.heap.size + 1, o, none⟩) (by simp)
    have g0 : ∀ o, w2.frozen? ⟨w.heap.size, o, none⟩ = _ := fun o => hbb.out.frozen (p := ⟨w.heap.size, o, none⟩) (by simp; omega)
    have g1 : ∀ o, w2.frozen? ⟨w.heap.size + 1, o, none⟩ = _ := fun o => hbb.out.frozen (p := ⟨w.heap.size + 1, o, none⟩) (by simp)
    have f2 : ∀ o, w2.cell? ⟨w1.heap.size, o, none⟩ = _ := fun o => hb2.cell (p := ⟨w1.heap.size, o, none⟩) (by simp)
    have hb2 := Lib.hid hb2
    have hne1 : ¬ w1.heap.size = w.heap.size := by omega
    have hne2 : ¬ w1.heap.size = w.heap.size + 1 := by omega
    have l0 : w.heap.size < w2.heap.size := by omega
    have l1 : w.heap.size + 1 < w2.heap.size := by omega
    have l2 : w1.heap.size < w2.heap.size := by omega
    have m0 : ¬ w.heap.size = w2.heap.size := by omega
    have m1 : ¬ w.heap.size + 1 = w2.heap.size := by omega
    have m2 : ¬ w1.heap.size = w2.heap.size := by omega
    go_wp2_with fail
    refine bodyPost_ret (v := .tuple #[.agg #[.int .i64 0, .bool false, .int .i64 0, .int .u64 0], .agg #[.int .i64 0, .bool false, .int .i64 0, .int .u64 0], .bool false]) ?_ rfl ⟨rfl, ?_⟩
    · simp [results, Tryd.results10, go_sem, f0, f1, l0, l1]
    · have hB := Lib.hid (bt (bt (ba w _) (ba _ _)) hbb.out)
      refine Below.alloc (Below.setCell (Below.setCell (Below.setCell (Below.setCell (Below.setCell (Below.setCell (Below.setCell (Below.setCell hB.out ?_ _) ?_ _) ?_ _) ?_ _) ?_ _) ?_ _) ?_ _) ?_ _) ?_ _
      all_goals (simp <;> omega)

theorem two_yes (n x y : Nat) (w : World) (h1 : 1 ≤ n) (hn : n ≤ 20) (hx : x < 2 ^ n) (hy : y < 2 ^ n) (hT : TabOk w) :
    Calls Tryd.prog 10 #[.string (ST n x), .string (ST n y)] w fun e w' => e = .returned (.tuple #[(.agg #[.int .i64 ((ctz (x) : Nat) : Int), .bool (onB (x)), .int .i64 ((n : Nat) : Int), .int .u64 ((x : Nat) : Int)]), (.agg #[.int .i64 ((ctz (y) : Nat) : Int), .bool (onB (y)), .int .i64 ((n : Nat) : Int), .int .u64 ((y : Nat) : Int)]), .bool true]) ∧ Below w.heap.size w w' :=
  two_core _ _ n n x y true true w hT (Lib.hid fun w hw => barOf_ST n x w h1 hn hx hw) (Lib.hid fun w hw => barOf_ST n y w h1 hn hy hw) (by simp) rfl rfl rfl

theorem barOf_all (s : ByteArray) (hs : s.size ≤ maxLen) : ∃ n x ok, ok = goodB s.data.toList ∧ (ok = true → n = s.size) ∧ ∀ w, TabOk w → Calls Tryd.prog 15 #[.string s] w fun e w' => e = .returned (.tuple #[(.agg #[.int .i64 ((ctz (x) : Nat) : Int), .bool (onB (x)), .int .i64 ((n : Nat) : Int), .int .u64 ((x : Nat) : Int)]), .bool ok]) ∧ Below w.heap.size w w' := by
  rcases text_cases s with h | ⟨n, x, h1, h2, h3, rfl⟩
  · exact ⟨0, 0, false, h.symm, (fun e => by cases e), fun w _ => by have := barOf_bad s w hs h; rw [bz] at this; exact this⟩
  · exact ⟨n, x, true, (good_ST n x h1 h2).symm, (fun _ => (ST_size n x).symm), fun w hw => barOf_ST n x w h1 h2 h3 hw⟩

theorem two_no (a b : ByteArray) (w : World) (ha : a.size ≤ maxLen) (hb : b.size ≤ maxLen) (h : twoB a b = false) (hT : TabOk w) :
    Calls Tryd.prog 10 #[.string a, .string b] w fun e w' => e = .returned (.tuple #[(.agg #[.int .i64 ((ctz (0) : Nat) : Int), .bool (onB (0)), .int .i64 ((0 : Nat) : Int), .int .u64 ((0 : Nat) : Int)]), (.agg #[.int .i64 ((ctz (0) : Nat) : Int), .bool (onB (0)), .int .i64 ((0 : Nat) : Int), .int .u64 ((0 : Nat) : Int)]), .bool false]) ∧ Below w.heap.size w w' := by
  obtain ⟨n, x, oa, e1, s1, hA⟩ := barOf_all a ha
  obtain ⟨m, y, ob, e2, s2, hB⟩ := barOf_all b hb
  refine two_core_no a b n m x y oa ob w hT (Lib.hid hA) (Lib.hid hB) ?_
  unfold twoB at h
  rw [← e1, ← e2] at h
  cases oa
  · left; rfl
  · cases ob
    · right; left; exact ⟨rfl, rfl⟩
    · right; right
      refine ⟨rfl, rfl, ?_⟩
      rw [s1 rfl, s2 rfl]
      simp at h
      simp; omega



/-- how far two states are from each other -/
def apartN (x y : Nat) : Int := max (num x : Int) (num y) - min (num x : Int) (num y)





/-- the number in the middle -/
def midN (x y : Nat) : Nat := ((num x : Int) + ((num y : Int) - (num x : Int)).tdiv 2).toNat
theorem mid_lt (n x y : Nat) (hx : x < 2 ^ n) (hy : y < 2 ^ n) : midN x y < 2 ^ n ∧ ((midN x y : Nat) : Int) = (num x : Int) + ((num y : Int) - (num x : Int)).tdiv 2 := by
  have hX := num_lt n x hx
  have hY := num_lt n y hy
  unfold midN
  have h : ((num y : Int) - (num x : Int)).tdiv 2 = if 0 ≤ (num y : Int) - (num x : Int) then ((num y : Int) - (num x : Int)) / 2 else -(((num x : Int) - (num y : Int)) / 2) := by
    split
    · rw [Int.tdiv_eq_ediv_of_nonneg (by assumption)]
    · have e : (num y : Int) - (num x : Int) = -((num x : Int) - (num y : Int)) := by omega
      rw [e, Int.neg_tdiv, Int.tdiv_eq_ediv_of_nonneg (by omega)]
  rw [h]
  split <;> omega
end Go.Proofs.YtkcoabdngjbhdadDoor
