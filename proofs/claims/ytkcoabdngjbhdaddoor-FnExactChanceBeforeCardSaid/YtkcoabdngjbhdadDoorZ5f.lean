/- ChanceBefore, by the program and both ways. -/
import Derived.Test.YtkcoabdngjbhdadDoorZ5e
import Derived.Test.YtkcoabdngjbhdadDoorZ5
namespace Go.Proofs.YtkcoabdngjbhdadDoor
open Go Go.RowKit RM
set_option maxRecDepth 100000 in
set_option maxHeartbeats 4000000 in
theorem iCB_any (s a b : ByteArray) (n m x y z t : Nat) (c1 c2 c3 : Bool) (P Q : Nat) (w : World) (hT : TabOk w)
    (hA : Hid (∀ w, TabOk w → Calls Tryd.prog 10 #[.string s, .string a] w fun e w' => e = .returned (.tuple #[(.agg #[.int .i64 ((ctz (x) : Nat) : Int), .bool (onB (x)), .int .i64 ((n : Nat) : Int), .int .u64 ((x : Nat) : Int)]), (.agg #[.int .i64 ((ctz (y) : Nat) : Int), .bool (onB (y)), .int .i64 ((n : Nat) : Int), .int .u64 ((y : Nat) : Int)]), .bool c1]) ∧ Below w.heap.size w w'))
    (hB : Hid (∀ w, TabOk w → Calls Tryd.prog 10 #[.string s, .string b] w fun e w' => e = .returned (.tuple #[(.agg #[.int .i64 ((ctz (z) : Nat) : Int), .bool (onB (z)), .int .i64 ((m : Nat) : Int), .int .u64 ((z : Nat) : Int)]), (.agg #[.int .i64 ((ctz (t) : Nat) : Int), .bool (onB (t)), .int .i64 ((m : Nat) : Int), .int .u64 ((t : Nat) : Int)]), .bool c2]) ∧ Below w.heap.size w w'))
    (h3 : ((((ctz y : Nat) : Int) == ((ctz t : Nat) : Int) && onB y == onB t) && ((n : Int) == (m : Int) && (y : Int) == (t : Int))) = c3)
    (hno : (c1 && c2 && !c3) = false → P = 0 ∧ Q = 0)
    (hC : Hid ((c1 && c2 && !c3) = true → ∀ w, TabOk w → Calls Tryd.prog 11 #[(.agg #[.int .i64 ((ctz (x) : Nat) : Int), .bool (onB (x)), .int .i64 ((n : Nat) : Int), .int .u64 ((x : Nat) : Int)]), (.agg #[.int .i64 ((ctz (y) : Nat) : Int), .bool (onB (y)), .int .i64 ((n : Nat) : Int), .int .u64 ((y : Nat) : Int)]), (.agg #[.int .i64 ((ctz (t) : Nat) : Int), .bool (onB (t)), .int .i64 ((m : Nat) : Int), .int .u64 ((t : Nat) : Int)])] w fun e w' => e = .returned (RA P Q) ∧ Below w.heap.size w w'))
    (hTd : Hid (∀ w, Calls Tryd.prog 12 #[RA P Q] w fun e w' => e = .returned (.tuple #[.int .i64 P, .int .i64 Q, .bool true]) ∧ Below w.heap.size w w')) :
    Calls Tryd.prog 5 #[.string s, .string a, .string b] w fun e w' => AnsI2 w P Q (c1 && c2 && !c3) e w' := by
  have hT := Lib.hid hT
  have hE := fun w => eq_br w ((ctz y : Nat) : Int) (n : Int) (y : Int) ((ctz t : Nat) : Int) (m : Int) (t : Int) (onB y) (onB t)
  simp only [h3] at hE
  have hG := fun w op x y xs ys => eqg_br w op x y xs ys
  go_enter Tryd.func5, Tryd.ntmps5
  go_wp2_with fail
  refine (hA.out _ hT.out).mono ?_; rintro e w1 ⟨rfl, hb1⟩
  have hT1 := Lib.hid (hT.out.below hb1)
  go_wp2_with fail
  obtain ⟨w2, hw2⟩ : ∃ w2, Hid (w2 = (w1.alloc (barO n x)).alloc (barO n y)) := ⟨_, Lib.hid rfl⟩
  rw [← hw2.out]
  have hT2 := Lib.hid (show TabOk w2 by rw [hw2.out]; exact (hT1.out.alloc _).alloc _)
  have A2 := Lib.hid (show w2.heap[w1.heap.size]? = some (barO n x) by rw [hw2.out]; exact hb_old _ (hb_new _ _))
  have B2 := Lib.hid (show w2.heap[w1.heap.size + 1]? = some (barO n y) by rw [hw2.out]; exact hb_new' _ _ _ (by simp))
  have hb2 := Lib.hid (show Below w.heap.size w w2 by rw [hw2.out]; exact bt1 (bt1 hb1 (ba1 _ _)) (ba1 _ _))
  clear hb1
  refine (hB.out _ hT2.out).mono ?_; rintro e w3 ⟨rfl, hb3⟩
  have hT3 := Lib.hid (hT2.out.below hb3)
  have A3 := Lib.hid (hb_below hb3 (hb_lt A2.out) A2.out)
  have B3' := Lib.hid (hb_below hb3 (hb_lt B2.out) B2.out)
  have hb3 := Lib.hid (bt1 hb2.out hb3)
  have q1 := hb_lt B3'.out
  have q0 := hb_lt A3.out
  obtain ⟨w4, hw4⟩ : ∃ w4, Hid (w4 = (w3.alloc (barO m z)).alloc (barO m t)) := ⟨_, Lib.hid rfl⟩
  have A4 := Lib.hid (show w4.heap[w1.heap.size]? = some (barO n x) by rw [hw4.out]; exact hb_old _ (hb_old _ A3.out))
  have B4 := Lib.hid (show w4.heap[w1.heap.size + 1]? = some (barO n y) by rw [hw4.out]; exact hb_old _ (hb_old _ B3'.out))
  have C4 := Lib.hid (show w4.heap[w3.heap.size + 1]? = some (barO m t) by rw [hw4.out]; exact hb_new' _ _ _ (by simp))
  have hT4 := Lib.hid (show TabOk w4 by rw [hw4.out]; exact (hT3.out.alloc _).alloc _)
  have hb4 := Lib.hid (show Below w.heap.size w w4 by rw [hw4.out]; exact bt1 (bt1 hb3.out (ba1 _ _)) (ba1 _ _))
  go_upto_region 3 with fail
  rw [← hw4.out]
  obtain ⟨⟨f0, f1, f2, f3⟩, -⟩ := bar_cells A4.out
  obtain ⟨⟨g0, g1, g2, g3⟩, -⟩ := bar_cells B4.out
  obtain ⟨⟨k0, k1, k2, k3⟩, -⟩ := bar_cells C4.out
  cases c1 with
  | false =>
    obtain ⟨rfl, rfl⟩ := hno rfl
    go_wp2_with fail
    refine bodyPost_ret (v := .tuple #[.int .i64 0, .int .i64 0, .bool false]) ?_ rfl ⟨rfl, hb4.out⟩
    simp [results, Tryd.results5, go_sem]
  | true =>
    cases c2 with
    | false =>
      obtain ⟨rfl, rfl⟩ := hno rfl
      go_wp2_with fail
      refine bodyPost_ret (v := .tuple #[.int .i64 0, .int .i64 0, .bool false]) ?_ rfl ⟨rfl, hb4.out⟩
      simp [results, Tryd.results5, go_sem]
    | true =>
      cases c3 with
      | true =>
        obtain ⟨rfl, rfl⟩ := hno rfl
        go_wp2_with fail
        refine bodyPost_ret (v := .tuple #[.int .i64 0, .int .i64 0, .bool false]) ?_ rfl ⟨rfl, hb4.out⟩
        simp [results, Tryd.results5, go_sem]
      | false =>
        have hC' := Lib.hid (hC.out rfl)
        clear hno hC
        go_wp2_with fail
        refine (hC'.out _ hT4.out).mono ?_; rintro e w5 ⟨rfl, hb5⟩
        go_wp2_with fail
        refine (hTd.out _).mono ?_; rintro e w6 ⟨rfl, hb6⟩
        go_wp2_with fail
        refine bodyPost_ret (v := .tuple #[.int .i64 P, .int .i64 Q, .bool true]) ?_ rfl ⟨rfl, bt1 (bt1 hb4.out hb5) hb6⟩
        simp [results, Tryd.results5, go_sem]
theorem ST_neq {n x y : Nat} (hx : x < 2 ^ n) (hy : y < 2 ^ n) (h : x ≠ y) : ((ST n x).toList == (ST n y).toList) = false := by
  refine beq_eq_false_iff_ne.2 fun e => h ?_
  rw [ByteArray.toList_eq, ByteArray.toList_eq] at e
  have e2 : ST n x = ST n y := ByteArray.ext (Array.toList_inj.1 e)
  exact (ST_inj hx hy e2).2
theorem twoBars_all (s a : ByteArray) (hs : s.size ≤ maxLen) (ha : a.size ≤ maxLen) : ∃ n x y : Nat, (twoB s a = true → 1 ≤ n ∧ n ≤ 20 ∧ x < 2 ^ n ∧ y < 2 ^ n ∧ s = ST n x ∧ a = ST n y) ∧
    ∀ w, TabOk w → Calls Tryd.prog 10 #[.string s, .string a] w fun e w' => e = .returned (.tuple #[(.agg #[.int .i64 ((ctz (x) : Nat) : Int), .bool (onB (x)), .int .i64 ((n : Nat) : Int), .int .u64 ((x : Nat) : Int)]), (.agg #[.int .i64 ((ctz (y) : Nat) : Int), .bool (onB (y)), .int .i64 ((n : Nat) : Int), .int .u64 ((y : Nat) : Int)]), .bool (twoB s a)]) ∧ Below w.heap.size w w' := by
  cases h : twoB s a with
  | false => exact ⟨0, 0, 0, (fun e => by cases e), fun w hw => two_no s a w hs ha h hw⟩
  | true =>
    obtain ⟨n, x, y, h1, h2, h3, h4, rfl, rfl⟩ := of_two s a h
    exact ⟨n, x, y, fun _ => ⟨h1, h2, h3, h4, rfl, rfl⟩, fun w hw => two_yes n x y w h1 h2 h3 h4 hw⟩
theorem two_anyC (a b : ByteArray) (w : World) (ha : a.size ≤ maxLen) (hb : b.size ≤ maxLen) (c : Bool) (h : twoB a b = c) : Calls Tryd.prog 6 #[.string a, .string b] w fun e w' => e = .returned (.bool c) ∧ w = w' := by
  have := riTwo_any a b w ha hb
  rw [h] at this; exact this
theorem low_big {a b : Nat} (ha : a < 1048576) (hb : b < 1048576) : distN a b ≤ 4611686018427387904 := by have := dist_lt ha hb; omega
theorem chanceBefore_any (n x y z : Nat) (w : World) (hn : n ≤ 20) (hx : x < 2 ^ n) (hy : y < 2 ^ n) (hz : z < 2 ^ n) (hne : num y ≠ num z) (hT : TabOk w) :
    Calls Tryd.prog 11 #[(.agg #[.int .i64 ((ctz (x) : Nat) : Int), .bool (onB (x)), .int .i64 ((n : Nat) : Int), .int .u64 ((x : Nat) : Int)]), (.agg #[.int .i64 ((ctz (y) : Nat) : Int), .bool (onB (y)), .int .i64 ((n : Nat) : Int), .int .u64 ((y : Nat) : Int)]), (.agg #[.int .i64 ((ctz (z) : Nat) : Int), .bool (onB (z)), .int .i64 ((n : Nat) : Int), .int .u64 ((z : Nat) : Int)])] w fun e w' => e = .returned (RA (lowP (distN (clampN (num x) (num y) (num z)) (num z)) (distN (num y) (num z))) (lowQ (distN (clampN (num x) (num y) (num z)) (num z)) (distN (num y) (num z)))) ∧ Below w.heap.size w w' := by
  have hp := Nat.pow_le_pow_right (n := 2) (by omega) hn
  have bx := num_lt n x hx
  have hb := num_lt n y hy
  have bz := num_lt n z hz
  have hc := clamp_lt (X := num x) hb bz
  have := chance_core n x y z (gray (clampN (num x) (num y) (num z))) (2 ^ n) num (fun u v => distN (num u) (num v)) (lowP (distN (clampN (num x) (num y) (num z)) (num z)) (distN (num y) (num z))) (lowQ (distN (clampN (num x) (num y) (num z)) (num z)) (distN (num y) (num z))) w hT hx hy hz (gray_lt n _ hc) (clampN (num x) (num y) (num z) : Nat) (by unfold clampN; omega)
    (Lib.hid fun w u hu => number_any n u w (by omega)) (Lib.hid fun w u v hu hv => by
      have := apart_any n u v w (by omega) (by omega)
      rw [← dist_int] at this; exact this)
    (Lib.hid fun w => by
      have := ratioOf_any (distN (clampN (num x) (num y) (num z)) (num z)) (distN (num y) (num z)) w (low_big (by omega) (by omega)) (dist_pos hne) (low_big (by omega) (by omega))
      simp only [num_gray]; exact this)
    (Lib.hid fun w hw => barOfNumber_any n (clampN (num x) (num y) (num z)) w hn (by omega) hw)
  exact this
theorem ChanceBefore_both (s a b : ByteArray) (hs : s.size ≤ maxLen) (ha : a.size ≤ maxLen) (hb : b.size ≤ maxLen) : ∃ (r0 r1 : Int) (r2 : Bool),
    (∀ w, Calls Tryd.prog 4 #[.string s, .string a, .string b] w fun e w' => e = .returned (.tuple #[.int .i64 r0, .int .i64 r1, .bool r2]) ∧ Below w.heap.size w w') ∧
    (∀ w, TabOk w → Calls Tryd.prog 5 #[.string s, .string a, .string b] w fun e w' => e = .returned (.tuple #[.int .i64 r0, .int .i64 r1, .bool r2]) ∧ Below w.heap.size w w') := by
  obtain ⟨n, x, y, h1, hA⟩ := twoBars_all s a hs ha
  obtain ⟨m, x', z, h2, hB⟩ := twoBars_all s b hs hb
  obtain ⟨c3, h3⟩ : ∃ c, ((((ctz y : Nat) : Int) == ((ctz z : Nat) : Int) && onB y == onB z) && ((n : Int) == (m : Int) && (y : Int) == (z : Int))) = c := ⟨_, rfl⟩
  obtain ⟨d3, hd3⟩ : ∃ c, (a.toList == b.toList) = c := ⟨_, rfl⟩
  have hsA := Lib.hid fun w => two_anyC s a w hs ha _ rfl
  have hsB := Lib.hid fun w => two_anyC s b w hs hb _ rfl
  by_cases hc : twoB s a = true ∧ twoB s b = true
  · obtain ⟨q1, q2⟩ := hc
    obtain ⟨g1, g2, g3, g4, rfl, rfl⟩ := h1 q1
    obtain ⟨k1, k2, k3, k4, e1, rfl⟩ := h2 q2
    obtain ⟨rfl, rfl⟩ := ST_inj g3 k3 e1
    have hcd : c3 = d3 := by
      rw [← h3, ← hd3]
      by_cases hyz : y = z
      · subst hyz; simp
      · rw [ST_neq g4 k4 hyz]
        have : ((y : Int) == (z : Int)) = false := by rw [beq_eq_false_iff_ne]; omega
        rw [this]; simp
    have hp := Nat.pow_le_pow_right (n := 2) (by omega) g2
    have bx := num_lt n x g3
    have bY := num_lt n y g4
    have bz := num_lt n z k4
    cases c3 with
    | true =>
      refine ⟨0, 0, false, fun w => sCB_no _ _ _ _ _ true w (by simp) (by rw [hd3, ← hcd]) hsA hsB, fun w hT => ?_⟩
      have := iCB_any (ST n x) (ST n y) (ST n z) n n x y x z _ _ true 0 0 w hT (Lib.hid hA) (Lib.hid hB) h3 (fun _ => ⟨rfl, rfl⟩) (Lib.hid fun e => by simp at e) (Lib.hid fun w => told_any 0 0 w)
      rw [q1, q2] at this; exact this
    | false =>
      have hyz : y ≠ z := by rintro rfl; simp at h3
      have hne : num y ≠ num z := fun e => hyz (num_inj e)
      refine ⟨_, _, true, fun w => sCB_yes (ST n x) (ST n y) (ST n z) (num x) (num y) (num z) (lowP (distN (clampN (num x) (num y) (num z)) (num z)) (distN (num y) (num z))) (lowQ (distN (clampN (num x) (num y) (num z)) (num z)) (distN (num y) (num z))) w hne (by rw [hd3, ← hcd]) (by omega) (by omega) (by omega) (Lib.hid fun w => by have := hsA.out w; rw [q1] at this; exact this) (Lib.hid fun w => by have := hsB.out w; rw [q2] at this; exact this)
        (Lib.hid fun w => riNumber_ST n x w g2 g3) (Lib.hid fun w => riNumber_ST n y w g2 g4) (Lib.hid fun w => riNumber_ST n z w g2 k4) (Lib.hid fun h => ?_) (Lib.hid fun h => ?_) (Lib.hid fun h h' w => ?_), fun w hT => ?_⟩
      · have : clampN (num x) (num y) (num z) = num y := by unfold clampN; omega
        rw [this]; exact low_same _ (dist_pos hne)
      · have : clampN (num x) (num y) (num z) = num z := by unfold clampN; omega
        rw [this]
        have e0 : distN (num z) (num z) = 0 := by unfold distN; omega
        rw [e0]; exact low_zero _ (dist_pos hne)
      · have : clampN (num x) (num y) (num z) = num x := by unfold clampN; omega
        rw [this]
        have e1 : max ((num z : Int) - num x) (-((num z : Int) - num x)) = ((distN (num x) (num z) : Nat) : Int) := by unfold distN; omega
        have e2 : max ((num z : Int) - num y) (-((num z : Int) - num y)) = ((distN (num y) (num z) : Nat) : Int) := by unfold distN; omega
        rw [e1, e2]
        exact waLow_any _ _ w (low_big (by omega) (by omega)) (dist_pos hne) (low_big (by omega) (by omega))
      · have := iCB_any (ST n x) (ST n y) (ST n z) n n x y x z _ _ false (lowP (distN (clampN (num x) (num y) (num z)) (num z)) (distN (num y) (num z))) (lowQ (distN (clampN (num x) (num y) (num z)) (num z)) (distN (num y) (num z))) w hT (Lib.hid hA) (Lib.hid hB) h3 (fun e => by rw [q1, q2] at e; simp at e) (Lib.hid fun _ w hw => chanceBefore_any n x y z w g2 g3 g4 k4 hne hw) (Lib.hid fun w => told_any _ _ w)
        rw [q1, q2] at this; exact this
  · have hc2 : ∀ c, (twoB s a && twoB s b && c) = false := by
      intro c
      rw [← Bool.not_eq_true]; intro e
      simp only [Bool.and_eq_true] at e
      exact hc e.1
    refine ⟨0, 0, false, fun w => sCB_no s a b _ _ d3 w (hc2 _) hd3 hsA hsB, fun w hT => ?_⟩
    have := iCB_any s a b n m x y x' z _ _ c3 0 0 w hT (Lib.hid hA) (Lib.hid hB) h3 (fun _ => ⟨rfl, rfl⟩) (Lib.hid fun e => by rw [hc2] at e; cases e) (Lib.hid fun w => told_any 0 0 w)
    rw [hc2] at this; exact this
end Go.Proofs.YtkcoabdngjbhdadDoor
