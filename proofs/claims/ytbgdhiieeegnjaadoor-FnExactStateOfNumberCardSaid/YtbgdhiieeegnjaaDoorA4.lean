/- Moves of a ring, states of numbers: both ways. -/
import Derived.Test.YtbgdhiieeegnjaaDoorA3
namespace Go.Proofs.YtbgdhiieeegnjaaDoor
open Go Go.RowKit RM

theorem iMove_no (s : ByteArray) (k : Int) (w : World) (hT : TabOk w) (hB : Hid (∀ w, TabOk w → Calls Tryd.prog 45 #[.string s] w fun e w' => e = .returned (.tuple #[(.agg #[.int .i64 ((ctz (0) : Nat) : Int), .bool (onB (0)), .int .i64 ((0 : Nat) : Int), .int .u64 ((0 : Nat) : Int)]), .bool false]) ∧ Below w.heap.size w w')) :
    Calls Tryd.prog 25 #[.string s, .int .i64 k] w fun e w' => AnsS w ⟨#[]⟩ false e w' := by
  have hT := Lib.hid hT
  go_enter Tryd.func25, Tryd.ntmps25
  go_wp2_with fail
  refine (hB.out _ hT.out).mono ?_; rintro e w1 ⟨rfl, hb⟩
  have hb := Lib.hid hb
  go_wp2_with fail
  go_ret2; exact ⟨rfl, bt hb.out (ba _ _)⟩

theorem iMove_cannot (s : ByteArray) (n x : Nat) (k : Int) (w : World) (hT : TabOk w) (hB : Hid (∀ w, TabOk w → Calls Tryd.prog 45 #[.string s] w fun e w' => e = .returned (.tuple #[(.agg #[.int .i64 ((ctz (x) : Nat) : Int), .bool (onB (x)), .int .i64 ((n : Nat) : Int), .int .u64 ((x : Nat) : Int)]), .bool true]) ∧ Below w.heap.size w w'))
    (hM : Hid (∀ w, Calls Tryd.prog 53 #[(.agg #[.int .i64 ((ctz (x) : Nat) : Int), .bool (onB (x)), .int .i64 ((n : Nat) : Int), .int .u64 ((x : Nat) : Int)]), .int .i64 k] w fun e w' => e = .returned (.bool false) ∧ Below w.heap.size w w')) :
    Calls Tryd.prog 25 #[.string s, .int .i64 k] w fun e w' => AnsS w ⟨#[]⟩ false e w' := by
  have hT := Lib.hid hT
  go_enter Tryd.func25, Tryd.ntmps25
  go_wp2_with fail
  refine (hB.out _ hT.out).mono ?_; rintro e w1 ⟨rfl, hb⟩
  have hb := Lib.hid hb
  go_wp2_with fail
  refine (hM.out _).mono ?_; rintro e w2 ⟨rfl, hb2⟩
  have hb2 := Lib.hid hb2
  go_wp2_with fail
  go_ret2; exact ⟨rfl, bt (bt hb.out (ba _ _)) hb2.out⟩

theorem iMove_can (s : ByteArray) (n x k y : Nat) (t : ByteArray) (w : World) (hT : TabOk w) (hB : Hid (∀ w, TabOk w → Calls Tryd.prog 45 #[.string s] w fun e w' => e = .returned (.tuple #[(.agg #[.int .i64 ((ctz (x) : Nat) : Int), .bool (onB (x)), .int .i64 ((n : Nat) : Int), .int .u64 ((x : Nat) : Int)]), .bool true]) ∧ Below w.heap.size w w'))
    (hM : Hid (∀ w, Calls Tryd.prog 53 #[(.agg #[.int .i64 ((ctz (x) : Nat) : Int), .bool (onB (x)), .int .i64 ((n : Nat) : Int), .int .u64 ((x : Nat) : Int)]), .int .i64 k] w fun e w' => e = .returned (.bool true) ∧ Below w.heap.size w w'))
    (hD : Hid (∀ w, TabOk w → Calls Tryd.prog 56 #[(.agg #[.int .i64 ((ctz (x) : Nat) : Int), .bool (onB (x)), .int .i64 ((n : Nat) : Int), .int .u64 ((x : Nat) : Int)]), .int .i64 k] w fun e w' => e = .returned (.agg #[.int .i64 ((ctz (y) : Nat) : Int), .bool (onB (y)), .int .i64 ((n : Nat) : Int), .int .u64 ((y : Nat) : Int)]) ∧ Below w.heap.size w w'))
    (hX : Hid (∀ w, Calls Tryd.prog 51 #[(.agg #[.int .i64 ((ctz (y) : Nat) : Int), .bool (onB (y)), .int .i64 ((n : Nat) : Int), .int .u64 ((y : Nat) : Int)])] w fun e w' => e = .returned (.string t) ∧ Below w.heap.size w w')) :
    Calls Tryd.prog 25 #[.string s, .int .i64 k] w fun e w' => AnsS w t true e w' := by
  have hT := Lib.hid hT
  go_enter Tryd.func25, Tryd.ntmps25
  go_wp2_with fail
  refine (hB.out _ hT.out).mono ?_; rintro e w1 ⟨rfl, hb⟩
  have hT1 := Lib.hid (hT.out.below hb)
  have hb := Lib.hid hb
  go_wp2_with fail
  refine (hM.out _).mono ?_; rintro e w2 ⟨rfl, hb2⟩
  have hT2 := Lib.hid ((hT1.out.alloc _).below hb2)
  have f : ∀ o, w2.cell? ⟨w1.heap.size, o, none⟩ = _ := fun o => hb2.cell (p := ⟨w1.heap.size, o, none⟩) (by simp)
  have hb2 := Lib.hid hb2
  go_wp2_with fail
  refine (hD.out _ hT2.out).mono ?_; rintro e w3 ⟨rfl, hb3⟩
  have hb3 := Lib.hid hb3
  go_wp2_with fail
  refine (hX.out _).mono ?_; rintro e w4 ⟨rfl, hb4⟩
  have hb4 := Lib.hid hb4
  go_wp2_with fail
  go_ret2; exact ⟨rfl, bt (bt (bt (bt hb.out (ba _ _)) hb2.out) hb3.out) hb4.out⟩

theorem canB_true (n x : Nat) (k : Int) (h1 : 1 ≤ n) (h : canB n x k = true) : ∃ j : Nat, k = (j : Int) ∧ j < n := by
  by_cases h0 : k = 0
  · exact ⟨0, h0, h1⟩
  · by_cases hk : k < 0 ∨ (n : Int) ≤ k
    · rw [canB_out n x k (by omega)] at h; cases h
    · exact ⟨k.toNat, by omega, by omega⟩
/-- the state behind a move, if it can be made -/
def mvS (n x : Nat) (k : Int) : ByteArray := if canB n x k then ST n (x ^^^ 2 ^ k.toNat) else ⟨#[]⟩
theorem iMove_ST (n x : Nat) (k : Int) (w : World) (h1 : 1 ≤ n) (hn : n ≤ 20) (hx : x < 2 ^ n) (hT : TabOk w) :
    Calls Tryd.prog 25 #[.string (ST n x), .int .i64 k] w fun e w' => AnsS w (mvS n x k) (canB n x k) e w' := by
  have hx20 := Nat.lt_of_lt_of_le hx (pow20 hn)
  have hM := Lib.hid fun w => canMove_any n x k w h1 hn
  have hB := Lib.hid fun w hw => barOf_ST n x w h1 hn hx hw
  unfold mvS
  cases h : canB n x k
  · rw [h] at hM; exact iMove_cannot _ n x k w hT hB hM
  · rw [h] at hM
    obtain ⟨j, rfl, hj⟩ := canB_true n x k h1 h
    have hlt : x ^^^ 2 ^ j < 1048576 := Nat.xor_lt_two_pow (n := 20) hx20 (Nat.pow_lt_pow_right (a := 2) (by omega) (by omega))
    rw [Int.toNat_natCast]
    exact iMove_can _ n x j (x ^^^ 2 ^ j) _ w hT hB hM (Lib.hid fun w hw => moved_any n x j w hx20 (by omega) hw) (Lib.hid fun w => text_any n _ w hlt hn)

theorem iMove_bad (s : ByteArray) (k : Int) (w : World) (hs : s.size ≤ maxLen) (h : goodB s.data.toList = false) (hT : TabOk w) :
    Calls Tryd.prog 25 #[.string s, .int .i64 k] w fun e w' => AnsS w ⟨#[]⟩ false e w' :=
  iMove_no s k w hT (Lib.hid fun w _ => by have := barOf_bad s w hs h; rw [bz] at this; exact this)

theorem sMove_bad (s : ByteArray) (k : Int) (w : World) (hs : s.size ≤ maxLen) (h : goodB s.data.toList = false) :
    Calls Tryd.prog 24 #[.string s, .int .i64 k] w fun e w' => AnsS w ⟨#[]⟩ false e w' := by
  have hG := Lib.hid fun w => by
    have := riGood_any s w hs
    rw [h] at this; exact this
  clear h
  go_enter Tryd.func24, Tryd.ntmps24
  go_wp2_with fail
  refine (hG.out _).mono ?_; rintro e w1 ⟨rfl, rfl⟩
  go_wp2_with fail
  go_ret2
  exact ⟨rfl, Below.refl _ _⟩

theorem sMove_core (s t : ByteArray) (k : Int) (c : Bool) (w : World) (hG : Hid (∀ w, Calls Tryd.prog 43 #[.string s] w fun e w' => e = .returned (.bool true) ∧ w = w'))
    (hC : Hid (∀ w, Calls Tryd.prog 54 #[.string s, .int .i64 k] w fun e w' => e = .returned (.bool c) ∧ w = w'))
    (hM : c = true → Hid (∀ w, Calls Tryd.prog 55 #[.string s, .int .i64 k] w fun e w' => e = .returned (.string t) ∧ ∃ q, w' = w.drewN q)) :
    Calls Tryd.prog 24 #[.string s, .int .i64 k] w fun e w' => AnsS w (if c then t else ⟨#[]⟩) c e w' := by
  cases c
  · clear hM
    go_enter Tryd.func24, Tryd.ntmps24
    go_wp2_with fail
    refine (hG.out _).mono ?_; rintro e w1 ⟨rfl, rfl⟩
    go_wp2_with fail
    refine (hC.out _).mono ?_; rintro e w1 ⟨rfl, rfl⟩
    go_wp2_with fail
    go_ret2
    exact ⟨rfl, Below.refl _ _⟩
  · have hM2 := hM rfl
    clear hM
    go_enter Tryd.func24, Tryd.ntmps24
    go_wp2_with fail
    refine (hG.out _).mono ?_; rintro e w1 ⟨rfl, rfl⟩
    go_wp2_with fail
    refine (hC.out _).mono ?_; rintro e w1 ⟨rfl, rfl⟩
    go_wp2_with fail
    refine (hM2.out _).mono ?_; rintro e w1 ⟨rfl, q, rfl⟩
    go_wp2_with fail
    go_ret2
    exact ⟨rfl, below_q _ _⟩

theorem sMove_ST (n x : Nat) (k : Int) (w : World) (h1 : 1 ≤ n) (hn : n ≤ 20) (_ : x < 2 ^ n) :
    Calls Tryd.prog 24 #[.string (ST n x), .int .i64 k] w fun e w' => AnsS w (mvS n x k) (canB n x k) e w' := by
  have := sMove_core (ST n x) (ST n (x ^^^ 2 ^ k.toNat)) k (canB n x k) w (Lib.hid fun w => by
    have := riGood_any (ST n x) w (by rw [ST_size]; unfold maxLen; omega)
    rw [good_ST n x h1 hn] at this; exact this) (Lib.hid fun w => riCan_ST n x k w h1 hn) (fun hc => Lib.hid fun w => by
      obtain ⟨j, rfl, hj⟩ := canB_true n x k h1 hc
      rw [Int.toNat_natCast]; exact riMove_ST n x j w hn hj)
  exact this

/-- the state with a number, if there is one -/
def nthB (n : Int) (m : Int) : Bool := decide (1 ≤ n) && decide (n ≤ 20) && decide (0 ≤ m) && decide (m < 2 ^ n.toNat)
def nthS (n : Int) (m : Int) : ByteArray := if nthB n m then ST n.toNat (gray m.toNat) else ⟨#[]⟩
theorem iNth_no1 (n m : Int) (w : World) (h : n < 1 ∨ 20 < n) : Calls Tryd.prog 34 #[.int .i64 n, .int .i64 m] w fun e w' => AnsS w ⟨#[]⟩ false e w' := by
  go_enter Tryd.func34, Tryd.ntmps34
  go_wp2_with fail
  refine (isRingCount_no _ _ h).mono ?_; rintro e w' ⟨rfl, rfl⟩
  go_wp2_with fail
  go_ret2; exact ⟨rfl, Below.refl _ _⟩

theorem iNth_no2 (n m : Int) (w : World) (h1 : 1 ≤ n) (h2 : n ≤ 20) (hm : m < 0) : Calls Tryd.prog 34 #[.int .i64 n, .int .i64 m] w fun e w' => AnsS w ⟨#[]⟩ false e w' := by
  go_enter Tryd.func34, Tryd.ntmps34
  go_wp2_with fail
  refine (isRingCount_yes _ _ h1 h2).mono ?_; rintro e w' ⟨rfl, rfl⟩
  go_wp2_with fail
  go_ret2; exact ⟨rfl, Below.refl _ _⟩

theorem iNth_no3 (n : Nat) (m : Int) (X : Nat) (w : World) (h1 : 1 ≤ n) (h2 : n ≤ 20) (hm : 0 ≤ m) (hX : Hid (∀ w, Calls Tryd.prog 64 #[.int .i64 n] w fun e w' => e = .returned (.int .i64 (X : Int)) ∧ w = w')) (hx : (X : Int) < m) :
    Calls Tryd.prog 34 #[.int .i64 n, .int .i64 m] w fun e w' => AnsS w ⟨#[]⟩ false e w' := by
  go_enter Tryd.func34, Tryd.ntmps34
  go_wp2_with fail
  refine (isRingCount_yes _ _ (by omega) (by omega)).mono ?_; rintro e w' ⟨rfl, rfl⟩
  go_wp2_with fail
  refine (hX.out _).mono ?_; rintro e w' ⟨rfl, rfl⟩
  go_wp2_with fail
  go_ret2; exact ⟨rfl, Below.refl _ _⟩

theorem iNth_yes (n m X y : Nat) (t : ByteArray) (w : World) (h1 : 1 ≤ n) (h2 : n ≤ 20) (hX : Hid (∀ w, Calls Tryd.prog 64 #[.int .i64 n] w fun e w' => e = .returned (.int .i64 (X : Int)) ∧ w = w')) (hx : m ≤ X) (hT : TabOk w)
    (hB : Hid (∀ w, TabOk w → Calls Tryd.prog 65 #[.int .i64 n, .int .i64 m] w fun e w' => e = .returned (.agg #[.int .i64 ((ctz (y) : Nat) : Int), .bool (onB (y)), .int .i64 ((n : Nat) : Int), .int .u64 ((y : Nat) : Int)]) ∧ Below w.heap.size w w')) (hS : Hid (∀ w, Calls Tryd.prog 51 #[(.agg #[.int .i64 ((ctz (y) : Nat) : Int), .bool (onB (y)), .int .i64 ((n : Nat) : Int), .int .u64 ((y : Nat) : Int)])] w fun e w' => e = .returned (.string t) ∧ Below w.heap.size w w')) :
    Calls Tryd.prog 34 #[.int .i64 n, .int .i64 m] w fun e w' => AnsS w t true e w' := by
  have hT := Lib.hid hT
  go_enter Tryd.func34, Tryd.ntmps34
  go_wp2_with fail
  refine (isRingCount_yes _ _ (by omega) (by omega)).mono ?_; rintro e w' ⟨rfl, rfl⟩
  go_wp2_with fail
  refine (hX.out _).mono ?_; rintro e w' ⟨rfl, rfl⟩
  go_wp2_with fail
  refine (hB.out _ hT.out).mono ?_; rintro e w1 ⟨rfl, hb⟩
  have hb := Lib.hid hb
  go_wp2_with fail
  refine (hS.out _).mono ?_; rintro e w2 ⟨rfl, hb2⟩
  have hb2 := Lib.hid hb2
  go_wp2_with fail
  go_ret2; exact ⟨rfl, bt hb.out hb2.out⟩

theorem sNth_no1 (n m : Int) (w : World) (h : n < 1 ∨ 20 < n) : Calls Tryd.prog 33 #[.int .i64 n, .int .i64 m] w fun e w' => AnsS w ⟨#[]⟩ false e w' := by
  have hR := Lib.hid fun w => by
    have := riRings_any n w
    rw [show (decide (1 ≤ n) && decide (n ≤ 20)) = false from by simp; omega] at this; exact this
  go_enter Tryd.func33, Tryd.ntmps33
  go_wp2_with fail
  refine (hR.out _).mono ?_; rintro e w' ⟨rfl, rfl⟩
  go_wp2_with fail
  go_ret2; exact ⟨rfl, Below.refl _ _⟩

theorem sNth_no2 (n : Nat) (m : Int) (X : Nat) (w : World) (h1 : 1 ≤ n) (h2 : n ≤ 20) (hX : (2 : Int) ^ n = (X : Int)) (b1 : 1 ≤ X) (b2 : X ≤ 1048576) (hm : m < 0 ∨ (X : Int) - 1 < m) : Calls Tryd.prog 33 #[.int .i64 n, .int .i64 m] w fun e w' => AnsS w ⟨#[]⟩ false e w' := by
  have hR := Lib.hid fun w => by
    have := riRings_any n w
    rw [show (decide (1 ≤ (n : Int)) && decide ((n : Int) ≤ 20)) = true from by simp; omega] at this; exact this
  go_enter Tryd.func33, Tryd.ntmps33
  go_wp2_with fail
  refine (hR.out _).mono ?_; rintro e w' ⟨rfl, rfl⟩
  go_wp2_with fail
  refine (l1In_no _ _ _ _ hm).mono ?_; rintro e w' ⟨rfl, rfl⟩
  go_wp2_with fail
  go_ret2; exact ⟨rfl, Below.refl _ _⟩

theorem sNth_yes (n m : Nat) (X : Nat) (w : World) (h1 : 1 ≤ n) (h2 : n ≤ 20) (hX : (2 : Int) ^ n = (X : Int)) (b1 : 1 ≤ X) (b2 : X ≤ 1048576) (hm : m < X) : Calls Tryd.prog 33 #[.int .i64 n, .int .i64 m] w fun e w' => AnsS w (ST n (gray m)) true e w' := by
  have hR := Lib.hid fun w => by
    have := riRings_any n w
    rw [show (decide (1 ≤ (n : Int)) && decide ((n : Int) ≤ 20)) = true from by simp; omega] at this; exact this
  have hA := Lib.hid fun w => riState_any n m w h2 (by omega)
  go_enter Tryd.func33, Tryd.ntmps33
  go_wp2_with fail
  refine (hR.out _).mono ?_; rintro e w' ⟨rfl, rfl⟩
  go_wp2_with fail
  refine (l1In_yes _ _ _ _ (by omega) (by omega)).mono ?_; rintro e w' ⟨rfl, rfl⟩
  go_wp2_with fail
  refine (hA.out _).mono ?_; rintro e w' ⟨rfl, q, rfl⟩
  go_wp2_with fail
  go_ret2; exact ⟨rfl, below_q _ _⟩

theorem iNth_any (n m : Int) (w : World) (hT : TabOk w) : Calls Tryd.prog 34 #[.int .i64 n, .int .i64 m] w fun e w' => AnsS w (nthS n m) (nthB n m) e w' := by
  have hno : nthB n m = false → nthS n m = ⟨#[]⟩ := fun h => by unfold nthS; rw [h]; rfl
  rcases rings_cases n with h | ⟨n, rfl, h1, h2⟩
  · have hb : nthB n m = false := by
      unfold nthB
      have : (decide (1 ≤ n) && decide (n ≤ 20)) = false := by simp; omega
      rw [this]; rfl
    rw [hno hb, hb]; exact iNth_no1 n m w h
  · have hp := pow20 h2
    have hq := pow_pos1 n
    by_cases hm : m < 0
    · have hb : nthB n m = false := by
        unfold nthB
        have : decide (0 ≤ m) = false := by simp; omega
        rw [this]; simp
      rw [hno hb, hb]; exact iNth_no2 n m w (by omega) (by omega) hm
    · obtain ⟨m, rfl⟩ := Int.eq_ofNat_of_zero_le (show 0 ≤ m by omega)
      have hG := Lib.hid fun w => greatest_any n w h2
      by_cases hx : m < 2 ^ n
      · have hb : nthB (n : Int) (m : Int) = true := by
          unfold nthB
          rw [Int.toNat_natCast, pow_cast]
          simp
          refine ⟨⟨by omega, by omega⟩, by exact_mod_cast hx⟩
        have hs : nthS (n : Int) (m : Int) = ST n (gray m) := by unfold nthS; rw [hb]; simp
        rw [hb, hs]
        exact iNth_yes n m (2 ^ n - 1) (gray m) _ w h1 h2 hG (by omega) hT (Lib.hid fun w hw => barOfNumber_any n m w h2 (by omega) hw) (Lib.hid fun w => text_any n _ w (gray_lt 20 m (by omega)) h2)
      · have hb : nthB (n : Int) (m : Int) = false := by
          unfold nthB
          rw [Int.toNat_natCast, pow_cast]
          have : decide ((m : Int) < ((2 ^ n : Nat) : Int)) = false := by
            rw [decide_eq_false_iff_not]; intro h; exact hx (by exact_mod_cast h)
          rw [this]; simp
        rw [hno hb, hb]; exact iNth_no3 n m (2 ^ n - 1) w h1 h2 (by omega) hG (by omega)

theorem sNth_any (n m : Int) (w : World) : Calls Tryd.prog 33 #[.int .i64 n, .int .i64 m] w fun e w' => AnsS w (nthS n m) (nthB n m) e w' := by
  have hno : nthB n m = false → nthS n m = ⟨#[]⟩ := fun h => by unfold nthS; rw [h]; rfl
  rcases rings_cases n with h | ⟨n, rfl, h1, h2⟩
  · have hb : nthB n m = false := by
      unfold nthB
      have : (decide (1 ≤ n) && decide (n ≤ 20)) = false := by simp; omega
      rw [this]; rfl
    rw [hno hb, hb]; exact sNth_no1 n m w h
  · have hp := pow20 h2
    have hq := pow_pos1 n
    by_cases hm : 0 ≤ m ∧ m < ((2 ^ n : Nat) : Int)
    · obtain ⟨m, rfl⟩ := Int.eq_ofNat_of_zero_le hm.1
      have hx : m < 2 ^ n := by exact_mod_cast hm.2
      have hb : nthB (n : Int) (m : Int) = true := by
        unfold nthB
        rw [Int.toNat_natCast, pow_cast]
        simp
        refine ⟨⟨by omega, by omega⟩, by exact_mod_cast hx⟩
      have hs : nthS (n : Int) (m : Int) = ST n (gray m) := by unfold nthS; rw [hb]; simp
      rw [hb, hs]
      exact sNth_yes n m (2 ^ n) w h1 h2 (pow_cast n) hq hp hx
    · have hb : nthB (n : Int) m = false := by
        unfold nthB
        rw [Int.toNat_natCast, pow_cast]
        have : (decide (0 ≤ m) && decide (m < ((2 ^ n : Nat) : Int))) = false := by simp; intro h; exact Int.not_lt.1 fun h' => hm ⟨h, by simpa using h'⟩
        rw [Bool.and_assoc, this]; simp
      rw [hno hb, hb]; exact sNth_no2 n m (2 ^ n) w h1 h2 (pow_cast n) hq hp (by omega)

end Go.Proofs.YtbgdhiieeegnjaaDoor
