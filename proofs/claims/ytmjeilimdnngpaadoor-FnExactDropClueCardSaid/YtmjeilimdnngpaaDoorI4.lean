/- Bars of states; how many rings are on. -/
import Derived.Test.YtmjeilimdnngpaaDoorI3
import Derived.Test.YtmjeilimdnngpaaDoorPop
import Derived.Test.YtmjeilimdnngpaaDoorS2
namespace Go.Proofs.YtmjeilimdnngpaaDoor
open Go Go.RowKit RM

theorem barOf_no (s : ByteArray) (w : World) (hI : Hid (∀ w, Calls Tryd.prog 95 #[.string s] w fun e w' => e = .returned (.bool false) ∧ w = w')) :
    Calls Tryd.prog 75 #[.string s] w fun e w' => e = .returned (.tuple #[.agg #[.int .i64 0, .bool false, .int .i64 0, .int .u64 0], .bool false]) ∧ Below w.heap.size w w' := by
  go_enter Tryd.func75, Tryd.ntmps75
  go_wp2_with fail
  refine (hI.out _).mono ?_; rintro e w' ⟨rfl, rfl⟩
  go_wp2_with fail
  refine bodyPost_ret (v := .tuple #[.agg #[.int .i64 0, .bool false, .int .i64 0, .int .u64 0], .bool false]) ?_ rfl ⟨rfl, ?_⟩
  · simp [results, Tryd.results75, go_sem]
  · exact (Below.refl _ _).alloc (Nat.le_refl _) _

theorem bit_or (a k : Nat) (ha : a < 2 ^ k) (hk : k < 20) : bits BinOp.or IntKind.u64 (a : Int) (2 ^ k) = ((a + 2 ^ k : Nat) : Int) := by
  have h1 : 2 ^ k < 1048576 := Nat.pow_lt_pow_right (a := 2) (by omega) hk
  rw [pow_cast, bits_or_u64_nat a (2 ^ k) (by omega) (by omega)]
  have := Nat.two_pow_add_eq_or_of_lt ha 1
  rw [Nat.mul_one] at this
  rw [Nat.or_comm, ← this, Nat.add_comm]
theorem barOf_yes (s : ByteArray) (n x : Nat) (w : World) (hn : n ≤ 20) (hsz : n = s.size) (hx : x < 2 ^ n) (hT : TabOk w)
    (hb : Hid (∀ k (h : k < s.size), ((s[k].toNat : Int) == 49) = x.testBit k)) (hI : Hid (∀ w, Calls Tryd.prog 95 #[.string s] w fun e w' => e = .returned (.bool true) ∧ w = w')) :
    Calls Tryd.prog 75 #[.string s] w fun e w' => e = .returned (.tuple #[(.agg #[.int .i64 ((ctz (x) : Nat) : Int), .bool (onB (x)), .int .i64 ((n : Nat) : Int), .int .u64 ((x : Nat) : Int)]), .bool true]) ∧ Below w.heap.size w w' := by
  subst hsz
  have hT := Lib.hid hT
  have hx20 := Lib.hid (Nat.lt_of_lt_of_le hx (pow20 hn))
  have hXX : Hid (x % 2 ^ s.size = x) := Lib.hid (Nat.mod_eq_of_lt hx)
  clear hx
  go_enter Tryd.func75, Tryd.ntmps75
  go_wp2_with fail
  refine (hI.out _).mono ?_; rintro e w' ⟨rfl, rfl⟩
  go_wp2_with fail
  go_loop [4, 12] (fun a i => ∃ k m : Nat, k ≤ s.size ∧ i = .int .i64 k ∧ a = .int .u64 m ∧ Hid (x % 2 ^ k = m)) (fun _ i => s.size - (intOf i).toNat)
  case atStart => exact ⟨0, 0, Nat.zero_le _, rfl, rfl, Lib.hid (by simp [Nat.mod_one])⟩
  case round =>
    obtain ⟨k, m, hk, rfl, rfl, he⟩ := hrel
    by_cases hlt : k < s.size
    · have hbk := Lib.hid (hb.out k hlt)
      have hst := Lib.hid (mod_step x k)
      have hm : Hid (m < 2 ^ k) := Lib.hid (by rw [← he.out]; exact Nat.mod_lt _ (Nat.two_pow_pos k))
      cases h9 : ((s[k].toNat : Int) == 49)
      · have hv : Hid (x % 2 ^ (k + 1) = m) := Lib.hid (by rw [hst.out, he.out, if_neg (by rw [← hbk.out, h9]; simp)]; rfl)
        go_wp2
        go_round
        case rel => exact ⟨k + 1, m, by omega, by go_num, rfl, hv⟩
        all_goals (simp [intOf] <;> omega)
      · have hv : Hid (x % 2 ^ (k + 1) = m + 2 ^ k) := Lib.hid (by rw [hst.out, he.out, if_pos (by rw [← hbk.out, h9])])
        have hp : IntKind.u64.wrap (2 ^ k) = 2 ^ k := by
          have h1 : 2 ^ k < 1048576 := Nat.pow_lt_pow_right (a := 2) (by omega) (by omega : k < 20)
          rw [IntKind.wrap_u64, pow_cast]; generalize 2 ^ k = X at *; omega
        have hor := bit_or m k hm.out (by omega)
        go_wp2
        go_round
        case rel => exact ⟨k + 1, m + 2 ^ k, by omega, by go_num, rfl, hv⟩
        all_goals (simp [intOf] <;> omega)
    · obtain rfl : k = s.size := by omega
      have hmx : Hid (m = x) := Lib.hid (by rw [← he.out, hXX.out])
      have hC := Lib.hid (newBar_any s.size x · (by have := hx20.out; omega : x < 2 ^ 64))
      go_wp2_with fail
      rw [hmx.out]
      refine (hC.out _ ?_).mono ?_
      · repeat (first | exact hT.out | apply TabOk.alloc | apply TabOk.drew | apply TabOk.drewN)
      rintro e w' ⟨rfl, hb⟩
      obtain ⟨hc, hf⟩ := bcell hb
      go_wp2_with fail
      refine bodyPost_ret (v := .tuple #[(.agg #[.int .i64 ((ctz (x) : Nat) : Int), .bool (onB (x)), .int .i64 ((s.size : Nat) : Int), .int .u64 ((x : Nat) : Int)]), .bool true]) ?_ rfl ⟨rfl, ?_⟩
      · simp [results, Tryd.results75, go_sem, hc]
      · refine Below.setCell (Below.setCell (Below.setCell (Below.setCell ?_ (by simp) _) (by simp) _) (by simp) _) (by simp) _
        refine Below.trans ?_ (hb.mono (by simp))
        repeat (first | exact Below.refl _ _ | (refine Below.drew ?_) | (refine Below.alloc ?_ (by simp) _))

theorem barOf_ST (n x : Nat) (w : World) (h1 : 1 ≤ n) (hn : n ≤ 20) (hx : x < 2 ^ n) (hT : TabOk w) :
    Calls Tryd.prog 75 #[.string (ST n x)] w fun e w' => e = .returned (.tuple #[(.agg #[.int .i64 ((ctz (x) : Nat) : Int), .bool (onB (x)), .int .i64 ((n : Nat) : Int), .int .u64 ((x : Nat) : Int)]), .bool true]) ∧ Below w.heap.size w w' :=
  barOf_yes _ n x w hn (ST_size n x).symm hx hT (Lib.hid fun k h => ST_eq n x k h) (Lib.hid fun w => by
    have := IsState_any (ST n x) w (by rw [ST_size]; unfold maxLen; omega)
    rw [good_ST n x h1 hn] at this; exact this)

theorem barOf_bad (s : ByteArray) (w : World) (hs : s.size ≤ maxLen) (h : goodB s.data.toList = false) :
    Calls Tryd.prog 75 #[.string s] w fun e w' => e = .returned (.tuple #[.agg #[.int .i64 0, .bool false, .int .i64 0, .int .u64 0], .bool false]) ∧ Below w.heap.size w w' :=
  barOf_no s w (Lib.hid fun w => by have := IsState_any s w hs; rw [h] at this; exact this)

theorem ones_core (x a1 a2 a3 r : Nat) (w : World) (h1 : IntKind.u64.wrap (bits BinOp.and IntKind.u64 ((x : Int) / 2) 6148914691236517205 + bits BinOp.and IntKind.u64 (x : Int) 6148914691236517205) = (a1 : Int))
    (h2 : IntKind.u64.wrap (bits BinOp.and IntKind.u64 ((a1 : Int) / 4) 3689348814741910323 + bits BinOp.and IntKind.u64 (a1 : Int) 3689348814741910323) = (a2 : Int))
    (h3 : bits BinOp.and IntKind.u64 ((a2 : Int) / 16 + (a2 : Int)) 1085102592571150095 = (a3 : Int)) (b2 : a2 < 16777216) (b3 : a3 < 16777216)
    (h4 : bits BinOp.and IntKind.i64 ((a3 : Int) + (a3 : Int) / 256 + ((a3 : Int) + (a3 : Int) / 256) / 65536 + ((a3 : Int) + (a3 : Int) / 256 + ((a3 : Int) + (a3 : Int) / 256) / 65536) / 4294967296) 127 = (r : Int)) :
    Calls Tryd.prog 112 #[.int .u64 x] w fun e w' => e = .returned (.int .i64 r) ∧ w = w' := by
  go_enter Tryd.func112, Tryd.ntmps112
  go_wp2_with fail
  go_ret; exact ⟨rfl, rfl⟩

theorem and_u64 (a b c : Nat) (ha : a < 18446744073709551616) (hb : b < 18446744073709551616) (h : a &&& b = c) : bits BinOp.and IntKind.u64 (a : Int) (b : Int) = (c : Int) := by rw [bits_and_u64_nat a b ha hb, h]
theorem ones_any (x : Nat) (w : World) (hx : x < 1048576) : Calls Tryd.prog 112 #[.int .u64 x] w fun e w' => e = .returned (.int .i64 ((pop x : Nat) : Int)) ∧ w = w' := by
  obtain ⟨a1, a2, a3, e1, e2, e3, c1, c2, c3, e4⟩ := pop_sum x (by omega)
  refine ones_core x a1 a2 a3 (pop x) w ?_ ?_ ?_ c2 c3 ?_
  · have A := and_u64 (x / 2) 6148914691236517205 _ (by omega) (by omega) rfl
    have B := and_u64 x 6148914691236517205 _ (by omega) (by omega) rfl
    rw [show ((x : Int) / 2) = ((x / 2 : Nat) : Int) from by omega]
    rw [show (6148914691236517205 : Int) = ((6148914691236517205 : Nat) : Int) from rfl, A, B, IntKind.wrap_u64]
    generalize x / 2 &&& 6148914691236517205 = p at *
    generalize x &&& 6148914691236517205 = q at *
    omega
  · have A := and_u64 (a1 / 4) 3689348814741910323 _ (by omega) (by omega) rfl
    have B := and_u64 a1 3689348814741910323 _ (by omega) (by omega) rfl
    rw [show ((a1 : Int) / 4) = ((a1 / 4 : Nat) : Int) from by omega]
    rw [show (3689348814741910323 : Int) = ((3689348814741910323 : Nat) : Int) from rfl, A, B, IntKind.wrap_u64]
    generalize a1 / 4 &&& 3689348814741910323 = p at *
    generalize a1 &&& 3689348814741910323 = q at *
    omega
  · have A := and_u64 (a2 / 16 + a2) 1085102592571150095 a3 (by omega) (by omega) e3
    rw [show ((a2 : Int) / 16 + (a2 : Int)) = ((a2 / 16 + a2 : Nat) : Int) from by omega]
    rw [show (1085102592571150095 : Int) = ((1085102592571150095 : Nat) : Int) from rfl, A]
  · have h := bits_mask .i64 63 (by decide) (fun n h0 h1 => by rw [two63] at h1; rw [IntKind.wrap_i64]; omega) 7 (by decide) ((a3 + a3 / 256 + (a3 + a3 / 256) / 65536 + (a3 + a3 / 256 + (a3 + a3 / 256) / 65536) / 4294967296 : Nat) : Int) (by omega) (by rw [two63]; omega)
    rw [show ((2 : Int) ^ 7 - 1) = 127 from by decide] at h
    have e5 : ((a3 : Int) + (a3 : Int) / 256 + ((a3 : Int) + (a3 : Int) / 256) / 65536 + ((a3 : Int) + (a3 : Int) / 256 + ((a3 : Int) + (a3 : Int) / 256) / 65536) / 4294967296) = ((a3 + a3 / 256 + (a3 + a3 / 256) / 65536 + (a3 + a3 / 256 + (a3 + a3 / 256) / 65536) / 4294967296 : Nat) : Int) := by omega
    rw [e5, h, ← e4]
    rfl

theorem countOn_any (n x : Nat) (w : World) (hx : x < 1048576) : Calls Tryd.prog 77 #[(.agg #[.int .i64 ((ctz (x) : Nat) : Int), .bool (onB (x)), .int .i64 ((n : Nat) : Int), .int .u64 ((x : Nat) : Int)])] w fun e w' => e = .returned (.int .i64 ((pop x : Nat) : Int)) ∧ Below w.heap.size w w' := by
  have hC := Lib.hid fun w => ones_any x w hx
  go_enter Tryd.func77, Tryd.ntmps77
  go_wp2_with (first | (go_at_call 112; refine (hC.out _).mono ?_; rintro e w' ⟨rfl, rfl⟩) | go_in)
  go_ret; exact ⟨rfl, (Below.refl _ _).alloc (Nat.le_refl _) _⟩

end Go.Proofs.YtmjeilimdnngpaaDoor
