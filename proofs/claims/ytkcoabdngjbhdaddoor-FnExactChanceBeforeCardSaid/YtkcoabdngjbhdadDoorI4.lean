/- Bars of states; how many rings are on. -/
import Derived.Test.YtkcoabdngjbhdadDoorI3
import Derived.Test.YtkcoabdngjbhdadDoorPop
import Derived.Test.YtkcoabdngjbhdadDoorS2
namespace Go.Proofs.YtkcoabdngjbhdadDoor
open Go Go.RowKit RM

theorem barOf_no (s : ByteArray) (w : World) (hI : Hid (∀ w, Calls Tryd.prog 21 #[.string s] w fun e w' => e = .returned (.bool false) ∧ w = w')) :
    Calls Tryd.prog 15 #[.string s] w fun e w' => e = .returned (.tuple #[.agg #[.int .i64 0, .bool false, .int .i64 0, .int .u64 0], .bool false]) ∧ Below w.heap.size w w' := by
  go_enter Tryd.func15, Tryd.ntmps15
  go_wp2_with fail
  refine (hI.out _).mono ?_; rintro e w' ⟨rfl, rfl⟩
  go_wp2_with fail
  refine bodyPost_ret (v := .tuple #[.agg #[.int .i64 0, .bool false, .int .i64 0, .int .u64 0], .bool false]) ?_ rfl ⟨rfl, ?_⟩
  · simp [results, Tryd.results15, go_sem]
  · exact (Below.refl _ _).alloc (Nat.le_refl _) _

theorem bit_or (a k : Nat) (ha : a < 2 ^ k) (hk : k < 20) : bits BinOp.or IntKind.u64 (a : Int) (2 ^ k) = ((a + 2 ^ k : Nat) : Int) := by
  have h1 : 2 ^ k < 1048576 := Nat.pow_lt_pow_right (a := 2) (by omega) hk
  rw [pow_cast, bits_or_u64_nat a (2 ^ k) (by omega) (by omega)]
  have := Nat.two_pow_add_eq_or_of_lt ha 1
  rw [Nat.mul_one] at this
  rw [Nat.or_comm, ← this, Nat.add_comm]
theorem barOf_yes (s : ByteArray) (n x : Nat) (w : World) (hn : n ≤ 20) (hsz : n = s.size) (hx : x < 2 ^ n) (hT : TabOk w)
    (hb : Hid (∀ k (h : k < s.size), ((s[k].toNat : Int) == 49) = x.testBit k)) (hI : Hid (∀ w, Calls Tryd.prog 21 #[.string s] w fun e w' => e = .returned (.bool true) ∧ w = w')) :
    Calls Tryd.prog 15 #[.string s] w fun e w' => e = .returned (.tuple #[(.agg #[.int .i64 ((ctz (x) : Nat) : Int), .bool (onB (x)), .int .i64 ((n : Nat) : Int), .int .u64 ((x : Nat) : Int)]), .bool true]) ∧ Below w.heap.size w w' := by
  subst hsz
  have hT := Lib.hid hT
  have hx20 := Lib.hid (Nat.lt_of_lt_of_le hx (pow20 hn))
  have hXX : Hid (x % 2 ^ s.size = x) := Lib.hid (Nat.mod_eq_of_lt hx)
  clear hx
  go_enter Tryd.func15, Tryd.ntmps15
  go_wp2_with fail
  refine (hI.out _).mono ?_; rintro e w' ⟨rfl, rfl⟩
  go_wp2_with fail
  go_loop [4, 12] (fun a i => ∃ k m : Nat, k ≤ s.size ∧ i = .int .i64 k ∧ a = .int .u64 m ∧ Hid (x % 2 ^ k = m)) (fun _ i => s.size - (intOf i).toNat)
  case atStart => exact ⟨0, 0, Nat.zero_le _, rfl, rfl, Lib.hid (by simp [Nat.mod_one])⟩
  case round =>
    obtain ⟨k, m, hk, rfl, rfl, he⟩ := hrel
    by_cases hlt : k < s.size
    · have hbk := Lib.hid (hb.out k hlt)
      have hst := Lib.hid (mod_step x k)
      have hm : Hid (m < 2 ^ k) := Lib.hid (by rw [← he.out]; exact Nat.mod_lt _ (Nat.two_pow_pos k))
      cases h9 : ((s[k].toNat : Int) == 49)
      · have hv : Hid (x % 2 ^ (k + 1) = m) := Lib.hid (by rw [hst.out, he.out, if_neg (by rw [← hbk.out, h9]; simp)]; rfl)
        go_wp2
        go_round
        case rel => exact ⟨k + 1, m, by omega, by go_num, rfl, hv⟩
        all_goals (simp [intOf] <;> omega)
      · have hv : Hid (x % 2 ^ (k + 1) = m + 2 ^ k) := Lib.hid (by rw [hst.out, he.out, if_pos (by rw [← hbk.out, h9])])
        have hp : IntKind.u64.wrap (2 ^ k) = 2 ^ k := by
          have h1 : 2 ^ k < 1048576 := Nat.pow_lt_pow_right (a := 2) (by omega) (by omega : k < 20)
          rw [IntKind.wrap_u64, pow_cast]; generalize 2 ^ k = X at *; omega
        have hor := bit_or m k hm.out (by omega)
        go_wp2
        go_round
        case rel => exact ⟨k + 1, m + 2 ^ k, by omega, by go_num, rfl, hv⟩
        all_goals (simp [intOf] <;> omega)
    · obtain rfl : k = s.size := by omega
      have hmx : Hid (m = x) := Lib.hid (by rw [← he.out, hXX.out])
      have hC := Lib.hid (newBar_any s.size x · (by have := hx20.out; omega : x < 2 ^ 64))
      go_wp2_with fail
      rw [hmx.out]
      refine (hC.out _ ?_).mono ?_
      · repeat (first | exact hT.out | apply TabOk.alloc | apply TabOk.drew | apply TabOk.drewN)
      rintro e w' ⟨rfl, hb⟩
      obtain ⟨hc, hf⟩ := bcell hb
      go_wp2_with fail
      refine bodyPost_ret (v := .tuple #[(.agg #[.int .i64 ((ctz (x) : Nat) : Int), .bool (onB (x)), .int .i64 ((s.size : Nat) : Int), .int .u64 ((x : Nat) : Int)]), .bool true]) ?_ rfl ⟨rfl, ?_⟩
      · simp [results, Tryd.results15, go_sem, hc]
      · refine Below.setCell (Below.setCell (Below.setCell (Below.setCell ?_ (by simp) _) (by simp) _) (by simp) _) (by simp) _
        refine Below.trans ?_ (hb.mono (by simp))
        repeat (first | exact Below.refl _ _ | (refine Below.drew ?_) | (refine Below.alloc ?_ (by simp) _))

theorem barOf_ST (n x : Nat) (w : World) (h1 : 1 ≤ n) (hn : n ≤ 20) (hx : x < 2 ^ n) (hT : TabOk w) :
    Calls Tryd.prog 15 #[.string (ST n x)] w fun e w' => e = .returned (.tuple #[(.agg #[.int .i64 ((ctz (x) : Nat) : Int), .bool (onB (x)), .int .i64 ((n : Nat) : Int), .int .u64 ((x : Nat) : Int)]), .bool true]) ∧ Below w.heap.size w w' :=
  barOf_yes _ n x w hn (ST_size n x).symm hx hT (Lib.hid fun k h => ST_eq n x k h) (Lib.hid fun w => by
    have := IsState_any (ST n x) w (by rw [ST_size]; unfold maxLen; omega)
    rw [good_ST n x h1 hn] at this; exact this)

theorem barOf_bad (s : ByteArray) (w : World) (hs : s.size ≤ maxLen) (h : goodB s.data.toList = false) :
    Calls Tryd.prog 15 #[.string s] w fun e w' => e = .returned (.tuple #[.agg #[.int .i64 0, .bool false, .int .i64 0, .int .u64 0], .bool false]) ∧ Below w.heap.size w w' :=
  barOf_no s w (Lib.hid fun w => by have := IsState_any s w hs; rw [h] at this; exact this)


theorem and_u64 (a b c : Nat) (ha : a < 18446744073709551616) (hb : b < 18446744073709551616) (h : a &&& b = c) : bits BinOp.and IntKind.u64 (a : Int) (b : Int) = (c : Int) := by rw [bits_and_u64_nat a b ha hb, h]


end Go.Proofs.YtkcoabdngjbhdadDoor
