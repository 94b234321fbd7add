import Derived.Test.YtmjeilimdnngpaaDoorS1
namespace Go.Proofs.YtmjeilimdnngpaaDoor
open Go Go.RowKit RM
/-- all bytes are signs -/
def okB (l : List UInt8) : Bool := l.all okc
theorem okB_eq (l : List UInt8) : okB l = l.all okc := rfl
theorem signs_no (s : ByteArray) (k : Nat) (hk : k < s.size) (h : okc s[k] = false) : okB s.data.toList = false := by
  unfold okB
  rw [← Bool.not_eq_true]; intro ht
  rw [List.all_eq_true] at ht
  have := ht s[k] (by simp; exact Array.getElem_mem _)
  rw [h] at this; cases this

theorem isRingCount_any (n : Int) (w : World) : Calls Tryd.prog 108 #[.int .i64 n] w fun e w' => e = .returned (.bool (decide (1 ≤ n) && decide (n ≤ 20))) ∧ w = w' := by
  by_cases h : 1 ≤ n
  · have e : decide (1 ≤ n) = true := by simp; omega
    rw [e]
    go_enter Tryd.func108, Tryd.ntmps108
    go_wp2
    go_ret; exact ⟨rfl, rfl⟩
  · have e : decide (1 ≤ n) = false := by simp; omega
    rw [e]
    go_enter Tryd.func108, Tryd.ntmps108
    go_wp2
    go_ret; exact ⟨rfl, rfl⟩

theorem isRingCount_yes (n : Int) (w : World) (h1 : 1 ≤ n) (h2 : n ≤ 20) : Calls Tryd.prog 108 #[.int .i64 n] w fun e w' => e = .returned (.bool true) ∧ w = w' := by
  have e : (decide (1 ≤ n) && decide (n ≤ 20)) = true := by simp; omega
  rw [← e]; exact isRingCount_any n w

theorem isRingCount_no (n : Int) (w : World) (h : n < 1 ∨ 20 < n) : Calls Tryd.prog 108 #[.int .i64 n] w fun e w' => e = .returned (.bool false) ∧ w = w' := by
  have e : (decide (1 ≤ n) && decide (n ≤ 20)) = false := by simp; omega
  rw [← e]; exact isRingCount_any n w

theorem onlySigns_any (s : ByteArray) (w : World) (hs : s.size ≤ 2000000) :
    Calls Tryd.prog 109 #[.string s] w fun e w' => e = .returned (.bool (okB s.data.toList)) ∧ w = w' := by
  go_enter Tryd.func109, Tryd.ntmps109
  go_wp2
  go_loop [6] (fun i => ∃ k : Nat, k ≤ s.size ∧ i = .int .i64 k ∧ Hid ((s.data.toList.take k).all okc = true)) (fun i => s.size - (intOf i).toNat)
  case atStart => exact ⟨0, Nat.zero_le _, rfl, rfl⟩
  case round =>
    obtain ⟨k, hk, rfl, ha⟩ := hrel
    by_cases hlt : k < s.size
    · have hat := Lib.hid (all_take s k hlt)
      rcases sign_cases s[k] with ⟨hc, -, h8, h9⟩ | ⟨hc, -, h8, h9⟩ | ⟨hc, h8, h9⟩
      · have HC := Lib.hid hc
        clear hc
        go_wp2
        go_round
        case rel => exact ⟨k + 1, by omega, by go_num, by rw [hat.out, ha.out, HC.out]; rfl⟩
        all_goals (simp [intOf] <;> omega)
      · have HC := Lib.hid hc
        clear hc
        go_wp2
        go_round
        case rel => exact ⟨k + 1, by omega, by go_num, by rw [hat.out, ha.out, HC.out]; rfl⟩
        all_goals (simp [intOf] <;> omega)
      · have HF := Lib.hid (signs_no s k hlt hc)
        clear hc hat
        go_wp2
        go_ret; exact ⟨ret_bool HF.out.symm, rfl⟩
    · have HF : Hid (okB s.data.toList = true) := by
        have := ha.out; rw [List.take_of_length_le (by simp; omega)] at this; exact this
      go_wp2
      go_ret; exact ⟨ret_bool HF.out.symm, rfl⟩

theorem IsState_any (s : ByteArray) (w : World) (hs : s.size ≤ maxLen) :
    Calls Tryd.prog 95 #[.string s] w fun e w' => e = .returned (.bool (goodB s.data.toList)) ∧ w = w' := by
  unfold maxLen at hs
  by_cases hl : 1 ≤ s.size ∧ s.size ≤ 20
  · obtain ⟨hl1, hl2⟩ := hl
    have HO := Lib.hid fun w => onlySigns_any s w (by omega)
    have HG : Hid (okB s.data.toList = goodB s.data.toList) := Lib.hid (by unfold goodB okB; simp; omega)
    generalize okB s.data.toList = b at *
    go_enter Tryd.func95, Tryd.ntmps95
    go_wp2_with fail
    refine (isRingCount_yes _ _ (by omega) (by omega)).mono ?_; rintro e w' ⟨rfl, rfl⟩
    go_wp2_with fail
    refine (HO.out _).mono ?_; rintro e w' ⟨rfl, rfl⟩
    go_wp2_with fail
    go_ret; exact ⟨ret_bool HG.out, rfl⟩
  · have HF := Lib.hid (goodB_len s (by omega))
    go_enter Tryd.func95, Tryd.ntmps95
    go_wp2_with fail
    refine (isRingCount_no _ _ (by omega)).mono ?_; rintro e w' ⟨rfl, rfl⟩
    go_wp2_with fail
    go_ret; exact ⟨ret_bool HF.out.symm, rfl⟩

end Go.Proofs.YtmjeilimdnngpaaDoor
