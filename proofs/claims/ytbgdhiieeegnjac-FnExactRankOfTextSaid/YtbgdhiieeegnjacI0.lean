import Derived.Test.YtbgdhiieeegnjacS1
namespace Go.Proofs.Ytbgdhiieeegnjac
open Go Go.RowKit RM
/-- all bytes are signs -/
def okB (l : List UInt8) : Bool := l.all okc
theorem okB_eq (l : List UInt8) : okB l = l.all okc := rfl
theorem signs_no (s : ByteArray) (k : Nat) (hk : k < s.size) (h : okc s[k] = false) : okB s.data.toList = false := by
  unfold okB
  rw [← Bool.not_eq_true]; intro ht
  rw [List.all_eq_true] at ht
  have := ht s[k] (by simp; exact Array.getElem_mem _)
  rw [h] at this; cases this



theorem onlySigns_any (s : ByteArray) (w : World) (hs : s.size ≤ 2000000) :
    Calls Try.prog 37 #[.string s] w fun e w' => e = .returned (.bool (okB s.data.toList)) ∧ w = w' := by
  go_enter Try.func37, Try.ntmps37
  go_wp2
  go_loop [6] (fun i => ∃ k : Nat, k ≤ s.size ∧ i = .int .i64 k ∧ Hid ((s.data.toList.take k).all okc = true)) (fun i => s.size - (intOf i).toNat)
  case atStart => exact ⟨0, Nat.zero_le _, rfl, rfl⟩
  case round =>
    obtain ⟨k, hk, rfl, ha⟩ := hrel
    by_cases hlt : k < s.size
    · have hat := Lib.hid (all_take s k hlt)
      rcases sign_cases s[k] with ⟨hc, -, h8, h9⟩ | ⟨hc, -, h8, h9⟩ | ⟨hc, h8, h9⟩
      · have HC := Lib.hid hc
        clear hc
        go_wp2
        go_round
        case rel => exact ⟨k + 1, by omega, by go_num, by rw [hat.out, ha.out, HC.out]; rfl⟩
        all_goals (simp [intOf] <;> omega)
      · have HC := Lib.hid hc
        clear hc
        go_wp2
        go_round
        case rel => exact ⟨k + 1, by omega, by go_num, by rw [hat.out, ha.out, HC.out]; rfl⟩
        all_goals (simp [intOf] <;> omega)
      · have HF := Lib.hid (signs_no s k hlt hc)
        clear hc hat
        go_wp2
        go_ret; exact ⟨ret_bool HF.out.symm, rfl⟩
    · have HF : Hid (okB s.data.toList = true) := by
        have := ha.out; rw [List.take_of_length_le (by simp; omega)] at this; exact this
      go_wp2
      go_ret; exact ⟨ret_bool HF.out.symm, rfl⟩


end Go.Proofs.Ytbgdhiieeegnjac
