/- Whether a key fits. -/
import Derived.Test.YtcfeaaakfjilgabDoorV5
import Derived.Laws.Bits64
import Derived.Laws.Bits64b
namespace Go.Proofs.YtcfeaaakfjilgabDoor
set_option linter.unusedSimpArgs false
set_option linter.unusedVariables false
open Go Go.RowKit RM
theorem fits_any (key : ByteArray) (x : Nat) (w : World) (hx : x < 1048576) (hk : key.size ≤ 10) :
    Calls Tryd.prog 59 #[kv (kp key), .int .u64 x] w fun e w' => e = .returned (.bool (fitN key.data.toList x)) ∧ Below w.heap.size w w' := by
  have ht : tolX key.data.toList < 1048576 := Nat.lt_of_lt_of_le (tol_lt _) (Nat.pow_le_pow_right (by decide) (by rw [len_data]; omega : key.data.toList.length ≤ 20))
  have ho : onX key.data.toList < 1048576 := Nat.lt_of_lt_of_le (on_lt _) (Nat.pow_le_pow_right (by decide) (by rw [len_data]; omega : key.data.toList.length ≤ 20))
  have hkp : kp key = (tolX key.data.toList, onX key.data.toList) := rfl
  have hf : fitN key.data.toList x = decide (x &&& tolX key.data.toList = onX key.data.toList) := rfl
  rw [hkp, hf]
  clear hkp hf
  generalize tolX key.data.toList = T at *
  generalize onX key.data.toList = O at *
  have hand := bits_and_u64_nat x T (by omega) (by omega)
  obtain ⟨y, hy⟩ : ∃ y, x &&& T = y := ⟨_, rfl⟩
  rw [hy] at hand ⊢
  have hc : ((y : Int) == (O : Int)) = decide (y = O) := by
    rw [Bool.eq_iff_iff, beq_iff_eq, decide_eq_true_eq]; omega
  go_enter Tryd.func59, Tryd.ntmps59
  go_wp2_with fail
  go_ret; exact ⟨by first | rfl | rw [hc], ba1 w _⟩
end Go.Proofs.YtcfeaaakfjilgabDoor
