/- Whether a key fits; keys and a state, on both sides. -/
import Derived.Test.YtcfeaaakfjilgabDoorV5
import Derived.Test.YtcfeaaakfjilgabDoorVM
import Derived.Test.YtcfeaaakfjilgabDoorI4
namespace Go.Proofs.YtcfeaaakfjilgabDoor
open Go Go.RowKit RM
/-- the texts are keys, and another one is a state of as many rings -/
def askK (ks : List ByteArray) (s : ByteArray) : Bool := goodK ks && goodB s.data.toList && decide (s.size = ks.length)
theorem keAsked_any (v : Value) (ks : List ByteArray) (s : ByteArray) (w : World) (hz : ∀ s ∈ ks, s.size ≤ maxLen) (hs : s.size ≤ maxLen) (h : RdT w v ks) :
    Calls Tryd.prog 39 #[v, .string s] w fun e w' => e = .returned (.bool (askK ks s)) ∧ w = w' := by
  have hG := Lib.hid (keGood_any v ks w hz h)
  have hR := Lib.hid (fun w => riGood_any s w hs)
  obtain ⟨p, c, rfl, -, -⟩ := h
  unfold askK
  have hd : ((s.size : Int) == (ks.length : Int)) = decide (s.size = ks.length) := by
    rw [Bool.eq_iff_iff, beq_iff_eq, decide_eq_true_eq]; omega
  generalize goodK ks = G at *
  generalize goodB s.data.toList = R at *
  generalize decide (s.size = ks.length) = D at *
  generalize ks.length = n at *
  unfold maxLen at hs
  cases G with
  | false =>
    go_enter Tryd.func39, Tryd.ntmps39
    go_wp2_with fail
    refine hG.out.mono ?_; rintro e w' ⟨rfl, rfl⟩
    go_wp2_with fail
    go_ret; exact ⟨rfl, rfl⟩
  | true =>
    cases R with
    | false =>
      go_enter Tryd.func39, Tryd.ntmps39
      go_wp2_with fail
      refine hG.out.mono ?_; rintro e w' ⟨rfl, rfl⟩
      go_wp2_with fail
      refine (hR.out _).mono ?_; rintro e w' ⟨rfl, rfl⟩
      go_wp2_with fail
      go_ret; exact ⟨rfl, rfl⟩
    | true =>
      go_enter Tryd.func39, Tryd.ntmps39
      go_wp2_with fail
      refine hG.out.mono ?_; rintro e w' ⟨rfl, rfl⟩
      go_wp2_with fail
      refine (hR.out _).mono ?_; rintro e w' ⟨rfl, rfl⟩
      go_wp2_with fail
      go_ret; exact ⟨by first | rfl | (rw [hd]; rfl) | simp, rfl⟩
end Go.Proofs.YtcfeaaakfjilgabDoor
