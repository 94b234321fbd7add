/- The fewest moves between two states, on both sides: FewestKeyed. -/
import Derived.Test.YtcfeaaakfjilgabDoorV18
import Derived.Test.YtcfeaaakfjilgabDoorW8
import Derived.Test.YtcfeaaakfjilgabDoorV15
import Derived.Deep.RegionWith
import Derived.Deep.DeepCutAuto
import Derived.BigRegion
import Derived.BigQuiet
namespace Go.Proofs.YtcfeaaakfjilgabDoor
set_option linter.unusedSimpArgs false
set_option linter.unusedVariables false
open Go Go.RowKit RM
theorem keTwo_any (v : Value) (ks : List ByteArray) (a b : ByteArray) (w : World) (hz : ∀ s ∈ ks, s.size ≤ maxLen) (ha : a.size ≤ maxLen) (hb : b.size ≤ maxLen) (h : RdT w v ks) :
    Calls Tryd.prog 29 #[v, .string a, .string b] w fun e w' => e = .returned (.bool (askK ks a && askK ks b)) ∧ w = w' := by
  have hA := Lib.hid (keAsked_any v ks a w hz ha h)
  have hB := Lib.hid (keAsked_any v ks b w hz hb h)
  cases h1 : askK ks a with
  | false =>
    rw [h1] at hA
    go_enter Tryd.func29, Tryd.ntmps29
    go_wp2_with fail
    refine hA.out.mono ?_; rintro e w' ⟨rfl, rfl⟩
    go_wp2_with fail
    go_ret; exact ⟨rfl, rfl⟩
  | true =>
    rw [h1] at hA
    generalize askK ks b = c at *
    go_enter Tryd.func29, Tryd.ntmps29
    go_wp2_with fail
    refine hA.out.mono ?_; rintro e w' ⟨rfl, rfl⟩
    go_wp2_with fail
    refine hB.out.mono ?_; rintro e w' ⟨rfl, rfl⟩
    go_wp2_with fail
    go_ret; exact ⟨ret_bool (by simp), rfl⟩
end Go.Proofs.YtcfeaaakfjilgabDoor
