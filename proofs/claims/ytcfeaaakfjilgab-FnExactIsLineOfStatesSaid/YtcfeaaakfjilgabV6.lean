/- Which texts are keys, on both sides. -/
import Derived.Test.YtcfeaaakfjilgabV5
namespace Go.Proofs.Ytcfeaaakfjilgab
open Go Go.RowKit RM
theorem iAK_any (v : Value) (ks : List ByteArray) (w : World) (hz : ∀ s ∈ ks, s.size ≤ maxLen) (h : RdT w v ks) :
    Calls Try.prog 30 #[v] w fun e w' => e = .returned (.bool (goodK ks)) ∧ Below w.heap.size w w' := by
  have hG := Lib.hid (keyringOf_any v ks w hz h)
  generalize goodK ks = G at *
  go_enter Try.func30, Try.ntmps30
  go_wp2_with fail
  refine hG.out.mono ?_; rintro e w' ⟨u, rfl, -, hb⟩
  go_wp2_with fail
  go_ret; exact ⟨rfl, hb⟩
end Go.Proofs.Ytcfeaaakfjilgab
