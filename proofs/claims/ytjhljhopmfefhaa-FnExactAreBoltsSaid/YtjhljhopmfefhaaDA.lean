/- Both sides of AreBolts. -/
import Derived.Test.YtjhljhopmfefhaaD7
namespace Go.Proofs.Ytjhljhopmfefhaa
open Go Go.RowKit RM
theorem sAre_any (v : Value) (ps : List Int) (bs : List Blk) (w : World) (h : Bo w v ps bs) :
    Calls Try.prog 9 #[v] w fun e w' => e = .returned (.bool (goodBo ps bs)) ∧ Below w.heap.size w w' := by
  have h0 := Lib.hid h
  obtain ⟨pv, bv, rfl, -, -⟩ := h
  have hG := Lib.hid fun w' hb => boGood_any _ ps bs w' (h0.out.below hb)
  generalize goodBo ps bs = G at *
  go_enter Try.func9, Try.ntmps9
  go_wp2_with fail
  refine (hG.out _ (ba1 w _)).mono ?_; rintro e w' ⟨rfl, hb⟩
  go_wp2_with fail
  go_ret; exact ⟨rfl, bt1 (ba1 w _) hb⟩
theorem AreBolts_both (ps : List Int) (bs : List Blk) : ∃ r, (∀ w v, Bo w v ps bs → Calls Try.prog 9 #[v] w fun e w' => e = .returned (.bool r) ∧ Below w.heap.size w w') ∧ (∀ w v, Bo w v ps bs → Calls Try.prog 11 #[v] w fun e w' => e = .returned (.bool r) ∧ Below w.heap.size w w') :=
  ⟨goodBo ps bs, fun w v h => sAre_any v ps bs w h, fun w v h => AreBolts_any v ps bs w h⟩
end Go.Proofs.Ytjhljhopmfefhaa
