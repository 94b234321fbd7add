import Derived.Test.YtmjeilimdnngpaaDoorI2
import Derived.Test.YtmjeilimdnngpaaDoorBytes
import Derived.StillTailTactics
import Derived.Deep.RegionWith
namespace Go.Proofs.YtmjeilimdnngpaaDoor
open Go Go.RowKit RM




theorem barOfNumber_any (n m : Nat) (w : World) (_hn : n ≤ 20) (hm : m < 1048576) (hT : TabOk w) : Calls Tryd.prog 80 #[.int .i64 n, .int .i64 m] w fun e w' => e = .returned (.agg #[.int .i64 ((ctz (gray m) : Nat) : Int), .bool (onB (gray m)), .int .i64 ((n : Nat) : Int), .int .u64 ((gray m : Nat) : Int)]) ∧ Below w.heap.size w w' := by
  have hy : gray m < 1048576 := gray_lt 20 m hm
  have hR := Lib.hid fun w => reflected_any m w (by omega)
  have hT := Lib.hid hT
  generalize gray m = y at *
  have hC := Lib.hid (newBar_any n y · (by omega : y < 2 ^ 64))
  go_enter Tryd.func80, Tryd.ntmps80
  go_wp2_with fail
  refine (hR.out _).mono ?_; rintro e w' ⟨rfl, rfl⟩
  go_wp2_with fail
  refine (hC.out _ (hT.out.alloc _)).mono ?_
  rintro e w' ⟨rfl, hb⟩
  obtain ⟨hc, hf⟩ := bcell hb
  go_wp2_with fail
  refine bodyPost_ret (v := (.agg #[.int .i64 ((ctz (y) : Nat) : Int), .bool (onB (y)), .int .i64 ((n : Nat) : Int), .int .u64 ((y : Nat) : Int)])) ?_ rfl ⟨rfl, ?_⟩
  · simp [results, Tryd.results80, go_sem, hc]
  · refine Below.setCell (Below.setCell (Below.setCell (Below.setCell ?_ (by simp) _) (by simp) _) (by simp) _) (by simp) _
    refine Below.trans ?_ (hb.mono (by simp))
    repeat (first | exact Below.refl _ _ | (refine Below.drew ?_) | (refine Below.alloc ?_ (by simp) _))


end Go.Proofs.YtmjeilimdnngpaaDoor
