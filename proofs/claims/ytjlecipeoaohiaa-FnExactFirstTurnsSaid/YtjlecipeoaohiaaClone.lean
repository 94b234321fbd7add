/- strings.Clone of the library: the shelf's contract, laid at this program. -/
import Derived.Shelf.Pu.Clone
import Derived.Test.YtjlecipeoaohiaaBase0
namespace Go.Proofs.Ytjlecipeoaohiaa
open Go.Shelf Go.RowKit
def renC : Go.Shelf.Ren := ⟨fun | 25 => 111 | n => n, fun | 3 => 3 | 4 => 4 | 9 => 9 | 37 => 95 | 47 => 128 | 5 => 5 | n => n, fun n => n⟩
theorem laysC : Go.Proofs.LaysPu.n25 Try.prog renC := {
  mixed := by kernel_rfl
  f25 := Try.func111.trans (congrArg some (by kernel_rfl))
  t0 := Try.underlying0
  a0 := Try.isAgg0
  z0 := Try.sizeOf0
  v0 := Try.zeroValue0
  i0 := by kernel_rfl
  t3 := Try.underlying3
  a3 := Try.isAgg3
  z3 := Try.sizeOf3
  v3 := Try.zeroValue3
  i3 := by kernel_rfl
  t4 := Try.underlying4
  a4 := Try.isAgg4
  z4 := Try.sizeOf4
  v4 := Try.zeroValue4
  i4 := by kernel_rfl
  t5 := Try.underlying5
  a5 := Try.isAgg5
  z5 := Try.sizeOf5
  v5 := Try.zeroValue5
  i5 := by kernel_rfl
  t9 := Try.underlying9
  a9 := Try.isAgg9
  z9 := Try.sizeOf9
  v9 := Try.zeroValue9
  i9 := by kernel_rfl
  t37 := Try.underlying95
  a37 := Try.isAgg95
  z37 := Try.sizeOf95
  v37 := Try.zeroValue95
  i37 := by kernel_rfl
  t47 := Try.underlying128
  a47 := Try.isAgg128
  z47 := Try.sizeOf128
  v47 := Try.zeroValue128
  i47 := by kernel_rfl
}
theorem clone_any (s : ByteArray) (w : World) (h : s.size ≤ 281474976710656) : Calls Try.prog 103 #[.string s] w fun e w' => e = .returned (.string s) ∧ Below w.heap.size w w' := by
  have HC := Lib.hid (fun w => AnyPu.stringslite_Clone laysC s w h)
  go_enter Try.func103, Try.ntmps103
  go_wp2_with fail
  refine (HC.out _).mono ?_; rintro e w' ⟨rfl, hb⟩
  go_wp2_with fail
  go_ret; exact ⟨rfl, hb⟩
end Go.Proofs.Ytjlecipeoaohiaa
