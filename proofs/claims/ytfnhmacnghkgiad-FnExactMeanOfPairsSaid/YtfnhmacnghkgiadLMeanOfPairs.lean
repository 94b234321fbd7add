/-
  For every argument, the program's MeanOfPairs answers as the model does; the keys are as they were, and nothing that was there is written. No condition.
-/
import Derived.Test.YtfnhmacnghkgiadRows
import Derived.Test.YtfnhmacnghkgiadZ8
import Derived.ProofKit
import Derived.OpenShut
import Derived.ShutString
import Derived.ChangeOld
namespace Go.Proofs.Ytfnhmacnghkgiad.fnExactMeanOfPairs
open Go.ChangeShapes Go.WideShapes Go.ChangeAt Go.RowKit
open Go.ChangeMaps (open_string shut_string)
open RM
set_option linter.unusedVariables false

theorem own : ownKnob Try.prog.godebug = none := by kernel_rfl
theorem laidOut : laidOutB Try.prog = true := by kernel_rfl

set_option maxHeartbeats 4000000 in
theorem walk0  (i0 : Int) (r0 : Int) (r1 : Int) (r2 : Bool) (w : World)
    (hS : Hid (∀ w, Calls Try.prog 7 #[.int .i64 i0] w fun e w' => e = .returned (.tuple #[.int .i64 r0, .int .i64 r1, .bool r2]) ∧ Below w.heap.size w w'))
    (hI : Hid (∀ w, Calls Try.prog 8 #[.int .i64 i0] w fun e w' => e = .returned (.tuple #[.int .i64 r0, .int .i64 r1, .bool r2]) ∧ Below w.heap.size w w')) :
    Calls Try.prog 4 #[.int .i64 i0] w fun e w' => e = .returned (.bool true) ∧ Below w.heap.size w w' := by
  have e0 : (r0 != r0) = false := by simp
  have e1 : (r1 != r1) = false := by simp
  have e2 : (r2 != r2) = false := by simp
  go_enter Try.func4, Try.ntmps4
  go_wp2_with fail
  refine (hS.out w).mono ?_; rintro e w4 ⟨rfl, hb4⟩
  replace hb4 := Lib.hid (hb4)
  go_wp2_with fail
  refine (hI.out w4).mono ?_; rintro e w6 ⟨rfl, hb6⟩
  have hl46 := hb6.size
  replace hb6 := Lib.hid (trow hb4.out hb6)
  go_wp2_with fail
  go_ret; exact ⟨rfl, hb6.out⟩
theorem walk  (i0 : Int) (w0 : (Lit.int .i64 i0).wf = true) (w : World) :
    Calls Try.prog 4 #[.int .i64 i0] w fun e w' => e = .returned (.bool true) ∧ Below w.heap.size w w' := by
  obtain ⟨r0, r1, r2, hS, hI⟩ := MeanOfPairs_both i0 w0
  exact walk0 i0 r0 r1 r2 w (Lib.hid hS) (Lib.hid hI)

set_option maxRecDepth 100000 in
theorem lifted (os : Os) (started : os.Started) (H : Type) (enc : TypeId × Value → H) :
    ReturnsInHanded {} Try.checked os 4 .any (Rows.fnExactMeanOfPairsSpec.pre6 enc Try.prog Try.f4 Rows.fnExactMeanOfPairsRow.domain false) (Rows.fnExactMeanOfPairsSpec.post enc Try.prog Try.f4 false true false false) := by
  refine returnsInHanded_of_change (C := Try.checked) own started (by kernel_rfl) Try.func4
    (ChangeSpec.witness6 (enc := enc) (C := Try.checked) false ⟨#[], #[.int .i64 0], []⟩ 8 (by kernel_rfl) (by kernel_rfl) (by kernel_rfl) (by kernel_rfl)) ?_
  intro W base args ds gs before hval0 hW hcnd _
  have hval : ∀ (j : Nat) t v, Try.f4.params[j]? = some t → args[j]? = some v → Value.okWide Try.prog W .any base t v := hval0
  have hW' := hW
  obtain ⟨p, q, hA0, hV, rfl, hfz, hnd⟩ := hW
  have hA : DataW.TrodAll enc Try.prog W 0 (fun _ => true) true Try.f4.params.toList args.toList ds p := hA0
  rw [Try.params4] at hA hval
  obtain ⟨v0, vs0, d0, ds0, p0, q0, hargs, rfl, rfl, h0, r0⟩ := trodAll_cons hA
  obtain ⟨rfl, rfl, rfl⟩ := trodAll_nil r0
  obtain rfl : args = #[v0] := by cases args; simp_all
  obtain ⟨rfl, rfl⟩ := trodVars_none hV
  obtain ⟨a0, rfl, rfl, rfl, w0⟩ := open_int Try.underlying3 (hval 0 3 v0 rfl rfl) h0
  clear hA0
  simp only [List.append_nil] at hW'
  refine (walk a0 w0 W).mono fun e W' ⟨he, bel⟩ => ?_
  subst he
  exact ⟨_, rfl, _, _, _, [], _, [], hW', trodAll_mk1 (shut_bool Try.underlying4 _), (trodAll_cons_mk (shut_int Try.underlying3 w0) trodAll_mk0), rfl, bel.frame _, fun h => by cases h⟩

theorem over : Rows.fnExactMeanOfPairsRow.holds Try.pinned (OpenSpec.ofChange Rows.fnExactMeanOfPairsSpec) :=
  OpenClaim.holds_of_wide 4 Try.f4 rfl rfl rfl rfl rfl rfl rfl ⟨rfl, rfl, rfl, rfl, rfl⟩ rfl rfl rfl rfl rfl (by kernel_rfl) Try.func4 (by kernel_rfl)
    (of_decide_eq_true (by kernel_rfl)) (by unfold Func.isWrapper; first | (rw [if_pos (by decide +kernel)]; kernel_rfl) | (rw [if_neg (by decide +kernel)]; exact ⟨rfl, rfl⟩))
    (fun os started H enc _ => lifted os started H enc)

/-- the statement -/
theorem proved : Rows.FnExactMeanOfPairsSaid := over
#print axioms proved
end Go.Proofs.Ytfnhmacnghkgiad.fnExactMeanOfPairs
