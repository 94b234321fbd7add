/-
  For every two numbers, the program's SwappedAt answers as the model does; nothing that was there is written. The answer lies in memory of its own. No condition.
-/
import Derived.Test.YtbgdhiieeegnjacRows
import Derived.Test.YtbgdhiieeegnjacQ10
import Derived.ProofKit
import Derived.OpenShut
import Derived.ShutString
import Derived.ChangeOld
namespace Go.Proofs.Ytbgdhiieeegnjac.fnExactSwappedAt
open Go.ChangeShapes Go.WideShapes Go.ChangeAt Go.RowKit
open Go.ChangeMaps (open_string shut_string)
set_option linter.unusedVariables false

theorem own : ownKnob Try.prog.godebug = none := by kernel_rfl
theorem laidOut : laidOutB Try.prog = true := by kernel_rfl

theorem walk0 (a0 a1 : Int) (xs : List Int) (ok : Bool) (w : World) (hl : Hid (xs.length ≤ 2000)) (hS : Hid (∀ w, Calls Try.prog 24 #[.int .i64 a0, .int .i64 a1] w fun e w' => RetI w xs ok e w'))
    (hI : Hid (∀ w, Calls Try.prog 25 #[.int .i64 a0, .int .i64 a1] w fun e w' => RetI w xs ok e w')) :
    Calls Try.prog 7 #[.int .i64 a0, .int .i64 a1] w fun e w' => e = .returned (.bool true) ∧ Below w.heap.size w w' := by
    go_enter Try.func7, Try.ntmps7
    go_wp2_with fail
    refine (hS.out _).mono ?_; rintro e w1 ⟨v, rfl, ho1, hb1⟩
    have ho1 := Lib.hid ho1
    have hb1 := Lib.hid hb1
    go_wp2_with fail
    refine (hI.out _).mono ?_; rintro e w2 ⟨u, rfl, ho2, hb2⟩
    have ho2 := Lib.hid ho2
    have hb2 := Lib.hid hb2
    go_wp2_with fail
    refine (eqIntS_same u v xs _ _ _ ho2.out (ho1.out.below hb2.out)).mono ?_; rintro e w3 ⟨rfl, q, rfl⟩
    go_wp2_with fail
    refine (markIntS_any u xs _ _ (by have := hl.out; omega) (ho2.out.drewN q)).mono ?_; rintro e w4 ⟨rfl, hm, hg4⟩
    have hm := Lib.hid hm
    have hg4 := Lib.hid hg4
    go_wp2_with fail
    refine (heldIntS_any u xs.length _ _ (by have := hl.out; omega) hm.out).mono ?_; rintro e w' ⟨rfl, rfl⟩
    go_wp2_with fail
    refine (hI.out _).mono ?_; rintro e w5 ⟨u2, rfl, ho5, hb5⟩
    have ho5 := Lib.hid ho5
    have hb5 := Lib.hid hb5
    have hv4 := Lib.hid (((ho1.out.below hb2.out).drewN q).kept hg4.out (own_ne ((ho1.out.below hb2.out).drewN q) (fun k e => (ho1.out.lt k e).2) (ho2.out.drewN q)))
    go_wp2_with fail
    refine (eqIntS_same u2 v xs _ _ _ ho5.out (hv4.out.below hb5.out)).mono ?_; rintro e w6 ⟨rfl, q2, rfl⟩
    go_wp2_with fail
    refine (heldIntS_any u xs.length _ _ (by have := hl.out; omega) ((hm.out.below hb5.out).drewN q2)).mono ?_; rintro e w' ⟨rfl, rfl⟩
    go_wp2_with fail
    go_ret
    exact ⟨rfl, below_drewN ((bel_own (below_drewN (hb1.out.trans (hb2.out.mono hb1.out.size)) q) ((ho2.out.drewN q).mono hb1.out.size) hg4.out (Nat.le_trans hb1.out.size hb2.out.size)).trans (hb5.out.mono (Nat.le_trans (Nat.le_trans hb1.out.size hb2.out.size) hg4.out.size))) q2⟩

theorem walk (a0 : Int) (_w0 : (Lit.int .i64 a0).wf = true) (a1 : Int) (_w1 : (Lit.int .i64 a1).wf = true) (w : World) :
    Calls Try.prog 7 #[.int .i64 a0, .int .i64 a1] w fun e w' => e = .returned (.bool true) ∧ Below w.heap.size w w' := by
  obtain ⟨xs, ok, hS, hI, hl⟩ := swapped_both a0 a1
  exact walk0 _ _ xs ok w (Lib.hid (by omega)) (Lib.hid hS) (Lib.hid hI)

set_option maxRecDepth 100000 in
theorem lifted (os : Os) (started : os.Started) (H : Type) (enc : TypeId × Value → H) :
    ReturnsInHanded {} Try.checked os 7 .any (Rows.fnExactSwappedAtSpec.pre6 enc Try.prog Try.f7 Rows.fnExactSwappedAtRow.domain false) (Rows.fnExactSwappedAtSpec.post enc Try.prog Try.f7 false true false false) := by
  refine returnsInHanded_of_change (C := Try.checked) own started (by kernel_rfl) Try.func7
    (ChangeSpec.witness6 (enc := enc) (C := Try.checked) false ⟨#[], #[.int .i64 0, .int .i64 0], []⟩ 8 (by kernel_rfl) (by kernel_rfl) (by kernel_rfl) (by kernel_rfl)) ?_
  intro W base args ds gs before hval0 hW hcnd _
  have hval : ∀ (j : Nat) t v, Try.f7.params[j]? = some t → args[j]? = some v → Value.okWide Try.prog W .any base t v := hval0
  have hW' := hW
  obtain ⟨p, q, hA0, hV, rfl, hfz, hnd⟩ := hW
  have hA : DataW.TrodAll enc Try.prog W 0 (fun _ => true) true Try.f7.params.toList args.toList ds p := hA0
  rw [Try.params7] at hA hval
  obtain ⟨v0, vs0, d0, ds0, p0, q0, hargs, rfl, rfl, h0, r0⟩ := trodAll_cons hA
  obtain ⟨v1, vs1, d1, ds1, p1, q1, rfl, rfl, rfl, h1, r1⟩ := trodAll_cons r0
  obtain ⟨rfl, rfl, rfl⟩ := trodAll_nil r1
  obtain rfl : args = #[v0, v1] := by cases args; simp_all
  obtain ⟨rfl, rfl⟩ := trodVars_none hV
  obtain ⟨a0, rfl, rfl, rfl, w0⟩ := open_int Try.underlying3 (hval 0 3 v0 rfl rfl) h0
  obtain ⟨a1, rfl, rfl, rfl, w1⟩ := open_int Try.underlying3 (hval 1 3 v1 rfl rfl) h1
  clear hA0
  simp only [List.append_nil] at hW'
  refine (walk a0 w0 a1 w1 W).mono fun e W' ⟨he, bel⟩ => ?_
  subst he
  exact ⟨_, rfl, _, _, _, [], _, [], hW', trodAll_mk1 (shut_bool Try.underlying4 _), (trodAll_cons_mk (shut_int Try.underlying3 w0) (trodAll_cons_mk (shut_int Try.underlying3 w1) trodAll_mk0)), rfl, bel.frame _, fun h => by cases h⟩

theorem over : Rows.fnExactSwappedAtRow.holds Try.pinned (OpenSpec.ofChange Rows.fnExactSwappedAtSpec) :=
  OpenClaim.holds_of_wide 7 Try.f7 rfl rfl rfl rfl rfl rfl rfl ⟨rfl, rfl, rfl, rfl, rfl⟩ rfl rfl rfl rfl rfl (by kernel_rfl) Try.func7 (by kernel_rfl)
    (of_decide_eq_true (by kernel_rfl)) (by unfold Func.isWrapper; first | (rw [if_pos (by decide +kernel)]; kernel_rfl) | (rw [if_neg (by decide +kernel)]; exact ⟨rfl, rfl⟩))
    (fun os started H enc _ => lifted os started H enc)

/-- the statement -/
theorem proved : Rows.FnExactSwappedAtSaid := over
#print axioms proved
end Go.Proofs.Ytbgdhiieeegnjac.fnExactSwappedAt
