/-
  For every argument, the program's BarKeys answers as the model does, in memory of its own; the keys are as they were, and nothing that was there is written. No condition.
-/
import Derived.Test.YthddgnimkbjadaaRows
import Derived.Test.YthddgnimkbjadaaV8
import Derived.Test.YthddgnimkbjadaaV1
import Derived.ProofKit
import Derived.OpenShut
import Derived.ShutString
import Derived.ChangeOld
namespace Go.Proofs.Ythddgnimkbjadaa.fnExactBarKeys
open Go.ChangeShapes Go.WideShapes Go.ChangeAt Go.RowKit
open Go.ChangeMaps (open_string shut_string)
open RM
set_option linter.unusedVariables false

theorem own : ownKnob Try.prog.godebug = none := by kernel_rfl
theorem laidOut : laidOutB Try.prog = true := by kernel_rfl

set_option maxHeartbeats 4000000 in
theorem walk0  (i0 : Int) (r : List ByteArray) (ok : Bool) (w : World) (hr : Hid (r.length ≤ 2000000))
    (hS : Hid (∀ w, Calls Try.prog 11 #[.int .i64 i0] w fun e w' => RetT w r ok e w'))
    (hI : Hid (∀ w, Calls Try.prog 12 #[.int .i64 i0] w fun e w' => RetT w r ok e w')) :
    Calls Try.prog 4 #[.int .i64 i0] w fun e w' => e = .returned (.bool true) ∧ Below w.heap.size w w' := by
  have hne : (ok != ok) = false := by simp
  have hnq : ¬ 1 + (r.length : Int) < 0 := by omega
  go_enter Try.func4, Try.ntmps4
  go_wp2_with fail
  refine (hS.out w).mono ?_; rintro e w4 ⟨sv, rfl, hs4, hb4⟩
  replace hs4 := Lib.hid hs4
  have hsB : Hid (∀ k, sv.ownBlock = some k → k < w4.heap.size) := Lib.hid (fun k e => (hs4.out.lt k e).2)
  replace hb4 := Lib.hid (hb4)
  go_wp2_with fail
  refine (hI.out w4).mono ?_; rintro e w6 ⟨gv, rfl, hg6, hb6⟩
  replace hg6 := Lib.hid hg6
  have hs6 := Lib.hid (hs4.out.below hb6)
  have hgB : Hid (∀ k, gv.ownBlock = some k → w4.heap.size ≤ k ∧ k < w6.heap.size) := Lib.hid (fun k e => hg6.out.lt k e)
  have hl46 := hb6.size
  replace hb6 := Lib.hid (bt1 hb4.out hb6)
  go_wp2_with fail
  refine (eqStringS_same _ _ r _ _ _ hg6.out hs6.out).mono ?_; rintro e w7 ⟨rfl, hq⟩
  have hbn : Below w6.heap.size w6 w7 := by obtain ⟨q, rfl⟩ := hq; exact below_drewN (Below.refl _ _) q
  clear hq
  have hg7 := Lib.hid (hg6.out.below hbn)
  have hs7 := Lib.hid (hs6.out.below hbn)
  have hl67 := hbn.size
  have hb7 := Lib.hid (bt1 hb6.out hbn)
  clear hbn
  go_wp2_with fail
  refine (markStringS_any gv r _ w7 (by have := hr.out; omega) hg7.out).mono ?_; rintro e w12 ⟨rfl, hm12, hgr⟩
  replace hm12 := Lib.hid hm12
  have hs12 := Lib.hid (hs7.out.kept hgr (ne_bse hsB.out (fun k e => (hgB.out k e).1)))
  have hb12 := Lib.hid (hb7.out.grown hgr hb7.out.size (fun k e => Nat.le_trans hb4.out.size (hgB.out k e).1))
  have hl1112 := hgr.size
  clear hgr
  go_wp2_with fail
  refine (heldStringS_any gv r.length _ w12 (by have := hr.out; omega) hm12.out).mono ?_; rintro e w13 ⟨rfl, hb13⟩
  have hs13 := Lib.hid (hs12.out.below hb13)
  have hm13 := Lib.hid (hm12.out.below hb13)
  replace hb13 := Lib.hid (bt1 hb12.out hb13)
  go_wp2_with fail
  refine (hI.out w13).mono ?_; rintro e w15 ⟨hv, rfl, hh15, hb15⟩
  have hs15 := Lib.hid (hs13.out.below hb15)
  have hm15 := Lib.hid (hm13.out.below hb15)
  replace hb15 := Lib.hid (bt1 hb13.out hb15)
  replace hh15 := Lib.hid hh15
  go_wp2_with fail
  refine (eqStringS_same _ _ r _ _ _ hh15.out hs15.out).mono ?_; rintro e w16 ⟨rfl, hq⟩
  have hbn : Below w15.heap.size w15 w16 := by obtain ⟨q, rfl⟩ := hq; exact below_drewN (Below.refl _ _) q
  clear hq
  have hm16 := Lib.hid (hm15.out.below hbn)
  have hl1516 := hbn.size
  have hb16 := Lib.hid (bt1 hb15.out hbn)
  clear hbn
  go_wp2_with fail
  refine (heldStringS_any gv r.length _ w16 (by have := hr.out; omega) hm16.out).mono ?_; rintro e w17 ⟨rfl, hb17⟩
  replace hb17 := Lib.hid (bt1 hb16.out hb17)
  go_wp2_with fail
  go_ret; exact ⟨rfl, hb17.out⟩
theorem walk  (i0 : Int) (w0 : (Lit.int .i64 i0).wf = true) (w : World) :
    Calls Try.prog 4 #[.int .i64 i0] w fun e w' => e = .returned (.bool true) ∧ Below w.heap.size w w' := by
  obtain ⟨r, ok, hr, hS, hI⟩ := BarKeys_both i0 w0
  exact walk0 i0 r ok w (Lib.hid (by omega)) (Lib.hid hS) (Lib.hid hI)

set_option maxRecDepth 100000 in
theorem lifted (os : Os) (started : os.Started) (H : Type) (enc : TypeId × Value → H) :
    ReturnsInHanded {} Try.checked os 4 .any (Rows.fnExactBarKeysSpec.pre6 enc Try.prog Try.f4 Rows.fnExactBarKeysRow.domain false) (Rows.fnExactBarKeysSpec.post enc Try.prog Try.f4 false true false false) := by
  refine returnsInHanded_of_change (C := Try.checked) own started (by kernel_rfl) Try.func4
    (ChangeSpec.witness6 (enc := enc) (C := Try.checked) false ⟨#[], #[.int .i64 0], []⟩ 8 (by kernel_rfl) (by kernel_rfl) (by kernel_rfl) (by kernel_rfl)) ?_
  intro W base args ds gs before hval0 hW hcnd _
  have hval : ∀ (j : Nat) t v, Try.f4.params[j]? = some t → args[j]? = some v → Value.okWide Try.prog W .any base t v := hval0
  have hW' := hW
  obtain ⟨p, q, hA0, hV, rfl, hfz, hnd⟩ := hW
  have hA : DataW.TrodAll enc Try.prog W 0 (fun _ => true) true Try.f4.params.toList args.toList ds p := hA0
  rw [Try.params4] at hA hval
  obtain ⟨v0, vs0, d0, ds0, p0, q0, hargs, rfl, rfl, h0, r0⟩ := trodAll_cons hA
  obtain ⟨rfl, rfl, rfl⟩ := trodAll_nil r0
  obtain rfl : args = #[v0] := by cases args; simp_all
  obtain ⟨rfl, rfl⟩ := trodVars_none hV
  obtain ⟨a0, rfl, rfl, rfl, w0⟩ := open_int Try.underlying3 (hval 0 3 v0 rfl rfl) h0
  clear hA0
  simp only [List.append_nil] at hW'
  refine (walk a0 w0 W).mono fun e W' ⟨he, bel⟩ => ?_
  subst he
  exact ⟨_, rfl, _, _, _, [], _, [], hW', trodAll_mk1 (shut_bool Try.underlying4 _), (trodAll_cons_mk (shut_int Try.underlying3 w0) trodAll_mk0), rfl, bel.frame _, fun h => by cases h⟩

theorem over : Rows.fnExactBarKeysRow.holds Try.pinned (OpenSpec.ofChange Rows.fnExactBarKeysSpec) :=
  OpenClaim.holds_of_wide 4 Try.f4 rfl rfl rfl rfl rfl rfl rfl ⟨rfl, rfl, rfl, rfl, rfl⟩ rfl rfl rfl rfl rfl (by kernel_rfl) Try.func4 (by kernel_rfl)
    (of_decide_eq_true (by kernel_rfl)) (by unfold Func.isWrapper; first | (rw [if_pos (by decide +kernel)]; kernel_rfl) | (rw [if_neg (by decide +kernel)]; exact ⟨rfl, rfl⟩))
    (fun os started H enc _ => lifted os started H enc)

/-- the statement -/
theorem proved : Rows.FnExactBarKeysSaid := over
#print axioms proved
end Go.Proofs.Ythddgnimkbjadaa.fnExactBarKeys
