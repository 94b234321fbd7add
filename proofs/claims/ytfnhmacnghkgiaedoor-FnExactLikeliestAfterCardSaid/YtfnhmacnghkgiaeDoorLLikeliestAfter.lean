/-
  For every argument, the program's LikeliestAfter answers as the model does, in memory of its own; the keys are as they were, and nothing that was there is written. No condition.
-/
import Derived.Test.YtfnhmacnghkgiaeDoorRows
import Derived.Test.YtfnhmacnghkgiaeDoorLaid
import Derived.Test.YtfnhmacnghkgiaeDoorZL
import Derived.Test.YtfnhmacnghkgiaeDoorU1
import Derived.ProofKit
import Derived.OpenShut
import Derived.ShutString
import Derived.ChangeOld
namespace Go.Proofs.YtfnhmacnghkgiaeDoor.fnExactLikeliestAfter
open Go.ChangeShapes Go.WideShapes Go.ChangeAt Go.RowKit
open Go.ChangeMaps (open_string shut_string)
open RM
set_option linter.unusedVariables false

set_option maxHeartbeats 4000000 in
theorem walk0  (s0 : ByteArray) (i1 : Int) (r : List ByteArray) (ok : Bool) (w : World) (g0 : ¬ 1048576 < s0.size) (hr : Hid (r.length ≤ 2000000)) (hT0 : TabOk w)
    (hS : Hid (∀ w, Calls Tryd.prog 17 #[.string s0, .int .i64 i1] w fun e w' => RetT w r ok e w'))
    (hI : Hid (∀ w, TabOk w → Calls Tryd.prog 18 #[.string s0, .int .i64 i1] w fun e w' => RetT w r ok e w')) :
    Calls Tryd.prog 6 #[.string s0, .int .i64 i1] w fun e w' => e = .returned (.bool true) ∧ Below w.heap.size w w' := by
  replace hT0 := Lib.hid hT0
  have hne : (ok != ok) = false := by simp
  have hnq : ¬ 1 + (r.length : Int) < 0 := by omega
  go_enter Tryd.func6, Tryd.ntmps6
  go_wp2_with fail
  refine (hS.out w).mono ?_; rintro e w4 ⟨sv, rfl, hs4, hb4⟩
  replace hs4 := Lib.hid hs4
  have hsB : Hid (∀ k, sv.ownBlock = some k → k < w4.heap.size) := Lib.hid (fun k e => (hs4.out.lt k e).2)
  replace hb4 := Lib.hid (hb4)
  go_wp2_with fail
  refine (hI.out w4 (hT0.out.below hb4.out)).mono ?_; rintro e w6 ⟨gv, rfl, hg6, hb6⟩
  replace hg6 := Lib.hid hg6
  have hs6 := Lib.hid (hs4.out.below hb6)
  have hgB : Hid (∀ k, gv.ownBlock = some k → w4.heap.size ≤ k ∧ k < w6.heap.size) := Lib.hid (fun k e => hg6.out.lt k e)
  have hl46 := hb6.size
  replace hb6 := Lib.hid (bt1 hb4.out hb6)
  go_wp2_with fail
  refine (eqStringS_same _ _ r _ _ _ hg6.out hs6.out).mono ?_; rintro e w7 ⟨rfl, hq⟩
  have hbn : Below w6.heap.size w6 w7 := by obtain ⟨q, rfl⟩ := hq; exact below_drewN (Below.refl _ _) q
  clear hq
  have hg7 := Lib.hid (hg6.out.below hbn)
  have hs7 := Lib.hid (hs6.out.below hbn)
  have hl67 := hbn.size
  have hb7 := Lib.hid (bt1 hb6.out hbn)
  clear hbn
  go_wp2_with fail
  refine (markStringS_any gv r _ w7 (by have := hr.out; omega) hg7.out).mono ?_; rintro e w12 ⟨rfl, hm12, hgr⟩
  replace hm12 := Lib.hid hm12
  have hs12 := Lib.hid (hs7.out.kept hgr (ne_bse hsB.out (fun k e => (hgB.out k e).1)))
  have hb12 := Lib.hid (hb7.out.grown hgr hb7.out.size (fun k e => Nat.le_trans hb4.out.size (hgB.out k e).1))
  have hl1112 := hgr.size
  clear hgr
  go_wp2_with fail
  refine (heldStringS_any gv r.length _ w12 (by have := hr.out; omega) hm12.out).mono ?_; rintro e w13 ⟨rfl, hb13⟩
  have hs13 := Lib.hid (hs12.out.below hb13)
  have hm13 := Lib.hid (hm12.out.below hb13)
  replace hb13 := Lib.hid (bt1 hb12.out hb13)
  go_wp2_with fail
  refine (hI.out w13 (hT0.out.below hb13.out)).mono ?_; rintro e w15 ⟨hv, rfl, hh15, hb15⟩
  have hs15 := Lib.hid (hs13.out.below hb15)
  have hm15 := Lib.hid (hm13.out.below hb15)
  replace hb15 := Lib.hid (bt1 hb13.out hb15)
  replace hh15 := Lib.hid hh15
  go_wp2_with fail
  refine (eqStringS_same _ _ r _ _ _ hh15.out hs15.out).mono ?_; rintro e w16 ⟨rfl, hq⟩
  have hbn : Below w15.heap.size w15 w16 := by obtain ⟨q, rfl⟩ := hq; exact below_drewN (Below.refl _ _) q
  clear hq
  have hm16 := Lib.hid (hm15.out.below hbn)
  have hl1516 := hbn.size
  have hb16 := Lib.hid (bt1 hb15.out hbn)
  clear hbn
  go_wp2_with fail
  refine (heldStringS_any gv r.length _ w16 (by have := hr.out; omega) hm16.out).mono ?_; rintro e w17 ⟨rfl, hb17⟩
  replace hb17 := Lib.hid (bt1 hb16.out hb17)
  go_wp2_with fail
  go_ret; exact ⟨rfl, hb17.out⟩
theorem walk  (s0 : ByteArray) (w0 : s0.size ≤ maxLen) (i1 : Int) (w1 : (Lit.int .i64 i1).wf = true) (w : World) (hT0 : TabOk w) :
    Calls Tryd.prog 6 #[.string s0, .int .i64 i1] w fun e w' => e = .returned (.bool true) ∧ Below w.heap.size w w' := by
  by_cases g0 : 1048576 < s0.size
  · go_enter Tryd.func6, Tryd.ntmps6
    go_wp2_with fail
    go_ret; exact ⟨rfl, Below.refl _ _⟩
  obtain ⟨r, ok, hr, hS, hI⟩ := LikeliestAfter_both s0 i1 w0 w1
  exact walk0 s0 i1 r ok w g0 (Lib.hid (by omega)) hT0 (Lib.hid hS) (Lib.hid hI)

set_option maxRecDepth 100000 in
/-- what the walk gives, for every argument and every world that holds the tables -/
theorem contract (H : Type) (enc : TypeId × Value → H) (W : World) (base : Nat) (args : Array Value) (ds gs : List (DataW H)) (before : List MemPlace)
    (hval : ∀ (j : Nat) t v, Tryd.f6.params[j]? = some t → args[j]? = some v → Value.okWide Tryd.prog W .any base t v)
    (hW : DataW.Whole enc Tryd.prog Tryd.f6.params.toList Rows.fnExactLikeliestAfterSpec.vars false W args.toList ds gs before) (hL : laidMetH Tryd.prog Rows.fnExactLikeliestAfterRow.laid W) :
    Calls Tryd.prog 6 args W fun e W' => ∃ v, e = .returned v ∧ Rows.fnExactLikeliestAfterSpec.post enc Tryd.prog Tryd.f6 false true false false W args v W' := by
  have hW' := hW
  obtain ⟨p, q, hA0, hV, rfl, hfz, hnd⟩ := hW
  have hA : DataW.TrodAll enc Tryd.prog W 0 (fun _ => true) true Tryd.f6.params.toList args.toList ds p := hA0
  rw [Tryd.params6] at hA hval
  obtain ⟨v0, vs0, d0, ds0, p0, q0, hargs, rfl, rfl, h0, r0⟩ := trodAll_cons hA
  obtain ⟨v1, vs1, d1, ds1, p1, q1, rfl, rfl, rfl, h1, r1⟩ := trodAll_cons r0
  obtain ⟨rfl, rfl, rfl⟩ := trodAll_nil r1
  obtain rfl : args = #[v0, v1] := by cases args; simp_all
  obtain ⟨rfl, rfl⟩ := trodVars_none hV
  obtain ⟨a0, rfl, rfl, rfl, w0⟩ := open_string Tryd.underlying9 (hval 0 9 v0 rfl rfl) h0
  obtain ⟨a1, rfl, rfl, rfl, w1⟩ := open_int Tryd.underlying3 (hval 1 3 v1 rfl rfl) h1
  clear hA0
  simp only [List.append_nil] at hW'
  refine (walk a0 w0 a1 w1 W (tabOk hL)).mono fun e W' ⟨he, bel⟩ => ?_
  subst he
  exact ⟨_, rfl, _, _, _, [], _, [], hW', trodAll_mk1 (shut_bool Tryd.underlying4 _), (trodAll_cons_mk (shut_string Tryd.underlying9 w0) (trodAll_cons_mk (shut_int Tryd.underlying3 w1) trodAll_mk0)), rfl, bel.frame _, fun h => by cases h⟩

theorem reads (os : Os) {H : Type} (enc : TypeId × Value → H) : ∃ places, DataW.whole enc Tryd.prog ((laidWorld os).forCall (fun _ _ => 0) ⟨#[], #[.string ByteArray.empty, .int .i64 0], []⟩).memory Tryd.f6.params.toList Rows.fnExactLikeliestAfterSpec.vars false (#[.string ByteArray.empty, .int .i64 0] : Array Value).toList 8 = some ([.lit (.string []), .lit (.int .i64 0)], [], places) :=
  ⟨[], by kernel_rfl⟩

set_option maxRecDepth 100000 in
theorem lifted (os : Os) (started : os.Started) (H : Type) (enc : TypeId × Value → H) (F : Stop.Interp) :
    ReturnsInHanded {} Tryd.checked os 6 .any ((OpenSpec.ofChange Rows.fnExactLikeliestAfterSpec).preRow enc Tryd.prog Tryd.f6 Rows.fnExactLikeliestAfterRow.domain false Rows.fnExactLikeliestAfterRow.laid) (((OpenSpec.ofChange Rows.fnExactLikeliestAfterSpec).at F).post enc Tryd.prog Tryd.f6 false true false false) := by
  obtain ⟨places, hx⟩ := reads os enc
  refine returnsInHanded_of_row (C := Tryd.checked) (s := OpenSpec.ofChange Rows.fnExactLikeliestAfterSpec) own started (by kernel_rfl) Tryd.func6
    (witness_row_at (enc := enc) (C := Tryd.checked) false (laidWorld os) #[.string ByteArray.empty, .int .i64 0] rfl (by kernel_rfl) (by kernel_rfl) (by kernel_rfl)
      (OpenSpec.preRow_of_cond 8 hx (by kernel_rfl) (fun k hk => by cases hk) (by kernel_rfl) (laid_met os _))) ?_
  intro W base args ds gs before hval hW _ _ _ hL _ _
  exact contract H enc W base args ds gs before hval hW hL

theorem said : Rows.FnExactLikeliestAfterSaid :=
  OpenClaim.holds_of_cond 6 Tryd.f6 rfl rfl rfl rfl rfl rfl rfl ⟨rfl, rfl, rfl, rfl, rfl⟩ rfl rfl rfl rfl rfl (by kernel_rfl) Tryd.func6 (by kernel_rfl)
    (of_decide_eq_true (by kernel_rfl)) (by unfold Func.isWrapper; first | (rw [if_pos (by decide +kernel)]; kernel_rfl) | (rw [if_neg (by decide +kernel)]; exact ⟨rfl, rfl⟩))
    (fun os started H enc _ F => by rw [OpenClaim.pre_eq_preRow]; exact lifted os started H enc F)

/-- no parameter wants a stand-in; the program's own looks are off: what the card asks -/
theorem plain (f : FuncId) (fn : Func) (hf : Tryd.pinned.checked.prog.funcNamed "loop.example/g01314/laws.FnExactLikeliestAfter" = some f) (hfn : Tryd.pinned.checked.prog.funcs[f]? = some fn) :
    false = Tryd.pinned.checked.prog.looks [] ∧ ∀ (j : Nat) t, fn.params[j]? = some t → Tryd.pinned.checked.prog.wantsStandIn t = false := by
  obtain rfl : f = 6 := Option.some.inj ((show Tryd.prog.funcNamed "loop.example/g01314/laws.FnExactLikeliestAfter" = some 6 by kernel_rfl).symm.trans hf) |>.symm
  obtain rfl : fn = Tryd.f6 := (Option.some.inj (Tryd.func6.symm.trans hfn)).symm
  refine ⟨by kernel_rfl, fun j t ht => ?_⟩
  rw [Tryd.params6] at ht
  have hm := Array.mem_of_getElem? ht
  simp at hm
  rcases hm with rfl | rfl
  · exact (show Tryd.prog.wantsStandIn 9 = false by kernel_rfl)
  · exact (show Tryd.prog.wantsStandIn 3 = false by kernel_rfl)

/-- the statement -/
theorem card : Rows.FnExactLikeliestAfterCardSaid :=
  Claim7.holds_tied_plain_at .later [] _ _ _ _ said (fun _ h => by cases h) (by kernel_rfl) (fun _ h => by cases h) fnExactLikeliestAfter_row_tie rfl ⟨rfl, rfl⟩ (by kernel_rfl) rfl plain (by kernel_rfl)
#print axioms card
end Go.Proofs.YtfnhmacnghkgiaeDoor.fnExactLikeliestAfter
