/-
  For every list of texts (keys or not) and every other argument, the program's IsLineOfStates answers as the model does; the keys are as they were, and nothing that was there is written. No condition.
-/
import Derived.Test.YtcfeaaakfjilgabRows
import Derived.Test.YtcfeaaakfjilgabFT
import Derived.Test.YtcfeaaakfjilgabV1
import Derived.ProofKit
import Derived.OpenShut
import Derived.ShutString
import Derived.ChangeOld
namespace Go.Proofs.Ytcfeaaakfjilgab.fnExactIsLineOfStates
open Go.ChangeShapes Go.WideShapes Go.ChangeAt Go.RowKit
open Go.ChangeMaps (open_string shut_string)
open RM
set_option linter.unusedVariables false

theorem own : ownKnob Try.prog.godebug = none := by kernel_rfl
theorem laidOut : laidOutB Try.prog = true := by kernel_rfl

set_option maxHeartbeats 4000000 in
theorem walk0 (a : Option Addr) (n c : Nat) (ks : List ByteArray) (r0 : Bool) (r1 : Bool) (w : World) (hn : n ≤ maxLen) (hl : ks.length = n) (hz : ∀ s ∈ ks, s.size ≤ maxLen) (hA : ArgT w a ks)
    (hS : Hid (∀ w v, RdT w v ks → Calls Try.prog 14 #[v] w fun e w' => e = .returned (.tuple #[.bool r0, .bool r1]) ∧ Below w.heap.size w w'))
    (hI : Hid (∀ w v, RdT w v ks → Calls Try.prog 15 #[v] w fun e w' => e = .returned (.tuple #[.bool r0, .bool r1]) ∧ Below w.heap.size w w')) :
    Calls Try.prog 5 #[.slice a n c] w fun e w' => e = .returned (.bool true) ∧ Below w.heap.size w w' := by
  have hZ := Lib.hid (szStringS_any a n c ks w hn hl hz hA)
  replace hA := Lib.hid hA
  replace hl := Lib.hid hl
  clear hz
  have e0 : (r0 != r0) = false := by simp
  have e1 : (r1 != r1) = false := by simp
  go_enter Try.func5, Try.ntmps5
  go_wp2_with fail
  refine hZ.out.mono ?_; rintro e w2 ⟨lf, rfl, rfl, hlf⟩
  by_cases hneg : lf < 0
  · go_wp2_with fail
    go_ret; exact ⟨rfl, Below.refl _ _⟩
  have hT := Lib.hid fun w' (hbw : Below w.heap.size w w') => toStringS_any a n c ks w' (hlf (by omega)) hl.out (hA.out.below hbw)
  have hn9 := hlf (by omega)
  clear hlf hZ
  go_wp2_with fail
  refine (hT.out w (Below.refl _ _)).mono ?_; rintro e w3 ⟨v0, rfl, ho3, hb3⟩
  replace hb3 := Lib.hid hb3
  go_wp2_with fail
  refine (hS.out w3 v0 (ownT_G ho3).rd).mono ?_; rintro e w4 ⟨rfl, hb4⟩
  replace hb4 := Lib.hid (bt1 hb3.out hb4)
  clear ho3
  go_wp2_with fail
  refine (hT.out w4 hb4.out).mono ?_; rintro e w5 ⟨x0, rfl, ho5, hb5⟩
  replace ho5 := Lib.hid ho5
  have hxB : Hid (∀ k, x0.ownBlock = some k → w4.heap.size ≤ k ∧ k < w5.heap.size) := Lib.hid (fun k e => ho5.out.lt k e)
  have hl45 := hb5.size
  replace hb5 := Lib.hid (bt1 hb4.out hb5)
  go_wp2_with fail
  refine (hI.out w5 x0 (ownT_G ho5.out).rd).mono ?_; rintro e w6 ⟨rfl, hb6⟩
  have ho6 := Lib.hid (ho5.out.below hb6)
  have hl56 := hb6.size
  replace hb6 := Lib.hid (bt1 hb5.out hb6)
  go_wp2_with fail
  refine (hT.out w6 hb6.out).mono ?_; rintro e w8 ⟨v8, rfl, ho8k, hb8⟩
  have ho8 := Lib.hid (ho6.out.below hb8)
  have hl68 := hb8.size
  replace hb8 := Lib.hid (bt1 hb6.out hb8)
  replace ho8k := Lib.hid ho8k
  go_wp2_with fail
  refine (eqStringS_same _ _ ks _ _ _ ho8.out ho8k.out).mono ?_; rintro e w9 ⟨rfl, hq⟩
  have hbn : Below w8.heap.size w8 w9 := by obtain ⟨q, rfl⟩ := hq; exact below_drewN (Below.refl _ _) q
  clear hq
  have ho9 := Lib.hid (ho8.out.below hbn)
  have hl89 := hbn.size
  have hb9 := Lib.hid (bt1 hb8.out hbn)
  clear hbn
  go_wp2_with fail
  go_ret; exact ⟨rfl, hb9.out⟩
theorem walk (a : Option Addr) (n c : Nat) (ks : List ByteArray) (hn : n ≤ maxLen) (hl : ks.length = n) (hz : ∀ s ∈ ks, s.size ≤ maxLen) (w : World) (hA : ArgT w a ks) :
    Calls Try.prog 5 #[.slice a n c] w fun e w' => e = .returned (.bool true) ∧ Below w.heap.size w w' := by
  obtain ⟨r0, r1, hS, hI⟩ := IsLineOfStates_both ks hz
  exact walk0 a n c ks r0 r1 w hn hl hz hA (Lib.hid hS) (Lib.hid hI)

set_option maxRecDepth 100000 in
theorem lifted (os : Os) (started : os.Started) (H : Type) (enc : TypeId × Value → H) :
    ReturnsInHanded {} Try.checked os 5 .any (Rows.fnExactIsLineOfStatesSpec.pre6 enc Try.prog Try.f5 Rows.fnExactIsLineOfStatesRow.domain false) (Rows.fnExactIsLineOfStatesSpec.post enc Try.prog Try.f5 false true false false) := by
  refine returnsInHanded_of_change (C := Try.checked) own started (by kernel_rfl) Try.func5
    (ChangeSpec.witness6 (enc := enc) (C := Try.checked) false ⟨#[], #[.slice none 0 0], []⟩ 8 (by kernel_rfl) (by kernel_rfl) (by kernel_rfl) (by kernel_rfl)) ?_
  intro W base args ds gs before hval0 hW hcnd _
  have hval : ∀ (j : Nat) t v, Try.f5.params[j]? = some t → args[j]? = some v → Value.okWide Try.prog W .any base t v := hval0
  have hW' := hW
  obtain ⟨p, q, hA0, hV, rfl, hfz, hnd⟩ := hW
  have hA : DataW.TrodAll enc Try.prog W 0 (fun _ => true) true Try.f5.params.toList args.toList ds p := hA0
  rw [Try.params5] at hA hval
  obtain ⟨v0, vs0, d0, ds0, p0, q0, hargs, rfl, rfl, h0, r0⟩ := trodAll_cons hA
  obtain ⟨rfl, rfl, rfl⟩ := trodAll_nil r0
  obtain rfl : args = #[v0] := by cases args; simp_all
  obtain ⟨rfl, rfl⟩ := trodVars_none hV
  have k0 := h0
  have lt0 : ∀ x ∈ p0, x.block < W.heap.size := by obtain ⟨m, hm⟩ := k0; exact DataW.trod_lt m _ _ _ hm
  obtain ⟨a0, n0, c0, ss0, rfl, hn0, hl0, gT0, hs0⟩ := open_texts (hval 0 22 v0 rfl rfl) h0
  clear hA0
  refine (walk a0 n0 c0 ss0 hn0 hl0 hs0 W gT0).mono fun e W' ⟨he, bel⟩ => ?_
  subst he
  exact ⟨_, rfl, _, _, _, [], _, [], hW', trodAll_mk1 (shut_bool Try.underlying4 _), (trodAll_cons_mk (Below.trod laidOut (by kernel_rfl) (of_decide_eq_true (by kernel_rfl)) k0 bel lt0) trodAll_mk0), rfl, bel.frame _, fun h => by cases h⟩

theorem over : Rows.fnExactIsLineOfStatesRow.holds Try.pinned (OpenSpec.ofChange Rows.fnExactIsLineOfStatesSpec) :=
  OpenClaim.holds_of_wide 5 Try.f5 rfl rfl rfl rfl rfl rfl rfl ⟨rfl, rfl, rfl, rfl, rfl⟩ rfl rfl rfl rfl rfl (by kernel_rfl) Try.func5 (by kernel_rfl)
    (of_decide_eq_true (by kernel_rfl)) (by unfold Func.isWrapper; first | (rw [if_pos (by decide +kernel)]; kernel_rfl) | (rw [if_neg (by decide +kernel)]; exact ⟨rfl, rfl⟩))
    (fun os started H enc _ => lifted os started H enc)

/-- the statement -/
theorem proved : Rows.FnExactIsLineOfStatesSaid := over
#print axioms proved
end Go.Proofs.Ytcfeaaakfjilgab.fnExactIsLineOfStates
