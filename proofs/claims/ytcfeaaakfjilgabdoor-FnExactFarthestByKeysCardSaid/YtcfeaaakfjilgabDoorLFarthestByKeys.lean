/-
  For every list of texts (keys or not) and every other argument, the program's FarthestByKeys answers as the model does; the keys are as they were, and nothing that was there is written. No condition.
-/
import Derived.Test.YtcfeaaakfjilgabDoorRows
import Derived.Test.YtcfeaaakfjilgabDoorLaid
import Derived.Test.YtcfeaaakfjilgabDoorFB
import Derived.Test.YtcfeaaakfjilgabDoorV1
import Derived.ProofKit
import Derived.OpenShut
import Derived.ShutString
import Derived.ChangeOld
namespace Go.Proofs.YtcfeaaakfjilgabDoor.fnExactFarthestByKeys
open Go.ChangeShapes Go.WideShapes Go.ChangeAt Go.RowKit
open Go.ChangeMaps (open_string shut_string)
open RM
set_option linter.unusedVariables false

theorem laidOut : laidOutB Tryd.prog = true := by kernel_rfl

set_option maxHeartbeats 4000000 in
theorem walk0 (a : Option Addr) (n c : Nat) (ks : List ByteArray) (s1 : ByteArray) (r0 : ByteArray) (r1 : Int) (r2 : Bool) (w : World) (g1 : ¬ 1048576 < s1.size) (hn : n ≤ maxLen) (hl : ks.length = n) (hz : ∀ s ∈ ks, s.size ≤ maxLen) (hA : ArgT w a ks) (hT0 : TabOk w)
    (hS : Hid (∀ w v, RdT w v ks → Calls Tryd.prog 17 #[v, .string s1] w fun e w' => e = .returned (.tuple #[.string r0, .int .i64 r1, .bool r2]) ∧ Below w.heap.size w w'))
    (hI : Hid (∀ w v, TabOk w → RdT w v ks → Calls Tryd.prog 18 #[v, .string s1] w fun e w' => e = .returned (.tuple #[.string r0, .int .i64 r1, .bool r2]) ∧ Below w.heap.size w w')) :
    Calls Tryd.prog 4 #[.slice a n c, .string s1] w fun e w' => e = .returned (.bool true) ∧ Below w.heap.size w w' := by
  replace hT0 := Lib.hid hT0
  have hZ := Lib.hid (szStringS_any a n c ks w hn hl hz hA)
  replace hA := Lib.hid hA
  replace hl := Lib.hid hl
  clear hz
  have e0 : (r0.toList == r0.toList) = true := by simp
  have e1 : (r1 != r1) = false := by simp
  have e2 : (r2 != r2) = false := by simp
  go_enter Tryd.func4, Tryd.ntmps4
  go_wp2_with fail
  refine hZ.out.mono ?_; rintro e w2 ⟨lf, rfl, rfl, hlf⟩
  by_cases hneg : lf < 0
  · go_wp2_with fail
    go_ret; exact ⟨rfl, Below.refl _ _⟩
  have hT := Lib.hid fun w' (hbw : Below w.heap.size w w') => toStringS_any a n c ks w' (hlf (by omega)) hl.out (hA.out.below hbw)
  have hn9 := hlf (by omega)
  clear hlf hZ
  go_wp2_with fail
  refine (hT.out w (Below.refl _ _)).mono ?_; rintro e w3 ⟨v0, rfl, ho3, hb3⟩
  replace hb3 := Lib.hid hb3
  go_wp2_with fail
  refine (hS.out w3 v0 (ownT_G ho3).rd).mono ?_; rintro e w4 ⟨rfl, hb4⟩
  replace hb4 := Lib.hid (bt1 hb3.out hb4)
  clear ho3
  go_wp2_with fail
  refine (hT.out w4 hb4.out).mono ?_; rintro e w5 ⟨x0, rfl, ho5, hb5⟩
  replace ho5 := Lib.hid ho5
  have hxB : Hid (∀ k, x0.ownBlock = some k → w4.heap.size ≤ k ∧ k < w5.heap.size) := Lib.hid (fun k e => ho5.out.lt k e)
  have hl45 := hb5.size
  replace hb5 := Lib.hid (bt1 hb4.out hb5)
  go_wp2_with fail
  refine (hI.out w5 x0 (hT0.out.below hb5.out) (ownT_G ho5.out).rd).mono ?_; rintro e w6 ⟨rfl, hb6⟩
  have ho6 := Lib.hid (ho5.out.below hb6)
  have hl56 := hb6.size
  replace hb6 := Lib.hid (bt1 hb5.out hb6)
  go_wp2_with fail
  refine (hT.out w6 hb6.out).mono ?_; rintro e w8 ⟨v8, rfl, ho8k, hb8⟩
  have ho8 := Lib.hid (ho6.out.below hb8)
  have hl68 := hb8.size
  replace hb8 := Lib.hid (bt1 hb6.out hb8)
  replace ho8k := Lib.hid ho8k
  go_wp2_with fail
  refine (eqStringS_same _ _ ks _ _ _ ho8.out ho8k.out).mono ?_; rintro e w9 ⟨rfl, hq⟩
  have hbn : Below w8.heap.size w8 w9 := by obtain ⟨q, rfl⟩ := hq; exact below_drewN (Below.refl _ _) q
  clear hq
  have ho9 := Lib.hid (ho8.out.below hbn)
  have hl89 := hbn.size
  have hb9 := Lib.hid (bt1 hb8.out hbn)
  clear hbn
  go_wp2_with fail
  go_ret; exact ⟨rfl, hb9.out⟩
theorem walk (a : Option Addr) (n c : Nat) (ks : List ByteArray) (hn : n ≤ maxLen) (hl : ks.length = n) (hz : ∀ s ∈ ks, s.size ≤ maxLen) (s1 : ByteArray) (w1 : s1.size ≤ maxLen) (w : World) (hA : ArgT w a ks) (hT0 : TabOk w) :
    Calls Tryd.prog 4 #[.slice a n c, .string s1] w fun e w' => e = .returned (.bool true) ∧ Below w.heap.size w w' := by
  by_cases g1 : 1048576 < s1.size
  · go_enter Tryd.func4, Tryd.ntmps4
    go_wp2_with fail
    go_ret; exact ⟨rfl, Below.refl _ _⟩
  obtain ⟨r0, r1, r2, hS, hI⟩ := FarthestByKeys_both ks hz s1 w1
  exact walk0 a n c ks s1 r0 r1 r2 w g1 hn hl hz hA hT0 (Lib.hid hS) (Lib.hid hI)

set_option maxRecDepth 100000 in
/-- what the walk gives, for every argument and every world that holds the tables -/
theorem contract (H : Type) (enc : TypeId × Value → H) (W : World) (base : Nat) (args : Array Value) (ds gs : List (DataW H)) (before : List MemPlace)
    (hval : ∀ (j : Nat) t v, Tryd.f4.params[j]? = some t → args[j]? = some v → Value.okWide Tryd.prog W .any base t v)
    (hW : DataW.Whole enc Tryd.prog Tryd.f4.params.toList Rows.fnExactFarthestByKeysSpec.vars false W args.toList ds gs before) (hL : laidMetH Tryd.prog Rows.fnExactFarthestByKeysRow.laid W) :
    Calls Tryd.prog 4 args W fun e W' => ∃ v, e = .returned v ∧ Rows.fnExactFarthestByKeysSpec.post enc Tryd.prog Tryd.f4 false true false false W args v W' := by
  have hW' := hW
  obtain ⟨p, q, hA0, hV, rfl, hfz, hnd⟩ := hW
  have hA : DataW.TrodAll enc Tryd.prog W 0 (fun _ => true) true Tryd.f4.params.toList args.toList ds p := hA0
  rw [Tryd.params4] at hA hval
  obtain ⟨v0, vs0, d0, ds0, p0, q0, hargs, rfl, rfl, h0, r0⟩ := trodAll_cons hA
  obtain ⟨v1, vs1, d1, ds1, p1, q1, rfl, rfl, rfl, h1, r1⟩ := trodAll_cons r0
  obtain ⟨rfl, rfl, rfl⟩ := trodAll_nil r1
  obtain rfl : args = #[v0, v1] := by cases args; simp_all
  obtain ⟨rfl, rfl⟩ := trodVars_none hV
  obtain ⟨a1, rfl, rfl, rfl, w1⟩ := open_string Tryd.underlying9 (hval 1 9 v1 rfl rfl) h1
  have k0 := h0
  have lt0 : ∀ x ∈ p0, x.block < W.heap.size := by obtain ⟨m, hm⟩ := k0; exact DataW.trod_lt m _ _ _ hm
  obtain ⟨a0, n0, c0, ss0, rfl, hn0, hl0, gT0, hs0⟩ := open_texts (hval 0 22 v0 rfl rfl) h0
  clear hA0
  refine (walk a0 n0 c0 ss0 hn0 hl0 hs0 a1 w1 W gT0 (tabOk hL)).mono fun e W' ⟨he, bel⟩ => ?_
  subst he
  exact ⟨_, rfl, _, _, _, [], _, [], hW', trodAll_mk1 (shut_bool Tryd.underlying4 _), (trodAll_cons_mk (Below.trod laidOut (by kernel_rfl) (of_decide_eq_true (by kernel_rfl)) k0 bel lt0) (trodAll_cons_mk (shut_string Tryd.underlying9 w1) trodAll_mk0)), rfl, bel.frame _, fun h => by cases h⟩

theorem reads (os : Os) {H : Type} (enc : TypeId × Value → H) : ∃ places, DataW.whole enc Tryd.prog ((laidWorld os).forCall (fun _ _ => 0) ⟨#[], #[.slice none 0 0, .string ByteArray.empty], []⟩).memory Tryd.f4.params.toList Rows.fnExactFarthestByKeysSpec.vars false (#[.slice none 0 0, .string ByteArray.empty] : Array Value).toList 8 = some ([.nil, .lit (.string [])], [], places) :=
  ⟨[], by kernel_rfl⟩

set_option maxRecDepth 100000 in
theorem lifted (os : Os) (started : os.Started) (H : Type) (enc : TypeId × Value → H) (F : Stop.Interp) :
    ReturnsInHanded {} Tryd.checked os 4 .any ((OpenSpec.ofChange Rows.fnExactFarthestByKeysSpec).preRow enc Tryd.prog Tryd.f4 Rows.fnExactFarthestByKeysRow.domain false Rows.fnExactFarthestByKeysRow.laid) (((OpenSpec.ofChange Rows.fnExactFarthestByKeysSpec).at F).post enc Tryd.prog Tryd.f4 false true false false) := by
  obtain ⟨places, hx⟩ := reads os enc
  refine returnsInHanded_of_row (C := Tryd.checked) (s := OpenSpec.ofChange Rows.fnExactFarthestByKeysSpec) own started (by kernel_rfl) Tryd.func4
    (witness_row_at (enc := enc) (C := Tryd.checked) false (laidWorld os) #[.slice none 0 0, .string ByteArray.empty] rfl (by kernel_rfl) (by kernel_rfl) (by kernel_rfl)
      (OpenSpec.preRow_of_cond 8 hx (by kernel_rfl) (fun k hk => by cases hk) (by kernel_rfl) (laid_met os _))) ?_
  intro W base args ds gs before hval hW _ _ _ hL _ _
  exact contract H enc W base args ds gs before hval hW hL

theorem said : Rows.FnExactFarthestByKeysSaid :=
  OpenClaim.holds_of_cond 4 Tryd.f4 rfl rfl rfl rfl rfl rfl rfl ⟨rfl, rfl, rfl, rfl, rfl⟩ rfl rfl rfl rfl rfl (by kernel_rfl) Tryd.func4 (by kernel_rfl)
    (of_decide_eq_true (by kernel_rfl)) (by unfold Func.isWrapper; first | (rw [if_pos (by decide +kernel)]; kernel_rfl) | (rw [if_neg (by decide +kernel)]; exact ⟨rfl, rfl⟩))
    (fun os started H enc _ F => by rw [OpenClaim.pre_eq_preRow]; exact lifted os started H enc F)

/-- no parameter wants a stand-in; the program's own looks are off: what the card asks -/
theorem plain (f : FuncId) (fn : Func) (hf : Tryd.pinned.checked.prog.funcNamed "loop.example/g01314/laws.FnExactFarthestByKeys" = some f) (hfn : Tryd.pinned.checked.prog.funcs[f]? = some fn) :
    false = Tryd.pinned.checked.prog.looks [] ∧ ∀ (j : Nat) t, fn.params[j]? = some t → Tryd.pinned.checked.prog.wantsStandIn t = false := by
  obtain rfl : f = 4 := Option.some.inj ((show Tryd.prog.funcNamed "loop.example/g01314/laws.FnExactFarthestByKeys" = some 4 by kernel_rfl).symm.trans hf) |>.symm
  obtain rfl : fn = Tryd.f4 := (Option.some.inj (Tryd.func4.symm.trans hfn)).symm
  refine ⟨by kernel_rfl, fun j t ht => ?_⟩
  rw [Tryd.params4] at ht
  have hm := Array.mem_of_getElem? ht
  simp at hm
  rcases hm with rfl | rfl
  · exact (show Tryd.prog.wantsStandIn 22 = false by kernel_rfl)
  · exact (show Tryd.prog.wantsStandIn 9 = false by kernel_rfl)

/-- the statement -/
theorem card : Rows.FnExactFarthestByKeysCardSaid :=
  Claim7.holds_tied_plain_at .later [] _ _ _ _ said (fun _ h => by cases h) (by kernel_rfl) (fun _ h => by cases h) fnExactFarthestByKeys_row_tie rfl ⟨rfl, rfl⟩ (by kernel_rfl) rfl plain (by kernel_rfl)
#print axioms card
end Go.Proofs.YtcfeaaakfjilgabDoor.fnExactFarthestByKeys
