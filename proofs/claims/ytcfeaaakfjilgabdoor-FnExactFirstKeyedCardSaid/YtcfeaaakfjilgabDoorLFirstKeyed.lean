/-
  For every list of texts (keys or not) and every other argument, the program's FirstKeyed answers as the model does, in memory of its own; the keys are as they were, and nothing that was there is written. No condition.
-/
import Derived.Test.YtcfeaaakfjilgabDoorRows
import Derived.Test.YtcfeaaakfjilgabDoorLaid
import Derived.Test.YtcfeaaakfjilgabDoorFU
import Derived.Test.YtcfeaaakfjilgabDoorV1
import Derived.ProofKit
import Derived.OpenShut
import Derived.ShutString
import Derived.ChangeOld
namespace Go.Proofs.YtcfeaaakfjilgabDoor.fnExactFirstKeyed
open Go.ChangeShapes Go.WideShapes Go.ChangeAt Go.RowKit
open Go.ChangeMaps (open_string shut_string)
open RM
set_option linter.unusedVariables false

theorem laidOut : laidOutB Tryd.prog = true := by kernel_rfl

set_option maxHeartbeats 4000000 in
theorem walk0 (a : Option Addr) (n c : Nat) (ks : List ByteArray) (s1 : ByteArray) (s2 : ByteArray) (r : List Int) (ok : Bool) (w : World) (g1 : ¬ 1048576 < s1.size) (g2 : ¬ 1048576 < s2.size) (hr : Hid (r.length ≤ 2000000)) (hn : n ≤ maxLen) (hl : ks.length = n) (hz : ∀ s ∈ ks, s.size ≤ maxLen) (hA : ArgT w a ks) (hT0 : TabOk w)
    (hS : Hid (∀ w v, RdT w v ks → Calls Tryd.prog 9 #[v, .string s1, .string s2] w fun e w' => RetI w r ok e w'))
    (hI : Hid (∀ w v, TabOk w → RdT w v ks → Calls Tryd.prog 11 #[v, .string s1, .string s2] w fun e w' => RetI w r ok e w')) :
    Calls Tryd.prog 3 #[.slice a n c, .string s1, .string s2] w fun e w' => e = .returned (.bool true) ∧ Below w.heap.size w w' := by
  replace hT0 := Lib.hid hT0
  have hZ := Lib.hid (szStringS_any a n c ks w hn hl hz hA)
  replace hA := Lib.hid hA
  replace hl := Lib.hid hl
  clear hz
  have hne : (ok != ok) = false := by simp
  have hnq : ¬ 1 + (r.length : Int) < 0 := by omega
  have hnk : ¬ 1 + (n : Int) < 0 := by omega
  go_enter Tryd.func3, Tryd.ntmps3
  go_wp2_with fail
  refine hZ.out.mono ?_; rintro e w2 ⟨lf, rfl, rfl, hlf⟩
  by_cases hneg : lf < 0
  · go_wp2_with fail
    go_ret; exact ⟨rfl, Below.refl _ _⟩
  have hT := Lib.hid fun w' (hbw : Below w.heap.size w w') => toStringS_any a n c ks w' (hlf (by omega)) hl.out (hA.out.below hbw)
  have hn9 := hlf (by omega)
  clear hlf hZ
  go_wp2_with fail
  refine (hT.out w (Below.refl _ _)).mono ?_; rintro e w3 ⟨v0, rfl, ho3, hb3⟩
  replace hb3 := Lib.hid hb3
  go_wp2_with fail
  refine (hS.out w3 v0 (ownT_G ho3).rd).mono ?_; rintro e w4 ⟨sv, rfl, hs4, hb4⟩
  replace hs4 := Lib.hid hs4
  replace hb4 := Lib.hid (bt1 hb3.out hb4)
  have hsB : Hid (∀ k, sv.ownBlock = some k → k < w4.heap.size) := Lib.hid (fun k e => (hs4.out.lt k e).2)
  clear ho3
  go_wp2_with fail
  refine (hT.out w4 hb4.out).mono ?_; rintro e w5 ⟨x0, rfl, ho5, hb5⟩
  replace ho5 := Lib.hid ho5
  have hxB : Hid (∀ k, x0.ownBlock = some k → w4.heap.size ≤ k ∧ k < w5.heap.size) := Lib.hid (fun k e => ho5.out.lt k e)
  have hl45 := hb5.size
  have hs5 := Lib.hid (hs4.out.below hb5)
  replace hb5 := Lib.hid (bt1 hb4.out hb5)
  go_wp2_with fail
  refine (hI.out w5 x0 (hT0.out.below hb5.out) (ownT_G ho5.out).rd).mono ?_; rintro e w6 ⟨gv, rfl, hg6, hb6⟩
  replace hg6 := Lib.hid hg6
  have hs6 := Lib.hid (hs5.out.below hb6)
  have hgB : Hid (∀ k, gv.ownBlock = some k → w5.heap.size ≤ k ∧ k < w6.heap.size) := Lib.hid (fun k e => hg6.out.lt k e)
  have ho6 := Lib.hid (ho5.out.below hb6)
  have hl56 := hb6.size
  replace hb6 := Lib.hid (bt1 hb5.out hb6)
  go_wp2_with fail
  refine (eqIntS_same _ _ r _ _ _ hg6.out hs6.out).mono ?_; rintro e w7 ⟨rfl, hq⟩
  have hbn : Below w6.heap.size w6 w7 := by obtain ⟨q, rfl⟩ := hq; exact below_drewN (Below.refl _ _) q
  clear hq
  have hg7 := Lib.hid (hg6.out.below hbn)
  have hs7 := Lib.hid (hs6.out.below hbn)
  have ho7 := Lib.hid (ho6.out.below hbn)
  have hl67 := hbn.size
  have hb7 := Lib.hid (bt1 hb6.out hbn)
  clear hbn
  go_wp2_with fail
  refine (hT.out w7 hb7.out).mono ?_; rintro e w8 ⟨v8, rfl, ho8k, hb8⟩
  have ho8 := Lib.hid (ho7.out.below hb8)
  have hs8 := Lib.hid (hs7.out.below hb8)
  have hg8 := Lib.hid (hg7.out.below hb8)
  have hl78 := hb8.size
  replace hb8 := Lib.hid (bt1 hb7.out hb8)
  replace ho8k := Lib.hid ho8k
  go_wp2_with fail
  refine (eqStringS_same _ _ ks _ _ _ ho8.out ho8k.out).mono ?_; rintro e w9 ⟨rfl, hq⟩
  have hbn : Below w8.heap.size w8 w9 := by obtain ⟨q, rfl⟩ := hq; exact below_drewN (Below.refl _ _) q
  clear hq
  have ho9 := Lib.hid (ho8.out.below hbn)
  have hg9 := Lib.hid (hg8.out.below hbn)
  have hs9 := Lib.hid (hs8.out.below hbn)
  have hl89 := hbn.size
  have hb9 := Lib.hid (bt1 hb8.out hbn)
  clear hbn
  go_wp2_with fail
  refine (markStringS_any x0 ks _ w9 (by rw [hl.out]; omega) ho9.out).mono ?_; rintro e w10 ⟨rfl, hm10, hgr⟩
  have hs10 := Lib.hid (hs9.out.kept hgr (ne_bse hsB.out (fun k e => (hxB.out k e).1)))
  have hg10 := Lib.hid (hg9.out.kept hgr (ne_bse2 (fun k e => (hgB.out k e).1) (fun k e => (hxB.out k e).2)))
  have hb10 := Lib.hid (hb9.out.grown hgr hb9.out.size (fun k e => Nat.le_trans hb4.out.size (hxB.out k e).1))
  have hl910 := hgr.size
  clear hgr hm10
  rw [hl.out]
  go_wp2_with fail
  refine (eqIntS_same _ _ r _ _ _ hg10.out hs10.out).mono ?_; rintro e w11 ⟨rfl, hq⟩
  have hbn : Below w10.heap.size w10 w11 := by obtain ⟨q, rfl⟩ := hq; exact below_drewN (Below.refl _ _) q
  clear hq
  have hg11 := Lib.hid (hg10.out.below hbn)
  have hs11 := Lib.hid (hs10.out.below hbn)
  have hl1011 := hbn.size
  have hb11 := Lib.hid (bt1 hb10.out hbn)
  clear hbn
  go_wp2_with fail
  refine (markIntS_any gv r _ w11 (by have := hr.out; omega) hg11.out).mono ?_; rintro e w12 ⟨rfl, hm12, hgr⟩
  replace hm12 := Lib.hid hm12
  have hs12 := Lib.hid (hs11.out.kept hgr (ne_bse (fun k e => Nat.lt_of_lt_of_le (hsB.out k e) hl45) (fun k e => (hgB.out k e).1)))
  have hb12 := Lib.hid (hb11.out.grown hgr hb11.out.size (fun k e => Nat.le_trans hb5.out.size (hgB.out k e).1))
  have hl1112 := hgr.size
  clear hgr
  go_wp2_with fail
  refine (heldIntS_any gv r.length _ w12 (by have := hr.out; omega) hm12.out).mono ?_; rintro e w13 ⟨rfl, hq13⟩; have hb13 : Below w12.heap.size w12 w13 := by subst hq13; exact Below.refl _ _
  have hs13 := Lib.hid (hs12.out.below hb13)
  have hm13 := Lib.hid (hm12.out.below hb13)
  replace hb13 := Lib.hid (bt1 hb12.out hb13)
  go_wp2_with fail
  refine (hT.out w13 hb13.out).mono ?_; rintro e w14 ⟨v14, rfl, ho14, hb14⟩
  have hs14 := Lib.hid (hs13.out.below hb14)
  have hm14 := Lib.hid (hm13.out.below hb14)
  replace hb14 := Lib.hid (bt1 hb13.out hb14)
  go_wp2_with fail
  refine (hI.out w14 v14 (hT0.out.below hb14.out) (ownT_G ho14).rd).mono ?_; rintro e w15 ⟨hv, rfl, hh15, hb15⟩
  have hs15 := Lib.hid (hs14.out.below hb15)
  have hm15 := Lib.hid (hm14.out.below hb15)
  replace hb15 := Lib.hid (bt1 hb14.out hb15)
  replace hh15 := Lib.hid hh15
  go_wp2_with fail
  refine (eqIntS_same _ _ r _ _ _ hh15.out hs15.out).mono ?_; rintro e w16 ⟨rfl, hq⟩
  have hbn : Below w15.heap.size w15 w16 := by obtain ⟨q, rfl⟩ := hq; exact below_drewN (Below.refl _ _) q
  clear hq
  have hm16 := Lib.hid (hm15.out.below hbn)
  have hl1516 := hbn.size
  have hb16 := Lib.hid (bt1 hb15.out hbn)
  clear hbn
  go_wp2_with fail
  refine (heldIntS_any gv r.length _ w16 (by have := hr.out; omega) hm16.out).mono ?_; rintro e w17 ⟨rfl, hq17⟩; have hb17 : Below w16.heap.size w16 w17 := by subst hq17; exact Below.refl _ _
  replace hb17 := Lib.hid (bt1 hb16.out hb17)
  go_wp2_with fail
  go_ret; exact ⟨rfl, hb17.out⟩
theorem walk (a : Option Addr) (n c : Nat) (ks : List ByteArray) (hn : n ≤ maxLen) (hl : ks.length = n) (hz : ∀ s ∈ ks, s.size ≤ maxLen) (s1 : ByteArray) (w1 : s1.size ≤ maxLen) (s2 : ByteArray) (w2 : s2.size ≤ maxLen) (w : World) (hA : ArgT w a ks) (hT0 : TabOk w) :
    Calls Tryd.prog 3 #[.slice a n c, .string s1, .string s2] w fun e w' => e = .returned (.bool true) ∧ Below w.heap.size w w' := by
  by_cases g1 : 1048576 < s1.size
  · go_enter Tryd.func3, Tryd.ntmps3
    go_wp2_with fail
    go_ret; exact ⟨rfl, Below.refl _ _⟩
  by_cases g2 : 1048576 < s2.size
  · go_enter Tryd.func3, Tryd.ntmps3
    go_wp2_with fail
    go_ret; exact ⟨rfl, Below.refl _ _⟩
  obtain ⟨r, ok, hr, hS, hI⟩ := FirstKeyed_both ks hz s1 s2 w1 w2
  exact walk0 a n c ks s1 s2 r ok w g1 g2 (Lib.hid (by omega)) hn hl hz hA hT0 (Lib.hid hS) (Lib.hid hI)

set_option maxRecDepth 100000 in
/-- what the walk gives, for every argument and every world that holds the tables -/
theorem contract (H : Type) (enc : TypeId × Value → H) (W : World) (base : Nat) (args : Array Value) (ds gs : List (DataW H)) (before : List MemPlace)
    (hval : ∀ (j : Nat) t v, Tryd.f3.params[j]? = some t → args[j]? = some v → Value.okWide Tryd.prog W .any base t v)
    (hW : DataW.Whole enc Tryd.prog Tryd.f3.params.toList Rows.fnExactFirstKeyedSpec.vars false W args.toList ds gs before) (hL : laidMetH Tryd.prog Rows.fnExactFirstKeyedRow.laid W) :
    Calls Tryd.prog 3 args W fun e W' => ∃ v, e = .returned v ∧ Rows.fnExactFirstKeyedSpec.post enc Tryd.prog Tryd.f3 false true false false W args v W' := by
  have hW' := hW
  obtain ⟨p, q, hA0, hV, rfl, hfz, hnd⟩ := hW
  have hA : DataW.TrodAll enc Tryd.prog W 0 (fun _ => true) true Tryd.f3.params.toList args.toList ds p := hA0
  rw [Tryd.params3] at hA hval
  obtain ⟨v0, vs0, d0, ds0, p0, q0, hargs, rfl, rfl, h0, r0⟩ := trodAll_cons hA
  obtain ⟨v1, vs1, d1, ds1, p1, q1, rfl, rfl, rfl, h1, r1⟩ := trodAll_cons r0
  obtain ⟨v2, vs2, d2, ds2, p2, q2, rfl, rfl, rfl, h2, r2⟩ := trodAll_cons r1
  obtain ⟨rfl, rfl, rfl⟩ := trodAll_nil r2
  obtain rfl : args = #[v0, v1, v2] := by cases args; simp_all
  obtain ⟨rfl, rfl⟩ := trodVars_none hV
  obtain ⟨a1, rfl, rfl, rfl, w1⟩ := open_string Tryd.underlying9 (hval 1 9 v1 rfl rfl) h1
  obtain ⟨a2, rfl, rfl, rfl, w2⟩ := open_string Tryd.underlying9 (hval 2 9 v2 rfl rfl) h2
  have k0 := h0
  have lt0 : ∀ x ∈ p0, x.block < W.heap.size := by obtain ⟨m, hm⟩ := k0; exact DataW.trod_lt m _ _ _ hm
  obtain ⟨a0, n0, c0, ss0, rfl, hn0, hl0, gT0, hs0⟩ := open_texts (hval 0 22 v0 rfl rfl) h0
  clear hA0
  refine (walk a0 n0 c0 ss0 hn0 hl0 hs0 a1 w1 a2 w2 W gT0 (tabOk hL)).mono fun e W' ⟨he, bel⟩ => ?_
  subst he
  exact ⟨_, rfl, _, _, _, [], _, [], hW', trodAll_mk1 (shut_bool Tryd.underlying4 _), (trodAll_cons_mk (Below.trod laidOut (by kernel_rfl) (of_decide_eq_true (by kernel_rfl)) k0 bel lt0) (trodAll_cons_mk (shut_string Tryd.underlying9 w1) (trodAll_cons_mk (shut_string Tryd.underlying9 w2) trodAll_mk0))), rfl, bel.frame _, fun h => by cases h⟩

theorem reads (os : Os) {H : Type} (enc : TypeId × Value → H) : ∃ places, DataW.whole enc Tryd.prog ((laidWorld os).forCall (fun _ _ => 0) ⟨#[], #[.slice none 0 0, .string ByteArray.empty, .string ByteArray.empty], []⟩).memory Tryd.f3.params.toList Rows.fnExactFirstKeyedSpec.vars false (#[.slice none 0 0, .string ByteArray.empty, .string ByteArray.empty] : Array Value).toList 8 = some ([.nil, .lit (.string []), .lit (.string [])], [], places) :=
  ⟨[], by kernel_rfl⟩

set_option maxRecDepth 100000 in
theorem lifted (os : Os) (started : os.Started) (H : Type) (enc : TypeId × Value → H) (F : Stop.Interp) :
    ReturnsInHanded {} Tryd.checked os 3 .any ((OpenSpec.ofChange Rows.fnExactFirstKeyedSpec).preRow enc Tryd.prog Tryd.f3 Rows.fnExactFirstKeyedRow.domain false Rows.fnExactFirstKeyedRow.laid) (((OpenSpec.ofChange Rows.fnExactFirstKeyedSpec).at F).post enc Tryd.prog Tryd.f3 false true false false) := by
  obtain ⟨places, hx⟩ := reads os enc
  refine returnsInHanded_of_row (C := Tryd.checked) (s := OpenSpec.ofChange Rows.fnExactFirstKeyedSpec) own started (by kernel_rfl) Tryd.func3
    (witness_row_at (enc := enc) (C := Tryd.checked) false (laidWorld os) #[.slice none 0 0, .string ByteArray.empty, .string ByteArray.empty] rfl (by kernel_rfl) (by kernel_rfl) (by kernel_rfl)
      (OpenSpec.preRow_of_cond 8 hx (by kernel_rfl) (fun k hk => by cases hk) (by kernel_rfl) (laid_met os _))) ?_
  intro W base args ds gs before hval hW _ _ _ hL _ _
  exact contract H enc W base args ds gs before hval hW hL

theorem said : Rows.FnExactFirstKeyedSaid :=
  OpenClaim.holds_of_cond 3 Tryd.f3 rfl rfl rfl rfl rfl rfl rfl ⟨rfl, rfl, rfl, rfl, rfl⟩ rfl rfl rfl rfl rfl (by kernel_rfl) Tryd.func3 (by kernel_rfl)
    (of_decide_eq_true (by kernel_rfl)) (by unfold Func.isWrapper; first | (rw [if_pos (by decide +kernel)]; kernel_rfl) | (rw [if_neg (by decide +kernel)]; exact ⟨rfl, rfl⟩))
    (fun os started H enc _ F => by rw [OpenClaim.pre_eq_preRow]; exact lifted os started H enc F)

/-- no parameter wants a stand-in; the program's own looks are off: what the card asks -/
theorem plain (f : FuncId) (fn : Func) (hf : Tryd.pinned.checked.prog.funcNamed "loop.example/g01314/laws.FnExactFirstKeyed" = some f) (hfn : Tryd.pinned.checked.prog.funcs[f]? = some fn) :
    false = Tryd.pinned.checked.prog.looks [] ∧ ∀ (j : Nat) t, fn.params[j]? = some t → Tryd.pinned.checked.prog.wantsStandIn t = false := by
  obtain rfl : f = 3 := Option.some.inj ((show Tryd.prog.funcNamed "loop.example/g01314/laws.FnExactFirstKeyed" = some 3 by kernel_rfl).symm.trans hf) |>.symm
  obtain rfl : fn = Tryd.f3 := (Option.some.inj (Tryd.func3.symm.trans hfn)).symm
  refine ⟨by kernel_rfl, fun j t ht => ?_⟩
  rw [Tryd.params3] at ht
  have hm := Array.mem_of_getElem? ht
  simp at hm
  rcases hm with rfl | rfl
  · exact (show Tryd.prog.wantsStandIn 22 = false by kernel_rfl)
  · exact (show Tryd.prog.wantsStandIn 9 = false by kernel_rfl)

/-- the statement -/
theorem card : Rows.FnExactFirstKeyedCardSaid :=
  Claim7.holds_tied_plain_at .later [] _ _ _ _ said (fun _ h => by cases h) (by kernel_rfl) (fun _ h => by cases h) fnExactFirstKeyed_row_tie rfl ⟨rfl, rfl⟩ (by kernel_rfl) rfl plain (by kernel_rfl)
#print axioms card
end Go.Proofs.YtcfeaaakfjilgabDoor.fnExactFirstKeyed
