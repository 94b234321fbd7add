/-
  For every two numbers, the program's SetAt answers as the model does; nothing that was there is written. The answer lies in memory of its own. Its row lists the tables that it reads, tied to the program's text.
-/
import Derived.Test.YtbgdhiieeegnjacDoorLaidP
import Derived.Test.YtbgdhiieeegnjacDoorP2
namespace Go.Proofs.YtbgdhiieeegnjacDoor.fnExactSetAt
open Go.ChangeShapes Go.WideShapes Go.ChangeAt Go.RowKit
open Go.ChangeMaps (open_string shut_string)
set_option linter.unusedVariables false

theorem walk0 (a0 a1 : Int) (xs : List Int) (ok : Bool) (w : World) (hT : PowOk w) (hl : Hid (xs.length ≤ 2000)) (hS : Hid (∀ w, Calls Tryd.prog 10 #[.int .i64 a0, .int .i64 a1] w fun e w' => RetI w xs ok e w'))
    (hI : Hid (∀ w, PowOk w → Calls Tryd.prog 11 #[.int .i64 a0, .int .i64 a1] w fun e w' => RetI w xs ok e w')) :
    Calls Tryd.prog 5 #[.int .i64 a0, .int .i64 a1] w fun e w' => e = .returned (.bool true) ∧ Below w.heap.size w w' := by
    have hT := Lib.hid hT
    go_enter Tryd.func5, Tryd.ntmps5
    go_wp2_with fail
    refine (hS.out _).mono ?_; rintro e w1 ⟨v, rfl, ho1, hb1⟩
    have ho1 := Lib.hid ho1
    have hT1 := Lib.hid (hT.out.below hb1)
    have hb1 := Lib.hid hb1
    go_wp2_with fail
    refine (hI.out _ hT1.out).mono ?_; rintro e w2 ⟨u, rfl, ho2, hb2⟩
    have ho2 := Lib.hid ho2
    have hT2 := Lib.hid (hT1.out.below hb2)
    have hb2 := Lib.hid hb2
    go_wp2_with fail
    refine (eqIntS_same u v xs _ _ _ ho2.out (ho1.out.below hb2.out)).mono ?_; rintro e w3 ⟨rfl, q, rfl⟩
    go_wp2_with fail
    refine (markIntS_any u xs _ _ (by have := hl.out; omega) (ho2.out.drewN q)).mono ?_; rintro e w4 ⟨rfl, hm, hg4⟩
    have hm := Lib.hid hm
    have hg4 := Lib.hid hg4
    have HT4 : PowOk w4 := (hT2.out.drewN q).grown (ho2.out.drewN q) hg4.out hT1.out.lt
    go_wp2_with fail
    refine (heldIntS_any u xs.length _ _ (by have := hl.out; omega) hm.out).mono ?_; rintro e w' ⟨rfl, rfl⟩
    go_wp2_with fail
    refine (hI.out _ HT4).mono ?_; rintro e w5 ⟨u2, rfl, ho5, hb5⟩
    have ho5 := Lib.hid ho5
    have hb5 := Lib.hid hb5
    have hv4 := Lib.hid (((ho1.out.below hb2.out).drewN q).kept hg4.out (own_ne ((ho1.out.below hb2.out).drewN q) (fun k e => (ho1.out.lt k e).2) (ho2.out.drewN q)))
    go_wp2_with fail
    refine (eqIntS_same u2 v xs _ _ _ ho5.out (hv4.out.below hb5.out)).mono ?_; rintro e w6 ⟨rfl, q2, rfl⟩
    go_wp2_with fail
    refine (heldIntS_any u xs.length _ _ (by have := hl.out; omega) ((hm.out.below hb5.out).drewN q2)).mono ?_; rintro e w' ⟨rfl, rfl⟩
    go_wp2_with fail
    go_ret
    exact ⟨rfl, below_drewN ((bel_own (below_drewN (hb1.out.trans (hb2.out.mono hb1.out.size)) q) ((ho2.out.drewN q).mono hb1.out.size) hg4.out (Nat.le_trans hb1.out.size hb2.out.size)).trans (hb5.out.mono (Nat.le_trans (Nat.le_trans hb1.out.size hb2.out.size) hg4.out.size))) q2⟩

theorem walk (a0 : Int) (_w0 : (Lit.int .i64 a0).wf = true) (a1 : Int) (_w1 : (Lit.int .i64 a1).wf = true) (w : World) (hT : PowOk w) :
    Calls Tryd.prog 5 #[.int .i64 a0, .int .i64 a1] w fun e w' => e = .returned (.bool true) ∧ Below w.heap.size w w' := by
  obtain ⟨hS, hI, hl⟩ := set_both a0 a1
  exact walk0 _ _ _ _ w hT (Lib.hid (by omega)) (Lib.hid hS) (Lib.hid hI)

/-- what the walk gives, for every argument and every world that holds the tables -/
theorem contract (H : Type) (enc : TypeId × Value → H) (W : World) (base : Nat) (args : Array Value) (ds gs : List (DataW H)) (before : List MemPlace)
    (hval : ∀ (j : Nat) t v, Tryd.f5.params[j]? = some t → args[j]? = some v → Value.okWide Tryd.prog W .any base t v)
    (hW : DataW.Whole enc Tryd.prog Tryd.f5.params.toList Rows.fnExactSetAtSpec.vars false W args.toList ds gs before) (hL : laidMetH Tryd.prog Rows.fnExactSetAtRow.laid W) :
    Calls Tryd.prog 5 args W fun e W' => ∃ v, e = .returned v ∧ Rows.fnExactSetAtSpec.post enc Tryd.prog Tryd.f5 false true false false W args v W' := by
  have hW' := hW
  obtain ⟨p, q, hA0, hV, rfl, hfz, hnd⟩ := hW
  have hA : DataW.TrodAll enc Tryd.prog W 0 (fun _ => true) true Tryd.f5.params.toList args.toList ds p := hA0
  rw [Tryd.params5] at hA hval
  obtain ⟨v0, vs0, d0, ds0, p0, q0, hargs, rfl, rfl, h0, r0⟩ := trodAll_cons hA
  obtain ⟨v1, vs1, d1, ds1, p1, q1, rfl, rfl, rfl, h1, r1⟩ := trodAll_cons r0
  obtain ⟨rfl, rfl, rfl⟩ := trodAll_nil r1
  obtain rfl : args = #[v0, v1] := by cases args; simp_all
  have hV0 : DataW.TrodVars enc Tryd.prog W (fun _ => true) ["loop.example/g01314/impl.powers"] gs q := hV
  have hV1 := hV0
  obtain ⟨g9, t9, cs9, f9, d9, p9, rfl, _, _, _, _, _⟩ := trodVars_one hV0
  obtain ⟨a0, rfl, rfl, rfl, w0⟩ := open_int Tryd.underlying3 (hval 0 3 v0 rfl rfl) h0
  obtain ⟨a1, rfl, rfl, rfl, w1⟩ := open_int Tryd.underlying3 (hval 1 3 v1 rfl rfl) h1
  clear hA0
  refine (walk a0 w0 a1 w1 W (tabOk hL)).mono fun e W' ⟨he, bel⟩ => ?_
  subst he
  exact ⟨_, rfl, _, _, _, [], _, _, hW', trodAll_mk1 (shut_bool Tryd.underlying4 _), (trodAll_cons_mk (shut_int Tryd.underlying3 w0) (trodAll_cons_mk (shut_int Tryd.underlying3 w1) trodAll_mk0)), Below.trodVars laidOut bel (by kernel_rfl) hV1, bel.frame _, fun h => by cases h⟩

theorem reads (os : Os) {H : Type} (enc : TypeId × Value → H) : ∃ places, DataW.whole enc Tryd.prog ((laidWorld os).forCall (fun _ _ => 0) ⟨#[], #[.int .i64 0, .int .i64 0], []⟩).memory Tryd.f5.params.toList Rows.fnExactSetAtSpec.vars false (#[.int .i64 0, .int .i64 0] : Array Value).toList 8 = some ([.lit (.int .i64 0), .lit (.int .i64 0)], [Rows.laid_loop_example_g01314_impl_powers], places) :=
  ⟨MemPlace.row ⟨0, 0, none⟩ 41, by kernel_rfl⟩

set_option maxRecDepth 100000 in
theorem lifted (os : Os) (started : os.Started) (H : Type) (enc : TypeId × Value → H) (F : Stop.Interp) :
    ReturnsInHanded {} Tryd.checked os 5 .any ((OpenSpec.ofChange Rows.fnExactSetAtSpec).preRow enc Tryd.prog Tryd.f5 Rows.fnExactSetAtRow.domain false Rows.fnExactSetAtRow.laid) (((OpenSpec.ofChange Rows.fnExactSetAtSpec).at F).post enc Tryd.prog Tryd.f5 false true false false) := by
  obtain ⟨places, hx⟩ := reads os enc
  refine returnsInHanded_of_row (C := Tryd.checked) (s := OpenSpec.ofChange Rows.fnExactSetAtSpec) own started (by kernel_rfl) Tryd.func5
    (witness_row_at (enc := enc) (C := Tryd.checked) false (laidWorld os) #[.int .i64 0, .int .i64 0] rfl (by kernel_rfl) (by kernel_rfl) (by kernel_rfl)
      (OpenSpec.preRow_of_cond 8 hx (by kernel_rfl) (fun k hk => by cases hk) (by kernel_rfl) (laid_met os _))) ?_
  intro W base args ds gs before hval hW _ _ _ hL _ _
  exact contract H enc W base args ds gs before hval hW hL

theorem said : Rows.FnExactSetAtSaid :=
  OpenClaim.holds_of_cond 5 Tryd.f5 rfl rfl rfl rfl rfl rfl rfl ⟨rfl, rfl, rfl, rfl, rfl⟩ rfl rfl rfl rfl rfl (by kernel_rfl) Tryd.func5 (by kernel_rfl)
    (of_decide_eq_true (by kernel_rfl)) (by unfold Func.isWrapper; first | (rw [if_pos (by decide +kernel)]; kernel_rfl) | (rw [if_neg (by decide +kernel)]; exact ⟨rfl, rfl⟩))
    (fun os started H enc _ F => by rw [OpenClaim.pre_eq_preRow]; exact lifted os started H enc F)

/-- no parameter wants a stand-in; the program's own looks are off: what the card asks -/
theorem plain (f : FuncId) (fn : Func) (hf : Tryd.pinned.checked.prog.funcNamed "loop.example/g01314/laws.FnExactSetAt" = some f) (hfn : Tryd.pinned.checked.prog.funcs[f]? = some fn) :
    false = Tryd.pinned.checked.prog.looks [] ∧ ∀ (j : Nat) t, fn.params[j]? = some t → Tryd.pinned.checked.prog.wantsStandIn t = false := by
  obtain rfl : f = 5 := Option.some.inj ((show Tryd.prog.funcNamed "loop.example/g01314/laws.FnExactSetAt" = some 5 by kernel_rfl).symm.trans hf) |>.symm
  obtain rfl : fn = Tryd.f5 := (Option.some.inj (Tryd.func5.symm.trans hfn)).symm
  refine ⟨by kernel_rfl, fun j t ht => ?_⟩
  rw [Tryd.params5] at ht
  have hm := Array.mem_of_getElem? ht
  simp at hm
  rcases hm with rfl
  · exact (show Tryd.prog.wantsStandIn 3 = false by kernel_rfl)

/-- the statement -/
theorem card : Rows.FnExactSetAtCardSaid :=
  Claim7.holds_tied_plain_at .later [] _ _ _ _ said (fun _ h => by cases h) (by kernel_rfl) (fun _ h => by cases h) fnExactSetAt_row_tie rfl ⟨rfl, rfl⟩ (by kernel_rfl) rfl plain (by kernel_rfl)
#print axioms card
end Go.Proofs.YtbgdhiieeegnjacDoor.fnExactSetAt
