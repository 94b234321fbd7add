/-
  For every text and every number, the program's NearByPairs answers as the model does, in memory of its own; nothing that was there is written. Its row lists the library's tables, tied to the program's text.
-/
import Derived.Test.YtmbijomjilicgabDoorLaid
import Derived.Test.YtmbijomjilicgabDoorB11
namespace Go.Proofs.YtmbijomjilicgabDoor.fnExactNearByPairs
open Go.ChangeShapes Go.WideShapes Go.ChangeAt Go.RowKit
open Go.ChangeMaps (open_string shut_string)
open RM
set_option linter.unusedVariables false

theorem walk0 (a0 : ByteArray) (a1 : Int) (xs : List ByteArray) (ok : Bool) (w : World) (hT : TabOk w) (hl : Hid (xs.length ≤ 4096)) (hS : Hid (∀ w, Calls Tryd.prog 21 #[.string a0, .int .i64 a1] w fun e w' => RetT w xs ok e w'))
    (hI : Hid (∀ w, TabOk w → Calls Tryd.prog 22 #[.string a0, .int .i64 a1] w fun e w' => RetT w xs ok e w')) :
    Calls Tryd.prog 6 #[.string a0, .int .i64 a1] w fun e w' => e = .returned (.bool true) ∧ Below w.heap.size w w' := by
  have hT := Lib.hid hT
  by_cases h : 1048576 < a0.size
  · go_enter Tryd.func6, Tryd.ntmps6
    go_wp2_with fail
    go_ret; exact ⟨rfl, Below.refl _ _⟩
  · cases ok
    all_goals
      go_enter Tryd.func6, Tryd.ntmps6
      go_wp2_with fail
      refine (hS.out _).mono ?_; rintro e w1 ⟨v, rfl, ho1, hb1⟩
      have ho1 := Lib.hid ho1
      have hT1 := Lib.hid (hT.out.below hb1)
      have hb1 := Lib.hid hb1
      go_wp2_with fail
      refine (hI.out _ hT1.out).mono ?_; rintro e w2 ⟨u, rfl, ho2, hb2⟩
      have ho2 := Lib.hid ho2
      have hT2 := Lib.hid (hT1.out.below hb2)
      have hb2 := Lib.hid hb2
      go_wp2_with fail
      refine (eqStringS_same u v xs _ _ _ ho2.out (ho1.out.below hb2.out)).mono ?_; rintro e w3 ⟨rfl, q, rfl⟩
      go_wp2_with fail
      refine (markStringS_any u xs _ _ (by have := hl.out; omega) (ho2.out.drewN q)).mono ?_; rintro e w4 ⟨rfl, hm, hg4⟩
      have hm := Lib.hid hm
      have hg4 := Lib.hid hg4
      have HT4 := Lib.hid ((hT2.out.drewN q).grownT (ho2.out.drewN q) hg4.out hT1.out.lt)
      have hv4 := Lib.hid (((ho1.out.below hb2.out).drewN q).kept hg4.out (own_neT ((ho1.out.below hb2.out).drewN q) (fun k e => (ho1.out.lt k e).2) (ho2.out.drewN q)))
      have hb04 := Lib.hid (bel_ownT (below_drewN (hb1.out.trans (hb2.out.mono hb1.out.size)) q) ((ho2.out.drewN q).mono hb1.out.size) hg4.out (Nat.le_trans hb1.out.size hb2.out.size))
      go_wp2_with fail
      refine (heldStringS_any u xs.length _ _ (by have := hl.out; omega) hm.out).mono ?_; rintro e w5 ⟨rfl, hb5⟩
      have HT5 := Lib.hid (HT4.out.below hb5)
      have hm5 := Lib.hid (hm.out.below hb5)
      have hv5 := Lib.hid (hv4.out.below hb5)
      have hb05 := Lib.hid (bt hb04.out hb5)
      have hb5 := Lib.hid hb5
      go_wp2_with fail
      refine (hI.out _ HT5.out).mono ?_; rintro e w6 ⟨u2, rfl, ho6, hb6⟩
      have ho6 := Lib.hid ho6
      have hb6 := Lib.hid hb6
      go_wp2_with fail
      refine (eqStringS_same u2 v xs _ _ _ ho6.out (hv5.out.below hb6.out)).mono ?_; rintro e w7 ⟨rfl, q2, rfl⟩
      go_wp2_with fail
      refine (heldStringS_any u xs.length _ _ (by have := hl.out; omega) ((hm5.out.below hb6.out).drewN q2)).mono ?_; rintro e w8 ⟨rfl, hb8⟩
      have hb8 := Lib.hid hb8
      go_wp2_with fail
      go_ret
      exact ⟨rfl, bt (below_drewN (bt hb05.out hb6.out) q2) hb8.out⟩
theorem walk (a0 : ByteArray) (w0 : a0.size ≤ maxLen) (a1 : Int) (_w1 : (Lit.int .i64 a1).wf = true) (w : World) (hT : TabOk w) :
    Calls Tryd.prog 6 #[.string a0, .int .i64 a1] w fun e w' => e = .returned (.bool true) ∧ Below w.heap.size w w' := by
  rcases twoG_cases a0 with h | ⟨n, x, h2, hn, hx, rfl⟩
  · exact walk0 a0 a1 [] false w hT (Lib.hid (by simp)) (Lib.hid fun w => sNear_no a0 false a1 w (.inl rfl) (Lib.hid fun w => tg_no a0 w w0 h)) (Lib.hid fun w hw => iNear_no a0 0 0 false a1 w hw (.inl rfl) (Lib.hid fun w hw => pb_bad a0 w w0 h hw))
  · have hp : 2 ^ 2 ≤ 2 ^ n := Nat.pow_le_pow_right (by omega) h2
    have hq : 2 ^ n ≤ 2 ^ 12 := Nat.pow_le_pow_right (by omega) hn
    by_cases hm : a1 < 0 ∨ 6 < a1
    · exact walk0 _ a1 [] false w hT (Lib.hid (by simp)) (Lib.hid fun w => sNear_no _ true a1 w (.inr ⟨rfl, hm⟩) (Lib.hid fun w => tg_yes n x w h2 hn)) (Lib.hid fun w hw => iNear_no _ n x true a1 w hw (.inr ⟨rfl, hm⟩) (Lib.hid fun w hw => pb_ST n x w h2 hn hx hw))
    · have hpp : ∀ k, decide (fN x k ≤ a1) = (decide (0 ≤ fN x k) && decide (fN x k ≤ a1)) := fun k => by
        rw [← Bool.decide_and]; apply decide_eq_decide.2; unfold fN; omega
      refine walk0 _ a1 (sel n (fun k => decide (fN x k ≤ a1)) (2 ^ n)) true w hT (Lib.hid (by have := sel_len n (fun k => decide (fN x k ≤ a1)) (2 ^ n); omega)) (Lib.hid fun w => ?_) (Lib.hid fun w hw => ?_)
      · exact sNear_core _ n (2 ^ n) (fN x) _ a1 (fdL n x) w (ST_size n x) hn (by omega) (by omega) (by omega) (fdL_len n x) (Lib.hid fun k h => fdL_get n x k h) (Lib.hid fun k => rfl) (Lib.hid fun w => tg_yes n x w h2 hn) (Lib.hid fun w => fm_any n x w h2 hn hx) (Lib.hid fun k w hk => riState_any n k w (by omega) (by omega))
      · exact iNear_yes _ n x (2 ^ n) a1 _ w hw (by omega) (by omega) (Lib.hid fun w hw => pb_ST n x w h2 hn hx hw) (Lib.hid fun w hw => sm_any n x w h2 hn hx hw) (Lib.hid fun gm gw B w hw ho => needing_any n x (2 ^ n) gm gw B _ _ _ w rfl hn hw hpp ho)

set_option maxRecDepth 100000 in
/-- what the walk gives, for every argument and every world that holds the tables -/
theorem contract (H : Type) (enc : TypeId × Value → H) (W : World) (base : Nat) (args : Array Value) (ds gs : List (DataW H)) (before : List MemPlace)
    (hval : ∀ (j : Nat) t v, Tryd.f6.params[j]? = some t → args[j]? = some v → Value.okWide Tryd.prog W .any base t v)
    (hW : DataW.Whole enc Tryd.prog Tryd.f6.params.toList Rows.fnExactNearByPairsSpec.vars false W args.toList ds gs before) (hL : laidMetH Tryd.prog Rows.fnExactNearByPairsRow.laid W) :
    Calls Tryd.prog 6 args W fun e W' => ∃ v, e = .returned v ∧ Rows.fnExactNearByPairsSpec.post enc Tryd.prog Tryd.f6 false true false false W args v W' := by
  have hW' := hW
  obtain ⟨p, q, hA0, hV, rfl, hfz, hnd⟩ := hW
  have hA : DataW.TrodAll enc Tryd.prog W 0 (fun _ => true) true Tryd.f6.params.toList args.toList ds p := hA0
  rw [Tryd.params6] at hA hval
  obtain ⟨v0, vs0, d0, ds0, p0, q0, hargs, rfl, rfl, h0, r0⟩ := trodAll_cons hA
  obtain ⟨v1, vs1, d1, ds1, p1, q1, rfl, rfl, rfl, h1, r1⟩ := trodAll_cons r0
  obtain ⟨rfl, rfl, rfl⟩ := trodAll_nil r1
  obtain rfl : args = #[v0, v1] := by cases args; simp_all
  obtain ⟨rfl, rfl⟩ := trodVars_none hV
  obtain ⟨a0, rfl, rfl, rfl, w0⟩ := open_string Tryd.underlying9 (hval 0 9 v0 rfl rfl) h0
  obtain ⟨a1, rfl, rfl, rfl, w1⟩ := open_int Tryd.underlying3 (hval 1 3 v1 rfl rfl) h1
  clear hA0
  simp only [List.append_nil] at hW'
  refine (walk a0 w0 a1 w1 W (tabOk hL)).mono fun e W' ⟨he, bel⟩ => ?_
  subst he
  exact ⟨_, rfl, _, _, _, [], _, [], hW', trodAll_mk1 (shut_bool Tryd.underlying4 _), (trodAll_cons_mk (shut_string Tryd.underlying9 w0) (trodAll_cons_mk (shut_int Tryd.underlying3 w1) trodAll_mk0)), rfl, bel.frame _, fun h => by cases h⟩

theorem reads (os : Os) {H : Type} (enc : TypeId × Value → H) : ∃ places, DataW.whole enc Tryd.prog ((laidWorld os).forCall (fun _ _ => 0) ⟨#[], #[.string ByteArray.empty, .int .i64 0], []⟩).memory Tryd.f6.params.toList Rows.fnExactNearByPairsSpec.vars false (#[.string ByteArray.empty, .int .i64 0] : Array Value).toList 8 = some ([.lit (.string []), .lit (.int .i64 0)], [], places) :=
  ⟨[], by kernel_rfl⟩

set_option maxRecDepth 100000 in
theorem lifted (os : Os) (started : os.Started) (H : Type) (enc : TypeId × Value → H) (F : Stop.Interp) :
    ReturnsInHanded {} Tryd.checked os 6 .any ((OpenSpec.ofChange Rows.fnExactNearByPairsSpec).preRow enc Tryd.prog Tryd.f6 Rows.fnExactNearByPairsRow.domain false Rows.fnExactNearByPairsRow.laid) (((OpenSpec.ofChange Rows.fnExactNearByPairsSpec).at F).post enc Tryd.prog Tryd.f6 false true false false) := by
  obtain ⟨places, hx⟩ := reads os enc
  refine returnsInHanded_of_row (C := Tryd.checked) (s := OpenSpec.ofChange Rows.fnExactNearByPairsSpec) own started (by kernel_rfl) Tryd.func6
    (witness_row_at (enc := enc) (C := Tryd.checked) false (laidWorld os) #[.string ByteArray.empty, .int .i64 0] rfl (by kernel_rfl) (by kernel_rfl) (by kernel_rfl)
      (OpenSpec.preRow_of_cond 8 hx (by kernel_rfl) (fun k hk => by cases hk) (by kernel_rfl) (laid_met os _))) ?_
  intro W base args ds gs before hval hW _ _ _ hL _ _
  exact contract H enc W base args ds gs before hval hW hL

theorem said : Rows.FnExactNearByPairsSaid :=
  OpenClaim.holds_of_cond 6 Tryd.f6 rfl rfl rfl rfl rfl rfl rfl ⟨rfl, rfl, rfl, rfl, rfl⟩ rfl rfl rfl rfl rfl (by kernel_rfl) Tryd.func6 (by kernel_rfl)
    (of_decide_eq_true (by kernel_rfl)) (by unfold Func.isWrapper; first | (rw [if_pos (by decide +kernel)]; kernel_rfl) | (rw [if_neg (by decide +kernel)]; exact ⟨rfl, rfl⟩))
    (fun os started H enc _ F => by rw [OpenClaim.pre_eq_preRow]; exact lifted os started H enc F)

/-- no parameter wants a stand-in; the program's own looks are off: what the card asks -/
theorem plain (f : FuncId) (fn : Func) (hf : Tryd.pinned.checked.prog.funcNamed "loop.example/g01314/laws.FnExactNearByPairs" = some f) (hfn : Tryd.pinned.checked.prog.funcs[f]? = some fn) :
    false = Tryd.pinned.checked.prog.looks [] ∧ ∀ (j : Nat) t, fn.params[j]? = some t → Tryd.pinned.checked.prog.wantsStandIn t = false := by
  obtain rfl : f = 6 := Option.some.inj ((show Tryd.prog.funcNamed "loop.example/g01314/laws.FnExactNearByPairs" = some 6 by kernel_rfl).symm.trans hf) |>.symm
  obtain rfl : fn = Tryd.f6 := (Option.some.inj (Tryd.func6.symm.trans hfn)).symm
  refine ⟨by kernel_rfl, fun j t ht => ?_⟩
  rw [Tryd.params6] at ht
  have hm := Array.mem_of_getElem? ht
  simp at hm
  rcases hm with rfl | rfl
  · exact (show Tryd.prog.wantsStandIn 9 = false by kernel_rfl)
  · exact (show Tryd.prog.wantsStandIn 3 = false by kernel_rfl)

/-- the statement -/
theorem card : Rows.FnExactNearByPairsCardSaid :=
  Claim7.holds_tied_plain_at .later [] _ _ _ _ said (fun _ h => by cases h) (by kernel_rfl) (fun _ h => by cases h) fnExactNearByPairs_row_tie rfl ⟨rfl, rfl⟩ (by kernel_rfl) rfl plain (by kernel_rfl)
#print axioms card
end Go.Proofs.YtmbijomjilicgabDoor.fnExactNearByPairs
