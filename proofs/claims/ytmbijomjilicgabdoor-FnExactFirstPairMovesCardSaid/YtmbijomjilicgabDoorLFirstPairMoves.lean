/-
  For every two texts, the program's FnExactFirstPairMoves answers as the model does, in memory of its own; nothing that was there is written. Its row lists the library's tables, tied to the program's text.
-/
import Derived.Test.YtmbijomjilicgabDoorLaid
import Derived.Test.YtmbijomjilicgabDoorB17
import Derived.Conc.Holds
import Derived.ClaimOpenTies
import Derived.Leaving
import Derived.SevenTiedAt
namespace Go.Proofs.YtmbijomjilicgabDoor.fnExactFirstPairMoves
open Go.ChangeShapes Go.WideShapes Go.ChangeAt Go.RowKit
open Go.ChangeMaps (open_string shut_string)
set_option linter.unusedVariables false

theorem walk0 (a0 a1 : ByteArray) (xs : List Int) (ok : Bool) (w : World) (hT : TabOk w) (hl : Hid (xs.length ≤ 4096)) (hS : Hid (∀ w, Calls Tryd.prog 9 #[.string a0, .string a1] w fun e w' => RetI w xs ok e w'))
    (hI : Hid (∀ w, TabOk w → Calls Tryd.prog 10 #[.string a0, .string a1] w fun e w' => RetI w xs ok e w')) :
    Calls Tryd.prog 3 #[.string a0, .string a1] w fun e w' => e = .returned (.bool true) ∧ Below w.heap.size w w' := by
  have hT := Lib.hid hT
  by_cases h : 1048576 < a0.size
  · go_enter Tryd.func3, Tryd.ntmps3
    go_wp2_with fail
    go_ret; exact ⟨rfl, Below.refl _ _⟩
  · by_cases h' : 1048576 < a1.size
    · go_enter Tryd.func3, Tryd.ntmps3
      go_wp2_with fail
      go_ret; exact ⟨rfl, Below.refl _ _⟩
    · go_enter Tryd.func3, Tryd.ntmps3
      go_wp2_with fail
      refine (hS.out _).mono ?_; rintro e w1 ⟨v, rfl, ho1, hb1⟩
      have ho1 := Lib.hid ho1
      have hT1 := Lib.hid (hT.out.below hb1)
      have hb1 := Lib.hid hb1
      go_wp2_with fail
      refine (hI.out _ hT1.out).mono ?_; rintro e w2 ⟨u, rfl, ho2, hb2⟩
      have ho2 := Lib.hid ho2
      have hT2 := Lib.hid (hT1.out.below hb2)
      have hb2 := Lib.hid hb2
      go_wp2_with fail
      refine (eqIntS_same u v xs _ _ _ ho2.out (ho1.out.below hb2.out)).mono ?_; rintro e w3 ⟨rfl, q, rfl⟩
      go_wp2_with fail
      refine (markIntS_any u xs _ _ (by have := hl.out; omega) (ho2.out.drewN q)).mono ?_; rintro e w4 ⟨rfl, hm, hg4⟩
      have hm := Lib.hid hm
      have hg4 := Lib.hid hg4
      have HT4 : TabOk w4 := (hT2.out.drewN q).grown (ho2.out.drewN q) hg4.out hT1.out.lt
      go_wp2_with fail
      refine (heldIntS_any u xs.length _ _ (by have := hl.out; omega) hm.out).mono ?_; rintro e w' ⟨rfl, rfl⟩
      go_wp2_with fail
      refine (hI.out _ HT4).mono ?_; rintro e w5 ⟨u2, rfl, ho5, hb5⟩
      have ho5 := Lib.hid ho5
      have hb5 := Lib.hid hb5
      have hv4 := Lib.hid (((ho1.out.below hb2.out).drewN q).kept hg4.out (own_ne ((ho1.out.below hb2.out).drewN q) (fun k e => (ho1.out.lt k e).2) (ho2.out.drewN q)))
      go_wp2_with fail
      refine (eqIntS_same u2 v xs _ _ _ ho5.out (hv4.out.below hb5.out)).mono ?_; rintro e w6 ⟨rfl, q2, rfl⟩
      go_wp2_with fail
      refine (heldIntS_any u xs.length _ _ (by have := hl.out; omega) ((hm.out.below hb5.out).drewN q2)).mono ?_; rintro e w' ⟨rfl, rfl⟩
      go_wp2_with fail
      go_ret
      exact ⟨rfl, below_drewN ((bel_own (below_drewN (hb1.out.trans (hb2.out.mono hb1.out.size)) q) ((ho2.out.drewN q).mono hb1.out.size) hg4.out (Nat.le_trans hb1.out.size hb2.out.size)).trans (hb5.out.mono (Nat.le_trans (Nat.le_trans hb1.out.size hb2.out.size) hg4.out.size))) q2⟩
theorem walk (a0 : ByteArray) (w0 : a0.size ≤ maxLen) (a1 : ByteArray) (w1 : a1.size ≤ maxLen) (w : World) (hT : TabOk w) :
    Calls Tryd.prog 3 #[.string a0, .string a1] w fun e w' => e = .returned (.bool true) ∧ Below w.heap.size w w' := by
  cases h : twoP a0 a1
  · exact walk0 a0 a1 [] false w hT (Lib.hid (by simp)) (Lib.hid fun w => sFirstPairMoves_bad a0 a1 w w0 w1 h) (Lib.hid fun w hw => iFirstPairMoves_bad a0 a1 w w0 w1 h hw)
  · obtain ⟨n, x, y, h1, h2, h3, h4, rfl, rfl⟩ := of_twoP a0 a1 h
    exact walk0 _ _ _ true w hT (Lib.hid (fw_le n x y h2 h3 h4)) (Lib.hid fun w => sFirstPairMoves_ST n x y w h1 h2 h3 h4) (Lib.hid fun w hw => iFirstPairMoves_ST n x y w h1 h2 h3 h4 hw)

set_option maxRecDepth 100000 in
/-- what the walk gives, for every argument and every world that holds the tables -/
theorem contract (H : Type) (enc : TypeId × Value → H) (W : World) (base : Nat) (args : Array Value) (ds gs : List (DataW H)) (before : List MemPlace)
    (hval : ∀ (j : Nat) t v, Tryd.f3.params[j]? = some t → args[j]? = some v → Value.okWide Tryd.prog W .any base t v)
    (hW : DataW.Whole enc Tryd.prog Tryd.f3.params.toList Rows.fnExactFirstPairMovesSpec.vars false W args.toList ds gs before) (hL : laidMetH Tryd.prog Rows.fnExactFirstPairMovesRow.laid W) :
    Calls Tryd.prog 3 args W fun e W' => ∃ v, e = .returned v ∧ Rows.fnExactFirstPairMovesSpec.post enc Tryd.prog Tryd.f3 false true false false W args v W' := by
  have hW' := hW
  obtain ⟨p, q, hA0, hV, rfl, hfz, hnd⟩ := hW
  have hA : DataW.TrodAll enc Tryd.prog W 0 (fun _ => true) true Tryd.f3.params.toList args.toList ds p := hA0
  rw [Tryd.params3] at hA hval
  obtain ⟨v0, vs0, d0, ds0, p0, q0, hargs, rfl, rfl, h0, r0⟩ := trodAll_cons hA
  obtain ⟨v1, vs1, d1, ds1, p1, q1, rfl, rfl, rfl, h1, r1⟩ := trodAll_cons r0
  obtain ⟨rfl, rfl, rfl⟩ := trodAll_nil r1
  obtain rfl : args = #[v0, v1] := by cases args; simp_all
  obtain ⟨rfl, rfl⟩ := trodVars_none hV
  obtain ⟨a0, rfl, rfl, rfl, w0⟩ := open_string Tryd.underlying9 (hval 0 9 v0 rfl rfl) h0
  obtain ⟨a1, rfl, rfl, rfl, w1⟩ := open_string Tryd.underlying9 (hval 1 9 v1 rfl rfl) h1
  clear hA0
  simp only [List.append_nil] at hW'
  refine (walk a0 w0 a1 w1 W (tabOk hL)).mono fun e W' ⟨he, bel⟩ => ?_
  subst he
  exact ⟨_, rfl, _, _, _, [], _, [], hW', trodAll_mk1 (shut_bool Tryd.underlying4 _), (trodAll_cons_mk (shut_string Tryd.underlying9 w0) (trodAll_cons_mk (shut_string Tryd.underlying9 w1) trodAll_mk0)), rfl, bel.frame _, fun h => by cases h⟩

theorem reads (os : Os) {H : Type} (enc : TypeId × Value → H) : ∃ places, DataW.whole enc Tryd.prog ((laidWorld os).forCall (fun _ _ => 0) ⟨#[], #[.string ByteArray.empty, .string ByteArray.empty], []⟩).memory Tryd.f3.params.toList Rows.fnExactFirstPairMovesSpec.vars false (#[.string ByteArray.empty, .string ByteArray.empty] : Array Value).toList 8 = some ([.lit (.string []), .lit (.string [])], [], places) :=
  ⟨[], by kernel_rfl⟩

set_option maxRecDepth 100000 in
theorem lifted (os : Os) (started : os.Started) (H : Type) (enc : TypeId × Value → H) (F : Stop.Interp) :
    ReturnsInHanded {} Tryd.checked os 3 .any ((OpenSpec.ofChange Rows.fnExactFirstPairMovesSpec).preRow enc Tryd.prog Tryd.f3 Rows.fnExactFirstPairMovesRow.domain false Rows.fnExactFirstPairMovesRow.laid) (((OpenSpec.ofChange Rows.fnExactFirstPairMovesSpec).at F).post enc Tryd.prog Tryd.f3 false true false false) := by
  obtain ⟨places, hx⟩ := reads os enc
  refine returnsInHanded_of_row (C := Tryd.checked) (s := OpenSpec.ofChange Rows.fnExactFirstPairMovesSpec) own started (by kernel_rfl) Tryd.func3
    (witness_row_at (enc := enc) (C := Tryd.checked) false (laidWorld os) #[.string ByteArray.empty, .string ByteArray.empty] rfl (by kernel_rfl) (by kernel_rfl) (by kernel_rfl)
      (OpenSpec.preRow_of_cond 8 hx (by kernel_rfl) (fun k hk => by cases hk) (by kernel_rfl) (laid_met os _))) ?_
  intro W base args ds gs before hval hW _ _ _ hL _ _
  exact contract H enc W base args ds gs before hval hW hL

theorem leave (os : Os) (started : os.Started) (H : Type) (enc : TypeId × Value → H) (F : Stop.Interp) :
    ReturnsInLeavingWide {} Tryd.checked os 3 .any ((OpenSpec.ofChange Rows.fnExactFirstPairMovesSpec).preRow enc Tryd.prog Tryd.f3 Rows.fnExactFirstPairMovesRow.domain false Rows.fnExactFirstPairMovesRow.laid) (Rows.fnExactFirstPairMovesSpec.post enc Tryd.prog Tryd.f3 false true false false) :=
  fun he => ReturnsInOpen.mono (fun _ _ _ h => ⟨h.2.1, onlyLeaving_of_quiet h.1, h.2.2⟩) (fun _ x => x) (lifted os started H enc F he)

theorem said : Rows.FnExactFirstPairMovesSaid :=
  OpenClaim.holds_of_wide_leaving 3 Tryd.f3 rfl rfl rfl rfl rfl rfl rfl ⟨rfl, rfl, rfl, rfl, rfl⟩ rfl rfl rfl rfl rfl (by kernel_rfl) Tryd.func3 (by kernel_rfl)
    (of_decide_eq_true (by kernel_rfl)) (by unfold Func.isWrapper; first | (rw [if_pos (by decide +kernel)]; kernel_rfl) | (rw [if_neg (by decide +kernel)]; exact ⟨rfl, rfl⟩))
    (fun os started H enc _ => by rw [OpenClaim.pre_eq_preRow]; exact leave os started H enc (fun _ => default))

/-- A tied card without a companion, of a row in whose program a go statement stands. -/
theorem tied_goes (Lk : Looks) {p : Pinned} {s : OpenSpec} {c : OpenClaim} (kinds : List LaidKind) (tests : Bool) (har : Bool × String) (lk : Bool)
    (hc : c.holds p s) (hw : c.wfByText s = true) (htie : c.laidByTextAt Lk p kinds tests)
    (hst : c.start = .entering) (hnb : c.noBlocks = false ∧ c.again = false) (hm : p.checked.prog.mainIs = some (har.1, har.2.toList)) (hn : (!har.1 && har.2.isEmpty && !lk) = false)
    (hl : ∀ f fn, p.checked.prog.funcNamed c.func = some f → p.checked.prog.funcs[f]? = some fn → lk = p.checked.prog.looks [] ∧ ∀ (j : Nat) t, fn.params[j]? = some t → p.checked.prog.wantsStandIn t = false)
    (hg : true = c.goesBy p.checked.prog) :
    Claim7.holds p (.plain s) { stood := { row := c, standIns := [], harness := har, looks := lk }, kinds := [], alts := [], goes := true, laidByText := true, laidKinds := kinds, laidTests := tests, laidLooks := Lk } := by
  have h6 : ∀ r : OpenClaim, Claim7.isSixth { stood := { row := r, standIns := [], harness := har, looks := lk }, kinds := [] } = false := fun r => by simpa [Claim7.isSixth] using hn
  obtain ⟨_, rest⟩ := Claim7.new_of_sixth hc har lk hst hnb hm (h6 c) hl
  exact ⟨⟨hw, rest⟩, (fun D hD => by cases hD), htie, (fun h => by cases h), hg⟩

/-- no parameter wants a stand-in; the program's own looks are off: what the card asks -/
theorem plain (f : FuncId) (fn : Func) (hf : Tryd.pinned.checked.prog.funcNamed "loop.example/g01314/laws.FnExactFirstPairMoves" = some f) (hfn : Tryd.pinned.checked.prog.funcs[f]? = some fn) :
    false = Tryd.pinned.checked.prog.looks [] ∧ ∀ (j : Nat) t, fn.params[j]? = some t → Tryd.pinned.checked.prog.wantsStandIn t = false := by
  obtain rfl : f = 3 := Option.some.inj ((show Tryd.prog.funcNamed "loop.example/g01314/laws.FnExactFirstPairMoves" = some 3 by kernel_rfl).symm.trans hf) |>.symm
  obtain rfl : fn = Tryd.f3 := (Option.some.inj (Tryd.func3.symm.trans hfn)).symm
  refine ⟨by kernel_rfl, fun j t ht => ?_⟩
  rw [Tryd.params3] at ht
  have hm := Array.mem_of_getElem? ht
  simp at hm
  rcases hm with rfl
  · exact (show Tryd.prog.wantsStandIn 9 = false by kernel_rfl)

/-- the statement -/
theorem card : Rows.FnExactFirstPairMovesCardSaid :=
  tied_goes .later _ _ _ _ said (by kernel_rfl) fnExactFirstPairMoves_row_tie rfl ⟨rfl, rfl⟩ (by kernel_rfl) rfl plain (by kernel_rfl)
#print axioms card
end Go.Proofs.YtmbijomjilicgabDoor.fnExactFirstPairMoves
