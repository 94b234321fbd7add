/-
  For every number and every list of numbers, the program's RankOfSet answers as the model does; nothing that was there is written. The list is as it was. Its row lists the tables that it reads, tied to the program's text.
-/
import Derived.Test.YtbgdhiieeegnjadDoorLaidP
import Derived.Test.YtbgdhiieeegnjadDoorP4
namespace Go.Proofs.YtbgdhiieeegnjadDoor.fnExactRankOfSet
open Go.ChangeShapes Go.WideShapes Go.ChangeAt Go.RowKit
open Go.ChangeMaps (open_string shut_string)
set_option linter.unusedVariables false

theorem walk0 (a0 : Int) (a1 : Option Addr) (len1 cap1 : Nat) (xs : List Int) (r : Int) (ok : Bool) (w : World) (hP : PowOk w) (hx : xs.length = len1) (hA : ArgI w a1 xs) (hl : len1 ≤ 1048576)
    (hS : Hid (∀ v B w, OwnI w B v xs → Calls Tryd.prog 4 #[.int .i64 a0, v] w fun e w' => QB0 w r ok e w'))
    (hI : Hid (∀ v B w, PowOk w → OwnI w B v xs → Calls Tryd.prog 6 #[.int .i64 a0, v] w fun e w' => QB0 w r ok e w')) :
    Calls Tryd.prog 3 #[.int .i64 a0, .slice a1 len1 cap1] w fun e w' => e = .returned (.bool true) ∧ Below w.heap.size w w' := by
  have hA := Lib.hid hA
  have hxx := Lib.hid hx
  clear hx
  have hP := Lib.hid hP
  have hT := Lib.hid fun w (h : ArgI w a1 xs) => toIntS_any a1 len1 cap1 xs w hl hxx.out h
  cases ok
  all_goals
    go_enter Tryd.func3, Tryd.ntmps3
    go_wp2_with fail
    refine (hT.out _ hA.out).mono ?_; rintro e w1 ⟨v1, rfl, ho1, hb1⟩
    have ho1 := Lib.hid ho1
    have hA1 := Lib.hid (hA.out.below hb1)
    have hP1 := Lib.hid (hP.out.below hb1)
    have hb1 := Lib.hid hb1
    go_wp2_with fail
    refine (hS.out v1 _ _ ho1.out).mono ?_; rintro e w2 ⟨rfl, hb2⟩
    have hA2 := Lib.hid (hA1.out.below hb2)
    have hP2 := Lib.hid (hP1.out.below hb2)
    have hb2 := Lib.hid hb2
    go_wp2_with fail
    refine (hT.out _ hA2.out).mono ?_; rintro e w3 ⟨v3, rfl, ho3, hb3⟩
    have ho3 := Lib.hid ho3
    have hA3 := Lib.hid (hA2.out.below hb3)
    have hP3 := Lib.hid (hP2.out.below hb3)
    have hb3 := Lib.hid hb3
    go_wp2_with fail
    refine (hI.out v3 _ _ hP3.out ho3.out).mono ?_; rintro e w4 ⟨rfl, hb4⟩
    have hA4 := Lib.hid (hA3.out.below hb4)
    have ho4 := Lib.hid (ho3.out.below hb4)
    have hb4 := Lib.hid hb4
    go_wp2_with fail
    refine (hT.out _ hA4.out).mono ?_; rintro e w5 ⟨v5, rfl, ho5, hb5⟩
    have ho5 := Lib.hid ho5
    have ho45 := Lib.hid (ho4.out.below hb5)
    have hb5 := Lib.hid hb5
    go_wp2_with fail
    refine (eqIntS_same v3 v5 xs _ _ _ ho45.out ho5.out).mono ?_; rintro e w6 ⟨rfl, q, rfl⟩
    go_wp2_with fail
    go_ret
    exact ⟨rfl, below_drewN (hb1.out.trans ((hb2.out.trans ((hb3.out.trans ((hb4.out.trans (hb5.out.mono hb4.out.size)).mono hb3.out.size)).mono hb2.out.size)).mono hb1.out.size)) q⟩
theorem walk (a0 : Int) (_w0 : (Lit.int .i64 a0).wf = true) (a1 : Option Addr) (len1 cap1 : Nat) (z1 : List Int) (w : World) (w1 : IsRow .i64 w a1 len1 cap1 z1) (hP : PowOk w) :
    Calls Tryd.prog 3 #[.int .i64 a0, .slice a1 len1 cap1] w fun e w' => e = .returned (.bool true) ∧ Below w.heap.size w w' := by
  obtain ⟨hA, hx, _⟩ := w1.arg
  by_cases h : 1048576 < len1
  · go_enter Tryd.func3, Tryd.ntmps3
    go_wp2_with fail
    go_ret; exact ⟨rfl, Below.refl _ _⟩
  · exact walk0 a0 a1 len1 cap1 _ _ _ w hP hx hA (by omega) (Lib.hid fun v B w ho => sRankS_any a0 v _ B w (by omega) ho) (Lib.hid fun v B w hp ho => iRankS_any a0 v _ B w (by omega) hp ho)


/-- what the walk gives, for every argument and every world that holds the tables -/
theorem contract (H : Type) (enc : TypeId × Value → H) (W : World) (base : Nat) (args : Array Value) (ds gs : List (DataW H)) (before : List MemPlace)
    (hval : ∀ (j : Nat) t v, Tryd.f3.params[j]? = some t → args[j]? = some v → Value.okWide Tryd.prog W .any base t v)
    (hW : DataW.Whole enc Tryd.prog Tryd.f3.params.toList Rows.fnExactRankOfSetSpec.vars false W args.toList ds gs before) (hL : laidMetH Tryd.prog Rows.fnExactRankOfSetRow.laid W) :
    Calls Tryd.prog 3 args W fun e W' => ∃ v, e = .returned v ∧ Rows.fnExactRankOfSetSpec.post enc Tryd.prog Tryd.f3 false true false false W args v W' := by
  have hW' := hW
  obtain ⟨p, q, hA0, hV, rfl, hfz, hnd⟩ := hW
  have hA : DataW.TrodAll enc Tryd.prog W 0 (fun _ => true) true Tryd.f3.params.toList args.toList ds p := hA0
  rw [Tryd.params3] at hA hval
  obtain ⟨v0, vs0, d0, ds0, p0, q0, hargs, rfl, rfl, h0, r0⟩ := trodAll_cons hA
  obtain ⟨v1, vs1, d1, ds1, p1, q1, rfl, rfl, rfl, h1, r1⟩ := trodAll_cons r0
  obtain ⟨rfl, rfl, rfl⟩ := trodAll_nil r1
  obtain rfl : args = #[v0, v1] := by cases args; simp_all
  have hV0 : DataW.TrodVars enc Tryd.prog W (fun _ => true) ["loop.example/g01314/impl.powers"] gs q := hV
  have hV1 := hV0
  obtain ⟨g9, t9, cs9, f9, d9, p9, rfl, _, _, _, _, _⟩ := trodVars_one hV0
  obtain ⟨a0, rfl, rfl, rfl, w0⟩ := open_int Tryd.underlying3 (hval 0 3 v0 rfl rfl) h0
  obtain ⟨a1, len1, cap1, rfl⟩ := okWide_slice Tryd.underlying22 (hval 1 22 v1 rfl rfl)
  have k1 := h1
  have lt1 : ∀ x ∈ p1, x.block < W.heap.size := by obtain ⟨m, hm⟩ := k1; exact DataW.trod_lt m _ _ _ hm
  obtain ⟨z1, w1⟩ : ∃ zs, IsRow .i64 W a1 len1 cap1 zs := by
    obtain ⟨fuel, hf⟩ := h1
    rcases open_ints Tryd.underlying22 Tryd.underlying3 (by kernel_rfl) hf with ⟨hcs, _⟩ | ⟨x, l, c, zs, hcs, _, hl, hm, hz, _, hcell, hwz⟩
    · simp [Value.cells] at hcs
      obtain ⟨rfl, rfl, rfl⟩ := hcs
      exact ⟨[], .inl ⟨rfl, rfl, rfl, rfl⟩⟩
    · simp [Value.cells] at hcs
      obtain ⟨rfl, rfl, rfl⟩ := hcs
      exact ⟨zs, .inr ⟨_, rfl, hl, hm, by simpa using hz, hcell, hwz⟩⟩
  clear hA0
  refine (walk a0 w0 a1 len1 cap1 z1 W w1 (tabOk hL)).mono fun e W' ⟨he, bel⟩ => ?_
  subst he
  exact ⟨_, rfl, _, _, _, [], _, _, hW', trodAll_mk1 (shut_bool Tryd.underlying4 _), (trodAll_cons_mk (shut_int Tryd.underlying3 w0) (trodAll_cons_mk (Below.trod laidOut (by kernel_rfl) (of_decide_eq_true (by kernel_rfl)) k1 bel lt1) trodAll_mk0)), Below.trodVars laidOut bel (by kernel_rfl) hV1, bel.frame _, fun h => by cases h⟩

theorem reads (os : Os) {H : Type} (enc : TypeId × Value → H) : ∃ places, DataW.whole enc Tryd.prog ((laidWorld os).forCall (fun _ _ => 0) ⟨#[], #[.int .i64 0, .slice none 0 0], []⟩).memory Tryd.f3.params.toList Rows.fnExactRankOfSetSpec.vars false (#[.int .i64 0, .slice none 0 0] : Array Value).toList 8 = some ([.lit (.int .i64 0), .nil], [Rows.laid_loop_example_g01314_impl_powers], places) :=
  ⟨MemPlace.row ⟨0, 0, none⟩ 41, by kernel_rfl⟩

set_option maxRecDepth 100000 in
theorem lifted (os : Os) (started : os.Started) (H : Type) (enc : TypeId × Value → H) (F : Stop.Interp) :
    ReturnsInHanded {} Tryd.checked os 3 .any ((OpenSpec.ofChange Rows.fnExactRankOfSetSpec).preRow enc Tryd.prog Tryd.f3 Rows.fnExactRankOfSetRow.domain false Rows.fnExactRankOfSetRow.laid) (((OpenSpec.ofChange Rows.fnExactRankOfSetSpec).at F).post enc Tryd.prog Tryd.f3 false true false false) := by
  obtain ⟨places, hx⟩ := reads os enc
  refine returnsInHanded_of_row (C := Tryd.checked) (s := OpenSpec.ofChange Rows.fnExactRankOfSetSpec) own started (by kernel_rfl) Tryd.func3
    (witness_row_at (enc := enc) (C := Tryd.checked) false (laidWorld os) #[.int .i64 0, .slice none 0 0] rfl (by kernel_rfl) (by kernel_rfl) (by kernel_rfl)
      (OpenSpec.preRow_of_cond 8 hx (by kernel_rfl) (fun k hk => by cases hk) (by kernel_rfl) (laid_met os _))) ?_
  intro W base args ds gs before hval hW _ _ _ hL _ _
  exact contract H enc W base args ds gs before hval hW hL

theorem said : Rows.FnExactRankOfSetSaid :=
  OpenClaim.holds_of_cond 3 Tryd.f3 rfl rfl rfl rfl rfl rfl rfl ⟨rfl, rfl, rfl, rfl, rfl⟩ rfl rfl rfl rfl rfl (by kernel_rfl) Tryd.func3 (by kernel_rfl)
    (of_decide_eq_true (by kernel_rfl)) (by unfold Func.isWrapper; first | (rw [if_pos (by decide +kernel)]; kernel_rfl) | (rw [if_neg (by decide +kernel)]; exact ⟨rfl, rfl⟩))
    (fun os started H enc _ F => by rw [OpenClaim.pre_eq_preRow]; exact lifted os started H enc F)

/-- no parameter wants a stand-in; the program's own looks are off: what the card asks -/
theorem plain (f : FuncId) (fn : Func) (hf : Tryd.pinned.checked.prog.funcNamed "loop.example/g01314/laws.FnExactRankOfSet" = some f) (hfn : Tryd.pinned.checked.prog.funcs[f]? = some fn) :
    false = Tryd.pinned.checked.prog.looks [] ∧ ∀ (j : Nat) t, fn.params[j]? = some t → Tryd.pinned.checked.prog.wantsStandIn t = false := by
  obtain rfl : f = 3 := Option.some.inj ((show Tryd.prog.funcNamed "loop.example/g01314/laws.FnExactRankOfSet" = some 3 by kernel_rfl).symm.trans hf) |>.symm
  obtain rfl : fn = Tryd.f3 := (Option.some.inj (Tryd.func3.symm.trans hfn)).symm
  refine ⟨by kernel_rfl, fun j t ht => ?_⟩
  rw [Tryd.params3] at ht
  have hm := Array.mem_of_getElem? ht
  simp at hm
  rcases hm with rfl | rfl
  · exact (show Tryd.prog.wantsStandIn 3 = false by kernel_rfl)
  · exact (show Tryd.prog.wantsStandIn 22 = false by kernel_rfl)

/-- the statement -/
theorem card : Rows.FnExactRankOfSetCardSaid :=
  Claim7.holds_tied_plain_at .later [] _ _ _ _ said (fun _ h => by cases h) (by kernel_rfl) (fun _ h => by cases h) fnExactRankOfSet_row_tie rfl ⟨rfl, rfl⟩ (by kernel_rfl) rfl plain (by kernel_rfl)
#print axioms card
end Go.Proofs.YtbgdhiieeegnjadDoor.fnExactRankOfSet
