/-
  For every list of numbers, the program's RankOfSwapped answers as the model does; nothing that was there is written. The list is as it was. No condition.
-/
import Derived.Test.YtbgdhiieeegnjacRows
import Derived.Test.YtbgdhiieeegnjacQ6
import Derived.ProofKit
import Derived.OpenShut
import Derived.ShutString
import Derived.ChangeOld
namespace Go.Proofs.Ytbgdhiieeegnjac.fnExactRankOfSwapped
open Go.ChangeShapes Go.WideShapes Go.ChangeAt Go.RowKit
open Go.ChangeMaps (open_string shut_string)
set_option linter.unusedVariables false

theorem own : ownKnob Try.prog.godebug = none := by kernel_rfl
theorem laidOut : laidOutB Try.prog = true := by kernel_rfl

theorem walk0 (a0 : Option Addr) (len0 cap0 : Nat) (xs : List Int) (r : Int) (ok : Bool) (w : World) (hx : xs.length = len0) (hA : ArgI w a0 xs) (hl : len0 ≤ 1048576)
    (hS : Hid (∀ v B w, OwnI w B v xs → Calls Try.prog 26 #[v] w fun e w' => QB0 w r ok e w'))
    (hI : Hid (∀ v B w, OwnI w B v xs → Calls Try.prog 27 #[v] w fun e w' => QB0 w r ok e w')) :
    Calls Try.prog 8 #[.slice a0 len0 cap0] w fun e w' => e = .returned (.bool true) ∧ Below w.heap.size w w' := by
  have hA := Lib.hid hA
  have hxx := Lib.hid hx
  clear hx
  have hT := Lib.hid fun w (h : ArgI w a0 xs) => toIntS_any a0 len0 cap0 xs w hl hxx.out h
  cases ok
  all_goals
    go_enter Try.func8, Try.ntmps8
    go_wp2_with fail
    refine (hT.out _ hA.out).mono ?_; rintro e w1 ⟨v1, rfl, ho1, hb1⟩
    have ho1 := Lib.hid ho1
    have hA1 := Lib.hid (hA.out.below hb1)
    have hb1 := Lib.hid hb1
    go_wp2_with fail
    refine (hS.out v1 _ _ ho1.out).mono ?_; rintro e w2 ⟨rfl, hb2⟩
    have hA2 := Lib.hid (hA1.out.below hb2)
    have hb2 := Lib.hid hb2
    go_wp2_with fail
    refine (hT.out _ hA2.out).mono ?_; rintro e w3 ⟨v3, rfl, ho3, hb3⟩
    have ho3 := Lib.hid ho3
    have hA3 := Lib.hid (hA2.out.below hb3)
    have hb3 := Lib.hid hb3
    go_wp2_with fail
    refine (hI.out v3 _ _ ho3.out).mono ?_; rintro e w4 ⟨rfl, hb4⟩
    have hA4 := Lib.hid (hA3.out.below hb4)
    have ho4 := Lib.hid (ho3.out.below hb4)
    have hb4 := Lib.hid hb4
    go_wp2_with fail
    refine (hT.out _ hA4.out).mono ?_; rintro e w5 ⟨v5, rfl, ho5, hb5⟩
    have ho5 := Lib.hid ho5
    have ho45 := Lib.hid (ho4.out.below hb5)
    have hb5 := Lib.hid hb5
    go_wp2_with fail
    refine (eqIntS_same v3 v5 xs _ _ _ ho45.out ho5.out).mono ?_; rintro e w6 ⟨rfl, q, rfl⟩
    go_wp2_with fail
    go_ret
    exact ⟨rfl, below_drewN (hb1.out.trans ((hb2.out.trans ((hb3.out.trans ((hb4.out.trans (hb5.out.mono hb4.out.size)).mono hb3.out.size)).mono hb2.out.size)).mono hb1.out.size)) q⟩
theorem walk (a0 : Option Addr) (len0 cap0 : Nat) (z0 : List Int) (w : World) (w0 : IsRow .i64 w a0 len0 cap0 z0) :
    Calls Try.prog 8 #[.slice a0 len0 cap0] w fun e w' => e = .returned (.bool true) ∧ Below w.heap.size w w' := by
  obtain ⟨hA, hx, _⟩ := w0.arg
  by_cases h : 1048576 < len0
  · go_enter Try.func8, Try.ntmps8
    go_wp2_with fail
    go_ret; exact ⟨rfl, Below.refl _ _⟩
  · exact walk0 a0 len0 cap0 _ _ _ w hx hA (by omega) (Lib.hid fun v B w ho => sRankS2_any v _ B w (by omega) ho) (Lib.hid fun v B w ho => (iRankS2_any v _ B w (by omega) ho))


set_option maxRecDepth 100000 in
theorem lifted (os : Os) (started : os.Started) (H : Type) (enc : TypeId × Value → H) :
    ReturnsInHanded {} Try.checked os 8 .any (Rows.fnExactRankOfSwappedSpec.pre6 enc Try.prog Try.f8 Rows.fnExactRankOfSwappedRow.domain false) (Rows.fnExactRankOfSwappedSpec.post enc Try.prog Try.f8 false true false false) := by
  refine returnsInHanded_of_change (C := Try.checked) own started (by kernel_rfl) Try.func8
    (ChangeSpec.witness6 (enc := enc) (C := Try.checked) false ⟨#[], #[.slice none 0 0], []⟩ 8 (by kernel_rfl) (by kernel_rfl) (by kernel_rfl) (by kernel_rfl)) ?_
  intro W base args ds gs before hval0 hW hcnd _
  have hval : ∀ (j : Nat) t v, Try.f8.params[j]? = some t → args[j]? = some v → Value.okWide Try.prog W .any base t v := hval0
  have hW' := hW
  obtain ⟨p, q, hA0, hV, rfl, hfz, hnd⟩ := hW
  have hA : DataW.TrodAll enc Try.prog W 0 (fun _ => true) true Try.f8.params.toList args.toList ds p := hA0
  rw [Try.params8] at hA hval
  obtain ⟨v0, vs0, d0, ds0, p0, q0, hargs, rfl, rfl, h0, r0⟩ := trodAll_cons hA
  obtain ⟨rfl, rfl, rfl⟩ := trodAll_nil r0
  obtain rfl : args = #[v0] := by cases args; simp_all
  obtain ⟨rfl, rfl⟩ := trodVars_none hV
  obtain ⟨a0, len0, cap0, rfl⟩ := okWide_slice Try.underlying27 (hval 0 27 v0 rfl rfl)
  have k0 := h0
  have lt0 : ∀ x ∈ p0, x.block < W.heap.size := by obtain ⟨m, hm⟩ := k0; exact DataW.trod_lt m _ _ _ hm
  obtain ⟨z0, w0⟩ : ∃ zs, IsRow .i64 W a0 len0 cap0 zs := by
    obtain ⟨fuel, hf⟩ := h0
    rcases open_ints Try.underlying27 Try.underlying3 (by kernel_rfl) hf with ⟨hcs, _⟩ | ⟨x, l, c, zs, hcs, _, hl, hm, hz, _, hcell, hwz⟩
    · simp [Value.cells] at hcs
      obtain ⟨rfl, rfl, rfl⟩ := hcs
      exact ⟨[], .inl ⟨rfl, rfl, rfl, rfl⟩⟩
    · simp [Value.cells] at hcs
      obtain ⟨rfl, rfl, rfl⟩ := hcs
      exact ⟨zs, .inr ⟨_, rfl, hl, hm, by simpa using hz, hcell, hwz⟩⟩
  clear hA0
  refine (walk a0 len0 cap0 z0 W w0).mono fun e W' ⟨he, bel⟩ => ?_
  subst he
  exact ⟨_, rfl, _, _, _, [], _, [], hW', trodAll_mk1 (shut_bool Try.underlying4 _), (trodAll_cons_mk (Below.trod laidOut (by kernel_rfl) (of_decide_eq_true (by kernel_rfl)) k0 bel lt0) trodAll_mk0), rfl, bel.frame _, fun h => by cases h⟩

theorem over : Rows.fnExactRankOfSwappedRow.holds Try.pinned (OpenSpec.ofChange Rows.fnExactRankOfSwappedSpec) :=
  OpenClaim.holds_of_wide 8 Try.f8 rfl rfl rfl rfl rfl rfl rfl ⟨rfl, rfl, rfl, rfl, rfl⟩ rfl rfl rfl rfl rfl (by kernel_rfl) Try.func8 (by kernel_rfl)
    (of_decide_eq_true (by kernel_rfl)) (by unfold Func.isWrapper; first | (rw [if_pos (by decide +kernel)]; kernel_rfl) | (rw [if_neg (by decide +kernel)]; exact ⟨rfl, rfl⟩))
    (fun os started H enc _ => lifted os started H enc)

/-- the statement -/
theorem proved : Rows.FnExactRankOfSwappedSaid := over
#print axioms proved
end Go.Proofs.Ytbgdhiieeegnjac.fnExactRankOfSwapped
