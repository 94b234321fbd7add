/-
  For every two lists of numbers, the program's RankOfMixed answers as the model does; nothing that was there is written. The lists are as they were. No condition.
-/
import Derived.Test.YtbgdhiieeegnjacRows
import Derived.Test.YtbgdhiieeegnjacM4
import Derived.ProofKit
import Derived.OpenShut
import Derived.ShutString
import Derived.ChangeOld
namespace Go.Proofs.Ytbgdhiieeegnjac.fnExactRankOfMixed
open Go.ChangeShapes Go.WideShapes Go.ChangeAt Go.RowKit
open Go.ChangeMaps (open_string shut_string)
set_option linter.unusedVariables false

theorem own : ownKnob Try.prog.godebug = none := by kernel_rfl
theorem laidOut : laidOutB Try.prog = true := by kernel_rfl

theorem walk0 (a0 a1 : Option Addr) (len0 cap0 len1 cap1 : Nat) (xs ys : List Int) (r : Int) (ok : Bool) (w : World) (hx : xs.length = len0) (hA : ArgI w a0 xs) (hl : len0 ≤ 1048576) (hx1 : ys.length = len1) (hD : ArgI w a1 ys) (hl1 : len1 ≤ 1048576)
    (hS : Hid (∀ v u B C w, OwnI w B v xs → OwnI w C u ys → Calls Try.prog 32 #[v, u] w fun e w' => QB0 w r ok e w'))
    (hI : Hid (∀ v u B C w, OwnI w B v xs → OwnI w C u ys → Calls Try.prog 33 #[v, u] w fun e w' => QB0 w r ok e w')) :
    Calls Try.prog 11 #[.slice a0 len0 cap0, .slice a1 len1 cap1] w fun e w' => e = .returned (.bool true) ∧ Below w.heap.size w w' := by
  have hA := Lib.hid hA
  have hD := Lib.hid hD
  have hxx := Lib.hid hx
  have hyy := Lib.hid hx1
  clear hx hx1
  have hT := Lib.hid fun w (h : ArgI w a0 xs) => toIntS_any a0 len0 cap0 xs w hl hxx.out h
  have hU := Lib.hid fun w (h : ArgI w a1 ys) => toIntS_any a1 len1 cap1 ys w hl1 hyy.out h
  cases ok
  all_goals
    go_enter Try.func11, Try.ntmps11
    go_wp2_with fail
    refine (hT.out _ hA.out).mono ?_; rintro e w1 ⟨v1, rfl, ho1, hb1⟩
    have ho1 := Lib.hid ho1
    have H1 := Lib.hid hb1
    clear hb1
    go_wp2_with fail
    refine (hU.out _ (hD.out.below H1.out)).mono ?_; rintro e w2 ⟨v2, rfl, ho2, hb2⟩
    have ho12 := Lib.hid (ho1.out.below hb2)
    have ho2 := Lib.hid ho2
    have H2 := Lib.hid (H1.out.trans (hb2.mono H1.out.size))
    clear hb2
    go_wp2_with fail
    refine (hS.out v1 v2 _ _ _ ho12.out ho2.out).mono ?_; rintro e w3 ⟨rfl, hb3⟩
    have H3 := Lib.hid (H2.out.trans (hb3.mono H2.out.size))
    clear hb3
    go_wp2_with fail
    refine (hT.out _ (hA.out.below H3.out)).mono ?_; rintro e w4 ⟨v4, rfl, ho4, hb4⟩
    have ho4 := Lib.hid ho4
    have H4 := Lib.hid (H3.out.trans (hb4.mono H3.out.size))
    clear hb4
    go_wp2_with fail
    refine (hU.out _ (hD.out.below H4.out)).mono ?_; rintro e w5 ⟨v5, rfl, ho5, hb5⟩
    have ho45 := Lib.hid (ho4.out.below hb5)
    have ho5 := Lib.hid ho5
    have H5 := Lib.hid (H4.out.trans (hb5.mono H4.out.size))
    clear hb5
    go_wp2_with fail
    refine (hI.out v4 v5 _ _ _ ho45.out ho5.out).mono ?_; rintro e w6 ⟨rfl, hb6⟩
    have ho46 := Lib.hid (ho45.out.below hb6)
    have ho56 := Lib.hid (ho5.out.below hb6)
    have H6 := Lib.hid (H5.out.trans (hb6.mono H5.out.size))
    clear hb6
    go_wp2_with fail
    refine (hT.out _ (hA.out.below H6.out)).mono ?_; rintro e w7 ⟨v7, rfl, ho7, hb7⟩
    have ho7 := Lib.hid ho7
    have ho47 := Lib.hid (ho46.out.below hb7)
    have ho57 := Lib.hid (ho56.out.below hb7)
    have H7 := Lib.hid (H6.out.trans (hb7.mono H6.out.size))
    clear hb7
    go_wp2_with fail
    refine (eqIntS_same v4 v7 xs _ _ _ ho47.out ho7.out).mono ?_; rintro e w8 ⟨rfl, q, rfl⟩
    go_wp2_with fail
    have H8 := Lib.hid (below_drewN H7.out q)
    refine (hU.out _ (hD.out.below H8.out)).mono ?_; rintro e w9 ⟨v9, rfl, ho9, hb9⟩
    have ho9 := Lib.hid ho9
    have ho59 := Lib.hid ((ho57.out.drewN q).below hb9)
    have H9 := Lib.hid (H8.out.trans (hb9.mono H8.out.size))
    clear hb9
    go_wp2_with fail
    refine (eqIntS_same v5 v9 ys _ _ _ ho59.out ho9.out).mono ?_; rintro e w10 ⟨rfl, q2, rfl⟩
    go_wp2_with fail
    go_ret
    exact ⟨rfl, below_drewN H9.out q2⟩
theorem walk (a0 : Option Addr) (len0 cap0 : Nat) (z0 : List Int) (a1 : Option Addr) (len1 cap1 : Nat) (z1 : List Int) (w : World) (w0 : IsRow .i64 w a0 len0 cap0 z0) (w1 : IsRow .i64 w a1 len1 cap1 z1) :
    Calls Try.prog 11 #[.slice a0 len0 cap0, .slice a1 len1 cap1] w fun e w' => e = .returned (.bool true) ∧ Below w.heap.size w w' := by
  obtain ⟨hA, hx, _⟩ := w0.arg
  obtain ⟨hD, hy, _⟩ := w1.arg
  by_cases h : 1048576 < len0
  · go_enter Try.func11, Try.ntmps11
    go_wp2_with fail
    go_ret; exact ⟨rfl, Below.refl _ _⟩
  · by_cases k : 1048576 < len1
    · go_enter Try.func11, Try.ntmps11
      go_wp2_with fail
      go_ret; exact ⟨rfl, Below.refl _ _⟩
    · exact walk0 a0 a1 len0 cap0 len1 cap1 _ _ _ _ w hx hA (by omega) hy hD (by omega) (Lib.hid fun v u B C w ho hp => sRankM_any v u _ _ B C w (by omega) (by omega) ho hp) (Lib.hid fun v u B C w ho hp => iRankM_any v u _ _ B C w (by omega) (by omega) ho hp)


set_option maxRecDepth 100000 in
theorem lifted (os : Os) (started : os.Started) (H : Type) (enc : TypeId × Value → H) :
    ReturnsInHanded {} Try.checked os 11 .any (Rows.fnExactRankOfMixedSpec.pre6 enc Try.prog Try.f11 Rows.fnExactRankOfMixedRow.domain false) (Rows.fnExactRankOfMixedSpec.post enc Try.prog Try.f11 false true false false) := by
  refine returnsInHanded_of_change (C := Try.checked) own started (by kernel_rfl) Try.func11
    (ChangeSpec.witness6 (enc := enc) (C := Try.checked) false ⟨#[], #[.slice none 0 0, .slice none 0 0], []⟩ 8 (by kernel_rfl) (by kernel_rfl) (by kernel_rfl) (by kernel_rfl)) ?_
  intro W base args ds gs before hval0 hW hcnd _
  have hval : ∀ (j : Nat) t v, Try.f11.params[j]? = some t → args[j]? = some v → Value.okWide Try.prog W .any base t v := hval0
  have hW' := hW
  obtain ⟨p, q, hA0, hV, rfl, hfz, hnd⟩ := hW
  have hA : DataW.TrodAll enc Try.prog W 0 (fun _ => true) true Try.f11.params.toList args.toList ds p := hA0
  rw [Try.params11] at hA hval
  obtain ⟨v0, vs0, d0, ds0, p0, q0, hargs, rfl, rfl, h0, r0⟩ := trodAll_cons hA
  obtain ⟨v1, vs1, d1, ds1, p1, q1, rfl, rfl, rfl, h1, r1⟩ := trodAll_cons r0
  obtain ⟨rfl, rfl, rfl⟩ := trodAll_nil r1
  obtain rfl : args = #[v0, v1] := by cases args; simp_all
  obtain ⟨rfl, rfl⟩ := trodVars_none hV
  obtain ⟨a0, len0, cap0, rfl⟩ := okWide_slice Try.underlying27 (hval 0 27 v0 rfl rfl)
  have k0 := h0
  have lt0 : ∀ x ∈ p0, x.block < W.heap.size := by obtain ⟨m, hm⟩ := k0; exact DataW.trod_lt m _ _ _ hm
  obtain ⟨z0, w0⟩ : ∃ zs, IsRow .i64 W a0 len0 cap0 zs := by
    obtain ⟨fuel, hf⟩ := h0
    rcases open_ints Try.underlying27 Try.underlying3 (by kernel_rfl) hf with ⟨hcs, _⟩ | ⟨x, l, c, zs, hcs, _, hl, hm, hz, _, hcell, hwz⟩
    · simp [Value.cells] at hcs
      obtain ⟨rfl, rfl, rfl⟩ := hcs
      exact ⟨[], .inl ⟨rfl, rfl, rfl, rfl⟩⟩
    · simp [Value.cells] at hcs
      obtain ⟨rfl, rfl, rfl⟩ := hcs
      exact ⟨zs, .inr ⟨_, rfl, hl, hm, by simpa using hz, hcell, hwz⟩⟩
  obtain ⟨a1, len1, cap1, rfl⟩ := okWide_slice Try.underlying27 (hval 1 27 v1 rfl rfl)
  have k1 := h1
  have lt1 : ∀ x ∈ p1, x.block < W.heap.size := by obtain ⟨m, hm⟩ := k1; exact DataW.trod_lt m _ _ _ hm
  obtain ⟨z1, w1⟩ : ∃ zs, IsRow .i64 W a1 len1 cap1 zs := by
    obtain ⟨fuel, hf⟩ := h1
    rcases open_ints Try.underlying27 Try.underlying3 (by kernel_rfl) hf with ⟨hcs, _⟩ | ⟨x, l, c, zs, hcs, _, hl, hm, hz, _, hcell, hwz⟩
    · simp [Value.cells] at hcs
      obtain ⟨rfl, rfl, rfl⟩ := hcs
      exact ⟨[], .inl ⟨rfl, rfl, rfl, rfl⟩⟩
    · simp [Value.cells] at hcs
      obtain ⟨rfl, rfl, rfl⟩ := hcs
      exact ⟨zs, .inr ⟨_, rfl, hl, hm, by simpa using hz, hcell, hwz⟩⟩
  clear hA0
  refine (walk a0 len0 cap0 z0 a1 len1 cap1 z1 W w0 w1).mono fun e W' ⟨he, bel⟩ => ?_
  subst he
  exact ⟨_, rfl, _, _, _, [], _, [], hW', trodAll_mk1 (shut_bool Try.underlying4 _), (trodAll_cons_mk (Below.trod laidOut (by kernel_rfl) (of_decide_eq_true (by kernel_rfl)) k0 bel lt0) (trodAll_cons_mk (Below.trod laidOut (by kernel_rfl) (of_decide_eq_true (by kernel_rfl)) k1 bel lt1) trodAll_mk0)), rfl, bel.frame _, fun h => by cases h⟩

theorem over : Rows.fnExactRankOfMixedRow.holds Try.pinned (OpenSpec.ofChange Rows.fnExactRankOfMixedSpec) :=
  OpenClaim.holds_of_wide 11 Try.f11 rfl rfl rfl rfl rfl rfl rfl ⟨rfl, rfl, rfl, rfl, rfl⟩ rfl rfl rfl rfl rfl (by kernel_rfl) Try.func11 (by kernel_rfl)
    (of_decide_eq_true (by kernel_rfl)) (by unfold Func.isWrapper; first | (rw [if_pos (by decide +kernel)]; kernel_rfl) | (rw [if_neg (by decide +kernel)]; exact ⟨rfl, rfl⟩))
    (fun os started H enc _ => lifted os started H enc)

/-- the statement -/
theorem proved : Rows.FnExactRankOfMixedSaid := over
#print axioms proved
end Go.Proofs.Ytbgdhiieeegnjac.fnExactRankOfMixed
