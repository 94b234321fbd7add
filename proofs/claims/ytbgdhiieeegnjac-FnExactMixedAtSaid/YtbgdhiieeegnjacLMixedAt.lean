/-
  For every list of numbers and every number, the program's MixedAt answers as the model does; nothing that was there is written. The answer lies in memory of its own, the list is as it was. No condition.
-/
import Derived.Test.YtbgdhiieeegnjacRows
import Derived.Test.YtbgdhiieeegnjacM2
import Derived.ProofKit
import Derived.OpenShut
import Derived.ShutString
import Derived.ChangeOld
namespace Go.Proofs.Ytbgdhiieeegnjac.fnExactMixedAt
open Go.ChangeShapes Go.WideShapes Go.ChangeAt Go.RowKit
open Go.ChangeMaps (open_string shut_string)
set_option linter.unusedVariables false

theorem own : ownKnob Try.prog.godebug = none := by kernel_rfl
theorem laidOut : laidOutB Try.prog = true := by kernel_rfl

theorem walk0 (a0 : Option Addr) (len0 cap0 : Nat) (a1 : Int) (xs ys : List Int) (ok : Bool) (w : World) (hx : xs.length = len0) (hA : ArgI w a0 xs) (hl : len0 ≤ 1048576) (hy : Hid (ys.length ≤ 1048576))
    (hS : Hid (∀ v B w, OwnI w B v xs → Calls Try.prog 30 #[v, .int .i64 a1] w fun e w' => RetI w ys ok e w'))
    (hI : Hid (∀ v B w, OwnI w B v xs → Calls Try.prog 31 #[v, .int .i64 a1] w fun e w' => RetI w ys ok e w')) :
    Calls Try.prog 10 #[.slice a0 len0 cap0, .int .i64 a1] w fun e w' => e = .returned (.bool true) ∧ Below w.heap.size w w' := by
  have hA := Lib.hid hA
  have hxx := Lib.hid hx
  clear hx
  have hT := Lib.hid fun w (h : ArgI w a0 xs) => toIntS_any a0 len0 cap0 xs w hl hxx.out h
  go_enter Try.func10, Try.ntmps10
  go_wp2_with fail
  refine (hT.out _ hA.out).mono ?_; rintro e w1 ⟨v1, rfl, ho1, hb1⟩
  have ho1 := Lib.hid ho1
  have H1 := Lib.hid hb1
  clear hb1
  go_wp2_with fail
  refine (hS.out v1 _ _ ho1.out).mono ?_; rintro e w2 ⟨sv, rfl, hs2, hb2⟩
  have hs2 := Lib.hid hs2
  have H2 := Lib.hid (H1.out.trans (hb2.mono H1.out.size))
  clear hb2
  go_wp2_with fail
  refine (hT.out _ (hA.out.below H2.out)).mono ?_; rintro e w3 ⟨v3, rfl, ho3, hb3⟩
  have ho3 := Lib.hid ho3
  have hs3 := Lib.hid (hs2.out.below hb3)
  have H3 := Lib.hid (H2.out.trans (hb3.mono H2.out.size))
  clear hb3
  go_wp2_with fail
  refine (hI.out v3 _ _ ho3.out).mono ?_; rintro e w4 ⟨gv, rfl, hg4, hb4⟩
  have hg4 := Lib.hid hg4
  have hs4 := Lib.hid (hs3.out.below hb4)
  have ho4 := Lib.hid (ho3.out.below hb4)
  have H4 := Lib.hid (H3.out.trans (hb4.mono H3.out.size))
  clear hb4
  go_wp2_with fail
  refine (eqIntS_same gv sv ys _ _ _ hg4.out hs4.out).mono ?_; rintro e w5 ⟨rfl, q, rfl⟩
  go_wp2_with fail
  have H5 := Lib.hid (below_drewN H4.out q)
  refine (hT.out _ (hA.out.below H5.out)).mono ?_; rintro e w6 ⟨v6, rfl, ho6, hb6⟩
  have ho6 := Lib.hid ho6
  have hg6 := Lib.hid ((hg4.out.drewN q).below hb6)
  have hs6 := Lib.hid ((hs4.out.drewN q).below hb6)
  have h36 := Lib.hid ((ho4.out.drewN q).below hb6)
  have H6 := Lib.hid (H5.out.trans (hb6.mono H5.out.size))
  clear hb6
  go_wp2_with fail
  refine (eqIntS_same v3 v6 xs _ _ _ h36.out ho6.out).mono ?_; rintro e w7 ⟨rfl, q2, rfl⟩
  go_wp2_with fail
  refine (markIntS_any v3 xs _ _ (by rw [hxx.out]; omega) (h36.out.drewN q2)).mono ?_; rintro e w8 ⟨rfl, hm8, hk8⟩
  have H8 := Lib.hid ((below_drewN H6.out q2).grown hk8 (by have := H6.out.size; simpa using this) (fun k e => Nat.le_trans H2.out.size ((h36.out.lt k e).1)))
  have hg8 := Lib.hid ((hg6.out.drewN q2).kept hk8 (by
    have a := own_ne (h36.out.drewN q2) (fun k e => (ho3.out.lt k e).2) (hg6.out.drewN q2)
    rcases a with a | a
    · rw [a]; cases hv : gv.ownBlock
      · left; rfl
      · right; simp
    · right; exact fun e => a e.symm))
  have hs8 := Lib.hid ((hs6.out.drewN q2).kept hk8 (own_ne (hs6.out.drewN q2) (fun k e => (hs2.out.lt k e).2) (h36.out.drewN q2)))
  clear hm8 hk8
  go_wp2_with fail
  refine (eqIntS_same gv sv ys _ _ _ hg8.out hs8.out).mono ?_; rintro e w9 ⟨rfl, q3, rfl⟩
  go_wp2_with fail
  refine (markIntS_any gv ys _ _ (by have := hy.out; omega) (hg8.out.drewN q3)).mono ?_; rintro e w10 ⟨rfl, hm10, hk10⟩
  have hm10 := Lib.hid hm10
  have H10 := Lib.hid ((below_drewN H8.out q3).grown hk10 (by have := H8.out.size; simpa using this) (fun k e => Nat.le_trans H3.out.size ((hg4.out.lt k e).1)))
  have hs10 := Lib.hid ((hs8.out.drewN q3).kept hk10 (own_ne (hs8.out.drewN q3) (fun k e => (hs3.out.lt k e).2) (hg8.out.drewN q3)))
  clear hk10
  go_wp2_with fail
  refine (heldIntS_any gv ys.length _ _ (by have := hy.out; omega) hm10.out).mono ?_; rintro e w' ⟨rfl, rfl⟩
  go_wp2_with fail
  refine (hT.out _ (hA.out.below H10.out)).mono ?_; rintro e w11 ⟨v11, rfl, ho11, hb11⟩
  have ho11 := Lib.hid ho11
  have hs11 := Lib.hid (hs10.out.below hb11)
  have hm11 := Lib.hid (hm10.out.below hb11)
  have H11 := Lib.hid (H10.out.trans (hb11.mono H10.out.size))
  clear hb11
  go_wp2_with fail
  refine (hI.out v11 _ _ ho11.out).mono ?_; rintro e w12 ⟨hv, rfl, hh12, hb12⟩
  have hh12 := Lib.hid hh12
  have hs12 := Lib.hid (hs11.out.below hb12)
  have hm12 := Lib.hid (hm11.out.below hb12)
  have H12 := Lib.hid (H11.out.trans (hb12.mono H11.out.size))
  clear hb12
  go_wp2_with fail
  refine (eqIntS_same hv sv ys _ _ _ hh12.out hs12.out).mono ?_; rintro e w13 ⟨rfl, q4, rfl⟩
  go_wp2_with fail
  refine (heldIntS_any gv ys.length _ _ (by have := hy.out; omega) (hm12.out.drewN q4)).mono ?_; rintro e w' ⟨rfl, rfl⟩
  go_wp2_with fail
  go_ret
  exact ⟨rfl, below_drewN H12.out q4⟩
theorem walk (a0 : Option Addr) (len0 cap0 : Nat) (z0 : List Int) (a1 : Int) (w1 : (Lit.int .i64 a1).wf = true) (w : World) (w0 : IsRow .i64 w a0 len0 cap0 z0) :
    Calls Try.prog 10 #[.slice a0 len0 cap0, .int .i64 a1] w fun e w' => e = .returned (.bool true) ∧ Below w.heap.size w w' := by
  obtain ⟨hA, hx, _⟩ := w0.arg
  by_cases h : 1048576 < len0
  · go_enter Try.func10, Try.ntmps10
    go_wp2_with fail
    go_ret; exact ⟨rfl, Below.refl _ _⟩
  · exact walk0 a0 len0 cap0 a1 _ _ _ w hx hA (by omega) (Lib.hid (mxA_len _ a1 (by omega))) (Lib.hid fun v B w ho => sMixed_any v _ B a1 w (by omega) ho) (Lib.hid fun v B w ho => iMixed_any v _ B a1 w (by omega) ho)


set_option maxRecDepth 100000 in
theorem lifted (os : Os) (started : os.Started) (H : Type) (enc : TypeId × Value → H) :
    ReturnsInHanded {} Try.checked os 10 .any (Rows.fnExactMixedAtSpec.pre6 enc Try.prog Try.f10 Rows.fnExactMixedAtRow.domain false) (Rows.fnExactMixedAtSpec.post enc Try.prog Try.f10 false true false false) := by
  refine returnsInHanded_of_change (C := Try.checked) own started (by kernel_rfl) Try.func10
    (ChangeSpec.witness6 (enc := enc) (C := Try.checked) false ⟨#[], #[.slice none 0 0, .int .i64 0], []⟩ 8 (by kernel_rfl) (by kernel_rfl) (by kernel_rfl) (by kernel_rfl)) ?_
  intro W base args ds gs before hval0 hW hcnd _
  have hval : ∀ (j : Nat) t v, Try.f10.params[j]? = some t → args[j]? = some v → Value.okWide Try.prog W .any base t v := hval0
  have hW' := hW
  obtain ⟨p, q, hA0, hV, rfl, hfz, hnd⟩ := hW
  have hA : DataW.TrodAll enc Try.prog W 0 (fun _ => true) true Try.f10.params.toList args.toList ds p := hA0
  rw [Try.params10] at hA hval
  obtain ⟨v0, vs0, d0, ds0, p0, q0, hargs, rfl, rfl, h0, r0⟩ := trodAll_cons hA
  obtain ⟨v1, vs1, d1, ds1, p1, q1, rfl, rfl, rfl, h1, r1⟩ := trodAll_cons r0
  obtain ⟨rfl, rfl, rfl⟩ := trodAll_nil r1
  obtain rfl : args = #[v0, v1] := by cases args; simp_all
  obtain ⟨rfl, rfl⟩ := trodVars_none hV
  obtain ⟨a0, len0, cap0, rfl⟩ := okWide_slice Try.underlying27 (hval 0 27 v0 rfl rfl)
  have k0 := h0
  have lt0 : ∀ x ∈ p0, x.block < W.heap.size := by obtain ⟨m, hm⟩ := k0; exact DataW.trod_lt m _ _ _ hm
  obtain ⟨z0, w0⟩ : ∃ zs, IsRow .i64 W a0 len0 cap0 zs := by
    obtain ⟨fuel, hf⟩ := h0
    rcases open_ints Try.underlying27 Try.underlying3 (by kernel_rfl) hf with ⟨hcs, _⟩ | ⟨x, l, c, zs, hcs, _, hl, hm, hz, _, hcell, hwz⟩
    · simp [Value.cells] at hcs
      obtain ⟨rfl, rfl, rfl⟩ := hcs
      exact ⟨[], .inl ⟨rfl, rfl, rfl, rfl⟩⟩
    · simp [Value.cells] at hcs
      obtain ⟨rfl, rfl, rfl⟩ := hcs
      exact ⟨zs, .inr ⟨_, rfl, hl, hm, by simpa using hz, hcell, hwz⟩⟩
  obtain ⟨a1, rfl, rfl, rfl, w1⟩ := open_int Try.underlying3 (hval 1 3 v1 rfl rfl) h1
  clear hA0
  refine (walk a0 len0 cap0 z0 a1 w1 W w0).mono fun e W' ⟨he, bel⟩ => ?_
  subst he
  exact ⟨_, rfl, _, _, _, [], _, [], hW', trodAll_mk1 (shut_bool Try.underlying4 _), (trodAll_cons_mk (Below.trod laidOut (by kernel_rfl) (of_decide_eq_true (by kernel_rfl)) k0 bel lt0) (trodAll_cons_mk (shut_int Try.underlying3 w1) trodAll_mk0)), rfl, bel.frame _, fun h => by cases h⟩

theorem over : Rows.fnExactMixedAtRow.holds Try.pinned (OpenSpec.ofChange Rows.fnExactMixedAtSpec) :=
  OpenClaim.holds_of_wide 10 Try.f10 rfl rfl rfl rfl rfl rfl rfl ⟨rfl, rfl, rfl, rfl, rfl⟩ rfl rfl rfl rfl rfl (by kernel_rfl) Try.func10 (by kernel_rfl)
    (of_decide_eq_true (by kernel_rfl)) (by unfold Func.isWrapper; first | (rw [if_pos (by decide +kernel)]; kernel_rfl) | (rw [if_neg (by decide +kernel)]; exact ⟨rfl, rfl⟩))
    (fun os started H enc _ => lifted os started H enc)

/-- the statement -/
theorem proved : Rows.FnExactMixedAtSaid := over
#print axioms proved
end Go.Proofs.Ytbgdhiieeegnjac.fnExactMixedAt
