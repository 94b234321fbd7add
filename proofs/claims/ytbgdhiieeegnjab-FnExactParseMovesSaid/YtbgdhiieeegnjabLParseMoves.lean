/-
  For every text, the program's ParseMoves answers as the model does, in memory of its own; nothing that was there is written. No condition.
-/
import Derived.Test.YtbgdhiieeegnjabRows
import Derived.Test.YtbgdhiieeegnjabParse
import Derived.ProofKit
import Derived.OpenShut
import Derived.ShutString
namespace Go.Proofs.Ytbgdhiieeegnjab.fnExactParseMoves
open Go.ChangeShapes Go.WideShapes Go.ChangeAt Go.RowKit
open Go.ChangeMaps (open_string shut_string)
set_option linter.unusedVariables false

theorem own : ownKnob Try.prog.godebug = none := by kernel_rfl

theorem spec_any (s : ByteArray) (w : World) : Calls Try.prog 16 #[.string s] w fun e w' => RetI w (pmV s.data.toList) (pmB s.data.toList) e w' := by
  go_enter Try.func16, Try.ntmps16
  go_wp2_with fail
  refine (riParse_any _ _).mono ?_; rintro e w' ⟨v, rfl, ho, hb⟩
  have ho := Lib.hid ho
  have hb := Lib.hid hb
  go_wp2_with fail
  go_ret2
  exact ⟨_, rfl, ho.out, hb.out⟩

theorem walk (a0 : ByteArray) (w0 : a0.size ≤ maxLen) (w : World) :
    Calls Try.prog 5 #[.string a0] w fun e w' => e = .returned (.bool true) ∧ Below w.heap.size w w' := by
  have hS := Lib.hid fun w => spec_any a0 w
  have hI := Lib.hid fun w => iParse_any a0 w w0
  have hl : Hid ((pmV a0.data.toList).length ≤ 2000) := Lib.hid (by
    unfold pmV
    split
    · rename_i h
      unfold pmB at h; simp at h; simp; omega
    · simp)
  generalize pmB a0.data.toList = b at *
  generalize pmV a0.data.toList = xs at *
  by_cases h : 1048576 < a0.size
  · go_enter Try.func5, Try.ntmps5
    go_wp2_with fail
    go_ret; exact ⟨rfl, Below.refl _ _⟩
  · go_enter Try.func5, Try.ntmps5
    go_wp2_with fail
    refine (hS.out _).mono ?_; rintro e w1 ⟨v, rfl, ho1, hb1⟩
    have ho1 := Lib.hid ho1
    have hb1 := Lib.hid hb1
    go_wp2_with fail
    refine (hI.out _).mono ?_; rintro e w2 ⟨u, rfl, ho2, hb2⟩
    have ho2 := Lib.hid ho2
    have hb2 := Lib.hid hb2
    go_wp2_with fail
    refine (eqIntS_same u v xs _ _ _ ho2.out (ho1.out.below hb2.out)).mono ?_; rintro e w3 ⟨rfl, q, rfl⟩
    go_wp2_with fail
    refine (markIntS_any u xs _ _ (by have := hl.out; omega) (ho2.out.drewN q)).mono ?_; rintro e w4 ⟨rfl, hm, hg4⟩
    have hm := Lib.hid hm
    have hg4 := Lib.hid hg4
    go_wp2_with fail
    refine (heldIntS_any u xs.length _ _ (by have := hl.out; omega) hm.out).mono ?_; rintro e w' ⟨rfl, rfl⟩
    go_wp2_with fail
    refine (hI.out _).mono ?_; rintro e w5 ⟨u2, rfl, ho5, hb5⟩
    have ho5 := Lib.hid ho5
    have hb5 := Lib.hid hb5
    have hv4 := Lib.hid (((ho1.out.below hb2.out).drewN q).kept hg4.out (own_ne ((ho1.out.below hb2.out).drewN q) (fun k e => (ho1.out.lt k e).2) (ho2.out.drewN q)))
    go_wp2_with fail
    refine (eqIntS_same u2 v xs _ _ _ ho5.out (hv4.out.below hb5.out)).mono ?_; rintro e w6 ⟨rfl, q2, rfl⟩
    go_wp2_with fail
    refine (heldIntS_any u xs.length _ _ (by have := hl.out; omega) ((hm.out.below hb5.out).drewN q2)).mono ?_; rintro e w' ⟨rfl, rfl⟩
    go_wp2_with fail
    go_ret
    exact ⟨rfl, below_drewN ((bel_own (below_drewN (hb1.out.trans (hb2.out.mono hb1.out.size)) q) ((ho2.out.drewN q).mono hb1.out.size) hg4.out (Nat.le_trans hb1.out.size hb2.out.size)).trans (hb5.out.mono (Nat.le_trans (Nat.le_trans hb1.out.size hb2.out.size) hg4.out.size))) q2⟩

/-! ### THE ROW's STEP: WRITTEN OUT: LEAVE IT -/
set_option maxRecDepth 100000 in
theorem lifted (os : Os) (started : os.Started) (H : Type) (enc : TypeId × Value → H) :
    ReturnsInHanded {} Try.checked os 5 .any (Rows.fnExactParseMovesSpec.pre6 enc Try.prog Try.f5 Rows.fnExactParseMovesRow.domain false) (Rows.fnExactParseMovesSpec.post enc Try.prog Try.f5 false true false false) := by
  refine returnsInHanded_of_change (C := Try.checked) own started (by kernel_rfl) Try.func5
    (ChangeSpec.witness6 (enc := enc) (C := Try.checked) false ⟨#[], #[.string ByteArray.empty], []⟩ 8 (by kernel_rfl) (by kernel_rfl) (by kernel_rfl) (by kernel_rfl)) ?_
  intro W base args ds gs before hval0 hW hcnd _
  have hval : ∀ (j : Nat) t v, Try.f5.params[j]? = some t → args[j]? = some v → Value.okWide Try.prog W .any base t v := hval0
  have hW' := hW
  obtain ⟨p, q, hA0, hV, rfl, hfz, hnd⟩ := hW
  have hA : DataW.TrodAll enc Try.prog W 0 (fun _ => true) true Try.f5.params.toList args.toList ds p := hA0
  rw [Try.params5] at hA hval
  obtain ⟨v0, vs0, d0, ds0, p0, q0, hargs, rfl, rfl, h0, r0⟩ := trodAll_cons hA
  obtain ⟨rfl, rfl, rfl⟩ := trodAll_nil r0
  obtain rfl : args = #[v0] := by cases args; simp_all
  obtain ⟨rfl, rfl⟩ := trodVars_none hV
  obtain ⟨a0, rfl, rfl, rfl, w0⟩ := open_string Try.underlying9 (hval 0 9 v0 rfl rfl) h0
  clear hA0 hval0
  simp only [List.append_nil] at hW'
  refine (walk a0 w0 W).mono fun e W' ⟨he, hg⟩ => ?_
  subst he
  exact ⟨_, rfl, _, _, _, [], _, [], hW', trodAll_mk1 (shut_bool Try.underlying4 _), (trodAll_cons_mk (shut_string Try.underlying9 w0) trodAll_mk0), rfl, hg.frame _, fun h => by cases h⟩

theorem over : Rows.fnExactParseMovesRow.holds Try.pinned (OpenSpec.ofChange Rows.fnExactParseMovesSpec) :=
  OpenClaim.holds_of_wide 5 Try.f5 rfl rfl rfl rfl rfl rfl rfl ⟨rfl, rfl, rfl, rfl, rfl⟩ rfl rfl rfl rfl rfl (by kernel_rfl) Try.func5 (by kernel_rfl)
    (of_decide_eq_true (by kernel_rfl)) (by unfold Func.isWrapper; first | (rw [if_pos (by decide +kernel)]; kernel_rfl) | (rw [if_neg (by decide +kernel)]; exact ⟨rfl, rfl⟩))
    (fun os started H enc _ => lifted os started H enc)

/-- ████ THE STATEMENT ████ -/
theorem proved : Rows.FnExactParseMovesSaid :=
  over
#print axioms proved
end Go.Proofs.Ytbgdhiieeegnjab.fnExactParseMoves
