/-
  For every argument, the program's RunningLamps answers as the model does, in memory of its own; what was given is as it was, and nothing that was there is written. No condition.
-/
import Derived.Test.YtjlecipeoaohiacRows
import Derived.Test.YtjlecipeoaohiacLa3
import Derived.Test.YtjlecipeoaohiacLa1
import Derived.ProofKit
import Derived.OpenShut
import Derived.ShutString
import Derived.ChangeOld
namespace Go.Proofs.Ytjlecipeoaohiac.fnExactRunningLamps
open Go.ChangeShapes Go.WideShapes Go.ChangeAt Go.RowKit
open Go.ChangeMaps (open_string shut_string)
open RM
set_option linter.unusedVariables false

theorem own : ownKnob Try.prog.godebug = none := by kernel_rfl
theorem laidOut : laidOutB Try.prog = true := by kernel_rfl

set_option maxHeartbeats 4000000 in
theorem walk0  (i0 : Int) (r : List ByteArray) (ok : Bool) (w : World) (hr : Hid (r.length ≤ 2000000))
    (hS : Hid (∀ w, Calls Try.prog 10 #[.int .i64 i0] w fun e w' => RetY w r ok e w'))
    (hI : Hid (∀ w, Calls Try.prog 11 #[.int .i64 i0] w fun e w' => RetY w r ok e w')) :
    Calls Try.prog 4 #[.int .i64 i0] w fun e w' => e = .returned (.bool true) ∧ Below w.heap.size w w' := by
  obtain ⟨RNV, hRN⟩ : ∃ k : Nat, Hid (k = r.length) := ⟨_, Lib.hid rfl⟩
  have hrn : RNV ≤ 2000000 := by rw [hRN.out]; exact hr.out
  have hne : (ok != ok) = false := by simp
  have hnq : ¬ 1 + (RNV : Int) < 0 := by omega
  have hneq : ((1 : Int) + (RNV : Int) != 1 + (RNV : Int)) = false := by simp
  have hbww := Lib.hid (Below.refl w.heap.size w)
  go_enter Try.func4, Try.ntmps4
  go_wp2_with fail
  refine (hS.out w).mono ?_; rintro e w2 ⟨sv, rfl, hs0, hb⟩
  obtain ⟨psv, csv, rfl⟩ : ∃ p c, sv = .slice p r.length c := by
    obtain ⟨p, c, e, _⟩ := (ownT_G hs0).rd
    exact ⟨p, c, e⟩
  have zw2 : w.heap.size ≤ w2.heap.size := Below.size (hb)
  have hbww2 := Lib.hid (hb)
  clear hb
  have osw2 := Lib.hid hs0
  have lts : Hid (∀ k, Value.ownBlock (.slice psv r.length csv) = some k → w.heap.size ≤ k ∧ k < w2.heap.size) := Lib.hid (fun k e => osw2.out.lt k e)
  clear hs0
  obtain ⟨w3, hw3⟩ : ∃ x, Hid (x = w2.alloc (lampO (.slice psv r.length csv))) := ⟨_, Lib.hid rfl⟩
  have hb := show Below w2.heap.size w2 w3 by rw [hw3.out]; exact ba1 _ _
  have FWw3 := Lib.hid (show w3.heap[w2.heap.size]? = some (lampO (.slice psv r.length csv)) by rw [hw3.out]; exact hb_new _ _)
  have osw3 := Lib.hid (osw2.out.below hb)
  have zw3 : w2.heap.size ≤ w3.heap.size := Below.size (hb)
  have hbww3 := Lib.hid (bt1 hbww2.out hb)
  clear hb
  have yw3 : w3.heap.size = w2.heap.size + 1 := by rw [hw3.out]; simp
  go_wp2_with fail
  rw [← hw3.out]
  refine (hI.out w3).mono ?_; rintro e w4 ⟨gv, rfl, hg0, hb⟩
  obtain ⟨pgv, cgv, rfl⟩ : ∃ p c, gv = .slice p r.length c := by
    obtain ⟨p, c, e, _⟩ := (ownT_G hg0).rd
    exact ⟨p, c, e⟩
  have FWw4 := Lib.hid (hb_below hb (hb_lt FWw3.out) FWw3.out)
  have osw4 := Lib.hid (osw3.out.below hb)
  have zw4 : w3.heap.size ≤ w4.heap.size := Below.size (hb)
  have hbww4 := Lib.hid (bt1 hbww3.out hb)
  clear hb
  have ogw4 := Lib.hid hg0
  have ltg : Hid (∀ k, Value.ownBlock (.slice pgv r.length cgv) = some k → w3.heap.size ≤ k ∧ k < w4.heap.size) := Lib.hid (fun k e => ogw4.out.lt k e)
  clear hg0
  have cW0 : w4.cell? ⟨w2.heap.size, 0, none⟩ = some ((.slice psv r.length csv)) := hb_cell FWw4.out 0
  have cWl := hb_lt FWw4.out
  have cWn : ¬ w2.heap.size = w4.heap.size := by omega
  obtain ⟨w5, hw5⟩ : ∃ x, Hid (x = w4.alloc (lampO (.slice pgv r.length cgv))) := ⟨_, Lib.hid rfl⟩
  have hb := show Below w4.heap.size w4 w5 by rw [hw5.out]; exact ba1 _ _
  have FGw5 := Lib.hid (show w5.heap[w4.heap.size]? = some (lampO (.slice pgv r.length cgv)) by rw [hw5.out]; exact hb_new _ _)
  have FWw5 := Lib.hid (hb_below hb (hb_lt FWw4.out) FWw4.out)
  have osw5 := Lib.hid (osw4.out.below hb)
  have ogw5 := Lib.hid (ogw4.out.below hb)
  have zw5 : w4.heap.size ≤ w5.heap.size := Below.size (hb)
  have hbww5 := Lib.hid (bt1 hbww4.out hb)
  clear hb
  have yw5 : w5.heap.size = w4.heap.size + 1 := by rw [hw5.out]; simp
  go_wp2_with fail
  rw [← hw5.out]
  refine (eqLamps_same _ _ r _ _ _ ⟨_, rfl, ogw5.out⟩ ⟨_, rfl, osw5.out⟩).mono ?_; rintro e w6 ⟨rfl, hb⟩
  clear cW0 cWl cWn
  have FWw6 := Lib.hid (hb_below hb (hb_lt FWw5.out) FWw5.out)
  have FGw6 := Lib.hid (hb_below hb (hb_lt FGw5.out) FGw5.out)
  have osw6 := Lib.hid (osw5.out.below hb)
  have ogw6 := Lib.hid (ogw5.out.below hb)
  have zw6 : w5.heap.size ≤ w6.heap.size := Below.size (hb)
  have hbww6 := Lib.hid (bt1 hbww5.out hb)
  clear hb
  have cG0 : w6.cell? ⟨w4.heap.size, 0, none⟩ = some ((.slice pgv r.length cgv)) := hb_cell FGw6.out 0
  have cGl := hb_lt FGw6.out
  go_wp2_with fail
  refine (markLamps_any (.slice pgv r.length cgv) r _ w6 (by have := hr.out; omega) ogw6.out).mono ?_; rintro e w7 ⟨rfl, hox, hg⟩
  clear cG0 cGl
  rw [← hRN.out]
  have zw7 : w6.heap.size ≤ w7.heap.size := hg.size
  have FWw7 := Lib.hid ((hg.block _ (hb_lt FWw6.out) (fun e => by have h1 := ltg.out _ e.symm; omega)).trans FWw6.out)
  have FGw7 := Lib.hid ((hg.block _ (hb_lt FGw6.out) (fun e => by have h1 := ltg.out _ e.symm; omega)).trans FGw6.out)
  have osw7 := Lib.hid (osw6.out.kept hg (ne_rows lts.out ltg.out (by omega)))
  have hbww7 := Lib.hid (hbww6.out.grown hg hbww6.out.size (fun k e => by have h1 := ltg.out k e; omega))
  clear hg
  have ogw7 := Lib.hid hox
  clear hox
  have cG0 : w7.cell? ⟨w4.heap.size, 0, none⟩ = some ((.slice pgv r.length cgv)) := hb_cell FGw7.out 0
  have cGl := hb_lt FGw7.out
  go_wp2_with fail
  refine (heldLamps_any (.slice pgv r.length cgv) r.length _ w7 (by have := hr.out; omega) ogw7.out).mono ?_; rintro e w8 ⟨rfl, hb⟩
  rw [← hRN.out]
  clear cG0 cGl
  have FWw8 := Lib.hid (hb_below hb (hb_lt FWw7.out) FWw7.out)
  have FGw8 := Lib.hid (hb_below hb (hb_lt FGw7.out) FGw7.out)
  have osw8 := Lib.hid (osw7.out.below hb)
  have ogw8 := Lib.hid (ogw7.out.below hb)
  have zw8 : w7.heap.size ≤ w8.heap.size := Below.size (hb)
  have hbww8 := Lib.hid (bt1 hbww7.out hb)
  clear hb
  go_wp2_with fail
  refine (hI.out w8).mono ?_; rintro e w9 ⟨hv, rfl, hh0, hb⟩
  obtain ⟨phv, chv, rfl⟩ : ∃ p c, hv = .slice p r.length c := by
    obtain ⟨p, c, e, _⟩ := (ownT_G hh0).rd
    exact ⟨p, c, e⟩
  have FWw9 := Lib.hid (hb_below hb (hb_lt FWw8.out) FWw8.out)
  have FGw9 := Lib.hid (hb_below hb (hb_lt FGw8.out) FGw8.out)
  have osw9 := Lib.hid (osw8.out.below hb)
  have ogw9 := Lib.hid (ogw8.out.below hb)
  have zw9 : w8.heap.size ≤ w9.heap.size := Below.size (hb)
  have hbww9 := Lib.hid (bt1 hbww8.out hb)
  clear hb
  have ohw9 := Lib.hid hh0
  have lth : Hid (∀ k, Value.ownBlock (.slice phv r.length chv) = some k → w8.heap.size ≤ k ∧ k < w9.heap.size) := Lib.hid (fun k e => ohw9.out.lt k e)
  clear hh0
  have cW0 : w9.cell? ⟨w2.heap.size, 0, none⟩ = some ((.slice psv r.length csv)) := hb_cell FWw9.out 0
  have cWl := hb_lt FWw9.out
  have cWn : ¬ w2.heap.size = w9.heap.size := by omega
  obtain ⟨w10, hw10⟩ : ∃ x, Hid (x = w9.alloc (lampO (.slice phv r.length chv))) := ⟨_, Lib.hid rfl⟩
  have hb := show Below w9.heap.size w9 w10 by rw [hw10.out]; exact ba1 _ _
  have FHw10 := Lib.hid (show w10.heap[w9.heap.size]? = some (lampO (.slice phv r.length chv)) by rw [hw10.out]; exact hb_new _ _)
  have FWw10 := Lib.hid (hb_below hb (hb_lt FWw9.out) FWw9.out)
  have FGw10 := Lib.hid (hb_below hb (hb_lt FGw9.out) FGw9.out)
  have osw10 := Lib.hid (osw9.out.below hb)
  have ogw10 := Lib.hid (ogw9.out.below hb)
  have ohw10 := Lib.hid (ohw9.out.below hb)
  have zw10 : w9.heap.size ≤ w10.heap.size := Below.size (hb)
  have hbww10 := Lib.hid (bt1 hbww9.out hb)
  clear hb
  have yw10 : w10.heap.size = w9.heap.size + 1 := by rw [hw10.out]; simp
  go_wp2_with fail
  rw [← hw10.out]
  refine (eqLamps_same _ _ r _ _ _ ⟨_, rfl, ohw10.out⟩ ⟨_, rfl, osw10.out⟩).mono ?_; rintro e w11 ⟨rfl, hb⟩
  clear cW0 cWl cWn
  have FWw11 := Lib.hid (hb_below hb (hb_lt FWw10.out) FWw10.out)
  have FGw11 := Lib.hid (hb_below hb (hb_lt FGw10.out) FGw10.out)
  have FHw11 := Lib.hid (hb_below hb (hb_lt FHw10.out) FHw10.out)
  have osw11 := Lib.hid (osw10.out.below hb)
  have ogw11 := Lib.hid (ogw10.out.below hb)
  have ohw11 := Lib.hid (ohw10.out.below hb)
  have zw11 : w10.heap.size ≤ w11.heap.size := Below.size (hb)
  have hbww11 := Lib.hid (bt1 hbww10.out hb)
  clear hb
  have cG0 : w11.cell? ⟨w4.heap.size, 0, none⟩ = some ((.slice pgv r.length cgv)) := hb_cell FGw11.out 0
  have cGl := hb_lt FGw11.out
  go_wp2_with fail
  refine (heldLamps_any (.slice pgv r.length cgv) r.length _ w11 (by have := hr.out; omega) ogw11.out).mono ?_; rintro e w12 ⟨rfl, hb⟩
  rw [← hRN.out]
  clear cG0 cGl
  have FWw12 := Lib.hid (hb_below hb (hb_lt FWw11.out) FWw11.out)
  have FGw12 := Lib.hid (hb_below hb (hb_lt FGw11.out) FGw11.out)
  have FHw12 := Lib.hid (hb_below hb (hb_lt FHw11.out) FHw11.out)
  have osw12 := Lib.hid (osw11.out.below hb)
  have ogw12 := Lib.hid (ogw11.out.below hb)
  have ohw12 := Lib.hid (ohw11.out.below hb)
  have zw12 : w11.heap.size ≤ w12.heap.size := Below.size (hb)
  have hbww12 := Lib.hid (bt1 hbww11.out hb)
  clear hb
  go_wp2_with fail
  go_ret; exact ⟨rfl, hbww12.out⟩
theorem walk  (i0 : Int) (w0 : (Lit.int .i64 i0).wf = true) (w : World) :
    Calls Try.prog 4 #[.int .i64 i0] w fun e w' => e = .returned (.bool true) ∧ Below w.heap.size w w' := by
  obtain ⟨r, ok, hr, hS, hI⟩ := RunningLamps_both i0 w0
  exact walk0 i0 r ok w (Lib.hid hr) (Lib.hid hS) (Lib.hid hI)

set_option maxRecDepth 100000 in
theorem lifted (os : Os) (started : os.Started) (H : Type) (enc : TypeId × Value → H) :
    ReturnsInHanded {} Try.checked os 4 .any (Rows.fnExactRunningLampsSpec.pre6 enc Try.prog Try.f4 Rows.fnExactRunningLampsRow.domain false) (Rows.fnExactRunningLampsSpec.post enc Try.prog Try.f4 false true false false) := by
  refine returnsInHanded_of_change (C := Try.checked) own started (by kernel_rfl) Try.func4
    (ChangeSpec.witness6 (enc := enc) (C := Try.checked) false ⟨#[], #[.int .i64 0], []⟩ 8 (by kernel_rfl) (by kernel_rfl) (by kernel_rfl) (by kernel_rfl)) ?_
  intro W base args ds gs before hval0 hW hcnd _
  have hval : ∀ (j : Nat) t v, Try.f4.params[j]? = some t → args[j]? = some v → Value.okWide Try.prog W .any base t v := hval0
  have hW' := hW
  obtain ⟨p, q, hA0, hV, rfl, hfz, hnd⟩ := hW
  have hA : DataW.TrodAll enc Try.prog W 0 (fun _ => true) true Try.f4.params.toList args.toList ds p := hA0
  rw [Try.params4] at hA hval
  obtain ⟨v0, vs0, d0, ds0, p0, q0, hargs, rfl, rfl, h0, r0⟩ := trodAll_cons hA
  obtain ⟨rfl, rfl, rfl⟩ := trodAll_nil r0
  obtain rfl : args = #[v0] := by cases args; simp_all
  obtain ⟨rfl, rfl⟩ := trodVars_none hV
  obtain ⟨a0, rfl, rfl, rfl, w0⟩ := open_int Try.underlying3 (hval 0 3 v0 rfl rfl) h0
  clear hA0
  simp only [List.append_nil] at hW'
  refine (walk a0 w0 W).mono fun e W' ⟨he, bel⟩ => ?_
  subst he
  exact ⟨_, rfl, _, _, _, [], _, [], hW', trodAll_mk1 (shut_bool Try.underlying4 _), (trodAll_cons_mk (shut_int Try.underlying3 w0) trodAll_mk0), rfl, bel.frame _, fun h => by cases h⟩

theorem over : Rows.fnExactRunningLampsRow.holds Try.pinned (OpenSpec.ofChange Rows.fnExactRunningLampsSpec) :=
  OpenClaim.holds_of_wide 4 Try.f4 rfl rfl rfl rfl rfl rfl rfl ⟨rfl, rfl, rfl, rfl, rfl⟩ rfl rfl rfl rfl rfl (by kernel_rfl) Try.func4 (by kernel_rfl)
    (of_decide_eq_true (by kernel_rfl)) (by unfold Func.isWrapper; first | (rw [if_pos (by decide +kernel)]; kernel_rfl) | (rw [if_neg (by decide +kernel)]; exact ⟨rfl, rfl⟩))
    (fun os started H enc _ => lifted os started H enc)

/-- the statement -/
theorem proved : Rows.FnExactRunningLampsSaid := over
#print axioms proved
end Go.Proofs.Ytjlecipeoaohiac.fnExactRunningLamps
