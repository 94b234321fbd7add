/-
  For every puzzle (numbers and clues as they may be) and every other argument, the program's DropClue answers as the model does, in memory of its own; what was given is as it was, and nothing that was there is written. No condition.
-/
import Derived.Test.YtmjeilimdnngpaaDoorRows
import Derived.Test.YtmjeilimdnngpaaDoorLaid
import Derived.Test.YtmjeilimdnngpaaDoorPzS
import Derived.Test.YtmjeilimdnngpaaDoorPz1
import Derived.ProofKit
import Derived.OpenShut
import Derived.ShutString
import Derived.ChangeOld
namespace Go.Proofs.YtmjeilimdnngpaaDoor.fnExactDropClue
open Go.ChangeShapes Go.WideShapes Go.ChangeAt Go.RowKit
open Go.ChangeMaps (open_string shut_string)
open RM
set_option linter.unusedVariables false

theorem laidOut : laidOutB Tryd.prog = true := by kernel_rfl

set_option maxHeartbeats 4000000 in
theorem walk0 (R : Int) (a : Option Addr) (n c : Nat) (rs : List Clu) (i1 : Int) (RR : Int) (r : List Clu) (ok : Bool) (w : World) (hr : Hid (r.length ≤ 2000000)) (hn : n ≤ maxLen) (hl : rs.length = n) (hA : ArgC w a rs) (hT0 : TabOk w)
    (hS : Hid (∀ w v, RdK w v R rs → Calls Tryd.prog 20 #[v, .int .i64 i1] w fun e w' => RetZ w RR r ok e w'))
    (hI : Hid (∀ w v, TabOk w → RdK w v R rs → Calls Tryd.prog 21 #[v, .int .i64 i1] w fun e w' => RetZ w RR r ok e w')) :
    Calls Tryd.prog 4 #[.agg #[.int .i64 R, .slice a n c], .int .i64 i1] w fun e w' => e = .returned (.bool true) ∧ Below w.heap.size w w' := by
  replace hT0 := Lib.hid hT0
  obtain ⟨RNV, hRN⟩ : ∃ k : Nat, Hid (k = r.length) := ⟨_, Lib.hid rfl⟩
  have hrn : RNV ≤ 2000000 := by rw [hRN.out]; exact hr.out
  have hne : (ok != ok) = false := by simp
  have hnq : ¬ 1 + 3 * (RNV : Int) < 0 := by omega
  have hneq : ((1 : Int) + 3 * (RNV : Int) != 1 + 3 * (RNV : Int)) = false := by simp
  have hnk : ¬ 1 + 3 * (n : Int) < 0 := by omega
  have hbww := Lib.hid (Below.refl w.heap.size w)
  obtain ⟨w2, hw2⟩ : ∃ x, Hid (x = w.alloc (puzL R (.slice a n c))) := ⟨_, Lib.hid rfl⟩
  have hb := show Below w.heap.size w w2 by rw [hw2.out]; exact ba1 _ _
  have FAw2 := Lib.hid (show w2.heap[w.heap.size]? = some (puzL R (.slice a n c)) by rw [hw2.out]; exact hb_new _ _)
  have zw2 : w.heap.size ≤ w2.heap.size := Below.size (hb)
  have hbww2 := Lib.hid (hb)
  clear hb
  have yw2 : w2.heap.size = w.heap.size + 1 := by rw [hw2.out]; simp
  have hZ := Lib.hid (szPuzzle_any R a n c rs w2 hn hl (hA.below hbww2.out))
  replace hA := Lib.hid hA
  replace hl := Lib.hid hl
  have cA0 : w2.cell? ⟨w.heap.size, 0, none⟩ = some (.int .i64 R) := hb_cell FAw2.out 0
  have cA1 : w2.cell? ⟨w.heap.size, 1, none⟩ = some ((.slice a n c)) := hb_cell FAw2.out 1
  have cAl := hb_lt FAw2.out
  go_enter Tryd.func4, Tryd.ntmps4
  go_wp2_with fail
  rw [← hw2.out]
  refine (hZ.out).mono ?_; rintro e w3 ⟨lf, rfl, hb, hlf⟩
  by_cases hneg : lf < 0
  · go_wp2_with fail
    go_ret; exact ⟨rfl, bt1 hbww2.out hb⟩
  have hT := Lib.hid fun w' (hbw : Below w.heap.size w w') => toPuzzle_any R a n c rs w' (hlf (by omega)) hl.out (hA.out.below hbw)
  have hn9 := hlf (by omega)
  clear hlf hZ
  clear cA0 cA1 cAl
  have FAw3 := Lib.hid (hb_below hb (hb_lt FAw2.out) FAw2.out)
  have zw3 : w2.heap.size ≤ w3.heap.size := Below.size (hb)
  have hbww3 := Lib.hid (bt1 hbww2.out hb)
  clear hb
  have cA0 : w3.cell? ⟨w.heap.size, 0, none⟩ = some (.int .i64 R) := hb_cell FAw3.out 0
  have cA1 : w3.cell? ⟨w.heap.size, 1, none⟩ = some ((.slice a n c)) := hb_cell FAw3.out 1
  have cAl := hb_lt FAw3.out
  go_wp2_with fail
  refine (hT.out w3 hbww3.out).mono ?_; rintro e w4 ⟨u0, rfl, ho0, hb⟩
  clear cA0 cA1 cAl
  have FAw4 := Lib.hid (hb_below hb (hb_lt FAw3.out) FAw3.out)
  have zw4 : w3.heap.size ≤ w4.heap.size := Below.size (hb)
  have hbww4 := Lib.hid (bt1 hbww3.out hb)
  replace ho0 := Lib.hid ho0
  clear hb
  go_wp2_with fail
  refine (hS.out w4 _ (OwnZ.mk ho0.out).rdk).mono ?_; rintro e w5 ⟨sv, rfl, hs0, hb⟩
  obtain ⟨psv, csv, rfl⟩ : ∃ p c, sv = .slice p r.length c := hs0.sl
  have FAw5 := Lib.hid (hb_below hb (hb_lt FAw4.out) FAw4.out)
  have zw5 : w4.heap.size ≤ w5.heap.size := Below.size (hb)
  have hbww5 := Lib.hid (bt1 hbww4.out hb)
  clear hb
  have osw5 := Lib.hid hs0
  have lts : Hid (∀ k, Value.ownBlock (.slice psv r.length csv) = some k → w4.heap.size ≤ k ∧ k < w5.heap.size) := Lib.hid (fun k e => osw5.out.lt k e)
  clear hs0
  have cA0 : w5.cell? ⟨w.heap.size, 0, none⟩ = some (.int .i64 R) := hb_cell FAw5.out 0
  have cA1 : w5.cell? ⟨w.heap.size, 1, none⟩ = some ((.slice a n c)) := hb_cell FAw5.out 1
  have cAl := hb_lt FAw5.out
  have cAn : ¬ w.heap.size = w5.heap.size := by omega
  obtain ⟨w6, hw6⟩ : ∃ x, Hid (x = w5.alloc (puzO RR (.slice psv r.length csv))) := ⟨_, Lib.hid rfl⟩
  have hb := show Below w5.heap.size w5 w6 by rw [hw6.out]; exact ba1 _ _
  have FWw6 := Lib.hid (show w6.heap[w5.heap.size]? = some (puzO RR (.slice psv r.length csv)) by rw [hw6.out]; exact hb_new _ _)
  have FAw6 := Lib.hid (hb_below hb (hb_lt FAw5.out) FAw5.out)
  have osw6 := Lib.hid (osw5.out.below hb)
  have zw6 : w5.heap.size ≤ w6.heap.size := Below.size (hb)
  have hbww6 := Lib.hid (bt1 hbww5.out hb)
  clear hb
  have yw6 : w6.heap.size = w5.heap.size + 1 := by rw [hw6.out]; simp
  go_wp2_with fail
  rw [← hw6.out]
  refine (hT.out w6 hbww6.out).mono ?_; rintro e w7 ⟨x0, rfl, ho0, hb⟩
  obtain ⟨px, cx, rfl⟩ : ∃ p c, x0 = .slice p n c := by
    obtain ⟨p, c, e, _⟩ := ho0.rd
    exact ⟨p, c, by rw [e, hl.out]⟩
  clear cA0 cA1 cAl cAn
  have FAw7 := Lib.hid (hb_below hb (hb_lt FAw6.out) FAw6.out)
  have FWw7 := Lib.hid (hb_below hb (hb_lt FWw6.out) FWw6.out)
  have osw7 := Lib.hid (osw6.out.below hb)
  have zw7 : w6.heap.size ≤ w7.heap.size := Below.size (hb)
  have hbww7 := Lib.hid (bt1 hbww6.out hb)
  clear hb
  have oxw7 := Lib.hid ho0
  have ltx : Hid (∀ k, Value.ownBlock (.slice px n cx) = some k → w6.heap.size ≤ k ∧ k < w7.heap.size) := Lib.hid (fun k e => oxw7.out.lt k e)
  clear ho0
  obtain ⟨w8, hw8⟩ : ∃ x, Hid (x = w7.alloc (puzO R (.slice px n cx))) := ⟨_, Lib.hid rfl⟩
  have hb := show Below w7.heap.size w7 w8 by rw [hw8.out]; exact ba1 _ _
  have FXw8 := Lib.hid (show w8.heap[w7.heap.size]? = some (puzO R (.slice px n cx)) by rw [hw8.out]; exact hb_new _ _)
  have FAw8 := Lib.hid (hb_below hb (hb_lt FAw7.out) FAw7.out)
  have FWw8 := Lib.hid (hb_below hb (hb_lt FWw7.out) FWw7.out)
  have osw8 := Lib.hid (osw7.out.below hb)
  have oxw8 := Lib.hid (oxw7.out.below hb)
  have zw8 : w7.heap.size ≤ w8.heap.size := Below.size (hb)
  have hbww8 := Lib.hid (bt1 hbww7.out hb)
  clear hb
  have yw8 : w8.heap.size = w7.heap.size + 1 := by rw [hw8.out]; simp
  have cX0 : w8.cell? ⟨w7.heap.size, 0, none⟩ = some (.int .i64 R) := hb_cell FXw8.out 0
  have cX1 : w8.cell? ⟨w7.heap.size, 1, none⟩ = some ((.slice px n cx)) := hb_cell FXw8.out 1
  have cXl := hb_lt FXw8.out
  go_wp2_with fail
  rw [← hw8.out]
  refine (hI.out w8 _ (hT0.out.below hbww8.out) (OwnZ.mk oxw8.out).rdk).mono ?_; rintro e w9 ⟨gv, rfl, hg0, hb⟩
  obtain ⟨pgv, cgv, rfl⟩ : ∃ p c, gv = .slice p r.length c := hg0.sl
  clear cX0 cX1 cXl
  have FAw9 := Lib.hid (hb_below hb (hb_lt FAw8.out) FAw8.out)
  have FWw9 := Lib.hid (hb_below hb (hb_lt FWw8.out) FWw8.out)
  have FXw9 := Lib.hid (hb_below hb (hb_lt FXw8.out) FXw8.out)
  have osw9 := Lib.hid (osw8.out.below hb)
  have oxw9 := Lib.hid (oxw8.out.below hb)
  have zw9 : w8.heap.size ≤ w9.heap.size := Below.size (hb)
  have hbww9 := Lib.hid (bt1 hbww8.out hb)
  clear hb
  have ogw9 := Lib.hid hg0
  have ltg : Hid (∀ k, Value.ownBlock (.slice pgv r.length cgv) = some k → w8.heap.size ≤ k ∧ k < w9.heap.size) := Lib.hid (fun k e => ogw9.out.lt k e)
  clear hg0
  have cW0 : w9.cell? ⟨w5.heap.size, 0, none⟩ = some (.int .i64 RR) := hb_cell FWw9.out 0
  have cW1 : w9.cell? ⟨w5.heap.size, 1, none⟩ = some ((.slice psv r.length csv)) := hb_cell FWw9.out 1
  have cWl := hb_lt FWw9.out
  have cWn : ¬ w5.heap.size = w9.heap.size := by omega
  obtain ⟨w10, hw10⟩ : ∃ x, Hid (x = w9.alloc (puzO RR (.slice pgv r.length cgv))) := ⟨_, Lib.hid rfl⟩
  have hb := show Below w9.heap.size w9 w10 by rw [hw10.out]; exact ba1 _ _
  have FGw10 := Lib.hid (show w10.heap[w9.heap.size]? = some (puzO RR (.slice pgv r.length cgv)) by rw [hw10.out]; exact hb_new _ _)
  have FAw10 := Lib.hid (hb_below hb (hb_lt FAw9.out) FAw9.out)
  have FWw10 := Lib.hid (hb_below hb (hb_lt FWw9.out) FWw9.out)
  have FXw10 := Lib.hid (hb_below hb (hb_lt FXw9.out) FXw9.out)
  have osw10 := Lib.hid (osw9.out.below hb)
  have oxw10 := Lib.hid (oxw9.out.below hb)
  have ogw10 := Lib.hid (ogw9.out.below hb)
  have zw10 : w9.heap.size ≤ w10.heap.size := Below.size (hb)
  have hbww10 := Lib.hid (bt1 hbww9.out hb)
  clear hb
  have yw10 : w10.heap.size = w9.heap.size + 1 := by rw [hw10.out]; simp
  go_wp2_with fail
  rw [← hw10.out]
  refine (eqPuzzle_same _ _ RR r _ _ _ ⟨_, rfl, ogw10.out⟩ ⟨_, rfl, osw10.out⟩).mono ?_; rintro e w11 ⟨rfl, hb⟩
  clear cW0 cW1 cWl cWn
  have FAw11 := Lib.hid (hb_below hb (hb_lt FAw10.out) FAw10.out)
  have FWw11 := Lib.hid (hb_below hb (hb_lt FWw10.out) FWw10.out)
  have FXw11 := Lib.hid (hb_below hb (hb_lt FXw10.out) FXw10.out)
  have FGw11 := Lib.hid (hb_below hb (hb_lt FGw10.out) FGw10.out)
  have osw11 := Lib.hid (osw10.out.below hb)
  have oxw11 := Lib.hid (oxw10.out.below hb)
  have ogw11 := Lib.hid (ogw10.out.below hb)
  have zw11 : w10.heap.size ≤ w11.heap.size := Below.size (hb)
  have hbww11 := Lib.hid (bt1 hbww10.out hb)
  clear hb
  have cX0 : w11.cell? ⟨w7.heap.size, 0, none⟩ = some (.int .i64 R) := hb_cell FXw11.out 0
  have cX1 : w11.cell? ⟨w7.heap.size, 1, none⟩ = some ((.slice px n cx)) := hb_cell FXw11.out 1
  have cXl := hb_lt FXw11.out
  have cA0 : w11.cell? ⟨w.heap.size, 0, none⟩ = some (.int .i64 R) := hb_cell FAw11.out 0
  have cA1 : w11.cell? ⟨w.heap.size, 1, none⟩ = some ((.slice a n c)) := hb_cell FAw11.out 1
  have cAl := hb_lt FAw11.out
  go_wp2_with fail
  have hrf : Z2 w7.heap.size w.heap.size w11.heap.size R (.slice px n cx) (.slice a n c) w11 w11 := ⟨⟨cX0, cX1⟩, ⟨cA0, cA1⟩, cXl, cAl, Below.refl _ _⟩
  go_region_held3 (fun v => Z2 w7.heap.size w.heap.size w11.heap.size R (.slice px n cx) (.slice a n c) w11 v) ((first | assumption | (refine ⟨⟨?_, ?_⟩, ⟨?_, ?_⟩, ?_, ?_, ?_⟩ <;> first | assumption | go_keep | omega | exact (Below.refl _ _).drew)))
    (first | (go_at_call 13; with_reducible refine (hT.out _ (bt1 hbww11.out (keepZF (by assumption)))).mono ?_; rintro e w' ⟨v9, rfl, ho9, hb9⟩; have ho9 := Lib.hid ho9; have hbn := keepZ (keepZl (by assumption)) hb9 (by assumption)) | (go_at_call 16; with_reducible refine (eqPuzzle_same _ _ R rs _ _ _ (OwnZ.mk (oxw11.out.below (keepZF (by assumption)))) (OwnZ.mk ho9.out)).mono ?_; rintro e w' ⟨rfl, hb9⟩; have hbn := keepZ (keepZl (by assumption)) hb9 (by assumption)))
  have hb := keepZF (by assumption)
  rename World => w12
  clear cX0 cX1 cXl cA0 cA1 cAl hrf
  have FAw12 := Lib.hid (hb_below hb (hb_lt FAw11.out) FAw11.out)
  have FWw12 := Lib.hid (hb_below hb (hb_lt FWw11.out) FWw11.out)
  have FXw12 := Lib.hid (hb_below hb (hb_lt FXw11.out) FXw11.out)
  have FGw12 := Lib.hid (hb_below hb (hb_lt FGw11.out) FGw11.out)
  have osw12 := Lib.hid (osw11.out.below hb)
  have oxw12 := Lib.hid (oxw11.out.below hb)
  have ogw12 := Lib.hid (ogw11.out.below hb)
  have zw12 : w11.heap.size ≤ w12.heap.size := Below.size (hb)
  have hbww12 := Lib.hid (bt1 hbww11.out hb)
  clear hb
  have cX0 : w12.cell? ⟨w7.heap.size, 0, none⟩ = some (.int .i64 R) := hb_cell FXw12.out 0
  have cX1 : w12.cell? ⟨w7.heap.size, 1, none⟩ = some ((.slice px n cx)) := hb_cell FXw12.out 1
  have cXl := hb_lt FXw12.out
  go_wp2_with fail
  refine (markPuzzle_any R (.slice px n cx) rs _ w12 (by rw [hl.out]; omega) oxw12.out).mono ?_; rintro e w13 ⟨rfl, hox, hg⟩
  clear cX0 cX1 cXl
  rw [hl.out]
  have zw13 : w12.heap.size ≤ w13.heap.size := hg.size
  have FAw13 := Lib.hid ((hg.block _ (hb_lt FAw12.out) (fun e => by have h1 := ltx.out _ e.symm; omega)).trans FAw12.out)
  have FWw13 := Lib.hid ((hg.block _ (hb_lt FWw12.out) (fun e => by have h1 := ltx.out _ e.symm; omega)).trans FWw12.out)
  have FXw13 := Lib.hid ((hg.block _ (hb_lt FXw12.out) (fun e => by have h1 := ltx.out _ e.symm; omega)).trans FXw12.out)
  have FGw13 := Lib.hid ((hg.block _ (hb_lt FGw12.out) (fun e => by have h1 := ltx.out _ e.symm; omega)).trans FGw12.out)
  have osw13 := Lib.hid (osw12.out.kept hg (ne_rows lts.out ltx.out (by omega)))
  have ogw13 := Lib.hid (ogw12.out.kept hg (ne_rows ltg.out ltx.out (by omega)))
  have hbww13 := Lib.hid (hbww12.out.grown hg hbww12.out.size (fun k e => by have h1 := ltx.out k e; omega))
  clear hg
  clear hox
  have cG0 : w13.cell? ⟨w9.heap.size, 0, none⟩ = some (.int .i64 RR) := hb_cell FGw13.out 0
  have cG1 : w13.cell? ⟨w9.heap.size, 1, none⟩ = some ((.slice pgv r.length cgv)) := hb_cell FGw13.out 1
  have cGl := hb_lt FGw13.out
  have cW0 : w13.cell? ⟨w5.heap.size, 0, none⟩ = some (.int .i64 RR) := hb_cell FWw13.out 0
  have cW1 : w13.cell? ⟨w5.heap.size, 1, none⟩ = some ((.slice psv r.length csv)) := hb_cell FWw13.out 1
  have cWl := hb_lt FWw13.out
  go_wp2_with fail
  refine (eqPuzzle_same _ _ RR r _ _ _ ⟨_, rfl, ogw13.out⟩ ⟨_, rfl, osw13.out⟩).mono ?_; rintro e w14 ⟨rfl, hb⟩
  clear cG0 cG1 cGl cW0 cW1 cWl
  have FAw14 := Lib.hid (hb_below hb (hb_lt FAw13.out) FAw13.out)
  have FWw14 := Lib.hid (hb_below hb (hb_lt FWw13.out) FWw13.out)
  have FXw14 := Lib.hid (hb_below hb (hb_lt FXw13.out) FXw13.out)
  have FGw14 := Lib.hid (hb_below hb (hb_lt FGw13.out) FGw13.out)
  have osw14 := Lib.hid (osw13.out.below hb)
  have ogw14 := Lib.hid (ogw13.out.below hb)
  have zw14 : w13.heap.size ≤ w14.heap.size := Below.size (hb)
  have hbww14 := Lib.hid (bt1 hbww13.out hb)
  clear hb
  have cG0 : w14.cell? ⟨w9.heap.size, 0, none⟩ = some (.int .i64 RR) := hb_cell FGw14.out 0
  have cG1 : w14.cell? ⟨w9.heap.size, 1, none⟩ = some ((.slice pgv r.length cgv)) := hb_cell FGw14.out 1
  have cGl := hb_lt FGw14.out
  go_wp2_with fail
  refine (markPuzzle_any RR (.slice pgv r.length cgv) r _ w14 (by have := hr.out; omega) ogw14.out).mono ?_; rintro e w15 ⟨rfl, hox, hg⟩
  clear cG0 cG1 cGl
  rw [← hRN.out]
  have zw15 : w14.heap.size ≤ w15.heap.size := hg.size
  have FAw15 := Lib.hid ((hg.block _ (hb_lt FAw14.out) (fun e => by have h1 := ltg.out _ e.symm; omega)).trans FAw14.out)
  have FWw15 := Lib.hid ((hg.block _ (hb_lt FWw14.out) (fun e => by have h1 := ltg.out _ e.symm; omega)).trans FWw14.out)
  have FXw15 := Lib.hid ((hg.block _ (hb_lt FXw14.out) (fun e => by have h1 := ltg.out _ e.symm; omega)).trans FXw14.out)
  have FGw15 := Lib.hid ((hg.block _ (hb_lt FGw14.out) (fun e => by have h1 := ltg.out _ e.symm; omega)).trans FGw14.out)
  have osw15 := Lib.hid (osw14.out.kept hg (ne_rows lts.out ltg.out (by omega)))
  have hbww15 := Lib.hid (hbww14.out.grown hg hbww14.out.size (fun k e => by have h1 := ltg.out k e; omega))
  clear hg
  have ogw15 := Lib.hid hox
  clear hox
  have cG0 : w15.cell? ⟨w9.heap.size, 0, none⟩ = some (.int .i64 RR) := hb_cell FGw15.out 0
  have cG1 : w15.cell? ⟨w9.heap.size, 1, none⟩ = some ((.slice pgv r.length cgv)) := hb_cell FGw15.out 1
  have cGl := hb_lt FGw15.out
  go_wp2_with fail
  refine (heldPuzzle_any RR (.slice pgv r.length cgv) r.length _ w15 (by have := hr.out; omega) ogw15.out).mono ?_; rintro e w16 ⟨rfl, hb⟩
  rw [← hRN.out]
  clear cG0 cG1 cGl
  have FAw16 := Lib.hid (hb_below hb (hb_lt FAw15.out) FAw15.out)
  have FWw16 := Lib.hid (hb_below hb (hb_lt FWw15.out) FWw15.out)
  have FXw16 := Lib.hid (hb_below hb (hb_lt FXw15.out) FXw15.out)
  have FGw16 := Lib.hid (hb_below hb (hb_lt FGw15.out) FGw15.out)
  have osw16 := Lib.hid (osw15.out.below hb)
  have ogw16 := Lib.hid (ogw15.out.below hb)
  have zw16 : w15.heap.size ≤ w16.heap.size := Below.size (hb)
  have hbww16 := Lib.hid (bt1 hbww15.out hb)
  clear hb
  have cA0 : w16.cell? ⟨w.heap.size, 0, none⟩ = some (.int .i64 R) := hb_cell FAw16.out 0
  have cA1 : w16.cell? ⟨w.heap.size, 1, none⟩ = some ((.slice a n c)) := hb_cell FAw16.out 1
  have cAl := hb_lt FAw16.out
  go_wp2_with fail
  refine (hT.out w16 hbww16.out).mono ?_; rintro e w17 ⟨u7, rfl, ho0, hb⟩
  clear cA0 cA1 cAl
  have FAw17 := Lib.hid (hb_below hb (hb_lt FAw16.out) FAw16.out)
  have FWw17 := Lib.hid (hb_below hb (hb_lt FWw16.out) FWw16.out)
  have FXw17 := Lib.hid (hb_below hb (hb_lt FXw16.out) FXw16.out)
  have FGw17 := Lib.hid (hb_below hb (hb_lt FGw16.out) FGw16.out)
  have osw17 := Lib.hid (osw16.out.below hb)
  have ogw17 := Lib.hid (ogw16.out.below hb)
  have zw17 : w16.heap.size ≤ w17.heap.size := Below.size (hb)
  have hbww17 := Lib.hid (bt1 hbww16.out hb)
  replace ho0 := Lib.hid ho0
  clear hb
  go_wp2_with fail
  refine (hI.out w17 _ (hT0.out.below hbww17.out) (OwnZ.mk ho0.out).rdk).mono ?_; rintro e w18 ⟨hv, rfl, hh0, hb⟩
  obtain ⟨phv, chv, rfl⟩ : ∃ p c, hv = .slice p r.length c := hh0.sl
  have FAw18 := Lib.hid (hb_below hb (hb_lt FAw17.out) FAw17.out)
  have FWw18 := Lib.hid (hb_below hb (hb_lt FWw17.out) FWw17.out)
  have FXw18 := Lib.hid (hb_below hb (hb_lt FXw17.out) FXw17.out)
  have FGw18 := Lib.hid (hb_below hb (hb_lt FGw17.out) FGw17.out)
  have osw18 := Lib.hid (osw17.out.below hb)
  have ogw18 := Lib.hid (ogw17.out.below hb)
  have zw18 : w17.heap.size ≤ w18.heap.size := Below.size (hb)
  have hbww18 := Lib.hid (bt1 hbww17.out hb)
  clear hb
  have ohw18 := Lib.hid hh0
  have lth : Hid (∀ k, Value.ownBlock (.slice phv r.length chv) = some k → w17.heap.size ≤ k ∧ k < w18.heap.size) := Lib.hid (fun k e => ohw18.out.lt k e)
  clear hh0
  have cW0 : w18.cell? ⟨w5.heap.size, 0, none⟩ = some (.int .i64 RR) := hb_cell FWw18.out 0
  have cW1 : w18.cell? ⟨w5.heap.size, 1, none⟩ = some ((.slice psv r.length csv)) := hb_cell FWw18.out 1
  have cWl := hb_lt FWw18.out
  have cWn : ¬ w5.heap.size = w18.heap.size := by omega
  obtain ⟨w19, hw19⟩ : ∃ x, Hid (x = w18.alloc (puzO RR (.slice phv r.length chv))) := ⟨_, Lib.hid rfl⟩
  have hb := show Below w18.heap.size w18 w19 by rw [hw19.out]; exact ba1 _ _
  have FHw19 := Lib.hid (show w19.heap[w18.heap.size]? = some (puzO RR (.slice phv r.length chv)) by rw [hw19.out]; exact hb_new _ _)
  have FAw19 := Lib.hid (hb_below hb (hb_lt FAw18.out) FAw18.out)
  have FWw19 := Lib.hid (hb_below hb (hb_lt FWw18.out) FWw18.out)
  have FXw19 := Lib.hid (hb_below hb (hb_lt FXw18.out) FXw18.out)
  have FGw19 := Lib.hid (hb_below hb (hb_lt FGw18.out) FGw18.out)
  have osw19 := Lib.hid (osw18.out.below hb)
  have ogw19 := Lib.hid (ogw18.out.below hb)
  have ohw19 := Lib.hid (ohw18.out.below hb)
  have zw19 : w18.heap.size ≤ w19.heap.size := Below.size (hb)
  have hbww19 := Lib.hid (bt1 hbww18.out hb)
  clear hb
  have yw19 : w19.heap.size = w18.heap.size + 1 := by rw [hw19.out]; simp
  go_wp2_with fail
  rw [← hw19.out]
  refine (eqPuzzle_same _ _ RR r _ _ _ ⟨_, rfl, ohw19.out⟩ ⟨_, rfl, osw19.out⟩).mono ?_; rintro e w20 ⟨rfl, hb⟩
  clear cW0 cW1 cWl cWn
  have FAw20 := Lib.hid (hb_below hb (hb_lt FAw19.out) FAw19.out)
  have FWw20 := Lib.hid (hb_below hb (hb_lt FWw19.out) FWw19.out)
  have FXw20 := Lib.hid (hb_below hb (hb_lt FXw19.out) FXw19.out)
  have FGw20 := Lib.hid (hb_below hb (hb_lt FGw19.out) FGw19.out)
  have FHw20 := Lib.hid (hb_below hb (hb_lt FHw19.out) FHw19.out)
  have osw20 := Lib.hid (osw19.out.below hb)
  have ogw20 := Lib.hid (ogw19.out.below hb)
  have ohw20 := Lib.hid (ohw19.out.below hb)
  have zw20 : w19.heap.size ≤ w20.heap.size := Below.size (hb)
  have hbww20 := Lib.hid (bt1 hbww19.out hb)
  clear hb
  have cG0 : w20.cell? ⟨w9.heap.size, 0, none⟩ = some (.int .i64 RR) := hb_cell FGw20.out 0
  have cG1 : w20.cell? ⟨w9.heap.size, 1, none⟩ = some ((.slice pgv r.length cgv)) := hb_cell FGw20.out 1
  have cGl := hb_lt FGw20.out
  go_wp2_with fail
  refine (heldPuzzle_any RR (.slice pgv r.length cgv) r.length _ w20 (by have := hr.out; omega) ogw20.out).mono ?_; rintro e w21 ⟨rfl, hb⟩
  rw [← hRN.out]
  clear cG0 cG1 cGl
  have FAw21 := Lib.hid (hb_below hb (hb_lt FAw20.out) FAw20.out)
  have FWw21 := Lib.hid (hb_below hb (hb_lt FWw20.out) FWw20.out)
  have FXw21 := Lib.hid (hb_below hb (hb_lt FXw20.out) FXw20.out)
  have FGw21 := Lib.hid (hb_below hb (hb_lt FGw20.out) FGw20.out)
  have FHw21 := Lib.hid (hb_below hb (hb_lt FHw20.out) FHw20.out)
  have osw21 := Lib.hid (osw20.out.below hb)
  have ogw21 := Lib.hid (ogw20.out.below hb)
  have ohw21 := Lib.hid (ohw20.out.below hb)
  have zw21 : w20.heap.size ≤ w21.heap.size := Below.size (hb)
  have hbww21 := Lib.hid (bt1 hbww20.out hb)
  clear hb
  go_wp2_with fail
  go_ret; exact ⟨rfl, hbww21.out⟩
theorem walk (R : Int) (a : Option Addr) (n c : Nat) (rs : List Clu) (hn : n ≤ maxLen) (hl : rs.length = n) (i1 : Int) (w1 : (Lit.int .i64 i1).wf = true) (w : World) (hA : ArgC w a rs) (hT0 : TabOk w) :
    Calls Tryd.prog 4 #[.agg #[.int .i64 R, .slice a n c], .int .i64 i1] w fun e w' => e = .returned (.bool true) ∧ Below w.heap.size w w' := by
  obtain ⟨RR, r, ok, hr, hS, hI⟩ := DropClue_both R rs i1 w1
  exact walk0 R a n c rs i1 RR r ok w (Lib.hid hr) hn hl hA hT0 (Lib.hid hS) (Lib.hid hI)

set_option maxRecDepth 100000 in
/-- what the walk gives, for every argument and every world that holds the tables -/
theorem contract (H : Type) (enc : TypeId × Value → H) (W : World) (base : Nat) (args : Array Value) (ds gs : List (DataW H)) (before : List MemPlace)
    (hval : ∀ (j : Nat) t v, Tryd.f4.params[j]? = some t → args[j]? = some v → Value.okWide Tryd.prog W .any base t v)
    (hW : DataW.Whole enc Tryd.prog Tryd.f4.params.toList Rows.fnExactDropClueSpec.vars false W args.toList ds gs before) (hL : laidMetH Tryd.prog Rows.fnExactDropClueRow.laid W) :
    Calls Tryd.prog 4 args W fun e W' => ∃ v, e = .returned v ∧ Rows.fnExactDropClueSpec.post enc Tryd.prog Tryd.f4 false true false false W args v W' := by
  have hW' := hW
  obtain ⟨p, q, hA0, hV, rfl, hfz, hnd⟩ := hW
  have hA : DataW.TrodAll enc Tryd.prog W 0 (fun _ => true) true Tryd.f4.params.toList args.toList ds p := hA0
  rw [Tryd.params4] at hA hval
  obtain ⟨v0, vs0, d0, ds0, p0, q0, hargs, rfl, rfl, h0, r0⟩ := trodAll_cons hA
  obtain ⟨v1, vs1, d1, ds1, p1, q1, rfl, rfl, rfl, h1, r1⟩ := trodAll_cons r0
  obtain ⟨rfl, rfl, rfl⟩ := trodAll_nil r1
  obtain rfl : args = #[v0, v1] := by cases args; simp_all
  obtain ⟨rfl, rfl⟩ := trodVars_none hV
  obtain ⟨a1, rfl, rfl, rfl, w1⟩ := open_int Tryd.underlying3 (hval 1 3 v1 rfl rfl) h1
  have k0 := h0
  have lt0 : ∀ x ∈ p0, x.block < W.heap.size := by obtain ⟨m, hm⟩ := k0; exact DataW.trod_lt m _ _ _ hm
  obtain ⟨R0, a0, n0, c0, ss0, rfl, wR0, hn0, hl0, gT0⟩ := open_puzzle (hval 0 24 v0 rfl rfl) h0
  clear hA0
  refine (walk R0 a0 n0 c0 ss0 hn0 hl0 a1 w1 W gT0 (tabOk hL)).mono fun e W' ⟨he, bel⟩ => ?_
  subst he
  exact ⟨_, rfl, _, _, _, [], _, [], hW', trodAll_mk1 (shut_bool Tryd.underlying4 _), (trodAll_cons_mk (Below.trod laidOut (by kernel_rfl) (of_decide_eq_true (by kernel_rfl)) k0 bel lt0) (trodAll_cons_mk (shut_int Tryd.underlying3 w1) trodAll_mk0)), rfl, bel.frame _, fun h => by cases h⟩

theorem reads (os : Os) {H : Type} (enc : TypeId × Value → H) : ∃ places, DataW.whole enc Tryd.prog ((laidWorld os).forCall (fun _ _ => 0) ⟨#[], #[.agg #[.int .i64 0, .slice none 0 0], .int .i64 0], []⟩).memory Tryd.f4.params.toList Rows.fnExactDropClueSpec.vars false (#[.agg #[.int .i64 0, .slice none 0 0], .int .i64 0] : Array Value).toList 8 = some ([.agg [.lit (.int .i64 0), .nil], .lit (.int .i64 0)], [], places) :=
  ⟨[], by kernel_rfl⟩

set_option maxRecDepth 100000 in
theorem lifted (os : Os) (started : os.Started) (H : Type) (enc : TypeId × Value → H) (F : Stop.Interp) :
    ReturnsInHanded {} Tryd.checked os 4 .any ((OpenSpec.ofChange Rows.fnExactDropClueSpec).preRow enc Tryd.prog Tryd.f4 Rows.fnExactDropClueRow.domain false Rows.fnExactDropClueRow.laid) (((OpenSpec.ofChange Rows.fnExactDropClueSpec).at F).post enc Tryd.prog Tryd.f4 false true false false) := by
  obtain ⟨places, hx⟩ := reads os enc
  refine returnsInHanded_of_row (C := Tryd.checked) (s := OpenSpec.ofChange Rows.fnExactDropClueSpec) own started (by kernel_rfl) Tryd.func4
    (witness_row_at (enc := enc) (C := Tryd.checked) false (laidWorld os) #[.agg #[.int .i64 0, .slice none 0 0], .int .i64 0] rfl (by kernel_rfl) (by kernel_rfl) (by kernel_rfl)
      (OpenSpec.preRow_of_cond 8 hx (by kernel_rfl) (fun k hk => by cases hk) (by kernel_rfl) (laid_met os _))) ?_
  intro W base args ds gs before hval hW _ _ _ hL _ _
  exact contract H enc W base args ds gs before hval hW hL

theorem said : Rows.FnExactDropClueSaid :=
  OpenClaim.holds_of_cond 4 Tryd.f4 rfl rfl rfl rfl rfl rfl rfl ⟨rfl, rfl, rfl, rfl, rfl⟩ rfl rfl rfl rfl rfl (by kernel_rfl) Tryd.func4 (by kernel_rfl)
    (of_decide_eq_true (by kernel_rfl)) (by unfold Func.isWrapper; first | (rw [if_pos (by decide +kernel)]; kernel_rfl) | (rw [if_neg (by decide +kernel)]; exact ⟨rfl, rfl⟩))
    (fun os started H enc _ F => by rw [OpenClaim.pre_eq_preRow]; exact lifted os started H enc F)

/-- no parameter wants a stand-in; the program's own looks are off: what the card asks -/
theorem plain (f : FuncId) (fn : Func) (hf : Tryd.pinned.checked.prog.funcNamed "loop.example/g01314/laws.FnExactDropClue" = some f) (hfn : Tryd.pinned.checked.prog.funcs[f]? = some fn) :
    true = Tryd.pinned.checked.prog.looks [] ∧ ∀ (j : Nat) t, fn.params[j]? = some t → Tryd.pinned.checked.prog.wantsStandIn t = false := by
  obtain rfl : f = 4 := Option.some.inj ((show Tryd.prog.funcNamed "loop.example/g01314/laws.FnExactDropClue" = some 4 by kernel_rfl).symm.trans hf) |>.symm
  obtain rfl : fn = Tryd.f4 := (Option.some.inj (Tryd.func4.symm.trans hfn)).symm
  refine ⟨by kernel_rfl, fun j t ht => ?_⟩
  rw [Tryd.params4] at ht
  have hm := Array.mem_of_getElem? ht
  simp at hm
  rcases hm with rfl | rfl
  · exact (show Tryd.prog.wantsStandIn 24 = false by kernel_rfl)
  · exact (show Tryd.prog.wantsStandIn 3 = false by kernel_rfl)

/-- the statement -/
theorem card : Rows.FnExactDropClueCardSaid :=
  Claim7.holds_tied_plain_at .later [] _ _ _ _ said (fun _ h => by cases h) (by kernel_rfl) (fun _ h => by cases h) fnExactDropClue_row_tie rfl ⟨rfl, rfl⟩ (by kernel_rfl) rfl plain (by kernel_rfl)
#print axioms card
end Go.Proofs.YtmjeilimdnngpaaDoor.fnExactDropClue
