/-
  For every puzzle (numbers and clues as they may be) and every other argument, the program's NeedlessClues answers as the model does, in memory of its own; what was given is as it was, and nothing that was there is written. No condition.
-/
import Derived.Test.YtmjeilimdnngpaaDoorRows
import Derived.Test.YtmjeilimdnngpaaDoorLaid
import Derived.Test.YtmjeilimdnngpaaDoorPzQ
import Derived.Test.YtmjeilimdnngpaaDoorPz1
import Derived.ProofKit
import Derived.OpenShut
import Derived.ShutString
import Derived.ChangeOld
namespace Go.Proofs.YtmjeilimdnngpaaDoor.fnExactNeedlessClues
open Go.ChangeShapes Go.WideShapes Go.ChangeAt Go.RowKit
open Go.ChangeMaps (open_string shut_string)
open RM
set_option linter.unusedVariables false

theorem laidOut : laidOutB Tryd.prog = true := by kernel_rfl

set_option maxHeartbeats 4000000 in
theorem walk0 (R : Int) (a : Option Addr) (n c : Nat) (rs : List Clu) (r : List Int) (ok : Bool) (w : World) (hr : Hid (r.length ≤ 2000000)) (hn : n ≤ maxLen) (hl : rs.length = n) (hA : ArgC w a rs) (hT0 : TabOk w)
    (hS : Hid (∀ w v, RdK w v R rs → Calls Tryd.prog 12 #[v] w fun e w' => RetI w r ok e w'))
    (hI : Hid (∀ w v, TabOk w → RdK w v R rs → Calls Tryd.prog 14 #[v] w fun e w' => RetI w r ok e w')) :
    Calls Tryd.prog 3 #[.agg #[.int .i64 R, .slice a n c]] w fun e w' => e = .returned (.bool true) ∧ Below w.heap.size w w' := by
  replace hT0 := Lib.hid hT0
  obtain ⟨RNV, hRN⟩ : ∃ k : Nat, Hid (k = r.length) := ⟨_, Lib.hid rfl⟩
  have hrn : RNV ≤ 2000000 := by rw [hRN.out]; exact hr.out
  have hne : (ok != ok) = false := by simp
  have hnq : ¬ 1 + (RNV : Int) < 0 := by omega
  have hneq : ((1 : Int) + (RNV : Int) != 1 + (RNV : Int)) = false := by simp
  have hnk : ¬ 1 + 3 * (n : Int) < 0 := by omega
  have hbww := Lib.hid (Below.refl w.heap.size w)
  obtain ⟨w2, hw2⟩ : ∃ x, Hid (x = w.alloc (puzL R (.slice a n c))) := ⟨_, Lib.hid rfl⟩
  have hb := show Below w.heap.size w w2 by rw [hw2.out]; exact ba1 _ _
  have FAw2 := Lib.hid (show w2.heap[w.heap.size]? = some (puzL R (.slice a n c)) by rw [hw2.out]; exact hb_new _ _)
  have zw2 : w.heap.size ≤ w2.heap.size := Below.size (hb)
  have hbww2 := Lib.hid (hb)
  clear hb
  have yw2 : w2.heap.size = w.heap.size + 1 := by rw [hw2.out]; simp
  have hZ := Lib.hid (szPuzzle_any R a n c rs w2 hn hl (hA.below hbww2.out))
  replace hA := Lib.hid hA
  replace hl := Lib.hid hl
  have cA0 : w2.cell? ⟨w.heap.size, 0, none⟩ = some (.int .i64 R) := hb_cell FAw2.out 0
  have cA1 : w2.cell? ⟨w.heap.size, 1, none⟩ = some ((.slice a n c)) := hb_cell FAw2.out 1
  have cAl := hb_lt FAw2.out
  go_enter Tryd.func3, Tryd.ntmps3
  go_wp2_with fail
  rw [← hw2.out]
  refine (hZ.out).mono ?_; rintro e w3 ⟨lf, rfl, hb, hlf⟩
  by_cases hneg : lf < 0
  · go_wp2_with fail
    go_ret; exact ⟨rfl, bt1 hbww2.out hb⟩
  have hT := Lib.hid fun w' (hbw : Below w.heap.size w w') => toPuzzle_any R a n c rs w' (hlf (by omega)) hl.out (hA.out.below hbw)
  have hn9 := hlf (by omega)
  clear hlf hZ
  clear cA0 cA1 cAl
  have FAw3 := Lib.hid (hb_below hb (hb_lt FAw2.out) FAw2.out)
  have zw3 : w2.heap.size ≤ w3.heap.size := Below.size (hb)
  have hbww3 := Lib.hid (bt1 hbww2.out hb)
  clear hb
  have cA0 : w3.cell? ⟨w.heap.size, 0, none⟩ = some (.int .i64 R) := hb_cell FAw3.out 0
  have cA1 : w3.cell? ⟨w.heap.size, 1, none⟩ = some ((.slice a n c)) := hb_cell FAw3.out 1
  have cAl := hb_lt FAw3.out
  go_wp2_with fail
  refine (hT.out w3 hbww3.out).mono ?_; rintro e w4 ⟨u0, rfl, ho0, hb⟩
  clear cA0 cA1 cAl
  have FAw4 := Lib.hid (hb_below hb (hb_lt FAw3.out) FAw3.out)
  have zw4 : w3.heap.size ≤ w4.heap.size := Below.size (hb)
  have hbww4 := Lib.hid (bt1 hbww3.out hb)
  replace ho0 := Lib.hid ho0
  clear hb
  go_wp2_with fail
  refine (hS.out w4 _ (OwnZ.mk ho0.out).rdk).mono ?_; rintro e w5 ⟨sv, rfl, hs0, hb⟩
  have FAw5 := Lib.hid (hb_below hb (hb_lt FAw4.out) FAw4.out)
  have zw5 : w4.heap.size ≤ w5.heap.size := Below.size (hb)
  have hbww5 := Lib.hid (bt1 hbww4.out hb)
  clear hb
  have osw5 := Lib.hid hs0
  have lts : Hid (∀ k, Value.ownBlock (sv) = some k → w4.heap.size ≤ k ∧ k < w5.heap.size) := Lib.hid (fun k e => osw5.out.lt k e)
  clear hs0
  have cA0 : w5.cell? ⟨w.heap.size, 0, none⟩ = some (.int .i64 R) := hb_cell FAw5.out 0
  have cA1 : w5.cell? ⟨w.heap.size, 1, none⟩ = some ((.slice a n c)) := hb_cell FAw5.out 1
  have cAl := hb_lt FAw5.out
  go_wp2_with fail
  refine (hT.out w5 hbww5.out).mono ?_; rintro e w6 ⟨x0, rfl, ho0, hb⟩
  obtain ⟨px, cx, rfl⟩ : ∃ p c, x0 = .slice p n c := by
    obtain ⟨p, c, e, _⟩ := ho0.rd
    exact ⟨p, c, by rw [e, hl.out]⟩
  clear cA0 cA1 cAl
  have FAw6 := Lib.hid (hb_below hb (hb_lt FAw5.out) FAw5.out)
  have osw6 := Lib.hid (osw5.out.below hb)
  have zw6 : w5.heap.size ≤ w6.heap.size := Below.size (hb)
  have hbww6 := Lib.hid (bt1 hbww5.out hb)
  clear hb
  have oxw6 := Lib.hid ho0
  have ltx : Hid (∀ k, Value.ownBlock (.slice px n cx) = some k → w5.heap.size ≤ k ∧ k < w6.heap.size) := Lib.hid (fun k e => oxw6.out.lt k e)
  clear ho0
  obtain ⟨w7, hw7⟩ : ∃ x, Hid (x = w6.alloc (puzO R (.slice px n cx))) := ⟨_, Lib.hid rfl⟩
  have hb := show Below w6.heap.size w6 w7 by rw [hw7.out]; exact ba1 _ _
  have FXw7 := Lib.hid (show w7.heap[w6.heap.size]? = some (puzO R (.slice px n cx)) by rw [hw7.out]; exact hb_new _ _)
  have FAw7 := Lib.hid (hb_below hb (hb_lt FAw6.out) FAw6.out)
  have osw7 := Lib.hid (osw6.out.below hb)
  have oxw7 := Lib.hid (oxw6.out.below hb)
  have zw7 : w6.heap.size ≤ w7.heap.size := Below.size (hb)
  have hbww7 := Lib.hid (bt1 hbww6.out hb)
  clear hb
  have yw7 : w7.heap.size = w6.heap.size + 1 := by rw [hw7.out]; simp
  have cX0 : w7.cell? ⟨w6.heap.size, 0, none⟩ = some (.int .i64 R) := hb_cell FXw7.out 0
  have cX1 : w7.cell? ⟨w6.heap.size, 1, none⟩ = some ((.slice px n cx)) := hb_cell FXw7.out 1
  have cXl := hb_lt FXw7.out
  go_wp2_with fail
  rw [← hw7.out]
  refine (hI.out w7 _ (hT0.out.below hbww7.out) (OwnZ.mk oxw7.out).rdk).mono ?_; rintro e w8 ⟨gv, rfl, hg0, hb⟩
  clear cX0 cX1 cXl
  have FAw8 := Lib.hid (hb_below hb (hb_lt FAw7.out) FAw7.out)
  have FXw8 := Lib.hid (hb_below hb (hb_lt FXw7.out) FXw7.out)
  have osw8 := Lib.hid (osw7.out.below hb)
  have oxw8 := Lib.hid (oxw7.out.below hb)
  have zw8 : w7.heap.size ≤ w8.heap.size := Below.size (hb)
  have hbww8 := Lib.hid (bt1 hbww7.out hb)
  clear hb
  have ogw8 := Lib.hid hg0
  have ltg : Hid (∀ k, Value.ownBlock (gv) = some k → w7.heap.size ≤ k ∧ k < w8.heap.size) := Lib.hid (fun k e => ogw8.out.lt k e)
  clear hg0
  go_wp2_with fail
  refine (eqIntS_same _ _ r _ _ _ ogw8.out osw8.out).mono ?_; rintro e w9 ⟨rfl, hq⟩
  have hb : Below w8.heap.size w8 w9 := by obtain ⟨q, rfl⟩ := hq; exact below_drewN (Below.refl _ _) q
  clear hq
  have FAw9 := Lib.hid (hb_below hb (hb_lt FAw8.out) FAw8.out)
  have FXw9 := Lib.hid (hb_below hb (hb_lt FXw8.out) FXw8.out)
  have osw9 := Lib.hid (osw8.out.below hb)
  have oxw9 := Lib.hid (oxw8.out.below hb)
  have ogw9 := Lib.hid (ogw8.out.below hb)
  have zw9 : w8.heap.size ≤ w9.heap.size := Below.size (hb)
  have hbww9 := Lib.hid (bt1 hbww8.out hb)
  clear hb
  have cX0 : w9.cell? ⟨w6.heap.size, 0, none⟩ = some (.int .i64 R) := hb_cell FXw9.out 0
  have cX1 : w9.cell? ⟨w6.heap.size, 1, none⟩ = some ((.slice px n cx)) := hb_cell FXw9.out 1
  have cXl := hb_lt FXw9.out
  have cA0 : w9.cell? ⟨w.heap.size, 0, none⟩ = some (.int .i64 R) := hb_cell FAw9.out 0
  have cA1 : w9.cell? ⟨w.heap.size, 1, none⟩ = some ((.slice a n c)) := hb_cell FAw9.out 1
  have cAl := hb_lt FAw9.out
  go_wp2_with fail
  have hrf : Z2 w6.heap.size w.heap.size w9.heap.size R (.slice px n cx) (.slice a n c) w9 w9 := ⟨⟨cX0, cX1⟩, ⟨cA0, cA1⟩, cXl, cAl, Below.refl _ _⟩
  go_region_held3 (fun v => Z2 w6.heap.size w.heap.size w9.heap.size R (.slice px n cx) (.slice a n c) w9 v) ((first | assumption | (refine ⟨⟨?_, ?_⟩, ⟨?_, ?_⟩, ?_, ?_, ?_⟩ <;> first | assumption | go_keep | omega | exact (Below.refl _ _).drew)))
    (first | (go_at_call 13; with_reducible refine (hT.out _ (bt1 hbww9.out (keepZF (by assumption)))).mono ?_; rintro e w' ⟨v9, rfl, ho9, hb9⟩; have ho9 := Lib.hid ho9; have hbn := keepZ (keepZl (by assumption)) hb9 (by assumption)) | (go_at_call 16; with_reducible refine (eqPuzzle_same _ _ R rs _ _ _ (OwnZ.mk (oxw9.out.below (keepZF (by assumption)))) (OwnZ.mk ho9.out)).mono ?_; rintro e w' ⟨rfl, hb9⟩; have hbn := keepZ (keepZl (by assumption)) hb9 (by assumption)))
  have hb := keepZF (by assumption)
  rename World => w10
  clear cX0 cX1 cXl cA0 cA1 cAl hrf
  have FAw10 := Lib.hid (hb_below hb (hb_lt FAw9.out) FAw9.out)
  have FXw10 := Lib.hid (hb_below hb (hb_lt FXw9.out) FXw9.out)
  have osw10 := Lib.hid (osw9.out.below hb)
  have oxw10 := Lib.hid (oxw9.out.below hb)
  have ogw10 := Lib.hid (ogw9.out.below hb)
  have zw10 : w9.heap.size ≤ w10.heap.size := Below.size (hb)
  have hbww10 := Lib.hid (bt1 hbww9.out hb)
  clear hb
  have cX0 : w10.cell? ⟨w6.heap.size, 0, none⟩ = some (.int .i64 R) := hb_cell FXw10.out 0
  have cX1 : w10.cell? ⟨w6.heap.size, 1, none⟩ = some ((.slice px n cx)) := hb_cell FXw10.out 1
  have cXl := hb_lt FXw10.out
  go_wp2_with fail
  refine (markPuzzle_any R (.slice px n cx) rs _ w10 (by rw [hl.out]; omega) oxw10.out).mono ?_; rintro e w11 ⟨rfl, hox, hg⟩
  clear cX0 cX1 cXl
  rw [hl.out]
  have zw11 : w10.heap.size ≤ w11.heap.size := hg.size
  have FAw11 := Lib.hid ((hg.block _ (hb_lt FAw10.out) (fun e => by have h1 := ltx.out _ e.symm; omega)).trans FAw10.out)
  have FXw11 := Lib.hid ((hg.block _ (hb_lt FXw10.out) (fun e => by have h1 := ltx.out _ e.symm; omega)).trans FXw10.out)
  have osw11 := Lib.hid (osw10.out.kept hg (ne_rows lts.out ltx.out (by omega)))
  have ogw11 := Lib.hid (ogw10.out.kept hg (ne_rows ltg.out ltx.out (by omega)))
  have hbww11 := Lib.hid (hbww10.out.grown hg hbww10.out.size (fun k e => by have h1 := ltx.out k e; omega))
  clear hg
  clear hox
  go_wp2_with fail
  refine (eqIntS_same _ _ r _ _ _ ogw11.out osw11.out).mono ?_; rintro e w12 ⟨rfl, hq⟩
  have hb : Below w11.heap.size w11 w12 := by obtain ⟨q, rfl⟩ := hq; exact below_drewN (Below.refl _ _) q
  clear hq
  have FAw12 := Lib.hid (hb_below hb (hb_lt FAw11.out) FAw11.out)
  have FXw12 := Lib.hid (hb_below hb (hb_lt FXw11.out) FXw11.out)
  have osw12 := Lib.hid (osw11.out.below hb)
  have ogw12 := Lib.hid (ogw11.out.below hb)
  have zw12 : w11.heap.size ≤ w12.heap.size := Below.size (hb)
  have hbww12 := Lib.hid (bt1 hbww11.out hb)
  clear hb
  go_wp2_with fail
  refine (markIntS_any gv r _ w12 (by have := hr.out; omega) ogw12.out).mono ?_; rintro e w13 ⟨rfl, hox, hg⟩
  rw [← hRN.out]
  have zw13 : w12.heap.size ≤ w13.heap.size := hg.size
  have FAw13 := Lib.hid ((hg.block _ (hb_lt FAw12.out) (fun e => by have h1 := ltg.out _ e.symm; omega)).trans FAw12.out)
  have FXw13 := Lib.hid ((hg.block _ (hb_lt FXw12.out) (fun e => by have h1 := ltg.out _ e.symm; omega)).trans FXw12.out)
  have osw13 := Lib.hid (osw12.out.kept hg (ne_rows lts.out ltg.out (by omega)))
  have hbww13 := Lib.hid (hbww12.out.grown hg hbww12.out.size (fun k e => by have h1 := ltg.out k e; omega))
  clear hg
  have ogw13 := Lib.hid hox
  clear hox
  go_wp2_with fail
  refine (heldIntS_any gv r.length _ w13 (by have := hr.out; omega) ogw13.out).mono ?_; rintro e w14 ⟨rfl, hq⟩
  have hb : Below w13.heap.size w13 w14 := by subst hq; exact Below.refl _ _
  clear hq
  rw [← hRN.out]
  have FAw14 := Lib.hid (hb_below hb (hb_lt FAw13.out) FAw13.out)
  have FXw14 := Lib.hid (hb_below hb (hb_lt FXw13.out) FXw13.out)
  have osw14 := Lib.hid (osw13.out.below hb)
  have ogw14 := Lib.hid (ogw13.out.below hb)
  have zw14 : w13.heap.size ≤ w14.heap.size := Below.size (hb)
  have hbww14 := Lib.hid (bt1 hbww13.out hb)
  clear hb
  have cA0 : w14.cell? ⟨w.heap.size, 0, none⟩ = some (.int .i64 R) := hb_cell FAw14.out 0
  have cA1 : w14.cell? ⟨w.heap.size, 1, none⟩ = some ((.slice a n c)) := hb_cell FAw14.out 1
  have cAl := hb_lt FAw14.out
  go_wp2_with fail
  refine (hT.out w14 hbww14.out).mono ?_; rintro e w15 ⟨u7, rfl, ho0, hb⟩
  clear cA0 cA1 cAl
  have FAw15 := Lib.hid (hb_below hb (hb_lt FAw14.out) FAw14.out)
  have FXw15 := Lib.hid (hb_below hb (hb_lt FXw14.out) FXw14.out)
  have osw15 := Lib.hid (osw14.out.below hb)
  have ogw15 := Lib.hid (ogw14.out.below hb)
  have zw15 : w14.heap.size ≤ w15.heap.size := Below.size (hb)
  have hbww15 := Lib.hid (bt1 hbww14.out hb)
  replace ho0 := Lib.hid ho0
  clear hb
  go_wp2_with fail
  refine (hI.out w15 _ (hT0.out.below hbww15.out) (OwnZ.mk ho0.out).rdk).mono ?_; rintro e w16 ⟨hv, rfl, hh0, hb⟩
  have FAw16 := Lib.hid (hb_below hb (hb_lt FAw15.out) FAw15.out)
  have FXw16 := Lib.hid (hb_below hb (hb_lt FXw15.out) FXw15.out)
  have osw16 := Lib.hid (osw15.out.below hb)
  have ogw16 := Lib.hid (ogw15.out.below hb)
  have zw16 : w15.heap.size ≤ w16.heap.size := Below.size (hb)
  have hbww16 := Lib.hid (bt1 hbww15.out hb)
  clear hb
  have ohw16 := Lib.hid hh0
  have lth : Hid (∀ k, Value.ownBlock (hv) = some k → w15.heap.size ≤ k ∧ k < w16.heap.size) := Lib.hid (fun k e => ohw16.out.lt k e)
  clear hh0
  go_wp2_with fail
  refine (eqIntS_same _ _ r _ _ _ ohw16.out osw16.out).mono ?_; rintro e w17 ⟨rfl, hq⟩
  have hb : Below w16.heap.size w16 w17 := by obtain ⟨q, rfl⟩ := hq; exact below_drewN (Below.refl _ _) q
  clear hq
  have FAw17 := Lib.hid (hb_below hb (hb_lt FAw16.out) FAw16.out)
  have FXw17 := Lib.hid (hb_below hb (hb_lt FXw16.out) FXw16.out)
  have osw17 := Lib.hid (osw16.out.below hb)
  have ogw17 := Lib.hid (ogw16.out.below hb)
  have ohw17 := Lib.hid (ohw16.out.below hb)
  have zw17 : w16.heap.size ≤ w17.heap.size := Below.size (hb)
  have hbww17 := Lib.hid (bt1 hbww16.out hb)
  clear hb
  go_wp2_with fail
  refine (heldIntS_any gv r.length _ w17 (by have := hr.out; omega) ogw17.out).mono ?_; rintro e w18 ⟨rfl, hq⟩
  have hb : Below w17.heap.size w17 w18 := by subst hq; exact Below.refl _ _
  clear hq
  rw [← hRN.out]
  have FAw18 := Lib.hid (hb_below hb (hb_lt FAw17.out) FAw17.out)
  have FXw18 := Lib.hid (hb_below hb (hb_lt FXw17.out) FXw17.out)
  have osw18 := Lib.hid (osw17.out.below hb)
  have ogw18 := Lib.hid (ogw17.out.below hb)
  have ohw18 := Lib.hid (ohw17.out.below hb)
  have zw18 : w17.heap.size ≤ w18.heap.size := Below.size (hb)
  have hbww18 := Lib.hid (bt1 hbww17.out hb)
  clear hb
  go_wp2_with fail
  go_ret; exact ⟨rfl, hbww18.out⟩
theorem walk (R : Int) (a : Option Addr) (n c : Nat) (rs : List Clu) (hn : n ≤ maxLen) (hl : rs.length = n) (w : World) (hA : ArgC w a rs) (hT0 : TabOk w) :
    Calls Tryd.prog 3 #[.agg #[.int .i64 R, .slice a n c]] w fun e w' => e = .returned (.bool true) ∧ Below w.heap.size w w' := by
  obtain ⟨r, ok, hr, hS, hI⟩ := NeedlessClues_both R rs
  exact walk0 R a n c rs r ok w (Lib.hid hr) hn hl hA hT0 (Lib.hid hS) (Lib.hid hI)

set_option maxRecDepth 100000 in
/-- what the walk gives, for every argument and every world that holds the tables -/
theorem contract (H : Type) (enc : TypeId × Value → H) (W : World) (base : Nat) (args : Array Value) (ds gs : List (DataW H)) (before : List MemPlace)
    (hval : ∀ (j : Nat) t v, Tryd.f3.params[j]? = some t → args[j]? = some v → Value.okWide Tryd.prog W .any base t v)
    (hW : DataW.Whole enc Tryd.prog Tryd.f3.params.toList Rows.fnExactNeedlessCluesSpec.vars false W args.toList ds gs before) (hL : laidMetH Tryd.prog Rows.fnExactNeedlessCluesRow.laid W) :
    Calls Tryd.prog 3 args W fun e W' => ∃ v, e = .returned v ∧ Rows.fnExactNeedlessCluesSpec.post enc Tryd.prog Tryd.f3 false true false false W args v W' := by
  have hW' := hW
  obtain ⟨p, q, hA0, hV, rfl, hfz, hnd⟩ := hW
  have hA : DataW.TrodAll enc Tryd.prog W 0 (fun _ => true) true Tryd.f3.params.toList args.toList ds p := hA0
  rw [Tryd.params3] at hA hval
  obtain ⟨v0, vs0, d0, ds0, p0, q0, hargs, rfl, rfl, h0, r0⟩ := trodAll_cons hA
  obtain ⟨rfl, rfl, rfl⟩ := trodAll_nil r0
  obtain rfl : args = #[v0] := by cases args; simp_all
  obtain ⟨rfl, rfl⟩ := trodVars_none hV
  have k0 := h0
  have lt0 : ∀ x ∈ p0, x.block < W.heap.size := by obtain ⟨m, hm⟩ := k0; exact DataW.trod_lt m _ _ _ hm
  obtain ⟨R0, a0, n0, c0, ss0, rfl, wR0, hn0, hl0, gT0⟩ := open_puzzle (hval 0 24 v0 rfl rfl) h0
  clear hA0
  refine (walk R0 a0 n0 c0 ss0 hn0 hl0 W gT0 (tabOk hL)).mono fun e W' ⟨he, bel⟩ => ?_
  subst he
  exact ⟨_, rfl, _, _, _, [], _, [], hW', trodAll_mk1 (shut_bool Tryd.underlying4 _), (trodAll_cons_mk (Below.trod laidOut (by kernel_rfl) (of_decide_eq_true (by kernel_rfl)) k0 bel lt0) trodAll_mk0), rfl, bel.frame _, fun h => by cases h⟩

theorem reads (os : Os) {H : Type} (enc : TypeId × Value → H) : ∃ places, DataW.whole enc Tryd.prog ((laidWorld os).forCall (fun _ _ => 0) ⟨#[], #[.agg #[.int .i64 0, .slice none 0 0]], []⟩).memory Tryd.f3.params.toList Rows.fnExactNeedlessCluesSpec.vars false (#[.agg #[.int .i64 0, .slice none 0 0]] : Array Value).toList 8 = some ([.agg [.lit (.int .i64 0), .nil]], [], places) :=
  ⟨[], by kernel_rfl⟩

set_option maxRecDepth 100000 in
theorem lifted (os : Os) (started : os.Started) (H : Type) (enc : TypeId × Value → H) (F : Stop.Interp) :
    ReturnsInHanded {} Tryd.checked os 3 .any ((OpenSpec.ofChange Rows.fnExactNeedlessCluesSpec).preRow enc Tryd.prog Tryd.f3 Rows.fnExactNeedlessCluesRow.domain false Rows.fnExactNeedlessCluesRow.laid) (((OpenSpec.ofChange Rows.fnExactNeedlessCluesSpec).at F).post enc Tryd.prog Tryd.f3 false true false false) := by
  obtain ⟨places, hx⟩ := reads os enc
  refine returnsInHanded_of_row (C := Tryd.checked) (s := OpenSpec.ofChange Rows.fnExactNeedlessCluesSpec) own started (by kernel_rfl) Tryd.func3
    (witness_row_at (enc := enc) (C := Tryd.checked) false (laidWorld os) #[.agg #[.int .i64 0, .slice none 0 0]] rfl (by kernel_rfl) (by kernel_rfl) (by kernel_rfl)
      (OpenSpec.preRow_of_cond 8 hx (by kernel_rfl) (fun k hk => by cases hk) (by kernel_rfl) (laid_met os _))) ?_
  intro W base args ds gs before hval hW _ _ _ hL _ _
  exact contract H enc W base args ds gs before hval hW hL

theorem said : Rows.FnExactNeedlessCluesSaid :=
  OpenClaim.holds_of_cond 3 Tryd.f3 rfl rfl rfl rfl rfl rfl rfl ⟨rfl, rfl, rfl, rfl, rfl⟩ rfl rfl rfl rfl rfl (by kernel_rfl) Tryd.func3 (by kernel_rfl)
    (of_decide_eq_true (by kernel_rfl)) (by unfold Func.isWrapper; first | (rw [if_pos (by decide +kernel)]; kernel_rfl) | (rw [if_neg (by decide +kernel)]; exact ⟨rfl, rfl⟩))
    (fun os started H enc _ F => by rw [OpenClaim.pre_eq_preRow]; exact lifted os started H enc F)

/-- no parameter wants a stand-in; the program's own looks are off: what the card asks -/
theorem plain (f : FuncId) (fn : Func) (hf : Tryd.pinned.checked.prog.funcNamed "loop.example/g01314/laws.FnExactNeedlessClues" = some f) (hfn : Tryd.pinned.checked.prog.funcs[f]? = some fn) :
    true = Tryd.pinned.checked.prog.looks [] ∧ ∀ (j : Nat) t, fn.params[j]? = some t → Tryd.pinned.checked.prog.wantsStandIn t = false := by
  obtain rfl : f = 3 := Option.some.inj ((show Tryd.prog.funcNamed "loop.example/g01314/laws.FnExactNeedlessClues" = some 3 by kernel_rfl).symm.trans hf) |>.symm
  obtain rfl : fn = Tryd.f3 := (Option.some.inj (Tryd.func3.symm.trans hfn)).symm
  refine ⟨by kernel_rfl, fun j t ht => ?_⟩
  rw [Tryd.params3] at ht
  have hm := Array.mem_of_getElem? ht
  simp at hm
  rcases hm with rfl
  · exact (show Tryd.prog.wantsStandIn 24 = false by kernel_rfl)

/-- the statement -/
theorem card : Rows.FnExactNeedlessCluesCardSaid :=
  Claim7.holds_tied_plain_at .later [] _ _ _ _ said (fun _ h => by cases h) (by kernel_rfl) (fun _ h => by cases h) fnExactNeedlessClues_row_tie rfl ⟨rfl, rfl⟩ (by kernel_rfl) rfl plain (by kernel_rfl)
#print axioms card
end Go.Proofs.YtmjeilimdnngpaaDoor.fnExactNeedlessClues
