/-
  For every box (numbers and texts as they may be) and every other argument, the program's FirstTurns answers as the model does, in memory of its own; what was given is as it was, and nothing that was there is written. No condition.
-/
import Derived.Test.YtjlecipeoaohiaaRows
import Derived.Test.YtjlecipeoaohiaaYK
import Derived.Test.YtjlecipeoaohiaaRR2
import Derived.Test.YtjlecipeoaohiaaX8
import Derived.ProofKit
import Derived.OpenShut
import Derived.ShutString
import Derived.ChangeOld
namespace Go.Proofs.Ytjlecipeoaohiaa.fnExactFirstTurns
open Go.ChangeShapes Go.WideShapes Go.ChangeAt Go.RowKit
open Go.ChangeMaps (open_string shut_string)
open RM
set_option linter.unusedVariables false

theorem own : ownKnob Try.prog.godebug = none := by kernel_rfl
theorem laidOut : laidOutB Try.prog = true := by kernel_rfl

set_option maxHeartbeats 4000000 in
theorem walk0 (P S : Int) (a : Option Addr) (n c : Nat) (rs : List ByteArray) (s1 : ByteArray) (s2 : ByteArray) (r : List (List Int)) (ok : Bool) (w : World) (g1 : ¬ 1048576 < s1.size) (g2 : ¬ 1048576 < s2.size) (hr : Hid (ssum r ≤ 2000000 ∧ r.length ≤ 1000000)) (hn : n ≤ maxLen) (hl : rs.length = n) (hz : ∀ s ∈ rs, s.size ≤ maxLen) (hA : ArgT w a rs)
    (hS : Hid (∀ w v, RdX w v P S rs → Calls Try.prog 27 #[v, .string s1, .string s2] w fun e w' => RetSS w r ok e w'))
    (hI : Hid (∀ w v, RdX w v P S rs → Calls Try.prog 28 #[v, .string s1, .string s2] w fun e w' => RetSS w r ok e w')) :
    Calls Try.prog 6 #[.agg #[.int .i64 P, .int .i64 S, .slice a n c], .string s1, .string s2] w fun e w' => e = .returned (.bool true) ∧ Below w.heap.size w w' := by
  obtain ⟨RNV, hRN⟩ : ∃ k : Nat, Hid (k = ssum r) := ⟨_, Lib.hid rfl⟩
  have hrn : RNV ≤ 2000000 := by rw [hRN.out]; exact hr.out.1
  have hne : (ok != ok) = false := by simp
  have hnq : ¬ 1 + (RNV : Int) < 0 := by omega
  have hneq : ((1 : Int) + (RNV : Int) != 1 + (RNV : Int)) = false := by simp
  have hnk : ¬ 1 + (n : Int) < 0 := by omega
  have hbww := Lib.hid (Below.refl w.heap.size w)
  obtain ⟨w2, hw2⟩ : ∃ x, Hid (x = w.alloc (boxL P S (.slice a n c))) := ⟨_, Lib.hid rfl⟩
  have hb := show Below w.heap.size w w2 by rw [hw2.out]; exact ba1 _ _
  have FAw2 := Lib.hid (show w2.heap[w.heap.size]? = some (boxL P S (.slice a n c)) by rw [hw2.out]; exact hb_new _ _)
  have zw2 : w.heap.size ≤ w2.heap.size := Below.size (hb)
  have hbww2 := Lib.hid (hb)
  clear hb
  have yw2 : w2.heap.size = w.heap.size + 1 := by rw [hw2.out]; simp
  have hZ := Lib.hid (szBox_any P S a n c rs w2 hn hl hz (hA.below hbww2.out))
  replace hA := Lib.hid hA
  replace hl := Lib.hid hl
  clear hz
  have cA0 : w2.cell? ⟨w.heap.size, 0, none⟩ = some (.int .i64 P) := hb_cell FAw2.out 0
  have cA1 : w2.cell? ⟨w.heap.size, 1, none⟩ = some (.int .i64 S) := hb_cell FAw2.out 1
  have cA2 : w2.cell? ⟨w.heap.size, 2, none⟩ = some ((.slice a n c)) := hb_cell FAw2.out 2
  have cAl := hb_lt FAw2.out
  go_enter Try.func6, Try.ntmps6
  go_wp2_with fail
  rw [← hw2.out]
  refine (hZ.out).mono ?_; rintro e w3 ⟨lf, rfl, hb, hlf⟩
  by_cases hneg : lf < 0
  · go_wp2_with fail
    go_ret; exact ⟨rfl, bt1 hbww2.out hb⟩
  have hT := Lib.hid fun w' (hbw : Below w.heap.size w w') => toBox_any P S a n c rs w' (hlf (by omega)) hl.out (hA.out.below hbw)
  have hn9 := hlf (by omega)
  clear hlf hZ
  clear cA0 cA1 cA2 cAl
  have FAw3 := Lib.hid (hb_below hb (hb_lt FAw2.out) FAw2.out)
  have zw3 : w2.heap.size ≤ w3.heap.size := Below.size (hb)
  have hbww3 := Lib.hid (bt1 hbww2.out hb)
  clear hb
  have cA0 : w3.cell? ⟨w.heap.size, 0, none⟩ = some (.int .i64 P) := hb_cell FAw3.out 0
  have cA1 : w3.cell? ⟨w.heap.size, 1, none⟩ = some (.int .i64 S) := hb_cell FAw3.out 1
  have cA2 : w3.cell? ⟨w.heap.size, 2, none⟩ = some ((.slice a n c)) := hb_cell FAw3.out 2
  have cAl := hb_lt FAw3.out
  go_wp2_with fail
  refine (hT.out w3 hbww3.out).mono ?_; rintro e w4 ⟨u0, rfl, ho0, hb⟩
  clear cA0 cA1 cA2 cAl
  have FAw4 := Lib.hid (hb_below hb (hb_lt FAw3.out) FAw3.out)
  have zw4 : w3.heap.size ≤ w4.heap.size := Below.size (hb)
  have hbww4 := Lib.hid (bt1 hbww3.out hb)
  replace ho0 := Lib.hid ho0
  clear hb
  go_wp2_with fail
  refine (hS.out w4 _ ⟨_, rfl, (ownT_G ho0.out).rd⟩).mono ?_; rintro e w5 ⟨sv, rfl, hs0, hb⟩
  have FAw5 := Lib.hid (hb_below hb (hb_lt FAw4.out) FAw4.out)
  have zw5 : w4.heap.size ≤ w5.heap.size := Below.size (hb)
  have hbww5 := Lib.hid (bt1 hbww4.out hb)
  clear hb
  have osw5 := Lib.hid hs0
  have lts : Hid (∀ k, Value.ownBlock (sv) = some k → w4.heap.size ≤ k ∧ k < w5.heap.size) := Lib.hid (fun k e => osw5.out.lt k e)
  clear hs0
  have cA0 : w5.cell? ⟨w.heap.size, 0, none⟩ = some (.int .i64 P) := hb_cell FAw5.out 0
  have cA1 : w5.cell? ⟨w.heap.size, 1, none⟩ = some (.int .i64 S) := hb_cell FAw5.out 1
  have cA2 : w5.cell? ⟨w.heap.size, 2, none⟩ = some ((.slice a n c)) := hb_cell FAw5.out 2
  have cAl := hb_lt FAw5.out
  go_wp2_with fail
  refine (hT.out w5 hbww5.out).mono ?_; rintro e w6 ⟨x0, rfl, ho0, hb⟩
  obtain ⟨px, cx, rfl⟩ : ∃ p c, x0 = .slice p n c := by
    obtain ⟨p, c, e, _⟩ := (ownT_G ho0).rd
    exact ⟨p, c, by rw [e, hl.out]⟩
  clear cA0 cA1 cA2 cAl
  have FAw6 := Lib.hid (hb_below hb (hb_lt FAw5.out) FAw5.out)
  have osw6 := Lib.hid (osw5.out.below hb)
  have zw6 : w5.heap.size ≤ w6.heap.size := Below.size (hb)
  have hbww6 := Lib.hid (bt1 hbww5.out hb)
  have hbsw6 := Lib.hid (hb)
  clear hb
  have oxw6 := Lib.hid ho0
  have ltx : Hid (∀ k, Value.ownBlock (.slice px n cx) = some k → w5.heap.size ≤ k ∧ k < w6.heap.size) := Lib.hid (fun k e => oxw6.out.lt k e)
  clear ho0
  obtain ⟨w7, hw7⟩ : ∃ x, Hid (x = w6.alloc (boxO P S (.slice px n cx))) := ⟨_, Lib.hid rfl⟩
  have hb := show Below w6.heap.size w6 w7 by rw [hw7.out]; exact ba1 _ _
  have FXw7 := Lib.hid (show w7.heap[w6.heap.size]? = some (boxO P S (.slice px n cx)) by rw [hw7.out]; exact hb_new _ _)
  have FAw7 := Lib.hid (hb_below hb (hb_lt FAw6.out) FAw6.out)
  have osw7 := Lib.hid (osw6.out.below hb)
  have oxw7 := Lib.hid (oxw6.out.below hb)
  have zw7 : w6.heap.size ≤ w7.heap.size := Below.size (hb)
  have hbww7 := Lib.hid (bt1 hbww6.out hb)
  have hbsw7 := Lib.hid (bt1 hbsw6.out hb)
  clear hb
  have yw7 : w7.heap.size = w6.heap.size + 1 := by rw [hw7.out]; simp
  have cX0 : w7.cell? ⟨w6.heap.size, 0, none⟩ = some (.int .i64 P) := hb_cell FXw7.out 0
  have cX1 : w7.cell? ⟨w6.heap.size, 1, none⟩ = some (.int .i64 S) := hb_cell FXw7.out 1
  have cX2 : w7.cell? ⟨w6.heap.size, 2, none⟩ = some ((.slice px n cx)) := hb_cell FXw7.out 2
  have cXl := hb_lt FXw7.out
  go_wp2_with fail
  rw [← hw7.out]
  refine (hI.out w7 _ ⟨_, rfl, (ownT_G oxw7.out).rd⟩).mono ?_; rintro e w8 ⟨gv, rfl, hg0, hb⟩
  clear cX0 cX1 cX2 cXl
  have FAw8 := Lib.hid (hb_below hb (hb_lt FAw7.out) FAw7.out)
  have FXw8 := Lib.hid (hb_below hb (hb_lt FXw7.out) FXw7.out)
  have osw8 := Lib.hid (osw7.out.below hb)
  have oxw8 := Lib.hid (oxw7.out.below hb)
  have zw8 : w7.heap.size ≤ w8.heap.size := Below.size (hb)
  have hbww8 := Lib.hid (bt1 hbww7.out hb)
  have hbsw8 := Lib.hid (bt1 hbsw7.out hb)
  clear hb
  have ogw8 := Lib.hid hg0
  have ltg : Hid (∀ k, Value.ownBlock (gv) = some k → w7.heap.size ≤ k ∧ k < w8.heap.size) := Lib.hid (fun k e => ogw8.out.lt k e)
  clear hg0
  go_wp2_with fail
  refine (eqIntSS_same _ _ r _ _ _ ogw8.out osw8.out).mono ?_; rintro e w9 ⟨rfl, hq⟩
  have hb : Below w8.heap.size w8 w9 := by obtain ⟨q, rfl⟩ := hq; exact below_drewN (Below.refl _ _) q
  clear hq
  have FAw9 := Lib.hid (hb_below hb (hb_lt FAw8.out) FAw8.out)
  have FXw9 := Lib.hid (hb_below hb (hb_lt FXw8.out) FXw8.out)
  have osw9 := Lib.hid (osw8.out.below hb)
  have oxw9 := Lib.hid (oxw8.out.below hb)
  have ogw9 := Lib.hid (ogw8.out.below hb)
  have zw9 : w8.heap.size ≤ w9.heap.size := Below.size (hb)
  have hbww9 := Lib.hid (bt1 hbww8.out hb)
  have hbsw9 := Lib.hid (bt1 hbsw8.out hb)
  clear hb
  have cX0 : w9.cell? ⟨w6.heap.size, 0, none⟩ = some (.int .i64 P) := hb_cell FXw9.out 0
  have cX1 : w9.cell? ⟨w6.heap.size, 1, none⟩ = some (.int .i64 S) := hb_cell FXw9.out 1
  have cX2 : w9.cell? ⟨w6.heap.size, 2, none⟩ = some ((.slice px n cx)) := hb_cell FXw9.out 2
  have cXl := hb_lt FXw9.out
  have cA0 : w9.cell? ⟨w.heap.size, 0, none⟩ = some (.int .i64 P) := hb_cell FAw9.out 0
  have cA1 : w9.cell? ⟨w.heap.size, 1, none⟩ = some (.int .i64 S) := hb_cell FAw9.out 1
  have cA2 : w9.cell? ⟨w.heap.size, 2, none⟩ = some ((.slice a n c)) := hb_cell FAw9.out 2
  have cAl := hb_lt FAw9.out
  go_wp2_with fail
  have hrf : X2 w6.heap.size w.heap.size w9.heap.size P S (.slice px n cx) (.slice a n c) w9 w9 := ⟨⟨cX0, cX1, cX2⟩, ⟨cA0, cA1, cA2⟩, cXl, cAl, Below.refl _ _⟩
  go_region_held3 (fun v => X2 w6.heap.size w.heap.size w9.heap.size P S (.slice px n cx) (.slice a n c) w9 v) ((first | assumption | (refine ⟨⟨?_, ?_, ?_⟩, ⟨?_, ?_, ?_⟩, ?_, ?_, ?_⟩ <;> first | assumption | go_keep | omega | exact (Below.refl _ _).drew)))
    (first | (go_at_call 20; with_reducible refine (hT.out _ (bt1 hbww9.out (keepXF (by assumption)))).mono ?_; rintro e w' ⟨v9, rfl, ho9, hb9⟩; have ho9 := Lib.hid ho9; have hbn := keepX (keepXl (by assumption)) hb9 (by assumption)) | (go_at_call 15; with_reducible refine (eqBox_same _ _ P S rs _ _ _ (OwnX.mk (oxw9.out.below (keepXF (by assumption)))) (OwnX.mk ho9.out)).mono ?_; rintro e w' ⟨rfl, hb9⟩; have hbn := keepX (keepXl (by assumption)) hb9 (by assumption)))
  have hb := keepXF (by assumption)
  rename World => w10
  clear cX0 cX1 cX2 cXl cA0 cA1 cA2 cAl hrf
  have FAw10 := Lib.hid (hb_below hb (hb_lt FAw9.out) FAw9.out)
  have FXw10 := Lib.hid (hb_below hb (hb_lt FXw9.out) FXw9.out)
  have osw10 := Lib.hid (osw9.out.below hb)
  have oxw10 := Lib.hid (oxw9.out.below hb)
  have ogw10 := Lib.hid (ogw9.out.below hb)
  have zw10 : w9.heap.size ≤ w10.heap.size := Below.size (hb)
  have hbww10 := Lib.hid (bt1 hbww9.out hb)
  have hbsw10 := Lib.hid (bt1 hbsw9.out hb)
  clear hb
  have cX0 : w10.cell? ⟨w6.heap.size, 0, none⟩ = some (.int .i64 P) := hb_cell FXw10.out 0
  have cX1 : w10.cell? ⟨w6.heap.size, 1, none⟩ = some (.int .i64 S) := hb_cell FXw10.out 1
  have cX2 : w10.cell? ⟨w6.heap.size, 2, none⟩ = some ((.slice px n cx)) := hb_cell FXw10.out 2
  have cXl := hb_lt FXw10.out
  go_wp2_with fail
  refine (markBox_any P S (.slice px n cx) rs _ w10 (by rw [hl.out]; omega) oxw10.out).mono ?_; rintro e w11 ⟨rfl, hox, hg⟩
  clear cX0 cX1 cX2 cXl
  rw [hl.out]
  have zw11 : w10.heap.size ≤ w11.heap.size := hg.size
  have FAw11 := Lib.hid ((hg.block _ (hb_lt FAw10.out) (fun e => by have h1 := ltx.out _ e.symm; omega)).trans FAw10.out)
  have FXw11 := Lib.hid ((hg.block _ (hb_lt FXw10.out) (fun e => by have h1 := ltx.out _ e.symm; omega)).trans FXw10.out)
  have hbsw11 := Lib.hid (hbsw10.out.grown hg hbsw10.out.size (fun k e => by have h1 := ltx.out k e; omega))
  have osw11 := Lib.hid (osw5.out.below hbsw11.out)
  have ogw11 := Lib.hid (ogw10.out.keptHi hg (fun k e => by have h1 := ltx.out k e; omega))
  have hbww11 := Lib.hid (hbww10.out.grown hg hbww10.out.size (fun k e => by have h1 := ltx.out k e; omega))
  clear hg
  clear hox
  go_wp2_with fail
  refine (eqIntSS_same _ _ r _ _ _ ogw11.out osw11.out).mono ?_; rintro e w12 ⟨rfl, hq⟩
  have hb : Below w11.heap.size w11 w12 := by obtain ⟨q, rfl⟩ := hq; exact below_drewN (Below.refl _ _) q
  clear hq
  have FAw12 := Lib.hid (hb_below hb (hb_lt FAw11.out) FAw11.out)
  have FXw12 := Lib.hid (hb_below hb (hb_lt FXw11.out) FXw11.out)
  have osw12 := Lib.hid (osw11.out.below hb)
  have ogw12 := Lib.hid (ogw11.out.below hb)
  have zw12 : w11.heap.size ≤ w12.heap.size := Below.size (hb)
  have hbww12 := Lib.hid (bt1 hbww11.out hb)
  have hbsw12 := Lib.hid (bt1 hbsw11.out hb)
  clear hb
  go_wp2_with fail
  refine (markIntSS_any gv r _ w12 (by have := hr.out; omega) (by have := hr.out; omega) ogw12.out).mono ?_; rintro e w13 ⟨rfl, hox, hg⟩
  rw [← hRN.out]
  have zw13 : w12.heap.size ≤ w13.heap.size := hg.size
  have FAw13 := Lib.hid ((hg.block _ (by have h1 := hb_lt FAw7.out; omega)).trans FAw12.out)
  have FXw13 := Lib.hid ((hg.block _ (by have h1 := hb_lt FXw7.out; omega)).trans FXw12.out)
  have hbsw13 := Lib.hid (hbsw12.out.trans (hg.mono (by omega)))
  have osw13 := Lib.hid (osw5.out.below hbsw13.out)
  have hbww13 := Lib.hid (hbww12.out.trans (hg.mono (by omega)))
  clear hg
  have ogw13 := Lib.hid hox
  clear hox
  go_wp2_with fail
  refine (heldIntSS_any gv r _ w13 (by have := hr.out; omega) (by have := hr.out; omega) ogw13.out).mono ?_; rintro e w14 ⟨rfl, hb⟩
  rw [← hRN.out]
  have FAw14 := Lib.hid (hb_below hb (hb_lt FAw13.out) FAw13.out)
  have FXw14 := Lib.hid (hb_below hb (hb_lt FXw13.out) FXw13.out)
  have osw14 := Lib.hid (osw13.out.below hb)
  have ogw14 := Lib.hid (ogw13.out.below hb)
  have zw14 : w13.heap.size ≤ w14.heap.size := Below.size (hb)
  have hbww14 := Lib.hid (bt1 hbww13.out hb)
  have hbsw14 := Lib.hid (bt1 hbsw13.out hb)
  clear hb
  have cA0 : w14.cell? ⟨w.heap.size, 0, none⟩ = some (.int .i64 P) := hb_cell FAw14.out 0
  have cA1 : w14.cell? ⟨w.heap.size, 1, none⟩ = some (.int .i64 S) := hb_cell FAw14.out 1
  have cA2 : w14.cell? ⟨w.heap.size, 2, none⟩ = some ((.slice a n c)) := hb_cell FAw14.out 2
  have cAl := hb_lt FAw14.out
  go_wp2_with fail
  refine (hT.out w14 hbww14.out).mono ?_; rintro e w15 ⟨u7, rfl, ho0, hb⟩
  clear cA0 cA1 cA2 cAl
  have FAw15 := Lib.hid (hb_below hb (hb_lt FAw14.out) FAw14.out)
  have FXw15 := Lib.hid (hb_below hb (hb_lt FXw14.out) FXw14.out)
  have osw15 := Lib.hid (osw14.out.below hb)
  have ogw15 := Lib.hid (ogw14.out.below hb)
  have zw15 : w14.heap.size ≤ w15.heap.size := Below.size (hb)
  have hbww15 := Lib.hid (bt1 hbww14.out hb)
  have hbsw15 := Lib.hid (bt1 hbsw14.out hb)
  replace ho0 := Lib.hid ho0
  clear hb
  go_wp2_with fail
  refine (hI.out w15 _ ⟨_, rfl, (ownT_G ho0.out).rd⟩).mono ?_; rintro e w16 ⟨hv, rfl, hh0, hb⟩
  have FAw16 := Lib.hid (hb_below hb (hb_lt FAw15.out) FAw15.out)
  have FXw16 := Lib.hid (hb_below hb (hb_lt FXw15.out) FXw15.out)
  have osw16 := Lib.hid (osw15.out.below hb)
  have ogw16 := Lib.hid (ogw15.out.below hb)
  have zw16 : w15.heap.size ≤ w16.heap.size := Below.size (hb)
  have hbww16 := Lib.hid (bt1 hbww15.out hb)
  have hbsw16 := Lib.hid (bt1 hbsw15.out hb)
  clear hb
  have ohw16 := Lib.hid hh0
  have lth : Hid (∀ k, Value.ownBlock (hv) = some k → w15.heap.size ≤ k ∧ k < w16.heap.size) := Lib.hid (fun k e => ohw16.out.lt k e)
  clear hh0
  go_wp2_with fail
  refine (eqIntSS_same _ _ r _ _ _ ohw16.out osw16.out).mono ?_; rintro e w17 ⟨rfl, hq⟩
  have hb : Below w16.heap.size w16 w17 := by obtain ⟨q, rfl⟩ := hq; exact below_drewN (Below.refl _ _) q
  clear hq
  have FAw17 := Lib.hid (hb_below hb (hb_lt FAw16.out) FAw16.out)
  have FXw17 := Lib.hid (hb_below hb (hb_lt FXw16.out) FXw16.out)
  have osw17 := Lib.hid (osw16.out.below hb)
  have ogw17 := Lib.hid (ogw16.out.below hb)
  have ohw17 := Lib.hid (ohw16.out.below hb)
  have zw17 : w16.heap.size ≤ w17.heap.size := Below.size (hb)
  have hbww17 := Lib.hid (bt1 hbww16.out hb)
  have hbsw17 := Lib.hid (bt1 hbsw16.out hb)
  clear hb
  go_wp2_with fail
  refine (heldIntSS_any gv r _ w17 (by have := hr.out; omega) (by have := hr.out; omega) ogw17.out).mono ?_; rintro e w18 ⟨rfl, hb⟩
  rw [← hRN.out]
  have FAw18 := Lib.hid (hb_below hb (hb_lt FAw17.out) FAw17.out)
  have FXw18 := Lib.hid (hb_below hb (hb_lt FXw17.out) FXw17.out)
  have osw18 := Lib.hid (osw17.out.below hb)
  have ogw18 := Lib.hid (ogw17.out.below hb)
  have ohw18 := Lib.hid (ohw17.out.below hb)
  have zw18 : w17.heap.size ≤ w18.heap.size := Below.size (hb)
  have hbww18 := Lib.hid (bt1 hbww17.out hb)
  have hbsw18 := Lib.hid (bt1 hbsw17.out hb)
  clear hb
  go_wp2_with fail
  go_ret; exact ⟨rfl, hbww18.out⟩
theorem walk (P S : Int) (a : Option Addr) (n c : Nat) (rs : List ByteArray) (hn : n ≤ maxLen) (hl : rs.length = n) (hz : ∀ s ∈ rs, s.size ≤ maxLen) (s1 : ByteArray) (w1 : s1.size ≤ maxLen) (s2 : ByteArray) (w2 : s2.size ≤ maxLen) (w : World) (hA : ArgT w a rs) :
    Calls Try.prog 6 #[.agg #[.int .i64 P, .int .i64 S, .slice a n c], .string s1, .string s2] w fun e w' => e = .returned (.bool true) ∧ Below w.heap.size w w' := by
  by_cases g1 : 1048576 < s1.size
  · go_enter Try.func6, Try.ntmps6
    go_wp2_with fail
    go_ret; exact ⟨rfl, ba1 w _⟩
  by_cases g2 : 1048576 < s2.size
  · go_enter Try.func6, Try.ntmps6
    go_wp2_with fail
    go_ret; exact ⟨rfl, ba1 w _⟩
  obtain ⟨r, ok, hr, hS, hI⟩ := FirstTurns_both P S rs hz s1 s2 w1 w2
  exact walk0 P S a n c rs s1 s2 r ok w g1 g2 (Lib.hid hr) hn hl hz hA (Lib.hid hS) (Lib.hid hI)

set_option maxRecDepth 100000 in
theorem lifted (os : Os) (started : os.Started) (H : Type) (enc : TypeId × Value → H) :
    ReturnsInHanded {} Try.checked os 6 .any (Rows.fnExactFirstTurnsSpec.pre6 enc Try.prog Try.f6 Rows.fnExactFirstTurnsRow.domain false) (Rows.fnExactFirstTurnsSpec.post enc Try.prog Try.f6 false true false false) := by
  refine returnsInHanded_of_change (C := Try.checked) own started (by kernel_rfl) Try.func6
    (ChangeSpec.witness6 (enc := enc) (C := Try.checked) false ⟨#[], #[.agg #[.int .i64 0, .int .i64 0, .slice none 0 0], .string ByteArray.empty, .string ByteArray.empty], []⟩ 8 (by kernel_rfl) (by kernel_rfl) (by kernel_rfl) (by kernel_rfl)) ?_
  intro W base args ds gs before hval0 hW hcnd _
  have hval : ∀ (j : Nat) t v, Try.f6.params[j]? = some t → args[j]? = some v → Value.okWide Try.prog W .any base t v := hval0
  have hW' := hW
  obtain ⟨p, q, hA0, hV, rfl, hfz, hnd⟩ := hW
  have hA : DataW.TrodAll enc Try.prog W 0 (fun _ => true) true Try.f6.params.toList args.toList ds p := hA0
  rw [Try.params6] at hA hval
  obtain ⟨v0, vs0, d0, ds0, p0, q0, hargs, rfl, rfl, h0, r0⟩ := trodAll_cons hA
  obtain ⟨v1, vs1, d1, ds1, p1, q1, rfl, rfl, rfl, h1, r1⟩ := trodAll_cons r0
  obtain ⟨v2, vs2, d2, ds2, p2, q2, rfl, rfl, rfl, h2, r2⟩ := trodAll_cons r1
  obtain ⟨rfl, rfl, rfl⟩ := trodAll_nil r2
  obtain rfl : args = #[v0, v1, v2] := by cases args; simp_all
  obtain ⟨rfl, rfl⟩ := trodVars_none hV
  obtain ⟨a1, rfl, rfl, rfl, w1⟩ := open_string Try.underlying9 (hval 1 9 v1 rfl rfl) h1
  obtain ⟨a2, rfl, rfl, rfl, w2⟩ := open_string Try.underlying9 (hval 2 9 v2 rfl rfl) h2
  have k0 := h0
  have lt0 : ∀ x ∈ p0, x.block < W.heap.size := by obtain ⟨m, hm⟩ := k0; exact DataW.trod_lt m _ _ _ hm
  obtain ⟨P0, S0, a0, n0, c0, ss0, rfl, wP0, wS0, hn0, hl0, gT0, hs0⟩ := open_box (hval 0 30 v0 rfl rfl) h0
  clear hA0
  refine (walk P0 S0 a0 n0 c0 ss0 hn0 hl0 hs0 a1 w1 a2 w2 W gT0).mono fun e W' ⟨he, bel⟩ => ?_
  subst he
  exact ⟨_, rfl, _, _, _, [], _, [], hW', trodAll_mk1 (shut_bool Try.underlying4 _), (trodAll_cons_mk (Below.trod laidOut (by kernel_rfl) (of_decide_eq_true (by kernel_rfl)) k0 bel lt0) (trodAll_cons_mk (shut_string Try.underlying9 w1) (trodAll_cons_mk (shut_string Try.underlying9 w2) trodAll_mk0))), rfl, bel.frame _, fun h => by cases h⟩

theorem over : Rows.fnExactFirstTurnsRow.holds Try.pinned (OpenSpec.ofChange Rows.fnExactFirstTurnsSpec) :=
  OpenClaim.holds_of_wide 6 Try.f6 rfl rfl rfl rfl rfl rfl rfl ⟨rfl, rfl, rfl, rfl, rfl⟩ rfl rfl rfl rfl rfl (by kernel_rfl) Try.func6 (by kernel_rfl)
    (of_decide_eq_true (by kernel_rfl)) (by unfold Func.isWrapper; first | (rw [if_pos (by decide +kernel)]; kernel_rfl) | (rw [if_neg (by decide +kernel)]; exact ⟨rfl, rfl⟩))
    (fun os started H enc _ => lifted os started H enc)

/-- the statement -/
theorem proved : Rows.FnExactFirstTurnsSaid := over
#print axioms proved
end Go.Proofs.Ytjlecipeoaohiaa.fnExactFirstTurns
