/-
  For every box (numbers and texts as they may be) and every other argument, the program's TurnPart answers as the model does; what was given is as it was, and nothing that was there is written. No condition.
-/
import Derived.Test.YtbeciklnknkilaaRows
import Derived.Test.YtbeciklnknkilaaXQ
import Derived.Test.YtbeciklnknkilaaX8
import Derived.ProofKit
import Derived.OpenShut
import Derived.ShutString
import Derived.ChangeOld
namespace Go.Proofs.Ytbeciklnknkilaa.fnExactTurnPart
open Go.ChangeShapes Go.WideShapes Go.ChangeAt Go.RowKit
open Go.ChangeMaps (open_string shut_string)
open RM
set_option linter.unusedVariables false

theorem own : ownKnob Try.prog.godebug = none := by kernel_rfl
theorem laidOut : laidOutB Try.prog = true := by kernel_rfl

set_option maxHeartbeats 4000000 in
theorem walk0 (P S : Int) (a : Option Addr) (n c : Nat) (rs : List ByteArray) (s1 : ByteArray) (i2 : Int) (i3 : Int) (r0 : ByteArray) (r1 : Bool) (w : World) (g1 : ¬ 1048576 < s1.size) (hn : n ≤ maxLen) (hl : rs.length = n) (hz : ∀ s ∈ rs, s.size ≤ maxLen) (hA : ArgT w a rs)
    (hS : Hid (∀ w v, RdX w v P S rs → Calls Try.prog 10 #[v, .string s1, .int .i64 i2, .int .i64 i3] w fun e w' => e = .returned (.tuple #[.string r0, .bool r1]) ∧ Below w.heap.size w w'))
    (hI : Hid (∀ w v, RdX w v P S rs → Calls Try.prog 11 #[v, .string s1, .int .i64 i2, .int .i64 i3] w fun e w' => e = .returned (.tuple #[.string r0, .bool r1]) ∧ Below w.heap.size w w')) :
    Calls Try.prog 4 #[.agg #[.int .i64 P, .int .i64 S, .slice a n c], .string s1, .int .i64 i2, .int .i64 i3] w fun e w' => e = .returned (.bool true) ∧ Below w.heap.size w w' := by
  have e0 : (r0.toList == r0.toList) = true := by simp
  have e1 : (r1 != r1) = false := by simp
  have hbww := Lib.hid (Below.refl w.heap.size w)
  obtain ⟨w2, hw2⟩ : ∃ x, Hid (x = w.alloc (boxL P S (.slice a n c))) := ⟨_, Lib.hid rfl⟩
  have hb := show Below w.heap.size w w2 by rw [hw2.out]; exact ba1 _ _
  have FAw2 := Lib.hid (show w2.heap[w.heap.size]? = some (boxL P S (.slice a n c)) by rw [hw2.out]; exact hb_new _ _)
  have zw2 : w.heap.size ≤ w2.heap.size := Below.size (hb)
  have hbww2 := Lib.hid (hb)
  clear hb
  have yw2 : w2.heap.size = w.heap.size + 1 := by rw [hw2.out]; simp
  have hZ := Lib.hid (szBox_any P S a n c rs w2 hn hl hz (hA.below hbww2.out))
  replace hA := Lib.hid hA
  replace hl := Lib.hid hl
  clear hz
  have cA0 : w2.cell? ⟨w.heap.size, 0, none⟩ = some (.int .i64 P) := hb_cell FAw2.out 0
  have cA1 : w2.cell? ⟨w.heap.size, 1, none⟩ = some (.int .i64 S) := hb_cell FAw2.out 1
  have cA2 : w2.cell? ⟨w.heap.size, 2, none⟩ = some ((.slice a n c)) := hb_cell FAw2.out 2
  have cAl := hb_lt FAw2.out
  go_enter Try.func4, Try.ntmps4
  go_wp2_with fail
  rw [← hw2.out]
  refine (hZ.out).mono ?_; rintro e w3 ⟨lf, rfl, hb, hlf⟩
  by_cases hneg : lf < 0
  · go_wp2_with fail
    go_ret; exact ⟨rfl, bt1 hbww2.out hb⟩
  have hT := Lib.hid fun w' (hbw : Below w.heap.size w w') => toBox_any P S a n c rs w' (hlf (by omega)) hl.out (hA.out.below hbw)
  have hn9 := hlf (by omega)
  clear hlf hZ
  clear cA0 cA1 cA2 cAl
  have FAw3 := Lib.hid (hb_below hb (hb_lt FAw2.out) FAw2.out)
  have zw3 : w2.heap.size ≤ w3.heap.size := Below.size (hb)
  have hbww3 := Lib.hid (bt1 hbww2.out hb)
  clear hb
  have cA0 : w3.cell? ⟨w.heap.size, 0, none⟩ = some (.int .i64 P) := hb_cell FAw3.out 0
  have cA1 : w3.cell? ⟨w.heap.size, 1, none⟩ = some (.int .i64 S) := hb_cell FAw3.out 1
  have cA2 : w3.cell? ⟨w.heap.size, 2, none⟩ = some ((.slice a n c)) := hb_cell FAw3.out 2
  have cAl := hb_lt FAw3.out
  go_wp2_with fail
  refine (hT.out w3 hbww3.out).mono ?_; rintro e w4 ⟨u0, rfl, ho0, hb⟩
  clear cA0 cA1 cA2 cAl
  have FAw4 := Lib.hid (hb_below hb (hb_lt FAw3.out) FAw3.out)
  have zw4 : w3.heap.size ≤ w4.heap.size := Below.size (hb)
  have hbww4 := Lib.hid (bt1 hbww3.out hb)
  replace ho0 := Lib.hid ho0
  clear hb
  go_wp2_with fail
  refine (hS.out w4 _ ⟨_, rfl, (ownT_G ho0.out).rd⟩).mono ?_; rintro e w5 ⟨rfl, hb⟩
  have FAw5 := Lib.hid (hb_below hb (hb_lt FAw4.out) FAw4.out)
  have zw5 : w4.heap.size ≤ w5.heap.size := Below.size (hb)
  have hbww5 := Lib.hid (bt1 hbww4.out hb)
  clear hb
  have cA0 : w5.cell? ⟨w.heap.size, 0, none⟩ = some (.int .i64 P) := hb_cell FAw5.out 0
  have cA1 : w5.cell? ⟨w.heap.size, 1, none⟩ = some (.int .i64 S) := hb_cell FAw5.out 1
  have cA2 : w5.cell? ⟨w.heap.size, 2, none⟩ = some ((.slice a n c)) := hb_cell FAw5.out 2
  have cAl := hb_lt FAw5.out
  go_wp2_with fail
  refine (hT.out w5 hbww5.out).mono ?_; rintro e w6 ⟨x0, rfl, ho0, hb⟩
  obtain ⟨px, cx, rfl⟩ : ∃ p c, x0 = .slice p n c := by
    obtain ⟨p, c, e, _⟩ := (ownT_G ho0).rd
    exact ⟨p, c, by rw [e, hl.out]⟩
  clear cA0 cA1 cA2 cAl
  have FAw6 := Lib.hid (hb_below hb (hb_lt FAw5.out) FAw5.out)
  have zw6 : w5.heap.size ≤ w6.heap.size := Below.size (hb)
  have hbww6 := Lib.hid (bt1 hbww5.out hb)
  clear hb
  have oxw6 := Lib.hid ho0
  have ltx : Hid (∀ k, Value.ownBlock (.slice px n cx) = some k → w5.heap.size ≤ k ∧ k < w6.heap.size) := Lib.hid (fun k e => oxw6.out.lt k e)
  clear ho0
  obtain ⟨w7, hw7⟩ : ∃ x, Hid (x = w6.alloc (boxO P S (.slice px n cx))) := ⟨_, Lib.hid rfl⟩
  have hb := show Below w6.heap.size w6 w7 by rw [hw7.out]; exact ba1 _ _
  have FXw7 := Lib.hid (show w7.heap[w6.heap.size]? = some (boxO P S (.slice px n cx)) by rw [hw7.out]; exact hb_new _ _)
  have FAw7 := Lib.hid (hb_below hb (hb_lt FAw6.out) FAw6.out)
  have oxw7 := Lib.hid (oxw6.out.below hb)
  have zw7 : w6.heap.size ≤ w7.heap.size := Below.size (hb)
  have hbww7 := Lib.hid (bt1 hbww6.out hb)
  clear hb
  have yw7 : w7.heap.size = w6.heap.size + 1 := by rw [hw7.out]; simp
  have cX0 : w7.cell? ⟨w6.heap.size, 0, none⟩ = some (.int .i64 P) := hb_cell FXw7.out 0
  have cX1 : w7.cell? ⟨w6.heap.size, 1, none⟩ = some (.int .i64 S) := hb_cell FXw7.out 1
  have cX2 : w7.cell? ⟨w6.heap.size, 2, none⟩ = some ((.slice px n cx)) := hb_cell FXw7.out 2
  have cXl := hb_lt FXw7.out
  go_wp2_with fail
  rw [← hw7.out]
  refine (hI.out w7 _ ⟨_, rfl, (ownT_G oxw7.out).rd⟩).mono ?_; rintro e w8 ⟨rfl, hb⟩
  clear cX0 cX1 cX2 cXl
  have FAw8 := Lib.hid (hb_below hb (hb_lt FAw7.out) FAw7.out)
  have FXw8 := Lib.hid (hb_below hb (hb_lt FXw7.out) FXw7.out)
  have oxw8 := Lib.hid (oxw7.out.below hb)
  have zw8 : w7.heap.size ≤ w8.heap.size := Below.size (hb)
  have hbww8 := Lib.hid (bt1 hbww7.out hb)
  clear hb
  have cX0 : w8.cell? ⟨w6.heap.size, 0, none⟩ = some (.int .i64 P) := hb_cell FXw8.out 0
  have cX1 : w8.cell? ⟨w6.heap.size, 1, none⟩ = some (.int .i64 S) := hb_cell FXw8.out 1
  have cX2 : w8.cell? ⟨w6.heap.size, 2, none⟩ = some ((.slice px n cx)) := hb_cell FXw8.out 2
  have cXl := hb_lt FXw8.out
  have cA0 : w8.cell? ⟨w.heap.size, 0, none⟩ = some (.int .i64 P) := hb_cell FAw8.out 0
  have cA1 : w8.cell? ⟨w.heap.size, 1, none⟩ = some (.int .i64 S) := hb_cell FAw8.out 1
  have cA2 : w8.cell? ⟨w.heap.size, 2, none⟩ = some ((.slice a n c)) := hb_cell FAw8.out 2
  have cAl := hb_lt FAw8.out
  go_wp2_with fail
  have hrf : X2 w6.heap.size w.heap.size w8.heap.size P S (.slice px n cx) (.slice a n c) w8 w8 := ⟨⟨cX0, cX1, cX2⟩, ⟨cA0, cA1, cA2⟩, cXl, cAl, Below.refl _ _⟩
  go_region_held3 (fun v => X2 w6.heap.size w.heap.size w8.heap.size P S (.slice px n cx) (.slice a n c) w8 v) ((first | assumption | (refine ⟨⟨?_, ?_, ?_⟩, ⟨?_, ?_, ?_⟩, ?_, ?_, ?_⟩ <;> first | assumption | go_keep | omega | exact (Below.refl _ _).drew)))
    (first | (go_at_call 7; with_reducible refine (hT.out _ (bt1 hbww8.out (keepXF (by assumption)))).mono ?_; rintro e w' ⟨v9, rfl, ho9, hb9⟩; have ho9 := Lib.hid ho9; have hbn := keepX (keepXl (by assumption)) hb9 (by assumption)) | (go_at_call 9; with_reducible refine (eqBox_same _ _ P S rs _ _ _ (OwnX.mk (oxw8.out.below (keepXF (by assumption)))) (OwnX.mk ho9.out)).mono ?_; rintro e w' ⟨rfl, hb9⟩; have hbn := keepX (keepXl (by assumption)) hb9 (by assumption)))
  all_goals
    have hfin := keepXF (by assumption)
    go_wp2_with fail
    go_ret; exact ⟨rfl, bt1 hbww8.out hfin⟩
theorem walk (P S : Int) (a : Option Addr) (n c : Nat) (rs : List ByteArray) (hn : n ≤ maxLen) (hl : rs.length = n) (hz : ∀ s ∈ rs, s.size ≤ maxLen) (s1 : ByteArray) (w1 : s1.size ≤ maxLen) (i2 : Int) (w2 : (Lit.int .i64 i2).wf = true) (i3 : Int) (w3 : (Lit.int .i64 i3).wf = true) (w : World) (hA : ArgT w a rs) :
    Calls Try.prog 4 #[.agg #[.int .i64 P, .int .i64 S, .slice a n c], .string s1, .int .i64 i2, .int .i64 i3] w fun e w' => e = .returned (.bool true) ∧ Below w.heap.size w w' := by
  by_cases g1 : 1048576 < s1.size
  · go_enter Try.func4, Try.ntmps4
    go_wp2_with fail
    go_ret; exact ⟨rfl, ba1 w _⟩
  obtain ⟨r0, r1, hS, hI⟩ := TurnPart_both P S rs hz s1 i2 i3 w1 w2 w3
  exact walk0 P S a n c rs s1 i2 i3 r0 r1 w g1 hn hl hz hA (Lib.hid hS) (Lib.hid hI)

set_option maxRecDepth 100000 in
theorem lifted (os : Os) (started : os.Started) (H : Type) (enc : TypeId × Value → H) :
    ReturnsInHanded {} Try.checked os 4 .any (Rows.fnExactTurnPartSpec.pre6 enc Try.prog Try.f4 Rows.fnExactTurnPartRow.domain false) (Rows.fnExactTurnPartSpec.post enc Try.prog Try.f4 false true false false) := by
  refine returnsInHanded_of_change (C := Try.checked) own started (by kernel_rfl) Try.func4
    (ChangeSpec.witness6 (enc := enc) (C := Try.checked) false ⟨#[], #[.agg #[.int .i64 0, .int .i64 0, .slice none 0 0], .string ByteArray.empty, .int .i64 0, .int .i64 0], []⟩ 8 (by kernel_rfl) (by kernel_rfl) (by kernel_rfl) (by kernel_rfl)) ?_
  intro W base args ds gs before hval0 hW hcnd _
  have hval : ∀ (j : Nat) t v, Try.f4.params[j]? = some t → args[j]? = some v → Value.okWide Try.prog W .any base t v := hval0
  have hW' := hW
  obtain ⟨p, q, hA0, hV, rfl, hfz, hnd⟩ := hW
  have hA : DataW.TrodAll enc Try.prog W 0 (fun _ => true) true Try.f4.params.toList args.toList ds p := hA0
  rw [Try.params4] at hA hval
  obtain ⟨v0, vs0, d0, ds0, p0, q0, hargs, rfl, rfl, h0, r0⟩ := trodAll_cons hA
  obtain ⟨v1, vs1, d1, ds1, p1, q1, rfl, rfl, rfl, h1, r1⟩ := trodAll_cons r0
  obtain ⟨v2, vs2, d2, ds2, p2, q2, rfl, rfl, rfl, h2, r2⟩ := trodAll_cons r1
  obtain ⟨v3, vs3, d3, ds3, p3, q3, rfl, rfl, rfl, h3, r3⟩ := trodAll_cons r2
  obtain ⟨rfl, rfl, rfl⟩ := trodAll_nil r3
  obtain rfl : args = #[v0, v1, v2, v3] := by cases args; simp_all
  obtain ⟨rfl, rfl⟩ := trodVars_none hV
  obtain ⟨a1, rfl, rfl, rfl, w1⟩ := open_string Try.underlying9 (hval 1 9 v1 rfl rfl) h1
  obtain ⟨a2, rfl, rfl, rfl, w2⟩ := open_int Try.underlying3 (hval 2 3 v2 rfl rfl) h2
  obtain ⟨a3, rfl, rfl, rfl, w3⟩ := open_int Try.underlying3 (hval 3 3 v3 rfl rfl) h3
  have k0 := h0
  have lt0 : ∀ x ∈ p0, x.block < W.heap.size := by obtain ⟨m, hm⟩ := k0; exact DataW.trod_lt m _ _ _ hm
  obtain ⟨P0, S0, a0, n0, c0, ss0, rfl, wP0, wS0, hn0, hl0, gT0, hs0⟩ := open_box (hval 0 24 v0 rfl rfl) h0
  clear hA0
  refine (walk P0 S0 a0 n0 c0 ss0 hn0 hl0 hs0 a1 w1 a2 w2 a3 w3 W gT0).mono fun e W' ⟨he, bel⟩ => ?_
  subst he
  exact ⟨_, rfl, _, _, _, [], _, [], hW', trodAll_mk1 (shut_bool Try.underlying4 _), (trodAll_cons_mk (Below.trod laidOut (by kernel_rfl) (of_decide_eq_true (by kernel_rfl)) k0 bel lt0) (trodAll_cons_mk (shut_string Try.underlying9 w1) (trodAll_cons_mk (shut_int Try.underlying3 w2) (trodAll_cons_mk (shut_int Try.underlying3 w3) trodAll_mk0)))), rfl, bel.frame _, fun h => by cases h⟩

theorem over : Rows.fnExactTurnPartRow.holds Try.pinned (OpenSpec.ofChange Rows.fnExactTurnPartSpec) :=
  OpenClaim.holds_of_wide 4 Try.f4 rfl rfl rfl rfl rfl rfl rfl ⟨rfl, rfl, rfl, rfl, rfl⟩ rfl rfl rfl rfl rfl (by kernel_rfl) Try.func4 (by kernel_rfl)
    (of_decide_eq_true (by kernel_rfl)) (by unfold Func.isWrapper; first | (rw [if_pos (by decide +kernel)]; kernel_rfl) | (rw [if_neg (by decide +kernel)]; exact ⟨rfl, rfl⟩))
    (fun os started H enc _ => lifted os started H enc)

/-- the statement -/
theorem proved : Rows.FnExactTurnPartSaid := over
#print axioms proved
end Go.Proofs.Ytbeciklnknkilaa.fnExactTurnPart
