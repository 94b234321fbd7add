/-
  For every puzzle (numbers and clues as they may be) and every other argument, the program's SureSigns answers as the model does; what was given is as it was, and nothing that was there is written. No condition.
-/
import Derived.Test.YtnfonoaojkhnkaaDoorRows
import Derived.Test.YtnfonoaojkhnkaaDoorLaid
import Derived.Test.YtnfonoaojkhnkaaDoorPzL
import Derived.Test.YtnfonoaojkhnkaaDoorPz1
import Derived.ProofKit
import Derived.OpenShut
import Derived.ShutString
import Derived.ChangeOld
namespace Go.Proofs.YtnfonoaojkhnkaaDoor.fnExactSureSigns
open Go.ChangeShapes Go.WideShapes Go.ChangeAt Go.RowKit
open Go.ChangeMaps (open_string shut_string)
open RM
set_option linter.unusedVariables false

theorem laidOut : laidOutB Tryd.prog = true := by kernel_rfl

set_option maxHeartbeats 4000000 in
theorem walk0 (R : Int) (a : Option Addr) (n c : Nat) (rs : List Clu) (r0 : ByteArray) (r1 : Bool) (w : World) (hn : n ≤ maxLen) (hl : rs.length = n) (hA : ArgC w a rs) (hT0 : TabOk w)
    (hS : Hid (∀ w v, RdZ w v R rs → Calls Tryd.prog 31 #[v] w fun e w' => e = .returned (.tuple #[.string r0, .bool r1]) ∧ Below w.heap.size w w'))
    (hI : Hid (∀ w v, TabOk w → RdZ w v R rs → Calls Tryd.prog 32 #[v] w fun e w' => e = .returned (.tuple #[.string r0, .bool r1]) ∧ Below w.heap.size w w')) :
    Calls Tryd.prog 9 #[.agg #[.int .i64 R, .slice a n c]] w fun e w' => e = .returned (.bool true) ∧ Below w.heap.size w w' := by
  replace hT0 := Lib.hid hT0
  have e0 : (r0.toList == r0.toList) = true := by simp
  have e1 : (r1 != r1) = false := by simp
  have hbww := Lib.hid (Below.refl w.heap.size w)
  obtain ⟨w2, hw2⟩ : ∃ x, Hid (x = w.alloc (puzL R (.slice a n c))) := ⟨_, Lib.hid rfl⟩
  have hb := show Below w.heap.size w w2 by rw [hw2.out]; exact ba1 _ _
  have FAw2 := Lib.hid (show w2.heap[w.heap.size]? = some (puzL R (.slice a n c)) by rw [hw2.out]; exact hb_new _ _)
  have zw2 : w.heap.size ≤ w2.heap.size := Below.size (hb)
  have hbww2 := Lib.hid (hb)
  clear hb
  have yw2 : w2.heap.size = w.heap.size + 1 := by rw [hw2.out]; simp
  have hZ := Lib.hid (szPuzzle_any R a n c rs w2 hn hl (hA.below hbww2.out))
  replace hA := Lib.hid hA
  replace hl := Lib.hid hl
  have cA0 : w2.cell? ⟨w.heap.size, 0, none⟩ = some (.int .i64 R) := hb_cell FAw2.out 0
  have cA1 : w2.cell? ⟨w.heap.size, 1, none⟩ = some ((.slice a n c)) := hb_cell FAw2.out 1
  have cAl := hb_lt FAw2.out
  go_enter Tryd.func9, Tryd.ntmps9
  go_wp2_with fail
  rw [← hw2.out]
  refine (hZ.out).mono ?_; rintro e w3 ⟨lf, rfl, hb, hlf⟩
  by_cases hneg : lf < 0
  · go_wp2_with fail
    go_ret; exact ⟨rfl, bt1 hbww2.out hb⟩
  have hT := Lib.hid fun w' (hbw : Below w.heap.size w w') => toPuzzle_any R a n c rs w' (hlf (by omega)) hl.out (hA.out.below hbw)
  have hn9 := hlf (by omega)
  clear hlf hZ
  clear cA0 cA1 cAl
  have FAw3 := Lib.hid (hb_below hb (hb_lt FAw2.out) FAw2.out)
  have zw3 : w2.heap.size ≤ w3.heap.size := Below.size (hb)
  have hbww3 := Lib.hid (bt1 hbww2.out hb)
  clear hb
  have cA0 : w3.cell? ⟨w.heap.size, 0, none⟩ = some (.int .i64 R) := hb_cell FAw3.out 0
  have cA1 : w3.cell? ⟨w.heap.size, 1, none⟩ = some ((.slice a n c)) := hb_cell FAw3.out 1
  have cAl := hb_lt FAw3.out
  go_wp2_with fail
  refine (hT.out w3 hbww3.out).mono ?_; rintro e w4 ⟨u0, rfl, ho0, hb⟩
  clear cA0 cA1 cAl
  have FAw4 := Lib.hid (hb_below hb (hb_lt FAw3.out) FAw3.out)
  have zw4 : w3.heap.size ≤ w4.heap.size := Below.size (hb)
  have hbww4 := Lib.hid (bt1 hbww3.out hb)
  replace ho0 := Lib.hid ho0
  clear hb
  go_wp2_with fail
  refine (hS.out w4 _ ⟨_, rfl, ho0.out.rd⟩).mono ?_; rintro e w5 ⟨rfl, hb⟩
  have FAw5 := Lib.hid (hb_below hb (hb_lt FAw4.out) FAw4.out)
  have zw5 : w4.heap.size ≤ w5.heap.size := Below.size (hb)
  have hbww5 := Lib.hid (bt1 hbww4.out hb)
  clear hb
  have cA0 : w5.cell? ⟨w.heap.size, 0, none⟩ = some (.int .i64 R) := hb_cell FAw5.out 0
  have cA1 : w5.cell? ⟨w.heap.size, 1, none⟩ = some ((.slice a n c)) := hb_cell FAw5.out 1
  have cAl := hb_lt FAw5.out
  go_wp2_with fail
  refine (hT.out w5 hbww5.out).mono ?_; rintro e w6 ⟨x0, rfl, ho0, hb⟩
  obtain ⟨px, cx, rfl⟩ : ∃ p c, x0 = .slice p n c := by
    obtain ⟨p, c, e, _⟩ := ho0.rd
    exact ⟨p, c, by rw [e, hl.out]⟩
  clear cA0 cA1 cAl
  have FAw6 := Lib.hid (hb_below hb (hb_lt FAw5.out) FAw5.out)
  have zw6 : w5.heap.size ≤ w6.heap.size := Below.size (hb)
  have hbww6 := Lib.hid (bt1 hbww5.out hb)
  clear hb
  have oxw6 := Lib.hid ho0
  have ltx : Hid (∀ k, Value.ownBlock (.slice px n cx) = some k → w5.heap.size ≤ k ∧ k < w6.heap.size) := Lib.hid (fun k e => oxw6.out.lt k e)
  clear ho0
  obtain ⟨w7, hw7⟩ : ∃ x, Hid (x = w6.alloc (puzO R (.slice px n cx))) := ⟨_, Lib.hid rfl⟩
  have hb := show Below w6.heap.size w6 w7 by rw [hw7.out]; exact ba1 _ _
  have FXw7 := Lib.hid (show w7.heap[w6.heap.size]? = some (puzO R (.slice px n cx)) by rw [hw7.out]; exact hb_new _ _)
  have FAw7 := Lib.hid (hb_below hb (hb_lt FAw6.out) FAw6.out)
  have oxw7 := Lib.hid (oxw6.out.below hb)
  have zw7 : w6.heap.size ≤ w7.heap.size := Below.size (hb)
  have hbww7 := Lib.hid (bt1 hbww6.out hb)
  clear hb
  have yw7 : w7.heap.size = w6.heap.size + 1 := by rw [hw7.out]; simp
  have cX0 : w7.cell? ⟨w6.heap.size, 0, none⟩ = some (.int .i64 R) := hb_cell FXw7.out 0
  have cX1 : w7.cell? ⟨w6.heap.size, 1, none⟩ = some ((.slice px n cx)) := hb_cell FXw7.out 1
  have cXl := hb_lt FXw7.out
  go_wp2_with fail
  rw [← hw7.out]
  refine (hI.out w7 _ (hT0.out.below hbww7.out) ⟨_, rfl, oxw7.out.rd⟩).mono ?_; rintro e w8 ⟨rfl, hb⟩
  clear cX0 cX1 cXl
  have FAw8 := Lib.hid (hb_below hb (hb_lt FAw7.out) FAw7.out)
  have FXw8 := Lib.hid (hb_below hb (hb_lt FXw7.out) FXw7.out)
  have oxw8 := Lib.hid (oxw7.out.below hb)
  have zw8 : w7.heap.size ≤ w8.heap.size := Below.size (hb)
  have hbww8 := Lib.hid (bt1 hbww7.out hb)
  clear hb
  have cX0 : w8.cell? ⟨w6.heap.size, 0, none⟩ = some (.int .i64 R) := hb_cell FXw8.out 0
  have cX1 : w8.cell? ⟨w6.heap.size, 1, none⟩ = some ((.slice px n cx)) := hb_cell FXw8.out 1
  have cXl := hb_lt FXw8.out
  have cA0 : w8.cell? ⟨w.heap.size, 0, none⟩ = some (.int .i64 R) := hb_cell FAw8.out 0
  have cA1 : w8.cell? ⟨w.heap.size, 1, none⟩ = some ((.slice a n c)) := hb_cell FAw8.out 1
  have cAl := hb_lt FAw8.out
  go_wp2_with fail
  have hrf : Z2 w6.heap.size w.heap.size w8.heap.size R (.slice px n cx) (.slice a n c) w8 w8 := ⟨⟨cX0, cX1⟩, ⟨cA0, cA1⟩, cXl, cAl, Below.refl _ _⟩
  go_region_held3 (fun v => Z2 w6.heap.size w.heap.size w8.heap.size R (.slice px n cx) (.slice a n c) w8 v) ((first | assumption | (refine ⟨⟨?_, ?_⟩, ⟨?_, ?_⟩, ?_, ?_, ?_⟩ <;> first | assumption | go_keep | omega | exact (Below.refl _ _).drew)))
    (first | (go_at_call 16; with_reducible refine (hT.out _ (bt1 hbww8.out (keepZF (by assumption)))).mono ?_; rintro e w' ⟨v9, rfl, ho9, hb9⟩; have ho9 := Lib.hid ho9; have hbn := keepZ (keepZl (by assumption)) hb9 (by assumption)) | (go_at_call 18; with_reducible refine (eqPuzzle_same _ _ R rs _ _ _ (OwnZ.mk (oxw8.out.below (keepZF (by assumption)))) (OwnZ.mk ho9.out)).mono ?_; rintro e w' ⟨rfl, hb9⟩; have hbn := keepZ (keepZl (by assumption)) hb9 (by assumption)))
  all_goals
    have hfin := keepZF (by assumption)
    go_wp2_with fail
    go_ret; exact ⟨rfl, bt1 hbww8.out hfin⟩
theorem walk (R : Int) (a : Option Addr) (n c : Nat) (rs : List Clu) (hn : n ≤ maxLen) (hl : rs.length = n) (w : World) (hA : ArgC w a rs) (hT0 : TabOk w) :
    Calls Tryd.prog 9 #[.agg #[.int .i64 R, .slice a n c]] w fun e w' => e = .returned (.bool true) ∧ Below w.heap.size w w' := by
  obtain ⟨r0, r1, hS, hI⟩ := SureSigns_both R rs
  exact walk0 R a n c rs r0 r1 w hn hl hA hT0 (Lib.hid hS) (Lib.hid hI)

set_option maxRecDepth 100000 in
/-- what the walk gives, for every argument and every world that holds the tables -/
theorem contract (H : Type) (enc : TypeId × Value → H) (W : World) (base : Nat) (args : Array Value) (ds gs : List (DataW H)) (before : List MemPlace)
    (hval : ∀ (j : Nat) t v, Tryd.f9.params[j]? = some t → args[j]? = some v → Value.okWide Tryd.prog W .any base t v)
    (hW : DataW.Whole enc Tryd.prog Tryd.f9.params.toList Rows.fnExactSureSignsSpec.vars false W args.toList ds gs before) (hL : laidMetH Tryd.prog Rows.fnExactSureSignsRow.laid W) :
    Calls Tryd.prog 9 args W fun e W' => ∃ v, e = .returned v ∧ Rows.fnExactSureSignsSpec.post enc Tryd.prog Tryd.f9 false true false false W args v W' := by
  have hW' := hW
  obtain ⟨p, q, hA0, hV, rfl, hfz, hnd⟩ := hW
  have hA : DataW.TrodAll enc Tryd.prog W 0 (fun _ => true) true Tryd.f9.params.toList args.toList ds p := hA0
  rw [Tryd.params9] at hA hval
  obtain ⟨v0, vs0, d0, ds0, p0, q0, hargs, rfl, rfl, h0, r0⟩ := trodAll_cons hA
  obtain ⟨rfl, rfl, rfl⟩ := trodAll_nil r0
  obtain rfl : args = #[v0] := by cases args; simp_all
  obtain ⟨rfl, rfl⟩ := trodVars_none hV
  have k0 := h0
  have lt0 : ∀ x ∈ p0, x.block < W.heap.size := by obtain ⟨m, hm⟩ := k0; exact DataW.trod_lt m _ _ _ hm
  obtain ⟨R0, a0, n0, c0, ss0, rfl, wR0, hn0, hl0, gT0⟩ := open_puzzle (hval 0 30 v0 rfl rfl) h0
  clear hA0
  refine (walk R0 a0 n0 c0 ss0 hn0 hl0 W gT0 (tabOk hL)).mono fun e W' ⟨he, bel⟩ => ?_
  subst he
  exact ⟨_, rfl, _, _, _, [], _, [], hW', trodAll_mk1 (shut_bool Tryd.underlying4 _), (trodAll_cons_mk (Below.trod laidOut (by kernel_rfl) (of_decide_eq_true (by kernel_rfl)) k0 bel lt0) trodAll_mk0), rfl, bel.frame _, fun h => by cases h⟩

theorem reads (os : Os) {H : Type} (enc : TypeId × Value → H) : ∃ places, DataW.whole enc Tryd.prog ((laidWorld os).forCall (fun _ _ => 0) ⟨#[], #[.agg #[.int .i64 0, .slice none 0 0]], []⟩).memory Tryd.f9.params.toList Rows.fnExactSureSignsSpec.vars false (#[.agg #[.int .i64 0, .slice none 0 0]] : Array Value).toList 8 = some ([.agg [.lit (.int .i64 0), .nil]], [], places) :=
  ⟨[], by kernel_rfl⟩

set_option maxRecDepth 100000 in
theorem lifted (os : Os) (started : os.Started) (H : Type) (enc : TypeId × Value → H) (F : Stop.Interp) :
    ReturnsInHanded {} Tryd.checked os 9 .any ((OpenSpec.ofChange Rows.fnExactSureSignsSpec).preRow enc Tryd.prog Tryd.f9 Rows.fnExactSureSignsRow.domain false Rows.fnExactSureSignsRow.laid) (((OpenSpec.ofChange Rows.fnExactSureSignsSpec).at F).post enc Tryd.prog Tryd.f9 false true false false) := by
  obtain ⟨places, hx⟩ := reads os enc
  refine returnsInHanded_of_row (C := Tryd.checked) (s := OpenSpec.ofChange Rows.fnExactSureSignsSpec) own started (by kernel_rfl) Tryd.func9
    (witness_row_at (enc := enc) (C := Tryd.checked) false (laidWorld os) #[.agg #[.int .i64 0, .slice none 0 0]] rfl (by kernel_rfl) (by kernel_rfl) (by kernel_rfl)
      (OpenSpec.preRow_of_cond 8 hx (by kernel_rfl) (fun k hk => by cases hk) (by kernel_rfl) (laid_met os _))) ?_
  intro W base args ds gs before hval hW _ _ _ hL _ _
  exact contract H enc W base args ds gs before hval hW hL

theorem said : Rows.FnExactSureSignsSaid :=
  OpenClaim.holds_of_cond 9 Tryd.f9 rfl rfl rfl rfl rfl rfl rfl ⟨rfl, rfl, rfl, rfl, rfl⟩ rfl rfl rfl rfl rfl (by kernel_rfl) Tryd.func9 (by kernel_rfl)
    (of_decide_eq_true (by kernel_rfl)) (by unfold Func.isWrapper; first | (rw [if_pos (by decide +kernel)]; kernel_rfl) | (rw [if_neg (by decide +kernel)]; exact ⟨rfl, rfl⟩))
    (fun os started H enc _ F => by rw [OpenClaim.pre_eq_preRow]; exact lifted os started H enc F)

/-- no parameter wants a stand-in; the program's own looks are off: what the card asks -/
theorem plain (f : FuncId) (fn : Func) (hf : Tryd.pinned.checked.prog.funcNamed "loop.example/g01314/laws.FnExactSureSigns" = some f) (hfn : Tryd.pinned.checked.prog.funcs[f]? = some fn) :
    true = Tryd.pinned.checked.prog.looks [] ∧ ∀ (j : Nat) t, fn.params[j]? = some t → Tryd.pinned.checked.prog.wantsStandIn t = false := by
  obtain rfl : f = 9 := Option.some.inj ((show Tryd.prog.funcNamed "loop.example/g01314/laws.FnExactSureSigns" = some 9 by kernel_rfl).symm.trans hf) |>.symm
  obtain rfl : fn = Tryd.f9 := (Option.some.inj (Tryd.func9.symm.trans hfn)).symm
  refine ⟨by kernel_rfl, fun j t ht => ?_⟩
  rw [Tryd.params9] at ht
  have hm := Array.mem_of_getElem? ht
  simp at hm
  rcases hm with rfl
  · exact (show Tryd.prog.wantsStandIn 30 = false by kernel_rfl)

/-- the statement -/
theorem card : Rows.FnExactSureSignsCardSaid :=
  Claim7.holds_tied_plain_at .later [] _ _ _ _ said (fun _ h => by cases h) (by kernel_rfl) (fun _ h => by cases h) fnExactSureSigns_row_tie rfl ⟨rfl, rfl⟩ (by kernel_rfl) rfl plain (by kernel_rfl)
#print axioms card
end Go.Proofs.YtnfonoaojkhnkaaDoor.fnExactSureSigns
