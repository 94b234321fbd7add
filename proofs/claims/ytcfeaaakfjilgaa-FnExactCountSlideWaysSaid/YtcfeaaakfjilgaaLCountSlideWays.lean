/-
  For every bolts (numbers of places and blocks as they may be) and every other argument, the program's CountSlideWays answers as the model does; the bolts are as they were, and nothing that was there is written. No condition.
-/
import Derived.Test.YtcfeaaakfjilgaaRows
import Derived.Test.YtcfeaaakfjilgaaSP
import Derived.Test.YtcfeaaakfjilgaaD7
import Derived.ProofKit
import Derived.OpenShut
import Derived.ShutString
import Derived.ChangeOld
namespace Go.Proofs.Ytcfeaaakfjilgaa.fnExactCountSlideWays
open Go.ChangeShapes Go.WideShapes Go.ChangeAt Go.RowKit
open Go.ChangeMaps (open_string shut_string)
open RM (Blk)
set_option linter.unusedVariables false

theorem own : ownKnob Try.prog.godebug = none := by kernel_rfl
theorem laidOut : laidOutB Try.prog = true := by kernel_rfl

set_option maxHeartbeats 1000000 in
theorem walk0 (a1 a2 : Option Addr) (n c m c2 : Nat) (ps : List Int) (bs : List Blk) (s1 : ByteArray) (s2 : ByteArray) (r0 : Int) (r1 : Bool) (w : World) (g1 : ¬ 1048576 < s1.size) (g2 : ¬ 1048576 < s2.size) (hn : n ≤ maxLen) (hm : m ≤ maxLen) (hl : ps.length = n) (hb : bs.length = m) (hA : ArgI w a1 ps) (hK : ArgK w a2 bs)
    (hS : Hid (∀ w v, Bo w v ps bs → Calls Try.prog 23 #[v, .string s1, .string s2] w fun e w' => e = .returned (.tuple #[.int .i64 r0, .bool r1]) ∧ Below w.heap.size w w'))
    (hI : Hid (∀ w v, Bo w v ps bs → Calls Try.prog 24 #[v, .string s1, .string s2] w fun e w' => e = .returned (.tuple #[.int .i64 r0, .bool r1]) ∧ Below w.heap.size w w')) :
    Calls Try.prog 5 #[.agg #[.slice a1 n c, .slice a2 m c2], .string s1, .string s2] w fun e w' => e = .returned (.bool true) ∧ Below w.heap.size w w' := by
  replace hA := Lib.hid hA
  replace hK := Lib.hid hK
  replace hl := Lib.hid hl
  replace hb := Lib.hid hb
  obtain ⟨w2, hw2⟩ : ∃ w2, Hid (w2 = w.alloc (.cells #[.slice a1 n c, .slice a2 m c2] 25)) := ⟨_, Lib.hid rfl⟩
  have hb2 : Hid (Below w.heap.size w w2) := Lib.hid (by rw [hw2.out]; exact ba1 w _)
  have F := Lib.hid (show w2.heap[w.heap.size]? = some (.cells #[.slice a1 n c, .slice a2 m c2] 25) by rw [hw2.out]; exact hb_new _ _)
  have hl2 : w.heap.size < w2.heap.size := hb_lt F.out
  have f0 : w2.cell? ⟨w.heap.size, 0, none⟩ = some (.slice a1 n c) := hb_cell F.out 0
  have f1 : w2.cell? ⟨w.heap.size, 1, none⟩ = some (.slice a2 m c2) := hb_cell F.out 1
  by_cases hsz : n + m ≤ 1048576
  · have hT := Lib.hid fun w' hbw => toBolts_any a1 a2 n c m c2 ps bs w' (by omega) (by omega) hl.out hb.out (hA.out.below hbw) (hK.out.below hbw)
    have hZ := Lib.hid (szBolts_ok a1 a2 n c m c2 w2 hsz)
    have hneg : ¬ (1048576 : Int) - (n : Int) - (m : Int) < 0 := by omega
    have e0 : (r0 != r0) = false := by simp
    have e1 : (r1 != r1) = false := by simp
    go_enter Try.func5, Try.ntmps5
    go_wp2_with fail
    rw [← hw2.out]
    refine hZ.out.mono ?_; rintro e w3 ⟨rfl, hb3⟩
    have hbw3 := Lib.hid (bt1 hb2.out hb3)
    have F3 := Lib.hid (hb_below hb3 hl2 F.out)
    have hl3 : w.heap.size < w3.heap.size := hb_lt F3.out
    clear f0 f1
    have f0 : w3.cell? ⟨w.heap.size, 0, none⟩ = some (.slice a1 n c) := hb_cell F3.out 0
    have f1 : w3.cell? ⟨w.heap.size, 1, none⟩ = some (.slice a2 m c2) := hb_cell F3.out 1
    clear hb3 hZ
    go_wp2_with fail
    refine (hT.out w3 hbw3.out).mono ?_; rintro e w4 ⟨v0, rfl, ho4, hb4⟩
    replace ho4 := Lib.hid ho4
    have hbw4 := Lib.hid (bt1 hbw3.out hb4)
    have F4 := Lib.hid (hb_below hb4 hl3 F3.out)
    have hl4 : w.heap.size < w4.heap.size := hb_lt F4.out
    clear f0 f1 hb4
    go_wp2_with fail
    refine (hS.out w4 v0 ho4.out.bo).mono ?_; rintro e w5 ⟨rfl, hb5⟩
    have hbw5 := Lib.hid (bt1 hbw4.out hb5)
    have F5 := Lib.hid (hb_below hb5 hl4 F4.out)
    have hl5 : w.heap.size < w5.heap.size := hb_lt F5.out
    have f0 : w5.cell? ⟨w.heap.size, 0, none⟩ = some (.slice a1 n c) := hb_cell F5.out 0
    have f1 : w5.cell? ⟨w.heap.size, 1, none⟩ = some (.slice a2 m c2) := hb_cell F5.out 1
    clear hb5 ho4
    go_wp2_with fail
    refine (hT.out w5 hbw5.out).mono ?_; rintro e w6 ⟨x0, rfl, ho6, hb6⟩
    obtain ⟨p, cc, p2, cc2, rfl⟩ := ho6.form hl.out hb.out
    replace ho6 := Lib.hid ho6
    have hbw6 := Lib.hid (bt1 hbw5.out hb6)
    have F6 := Lib.hid (hb_below hb6 hl5 F5.out)
    have hl6 : w.heap.size < w6.heap.size := hb_lt F6.out
    clear f0 f1 hb6
    obtain ⟨w7, hw7⟩ : ∃ w7, Hid (w7 = w6.alloc (.cells #[.slice p n cc, .slice p2 m cc2] 31)) := ⟨_, Lib.hid rfl⟩
    have hb7 := Lib.hid (show Below w6.heap.size w6 w7 by rw [hw7.out]; exact ba1 w6 _)
    have X7 := Lib.hid (show w7.heap[w6.heap.size]? = some (.cells #[.slice p n cc, .slice p2 m cc2] 31) by rw [hw7.out]; exact hb_new _ _)
    have F7 := Lib.hid (hb_below hb7.out hl6 F6.out)
    have hbw7 := Lib.hid (bt1 hbw6.out hb7.out)
    have ho7 := Lib.hid (ho6.out.below hb7.out)
    have x0 : w7.cell? ⟨w6.heap.size, 0, none⟩ = some (.slice p n cc) := hb_cell X7.out 0
    have x1 : w7.cell? ⟨w6.heap.size, 1, none⟩ = some (.slice p2 m cc2) := hb_cell X7.out 1
    go_wp2_with fail
    rw [← hw7.out]
    refine (hI.out w7 _ ho7.out.bo).mono ?_; rintro e w8 ⟨rfl, hb8⟩
    have X8 := Lib.hid (hb_below hb8 (hb_lt X7.out) X7.out)
    have F8 := Lib.hid (hb_below hb8 (hb_lt F7.out) F7.out)
    have hbw8 := Lib.hid (bt1 hbw7.out hb8)
    have ho8 := Lib.hid (ho7.out.below hb8)
    clear x0 x1
    have x0 : w8.cell? ⟨w6.heap.size, 0, none⟩ = some (.slice p n cc) := hb_cell X8.out 0
    have x1 : w8.cell? ⟨w6.heap.size, 1, none⟩ = some (.slice p2 m cc2) := hb_cell X8.out 1
    have f0 : w8.cell? ⟨w.heap.size, 0, none⟩ = some (.slice a1 n c) := hb_cell F8.out 0
    have f1 : w8.cell? ⟨w.heap.size, 1, none⟩ = some (.slice a2 m c2) := hb_cell F8.out 1
    have hl8 : w.heap.size < w8.heap.size := hb_lt F8.out
    have hx8 : w6.heap.size < w8.heap.size := hb_lt X8.out
    clear hb8
    go_wp2_with fail
    go_region_held3 (fun v => (v.cell? ⟨w6.heap.size, 0, none⟩ = some (.slice p n cc) ∧ v.cell? ⟨w6.heap.size, 1, none⟩ = some (.slice p2 m cc2)) ∧ (v.cell? ⟨w.heap.size, 0, none⟩ = some (.slice a1 n c) ∧ v.cell? ⟨w.heap.size, 1, none⟩ = some (.slice a2 m c2)) ∧ w6.heap.size < v.heap.size ∧ w.heap.size < v.heap.size ∧ Below w8.heap.size w8 v) ((first | assumption | (refine ⟨⟨?_, ?_⟩, ⟨?_, ?_⟩, ?_, ?_, ?_⟩ <;> first | assumption | go_keep | omega | exact (Below.refl _ _).drew)))
      (first | (go_at_call 14; refine (hT.out _ (bt1 hbw8.out (keepLF (by assumption)))).mono ?_; rintro e w' ⟨v9, rfl, ho9, hb9⟩; have ho9 := Lib.hid ho9; have hbn := keepL hb9 (by assumption)) | (go_at_call 16; refine (eqBolts_any _ _ ps bs _ _ _ (ho8.out.below (keepLF (by assumption))) ho9.out).mono ?_; rintro e w' ⟨rfl, hb9⟩; have hbn := keepL hb9 (by assumption)))
    all_goals
      have hfin := keepLF (by assumption)
      go_wp2_with fail
      go_ret; exact ⟨rfl, bt1 hbw8.out hfin⟩
  · have hZ := Lib.hid (szBolts_big a1 a2 n c m c2 w2 hn hm (by omega))
    go_enter Try.func5, Try.ntmps5
    go_wp2_with fail
    rw [← hw2.out]
    refine hZ.out.mono ?_; rintro e w3 ⟨rfl, hb3⟩
    go_wp2_with fail
    go_ret; exact ⟨rfl, bt1 hb2.out hb3⟩
theorem walk (a1 : Option Addr) (n c : Nat) (a2 : Option Addr) (m c2 : Nat) (ps : List Int) (bs : List Blk) (hn : n ≤ maxLen) (hm : m ≤ maxLen) (hl : ps.length = n) (hb : bs.length = m) (s1 : ByteArray) (w1 : s1.size ≤ maxLen) (s2 : ByteArray) (w2 : s2.size ≤ maxLen) (w : World) (hA : ArgI w a1 ps) (hK : ArgK w a2 bs) :
    Calls Try.prog 5 #[.agg #[.slice a1 n c, .slice a2 m c2], .string s1, .string s2] w fun e w' => e = .returned (.bool true) ∧ Below w.heap.size w w' := by
  by_cases g1 : 1048576 < s1.size
  · go_enter Try.func5, Try.ntmps5
    go_wp2_with fail
    go_ret; exact ⟨rfl, (ba1 w _)⟩
  by_cases g2 : 1048576 < s2.size
  · go_enter Try.func5, Try.ntmps5
    go_wp2_with fail
    go_ret; exact ⟨rfl, (ba1 w _)⟩
  obtain ⟨r0, r1, hS, hI⟩ := CountSlideWays_both ps bs s1 s2 w1 w2
  exact walk0 a1 a2 n c m c2 ps bs s1 s2 r0 r1 w g1 g2 hn hm hl hb hA hK (Lib.hid hS) (Lib.hid hI)

set_option maxRecDepth 100000 in
theorem lifted (os : Os) (started : os.Started) (H : Type) (enc : TypeId × Value → H) :
    ReturnsInHanded {} Try.checked os 5 .any (Rows.fnExactCountSlideWaysSpec.pre6 enc Try.prog Try.f5 Rows.fnExactCountSlideWaysRow.domain false) (Rows.fnExactCountSlideWaysSpec.post enc Try.prog Try.f5 false true false false) := by
  refine returnsInHanded_of_change (C := Try.checked) own started (by kernel_rfl) Try.func5
    (ChangeSpec.witness6 (enc := enc) (C := Try.checked) false ⟨#[], #[.agg #[.slice none 0 0, .slice none 0 0], .string ByteArray.empty, .string ByteArray.empty], []⟩ 8 (by kernel_rfl) (by kernel_rfl) (by kernel_rfl) (by kernel_rfl)) ?_
  intro W base args ds gs before hval0 hW hcnd _
  have hval : ∀ (j : Nat) t v, Try.f5.params[j]? = some t → args[j]? = some v → Value.okWide Try.prog W .any base t v := hval0
  have hW' := hW
  obtain ⟨p, q, hA0, hV, rfl, hfz, hnd⟩ := hW
  have hA : DataW.TrodAll enc Try.prog W 0 (fun _ => true) true Try.f5.params.toList args.toList ds p := hA0
  rw [Try.params5] at hA hval
  obtain ⟨v0, vs0, d0, ds0, p0, q0, hargs, rfl, rfl, h0, r0⟩ := trodAll_cons hA
  obtain ⟨v1, vs1, d1, ds1, p1, q1, rfl, rfl, rfl, h1, r1⟩ := trodAll_cons r0
  obtain ⟨v2, vs2, d2, ds2, p2, q2, rfl, rfl, rfl, h2, r2⟩ := trodAll_cons r1
  obtain ⟨rfl, rfl, rfl⟩ := trodAll_nil r2
  obtain rfl : args = #[v0, v1, v2] := by cases args; simp_all
  obtain ⟨rfl, rfl⟩ := trodVars_none hV
  obtain ⟨a1, rfl, rfl, rfl, w1⟩ := open_string Try.underlying9 (hval 1 9 v1 rfl rfl) h1
  obtain ⟨a2, rfl, rfl, rfl, w2⟩ := open_string Try.underlying9 (hval 2 9 v2 rfl rfl) h2
  have k0 := h0
  have lt0 : ∀ x ∈ p0, x.block < W.heap.size := by obtain ⟨m, hm⟩ := k0; exact DataW.trod_lt m _ _ _ hm
  obtain ⟨a0_1, n0, c0_1, a0_2, m0, c0_2, ps0, bs0, rfl, hn0, hm0, hl0, hb0, gA0, gK0⟩ := open_bolts (hval 0 25 v0 rfl rfl) h0
  clear hA0
  refine (walk a0_1 n0 c0_1 a0_2 m0 c0_2 ps0 bs0 hn0 hm0 hl0 hb0 a1 w1 a2 w2 W gA0 gK0).mono fun e W' ⟨he, bel⟩ => ?_
  subst he
  exact ⟨_, rfl, _, _, _, [], _, [], hW', trodAll_mk1 (shut_bool Try.underlying4 _), (trodAll_cons_mk (Below.trod laidOut (by kernel_rfl) (of_decide_eq_true (by kernel_rfl)) k0 bel lt0) (trodAll_cons_mk (shut_string Try.underlying9 w1) (trodAll_cons_mk (shut_string Try.underlying9 w2) trodAll_mk0))), rfl, bel.frame _, fun h => by cases h⟩

theorem over : Rows.fnExactCountSlideWaysRow.holds Try.pinned (OpenSpec.ofChange Rows.fnExactCountSlideWaysSpec) :=
  OpenClaim.holds_of_wide 5 Try.f5 rfl rfl rfl rfl rfl rfl rfl ⟨rfl, rfl, rfl, rfl, rfl⟩ rfl rfl rfl rfl rfl (by kernel_rfl) Try.func5 (by kernel_rfl)
    (of_decide_eq_true (by kernel_rfl)) (by unfold Func.isWrapper; first | (rw [if_pos (by decide +kernel)]; kernel_rfl) | (rw [if_neg (by decide +kernel)]; exact ⟨rfl, rfl⟩))
    (fun os started H enc _ => lifted os started H enc)

/-- the statement -/
theorem proved : Rows.FnExactCountSlideWaysSaid := over
#print axioms proved
end Go.Proofs.Ytcfeaaakfjilgaa.fnExactCountSlideWays
