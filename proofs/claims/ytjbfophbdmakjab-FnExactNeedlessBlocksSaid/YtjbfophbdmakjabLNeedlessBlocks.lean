/-
  For every bolts (numbers of places and blocks as they may be) and every other argument, the program's NeedlessBlocks answers as the model does, in memory of its own; the bolts are as they were, and nothing that was there is written. No condition.
-/
import Derived.Test.YtjbfophbdmakjabRows
import Derived.Test.YtjbfophbdmakjabY4
import Derived.Test.YtjbfophbdmakjabMB4
import Derived.ProofKit
import Derived.OpenShut
import Derived.ShutString
import Derived.ChangeOld
namespace Go.Proofs.Ytjbfophbdmakjab.fnExactNeedlessBlocks
open Go.ChangeShapes Go.WideShapes Go.ChangeAt Go.RowKit
open Go.ChangeMaps (open_string shut_string)
open RM (Blk)
set_option linter.unusedVariables false

theorem own : ownKnob Try.prog.godebug = none := by kernel_rfl
theorem laidOut : laidOutB Try.prog = true := by kernel_rfl

set_option maxHeartbeats 4000000 in
theorem walk0 (a1 a2 : Option Addr) (n c m c2 : Nat) (ps : List Int) (bs : List Blk) (r : List Int) (ok : Bool) (w : World) (hr : Hid (r.length ≤ 2000000)) (hn : n ≤ maxLen) (hm : m ≤ maxLen) (hl : ps.length = n) (hb : bs.length = m) (hA : ArgI w a1 ps) (hK : ArgK w a2 bs)
    (hS : Hid (∀ w v, Bo w v ps bs → Calls Try.prog 22 #[v] w fun e w' => RetI w r ok e w'))
    (hI : Hid (∀ w v, Bo w v ps bs → Calls Try.prog 23 #[v] w fun e w' => RetI w r ok e w')) :
    Calls Try.prog 6 #[.agg #[.slice a1 n c, .slice a2 m c2]] w fun e w' => e = .returned (.bool true) ∧ Below w.heap.size w w' := by
  replace hA := Lib.hid hA
  replace hK := Lib.hid hK
  replace hl := Lib.hid hl
  replace hb := Lib.hid hb
  obtain ⟨w2, hw2⟩ : ∃ w2, Hid (w2 = w.alloc (.cells #[.slice a1 n c, .slice a2 m c2] 25)) := ⟨_, Lib.hid rfl⟩
  have hbw2 : Hid (Below w.heap.size w w2) := Lib.hid (by rw [hw2.out]; exact ba1 w _)
  have F2 := Lib.hid (show w2.heap[w.heap.size]? = some (.cells #[.slice a1 n c, .slice a2 m c2] 25) by rw [hw2.out]; exact hb_new _ _)
  have hl2 : w.heap.size < w2.heap.size := hb_lt F2.out
  have f0 : w2.cell? ⟨w.heap.size, 0, none⟩ = some (.slice a1 n c) := hb_cell F2.out 0
  have f1 : w2.cell? ⟨w.heap.size, 1, none⟩ = some (.slice a2 m c2) := hb_cell F2.out 1
  by_cases hsz : n + m ≤ 1048576
  · have hT := Lib.hid fun w' hbw => toBolts_any a1 a2 n c m c2 ps bs w' (by omega) (by omega) hl.out hb.out (hA.out.below hbw) (hK.out.below hbw)
    have hZ := Lib.hid (szBolts_ok a1 a2 n c m c2 w2 hsz)
    have hneg : ¬ (1048576 : Int) - (n : Int) - (m : Int) < 0 := by omega
    have hnk : ¬ 1 + (n : Int) + 4 * (m : Int) < 0 := by omega
    have hnq : ¬ 1 + (r.length : Int) < 0 := by omega
    have hne : (ok != ok) = false := by simp
    have hneq : (1 + (r.length : Int) != 1 + (r.length : Int)) = false := by simp
    go_enter Try.func6, Try.ntmps6
    go_wp2_with fail
    rw [← hw2.out]
    refine hZ.out.mono ?_; rintro e w3 ⟨rfl, hb3⟩
    have hbw3 := Lib.hid (bt1 hbw2.out hb3)
    have F3 := Lib.hid (hb_below hb3 (hb_lt F2.out) F2.out)
    clear f0 f1 hb3 hZ
    have f0 : w3.cell? ⟨w.heap.size, 0, none⟩ = some (.slice a1 n c) := hb_cell F3.out 0
    have f1 : w3.cell? ⟨w.heap.size, 1, none⟩ = some (.slice a2 m c2) := hb_cell F3.out 1
    go_wp2_with fail
    refine (hT.out w3 hbw3.out).mono ?_; rintro e w4 ⟨v0, rfl, ho4, hb4⟩
    replace ho4 := Lib.hid ho4
    have hbw4 := Lib.hid (bt1 hbw3.out hb4)
    have F4 := Lib.hid (hb_below hb4 (hb_lt F3.out) F3.out)
    clear f0 f1 hb4
    go_wp2_with fail
    refine (hS.out w4 v0 ho4.out.bo).mono ?_; rintro e w5 ⟨sv, rfl, hs5, hb5⟩
    replace hs5 := Lib.hid hs5
    have hbw5 := Lib.hid (bt1 hbw4.out hb5)
    have F5 := Lib.hid (hb_below hb5 (hb_lt F4.out) F4.out)
    have hl5 : w.heap.size < w5.heap.size := hb_lt F5.out
    have hl45 : w4.heap.size ≤ w5.heap.size := hb5.size
    clear hb5 ho4
    have f0 : w5.cell? ⟨w.heap.size, 0, none⟩ = some (.slice a1 n c) := hb_cell F5.out 0
    have f1 : w5.cell? ⟨w.heap.size, 1, none⟩ = some (.slice a2 m c2) := hb_cell F5.out 1
    go_wp2_with fail
    refine (hT.out w5 hbw5.out).mono ?_; rintro e w6 ⟨x0, rfl, ho6, hb6⟩
    obtain ⟨p, cc, p2, cc2, rfl⟩ := ho6.form hl.out hb.out
    replace ho6 := Lib.hid ho6
    have hbw6 := Lib.hid (bt1 hbw5.out hb6)
    have F6 := Lib.hid (hb_below hb6 (hb_lt F5.out) F5.out)
    have hl56 : w5.heap.size ≤ w6.heap.size := hb6.size
    have hs6 := Lib.hid (hs5.out.below hb6)
    clear f0 f1 hb6
    obtain ⟨w7, hw7⟩ : ∃ w7, Hid (w7 = w6.alloc (.cells #[.slice p n cc, .slice p2 m cc2] 31)) := ⟨_, Lib.hid rfl⟩
    have hb7 := Lib.hid (show Below w6.heap.size w6 w7 by rw [hw7.out]; exact ba1 w6 _)
    have X7 := Lib.hid (show w7.heap[w6.heap.size]? = some (.cells #[.slice p n cc, .slice p2 m cc2] 31) by rw [hw7.out]; exact hb_new _ _)
    have hbw7 := Lib.hid (bt1 hbw6.out hb7.out)
    have F7 := Lib.hid (hb_below hb7.out (hb_lt F6.out) F6.out)
    have ho7 := Lib.hid (ho6.out.below hb7.out)
    have hs7 := Lib.hid (hs6.out.below hb7.out)
    have hl67 : w6.heap.size ≤ w7.heap.size := hb7.out.size
    have x0 : w7.cell? ⟨w6.heap.size, 0, none⟩ = some (.slice p n cc) := hb_cell X7.out 0
    have x1 : w7.cell? ⟨w6.heap.size, 1, none⟩ = some (.slice p2 m cc2) := hb_cell X7.out 1
    go_wp2_with fail
    rw [← hw7.out]
    refine (hI.out w7 _ ho7.out.bo).mono ?_; rintro e w8 ⟨gv, rfl, hg8, hb8⟩
    replace hg8 := Lib.hid hg8
    have hbw8 := Lib.hid (bt1 hbw7.out hb8)
    have F8 := Lib.hid (hb_below hb8 (hb_lt F7.out) F7.out)
    have X8 := Lib.hid (hb_below hb8 (hb_lt X7.out) X7.out)
    have ho8 := Lib.hid (ho7.out.below hb8)
    have hs8 := Lib.hid (hs7.out.below hb8)
    clear x0 x1 hb8
    go_wp2_with fail
    refine (eqIntS_same _ _ r _ _ _ hg8.out hs8.out).mono ?_; rintro e w9 ⟨rfl, hq9⟩
    have hb9 : Below w8.heap.size w8 w9 := by obtain ⟨q, rfl⟩ := hq9; exact below_drewN (Below.refl _ _) q
    clear hq9
    have hbw9 := Lib.hid (bt1 hbw8.out hb9)
    have F9 := Lib.hid (hb_below hb9 (hb_lt F8.out) F8.out)
    have X9 := Lib.hid (hb_below hb9 (hb_lt X8.out) X8.out)
    have ho9 := Lib.hid (ho8.out.below hb9)
    have hs9 := Lib.hid (hs8.out.below hb9)
    have hg9 := Lib.hid (hg8.out.below hb9)
    clear hb9
    have f0 : w9.cell? ⟨w.heap.size, 0, none⟩ = some (.slice a1 n c) := hb_cell F9.out 0
    have f1 : w9.cell? ⟨w.heap.size, 1, none⟩ = some (.slice a2 m c2) := hb_cell F9.out 1
    have x0 : w9.cell? ⟨w6.heap.size, 0, none⟩ = some (.slice p n cc) := hb_cell X9.out 0
    have x1 : w9.cell? ⟨w6.heap.size, 1, none⟩ = some (.slice p2 m cc2) := hb_cell X9.out 1
    have hl9 : w.heap.size < w9.heap.size := hb_lt F9.out
    have hx9 : w6.heap.size < w9.heap.size := hb_lt X9.out
    go_wp2_with fail
    go_region_held3 (fun v => (v.cell? ⟨w6.heap.size, 0, none⟩ = some (.slice p n cc) ∧ v.cell? ⟨w6.heap.size, 1, none⟩ = some (.slice p2 m cc2)) ∧ (v.cell? ⟨w.heap.size, 0, none⟩ = some (.slice a1 n c) ∧ v.cell? ⟨w.heap.size, 1, none⟩ = some (.slice a2 m c2)) ∧ w6.heap.size < v.heap.size ∧ w.heap.size < v.heap.size ∧ Below w9.heap.size w9 v) ((first | assumption | (refine ⟨⟨?_, ?_⟩, ⟨?_, ?_⟩, ?_, ?_, ?_⟩ <;> first | assumption | go_keep | omega | exact (Below.refl _ _).drew)))
      (first | (go_at_call 11; refine (hT.out _ (bt1 hbw9.out (keepLF (by assumption)))).mono ?_; rintro e w' ⟨v9, rfl, ho10, hb10⟩; have ho10 := Lib.hid ho10; have hbn := keepL hb10 (by assumption)) | (go_at_call 13; refine (eqBolts_any _ _ ps bs _ _ _ (ho9.out.below (keepLF (by assumption))) ho10.out).mono ?_; rintro e w' ⟨rfl, hb10⟩; have hbn := keepL hb10 (by assumption)))
    have hb10 := keepLF (by assumption)
    rename World => w10
    clear f0 f1 x0 x1
    have hbw10 := Lib.hid (bt1 hbw9.out hb10)
    have F10 := Lib.hid (hb_below hb10 (hb_lt F9.out) F9.out)
    have X10 := Lib.hid (hb_below hb10 (hb_lt X9.out) X9.out)
    have ho10 := Lib.hid (ho9.out.below hb10)
    have hs10 := Lib.hid (hs9.out.below hb10)
    have hg10 := Lib.hid (hg9.out.below hb10)
    have hl10 : w5.heap.size ≤ w10.heap.size := by have := hb10.size; omega
    clear hb10
    have x0 : w10.cell? ⟨w6.heap.size, 0, none⟩ = some (.slice p n cc) := hb_cell X10.out 0
    have x1 : w10.cell? ⟨w6.heap.size, 1, none⟩ = some (.slice p2 m cc2) := hb_cell X10.out 1
    have hM := Lib.hid (markBolts_at _ w5.heap.size ps bs w6 w10 (by rw [hl.out]; omega) (by rw [hb.out]; omega) hl10 ho6.out ho10.out)
    rw [hl.out, hb.out] at hM
    go_wp2_with fail
    refine hM.out.mono ?_; rintro e w11 ⟨rfl, -, hm11⟩
    have hb11 : Below w5.heap.size w10 w11 := hm11.below hl10
    have hbw11 := Lib.hid (hbw10.out.trans (hb11.mono (Nat.le_of_lt hl5)))
    have F11 := Lib.hid (hb_below hb11 hl5 F10.out)
    have hs11 := Lib.hid (show OwnI w11 w4.heap.size sv r from own_mid hs10.out hm11 (fun k e => .inl (hs5.out.lt k e).2))
    have hg11 := Lib.hid (show OwnI w11 w7.heap.size gv r from own_mid hg10.out hm11 (fun k e => .inr (Nat.le_trans hl67 (hg10.out.lt k e).1)))
    clear x0 x1 hb11 hm11
    go_wp2_with fail
    refine (eqIntS_same _ _ r _ _ _ hg11.out hs11.out).mono ?_; rintro e w12 ⟨rfl, hq12⟩
    have hb12 : Below w11.heap.size w11 w12 := by obtain ⟨q, rfl⟩ := hq12; exact below_drewN (Below.refl _ _) q
    clear hq12
    have hbw12 := Lib.hid (bt1 hbw11.out hb12)
    have F12 := Lib.hid (hb_below hb12 (hb_lt F11.out) F11.out)
    have hs12 := Lib.hid (hs11.out.below hb12)
    have hg12 := Lib.hid (hg11.out.below hb12)
    clear hb12
    go_wp2_with fail
    refine (markIntS_any gv r _ w12 (by have := hr.out; omega) hg12.out).mono ?_; rintro e w13 ⟨rfl, hm13, hgr⟩
    replace hm13 := Lib.hid hm13
    have hs13 := Lib.hid (show OwnI w13 w4.heap.size sv r from World.ownsRow.kept hs12.out hgr (ne_base (c := w5.heap.size) (fun k e => (hs5.out.lt k e).2) (fun k e => Nat.le_trans (by omega) (hg12.out.lt k e).1)))
    have F13 := Lib.hid (show w13.heap[w.heap.size]? = some (.cells #[.slice a1 n c, .slice a2 m c2] 25) from (hgr.block _ (hb_lt F12.out) (fun e => by have := (hg12.out.lt _ e.symm).1; omega)).trans F12.out)
    have hbw13 := Lib.hid (hbw12.out.grown hgr hbw12.out.size (fun k e => Nat.le_trans (by omega) (hg12.out.lt k e).1))
    clear hgr
    go_wp2_with fail
    refine (heldIntS_any gv r.length _ w13 (by have := hr.out; omega) hm13.out).mono ?_; rintro e w14 ⟨rfl, hq14⟩; have hb14 : Below w13.heap.size w13 w14 := by subst hq14; exact Below.refl _ _
    have hbw14 := Lib.hid (bt1 hbw13.out hb14)
    have F14 := Lib.hid (hb_below hb14 (hb_lt F13.out) F13.out)
    have hs14 := Lib.hid (hs13.out.below hb14)
    have hm14 := Lib.hid (hm13.out.below hb14)
    clear hb14
    have f0 : w14.cell? ⟨w.heap.size, 0, none⟩ = some (.slice a1 n c) := hb_cell F14.out 0
    have f1 : w14.cell? ⟨w.heap.size, 1, none⟩ = some (.slice a2 m c2) := hb_cell F14.out 1
    go_wp2_with fail
    refine (hT.out w14 hbw14.out).mono ?_; rintro e w15 ⟨v15, rfl, ho15, hb15⟩
    replace ho15 := Lib.hid ho15
    have hbw15 := Lib.hid (bt1 hbw14.out hb15)
    have F15 := Lib.hid (hb_below hb15 (hb_lt F14.out) F14.out)
    have hs15 := Lib.hid (hs14.out.below hb15)
    have hm15 := Lib.hid (hm14.out.below hb15)
    clear f0 f1 hb15
    go_wp2_with fail
    refine (hI.out w15 v15 ho15.out.bo).mono ?_; rintro e w16 ⟨hv, rfl, hh16, hb16⟩
    replace hh16 := Lib.hid hh16
    have hbw16 := Lib.hid (bt1 hbw15.out hb16)
    have hs16 := Lib.hid (hs15.out.below hb16)
    have hm16 := Lib.hid (hm15.out.below hb16)
    clear hb16 ho15
    go_wp2_with fail
    refine (eqIntS_same _ _ r _ _ _ hh16.out hs16.out).mono ?_; rintro e w17 ⟨rfl, hq17⟩
    have hb17 : Below w16.heap.size w16 w17 := by obtain ⟨q, rfl⟩ := hq17; exact below_drewN (Below.refl _ _) q
    clear hq17
    have hbw17 := Lib.hid (bt1 hbw16.out hb17)
    have hm17 := Lib.hid (hm16.out.below hb17)
    clear hb17
    go_wp2_with fail
    refine (heldIntS_any gv r.length _ w17 (by have := hr.out; omega) hm17.out).mono ?_; rintro e w18 ⟨rfl, hq18⟩; have hb18 : Below w17.heap.size w17 w18 := by subst hq18; exact Below.refl _ _
    have hbw18 := Lib.hid (bt1 hbw17.out hb18)
    clear hb18
    go_wp2_with fail
    go_ret; exact ⟨rfl, hbw18.out⟩
  · have hZ := Lib.hid (szBolts_big a1 a2 n c m c2 w2 hn hm (by omega))
    go_enter Try.func6, Try.ntmps6
    go_wp2_with fail
    rw [← hw2.out]
    refine hZ.out.mono ?_; rintro e w3 ⟨rfl, hb3⟩
    go_wp2_with fail
    go_ret; exact ⟨rfl, bt1 hbw2.out hb3⟩
theorem walk (a1 : Option Addr) (n c : Nat) (a2 : Option Addr) (m c2 : Nat) (ps : List Int) (bs : List Blk) (hn : n ≤ maxLen) (hm : m ≤ maxLen) (hl : ps.length = n) (hb : bs.length = m) (w : World) (hA : ArgI w a1 ps) (hK : ArgK w a2 bs) :
    Calls Try.prog 6 #[.agg #[.slice a1 n c, .slice a2 m c2]] w fun e w' => e = .returned (.bool true) ∧ Below w.heap.size w w' := by
  obtain ⟨r, ok, hr, hS, hI⟩ := NeedlessBlocks_both ps bs
  exact walk0 a1 a2 n c m c2 ps bs r ok w (Lib.hid (by omega)) hn hm hl hb hA hK (Lib.hid hS) (Lib.hid hI)

set_option maxRecDepth 100000 in
theorem lifted (os : Os) (started : os.Started) (H : Type) (enc : TypeId × Value → H) :
    ReturnsInHanded {} Try.checked os 6 .any (Rows.fnExactNeedlessBlocksSpec.pre6 enc Try.prog Try.f6 Rows.fnExactNeedlessBlocksRow.domain false) (Rows.fnExactNeedlessBlocksSpec.post enc Try.prog Try.f6 false true false false) := by
  refine returnsInHanded_of_change (C := Try.checked) own started (by kernel_rfl) Try.func6
    (ChangeSpec.witness6 (enc := enc) (C := Try.checked) false ⟨#[], #[.agg #[.slice none 0 0, .slice none 0 0]], []⟩ 8 (by kernel_rfl) (by kernel_rfl) (by kernel_rfl) (by kernel_rfl)) ?_
  intro W base args ds gs before hval0 hW hcnd _
  have hval : ∀ (j : Nat) t v, Try.f6.params[j]? = some t → args[j]? = some v → Value.okWide Try.prog W .any base t v := hval0
  have hW' := hW
  obtain ⟨p, q, hA0, hV, rfl, hfz, hnd⟩ := hW
  have hA : DataW.TrodAll enc Try.prog W 0 (fun _ => true) true Try.f6.params.toList args.toList ds p := hA0
  rw [Try.params6] at hA hval
  obtain ⟨v0, vs0, d0, ds0, p0, q0, hargs, rfl, rfl, h0, r0⟩ := trodAll_cons hA
  obtain ⟨rfl, rfl, rfl⟩ := trodAll_nil r0
  obtain rfl : args = #[v0] := by cases args; simp_all
  obtain ⟨rfl, rfl⟩ := trodVars_none hV
  have k0 := h0
  have lt0 : ∀ x ∈ p0, x.block < W.heap.size := by obtain ⟨m, hm⟩ := k0; exact DataW.trod_lt m _ _ _ hm
  obtain ⟨a0_1, n0, c0_1, a0_2, m0, c0_2, ps0, bs0, rfl, hn0, hm0, hl0, hb0, gA0, gK0⟩ := open_bolts (hval 0 25 v0 rfl rfl) h0
  clear hA0
  refine (walk a0_1 n0 c0_1 a0_2 m0 c0_2 ps0 bs0 hn0 hm0 hl0 hb0 W gA0 gK0).mono fun e W' ⟨he, bel⟩ => ?_
  subst he
  exact ⟨_, rfl, _, _, _, [], _, [], hW', trodAll_mk1 (shut_bool Try.underlying4 _), (trodAll_cons_mk (Below.trod laidOut (by kernel_rfl) (of_decide_eq_true (by kernel_rfl)) k0 bel lt0) trodAll_mk0), rfl, bel.frame _, fun h => by cases h⟩

theorem over : Rows.fnExactNeedlessBlocksRow.holds Try.pinned (OpenSpec.ofChange Rows.fnExactNeedlessBlocksSpec) :=
  OpenClaim.holds_of_wide 6 Try.f6 rfl rfl rfl rfl rfl rfl rfl ⟨rfl, rfl, rfl, rfl, rfl⟩ rfl rfl rfl rfl rfl (by kernel_rfl) Try.func6 (by kernel_rfl)
    (of_decide_eq_true (by kernel_rfl)) (by unfold Func.isWrapper; first | (rw [if_pos (by decide +kernel)]; kernel_rfl) | (rw [if_neg (by decide +kernel)]; exact ⟨rfl, rfl⟩))
    (fun os started H enc _ => lifted os started H enc)

/-- the statement -/
theorem proved : Rows.FnExactNeedlessBlocksSaid := over
#print axioms proved
end Go.Proofs.Ytjbfophbdmakjab.fnExactNeedlessBlocks
