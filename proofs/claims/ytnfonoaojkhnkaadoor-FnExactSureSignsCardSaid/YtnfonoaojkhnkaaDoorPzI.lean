/- Solutions and whether a puzzle is solved, by the program; all by the model. -/
import Derived.Test.YtnfonoaojkhnkaaDoorPzH
namespace Go.Proofs.YtnfonoaojkhnkaaDoor
open Go Go.RowKit RM
theorem txZ_take (n : Nat) (xs : List Nat) (k : Nat) (h : k < xs.length) : txZ n (xs.take k) ++ [ST n xs[k]] = txZ n (xs.take (k + 1)) := by
  unfold txZ; rw [List.take_add_one, List.getElem?_eq_getElem h, Option.toList_some, List.map_append]; rfl
set_option maxHeartbeats 1000000 in
theorem iSol_core (R : Int) (n m c N : Nat) (p : Option Addr) (L : List Nat) (ok : Bool) (w : World) (hn : n ≤ 7) (hx : Hid (∀ x ∈ L, x < 128)) (hN : Hid (L.length = N)) (hl : N ≤ 128)
    (hS : Hid (Calls Tryd.prog 47 #[.agg #[.int .i64 R, .slice p m c]] (w.alloc (puzO R (.slice p m c))) fun e w' => ∃ v', e = .returned (.tuple #[v', .bool ok]) ∧ OwnG brE w' (w.alloc (puzO R (.slice p m c))).heap.size v' (brX n L) ∧ Below (w.alloc (puzO R (.slice p m c))).heap.size (w.alloc (puzO R (.slice p m c))) w')) :
    Calls Tryd.prog 22 #[.agg #[.int .i64 R, .slice p m c]] w fun e w' => RetT w (txZ n L) ok e w' := by
  go_enter Tryd.func22, Tryd.ntmps22
  go_wp2_with fail
  refine hS.out.mono ?_; rintro e w2 ⟨v', rfl, ho, hb⟩
  obtain ⟨pv, cv, e1, hm, hr⟩ := ho.rd
  subst e1
  rw [brX_len, hN.out]
  replace hr := Lib.hid hr
  have hb := Lib.hid (bt1 (ba1 w _) hb)
  clear ho hm
  go_wp2_with fail
  go_loopw [6, 8, 16] (fun o _ i wr => ∃ j : Nat, j ≤ N ∧ i = .int .i64 j ∧ Hid (OwnT wr w2.heap.size o (txZ n (L.take j))) ∧ Hid (Below w2.heap.size w2 wr)) (fun _ _ i _ => N - (intOf i).toNat)
  case atStart => exact ⟨0, Nat.zero_le _, rfl, Lib.hid (OwnT.nil _ _), Lib.hid (Below.refl _ _)⟩
  case round =>
    obtain ⟨j, hj, rfl, ho, hbr⟩ := hrel
    by_cases hlt : j < N
    · have hjx : j < L.length := by rw [hN.out]; exact hlt
      have hjb : j < (brX n L).length := by rw [brX_len]; exact hjx
      obtain ⟨g, rfl, hgl, hc⟩ := (hr.out.below hbr.out) (fun e => by rw [e] at hjb; simp at hjb)
      have hcx := fun o ho => hc j hjb o ho
      rw [brX_get] at hcx
      have hs := Lib.hid (txZ_take n L j hjx)
      have hlj := Lib.hid (show (txZ n (L.take j)).length ≤ 128 by rw [txZ_len, List.length_take]; omega)
      have hx1 := hx.out L[j] (List.getElem_mem hjx)
      generalize L[j] = x at *
      have hX := Lib.hid fun w => text_any n x w (by omega) (by omega)
      have c0 : wr.cell? ⟨g, j * 4, none⟩ = some (.int .i64 ((ctz x : Nat) : Int)) := hcx 0 (by decide)
      have c1 : wr.cell? ⟨g, j * 4 + 1, none⟩ = some (.bool (onB x)) := hcx 1 (by decide)
      have c2 : wr.cell? ⟨g, j * 4 + 2, none⟩ = some (.int .i64 ((n : Nat) : Int)) := hcx 2 (by decide)
      have c3 : wr.cell? ⟨g, j * 4 + 3, none⟩ = some (.int .u64 ((x : Nat) : Int)) := hcx 3 (by decide)
      clear hc hcx hjb hjx
      generalize ST n x = t at *
      go_wp2_with fail
      refine (hX.out _).mono ?_; rintro e w3 ⟨rfl, hb3⟩
      have ho3 := Lib.hid ((ho.out.below (ba1 _ _)).below hb3)
      replace hb3 := Lib.hid (bt1 (bt1 hbr.out (ba1 _ _)) hb3)
      go_wp2_with (at_builtin; refine app_txt _ rfl _ _ rfl w2.heap.size _ _ rfl (ho3.out.below (ba1 _ _)) w3.heap.size t rfl (by simp) (by have := hlj.out; omega) (by have := hb3.out.size; simp; omega) ?_; intro v' w7 ho7 hg7; have hb7 := Lib.hid (bel_ownT (bt1 hb3.out (ba1 _ _)) (ho3.out.below (ba1 _ _)) hg7 (by have := hb3.out.size; simp; omega)); replace ho7 := Lib.hid ho7; clear hg7)
      go_roundw
      case rel => exact ⟨j + 1, by omega, by go_num, Lib.hid (by rw [← hs.out]; exact ho7.out), hb7⟩
      all_goals (simp [intOf] <;> omega)
    · obtain rfl : j = N := by omega
      have hf := Lib.hid (show L.take j = L from List.take_of_length_le (by rw [hN.out]; exact Nat.le_refl _))
      go_wp2_with fail
      go_ret2; exact ⟨_, rfl, by rw [← hf.out]; exact ho.out.mono hb.out.size, bt1 hb.out hbr.out⟩

theorem iSolutions (R : Int) (cs : List Clu) (v : Value) (w : World) (h : RdZ w v R cs) (hT : TabOk w) :
    Calls Tryd.prog 22 #[v] w fun e w' => RetT w (txZ R.toNat (solG R cs)) (goodZ R cs) e w' := by
  obtain ⟨p, c, rfl, hm, hr⟩ := h.form
  have hS := solve_any R cs _ (w.alloc (puzO R (.slice p cs.length c))) (h.below (ba1 w _)) (hT.below (ba1 w _))
  rcases goodZ_cases R cs with hg | ⟨n, rfl, h1, h7, hl, ho⟩
  · have e0 := solG_no hg
    rw [e0] at hS ⊢
    exact iSol_core R 0 cs.length c 0 p [] _ w (by omega) (Lib.hid fun x hx => by cases hx) (Lib.hid rfl) (by omega) (Lib.hid (by
      refine hS.mono ?_
      rintro e w' ⟨v', h1, h2, h3⟩
      exact ⟨v', h1, h2, h3⟩))
  · exact iSol_core n n cs.length c (solG n cs).length p (solG n cs) _ w h7 (Lib.hid (solG_lt n cs)) (Lib.hid rfl) (solG_len n cs) (Lib.hid hS)

set_option maxHeartbeats 1000000 in
theorem iIsSolved (R : Int) (cs : List Clu) (v : Value) (w : World) (h : RdZ w v R cs) (hT : TabOk w) :
    Calls Tryd.prog 34 #[v] w fun e w' => e = .returned (.tuple #[.bool (((solG R cs).length : Int) == 1), .bool (goodZ R cs)]) ∧ Below w.heap.size w w' := by
  obtain ⟨p, c, rfl, hm, hr⟩ := h.form
  obtain ⟨w2, hw2⟩ : ∃ w2, Hid (w2 = w.alloc (puzO R (.slice p cs.length c))) := ⟨_, Lib.hid rfl⟩
  have hb2 : Hid (Below w.heap.size w w2) := Lib.hid (by rw [hw2.out]; exact ba1 w _)
  have hC := Lib.hid fun W (hb : Below w.heap.size w W) => count_any R cs _ W (h.below hb) (hT.below hb)
  have hP := Lib.hid fun W (hb : Below w.heap.size w W) => iIsPuzzle R cs _ W (h.below hb) (hT.below hb)
  generalize goodZ R cs = G at *
  generalize cs.length = m at *
  have hl := solG_len R cs
  generalize solG R cs = L at *
  generalize L.length = N at *
  have P2 := Lib.hid (show w2.heap[w.heap.size]? = some (puzO R (.slice p m c)) by rw [hw2.out]; exact hb_new _ _)
  have hl2 : w.heap.size < w2.heap.size := hb_lt P2.out
  have hls : w.heap.size ≤ w2.drew.heap.size := by simp; omega
  have hB0 : Hid (Below w2.heap.size w2 w2.drew) := Lib.hid (Below.refl _ _).drew
  have hS0 : BZ w.heap.size w2.heap.size R (.slice p m c) w2 := BZ.of P2.out hl2 (Nat.le_refl _) (Below.refl _ _)
  have hle : w.heap.size ≤ w2.heap.size := by omega
  clear h hm hr hT
  go_enter Tryd.func34, Tryd.ntmps34
  go_wp2_with fail
  rw [← hw2.out]
  go_region_held3 (fun v => BZ w.heap.size w2.heap.size R (.slice p m c) v ∧ Below w2.heap.size w2 v) (first | assumption | exact ⟨BZ.drew hS0, hB0.out⟩ | (refine ⟨⟨⟨?_, ?_⟩, ?_⟩, ?_⟩ <;> first | assumption | exact hB0.out | go_keep | omega))
    (first | (go_at_call 52; with_reducible refine (hC.out _ (hb2.out.trans ((And.right (by assumption : BZ w.heap.size w2.heap.size R (.slice p m c) _ ∧ Below w2.heap.size w2 _)).mono hle))).mono ?_; rintro e w' ⟨rfl, hb9⟩; have hb8 := bt1 (And.right (by assumption : BZ w.heap.size w2.heap.size R (.slice p m c) _ ∧ Below w2.heap.size w2 _)) hb9; have hbn : BZ w.heap.size w2.heap.size R (.slice p m c) w' ∧ Below w2.heap.size w2 w' := ⟨BZ.of P2.out hl2 (Nat.le_refl _) hb8, hb8⟩) | (go_at_call 17; with_reducible refine (hP.out _ (hb2.out.trans ((And.right (by assumption : BZ w.heap.size w2.heap.size R (.slice p m c) _ ∧ Below w2.heap.size w2 _)).mono hle))).mono ?_; rintro e w' ⟨rfl, hb9⟩; have hb8 := bt1 (And.right (by assumption : BZ w.heap.size w2.heap.size R (.slice p m c) _ ∧ Below w2.heap.size w2 _)) hb9; have hbn : BZ w.heap.size w2.heap.size R (.slice p m c) w' ∧ Below w2.heap.size w2 w' := ⟨BZ.of P2.out hl2 (Nat.le_refl _) hb8, hb8⟩))
  all_goals
    have hfin := Lib.hid (bt1 hb2.out hb8)
    clear hS0 hbn
    go_wp2_with fail
    go_ret2; exact ⟨rfl, hfin.out⟩

theorem OwnT.slT {w : World} {B : Nat} {v : Value} {xs : List ByteArray} (h : OwnT w B v xs) : ∃ pv cv, v = .slice pv xs.length cv := by
  rcases h.form with ⟨rfl, rfl⟩ | ⟨g, cap, rfl, _⟩
  · exact ⟨none, 0, rfl⟩
  · exact ⟨_, _, rfl⟩
theorem sCountSolutions (R : Int) (cs : List Clu) (v : Value) (w : World) (h : RdZ w v R cs) :
    Calls Tryd.prog 27 #[v] w fun e w' => e = .returned (.tuple #[.int .i64 (solG R cs).length, .bool (goodZ R cs)]) ∧ Below w.heap.size w w' := by
  obtain ⟨p, c, rfl, hm, hr⟩ := h.form
  obtain ⟨w2, hw2⟩ : ∃ w2, Hid (w2 = w.alloc (puzO R (.slice p cs.length c))) := ⟨_, Lib.hid rfl⟩
  have hb2 : Hid (Below w.heap.size w w2) := Lib.hid (by rw [hw2.out]; exact ba1 w _)
  have hS := Lib.hid (pzGood_any _ R cs w2 (h.below hb2.out))
  have P2 := Lib.hid (show w2.heap[w.heap.size]? = some (puzO R (.slice p cs.length c)) by rw [hw2.out]; exact hb_new _ _)
  have hr2 := Lib.hid (hr.below hb2.out)
  have f0 : w2.cell? ⟨w.heap.size, 0, none⟩ = some (.int .i64 R) := hb_cell P2.out 0
  have f1 : w2.cell? ⟨w.heap.size, 1, none⟩ = some (.slice p cs.length c) := hb_cell P2.out 1
  clear h hr
  rcases goodZ_cases R cs with hg | ⟨n, rfl, h1, h7, hl, hok⟩
  · have e0 := solG_no hg
    rw [e0, hg]
    rw [hg] at hS
    generalize cs.length = m at *
    clear e0 hg hm
    go_enter Tryd.func27, Tryd.ntmps27
    go_upto_region 1 with fail
    rw [← hw2.out]
    go_wp2_with fail
    refine hS.out.mono ?_; rintro e w3 ⟨rfl, hb3⟩
    replace hb3 := Lib.hid (bt1 hb2.out hb3)
    go_wp2_with fail
    go_ret2; exact ⟨rfl, hb3.out⟩
  · have hg : goodZ n cs = true := by rw [← goodZ_eq n cs h1 h7 hl]; exact hok
    rw [solG_yes hg, hg]
    rw [hg] at hS
    have hA := Lib.hid fun W (hb : Below w2.heap.size w2 W) => pzAll_any n p c cs W h1 h7 hl hok (hr2.out.below hb)
    have hlen := solZ_len n cs h7
    generalize solZ n cs = L at *
    generalize cs.length = m at *
    clear hg hm hok
    go_enter Tryd.func27, Tryd.ntmps27
    go_upto_region 1 with fail
    rw [← hw2.out]
    go_wp2_with fail
    refine hS.out.mono ?_; rintro e w3 ⟨rfl, hb3⟩
    have P3 := Lib.hid (hb_below hb3 (hb_lt P2.out) P2.out)
    clear f0 f1
    have f0 : w3.cell? ⟨w.heap.size, 0, none⟩ = some (.int .i64 n) := hb_cell P3.out 0
    have f1 : w3.cell? ⟨w.heap.size, 1, none⟩ = some (.slice p m c) := hb_cell P3.out 1
    have hA3 := Lib.hid (hA.out w3 hb3)
    replace hb3 := Lib.hid (bt1 hb2.out hb3)
    go_wp2_with fail
    refine hA3.out.mono ?_; rintro e w4 ⟨lv, rfl, ho4, hb4⟩
    obtain ⟨pv, cv, rfl⟩ := ho4.slT
    rw [txZ_len]
    replace hb4 := Lib.hid (bt1 hb3.out hb4)
    clear ho4
    go_wp2_with fail
    go_ret2; exact ⟨rfl, hb4.out⟩

theorem sSolutions (R : Int) (cs : List Clu) (v : Value) (w : World) (h : RdZ w v R cs) :
    Calls Tryd.prog 21 #[v] w fun e w' => RetT w (txZ R.toNat (solG R cs)) (goodZ R cs) e w' := by
  obtain ⟨p, c, rfl, hm, hr⟩ := h.form
  obtain ⟨w2, hw2⟩ : ∃ w2, Hid (w2 = w.alloc (puzO R (.slice p cs.length c))) := ⟨_, Lib.hid rfl⟩
  have hb2 : Hid (Below w.heap.size w w2) := Lib.hid (by rw [hw2.out]; exact ba1 w _)
  have hS := Lib.hid (pzGood_any _ R cs w2 (h.below hb2.out))
  have P2 := Lib.hid (show w2.heap[w.heap.size]? = some (puzO R (.slice p cs.length c)) by rw [hw2.out]; exact hb_new _ _)
  have hr2 := Lib.hid (hr.below hb2.out)
  have f0 : w2.cell? ⟨w.heap.size, 0, none⟩ = some (.int .i64 R) := hb_cell P2.out 0
  have f1 : w2.cell? ⟨w.heap.size, 1, none⟩ = some (.slice p cs.length c) := hb_cell P2.out 1
  clear h hr
  rcases goodZ_cases R cs with hg | ⟨n, rfl, h1, h7, hl, hok⟩
  · have e0 := solG_no hg
    rw [e0, hg]
    rw [hg] at hS
    generalize cs.length = m at *
    clear e0 hg hm
    go_enter Tryd.func21, Tryd.ntmps21
    go_upto_region 1 with fail
    rw [← hw2.out]
    go_wp2_with fail
    refine hS.out.mono ?_; rintro e w3 ⟨rfl, hb3⟩
    replace hb3 := Lib.hid (bt1 hb2.out hb3)
    go_wp2_with fail
    go_ret2; exact ⟨_, rfl, OwnT.nil _ _, hb3.out⟩
  · have hg : goodZ n cs = true := by rw [← goodZ_eq n cs h1 h7 hl]; exact hok
    rw [solG_yes hg, hg]
    rw [hg] at hS
    have hA := Lib.hid fun W (hb : Below w2.heap.size w2 W) => pzAll_any n p c cs W h1 h7 hl hok (hr2.out.below hb)
    have hlen := solZ_len n cs h7
    generalize solZ n cs = L at *
    generalize cs.length = m at *
    clear hg hm hok
    go_enter Tryd.func21, Tryd.ntmps21
    go_upto_region 1 with fail
    rw [← hw2.out]
    go_wp2_with fail
    refine hS.out.mono ?_; rintro e w3 ⟨rfl, hb3⟩
    have P3 := Lib.hid (hb_below hb3 (hb_lt P2.out) P2.out)
    clear f0 f1
    have f0 : w3.cell? ⟨w.heap.size, 0, none⟩ = some (.int .i64 n) := hb_cell P3.out 0
    have f1 : w3.cell? ⟨w.heap.size, 1, none⟩ = some (.slice p m c) := hb_cell P3.out 1
    have hA3 := Lib.hid (hA.out w3 hb3)
    replace hb3 := Lib.hid (bt1 hb2.out hb3)
    go_wp2_with fail
    refine hA3.out.mono ?_; rintro e w4 ⟨lv, rfl, ho4, hb4⟩
    replace ho4 := Lib.hid (ho4.mono hb3.out.size)
    replace hb4 := Lib.hid (bt1 hb3.out hb4)
    go_wp2_with fail
    go_ret2; exact ⟨_, rfl, ho4.out, hb4.out⟩

end Go.Proofs.YtnfonoaojkhnkaaDoor
