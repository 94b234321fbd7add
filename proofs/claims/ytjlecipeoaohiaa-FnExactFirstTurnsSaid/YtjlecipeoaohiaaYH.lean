/- The first turn that leads nearer, the program: slices.IndexFunc with its closure. -/
import Derived.Test.YtjlecipeoaohiaaYG
namespace Go.Proofs.Ytjlecipeoaohiaa
set_option linter.unusedSimpArgs false
set_option linter.unusedVariables false
open Go Go.RowKit RM Go.Maps Go.WideMaps Go.ChangeMaps
set_option maxRecDepth 100000 in
set_option maxHeartbeats 1000000 in
theorem tixf_any (gv L cap bp ba j : Nat) (ws : List (Int × Int × (Nat → Int))) (Pb : Nat → Bool) (w : World) (hL : L ≤ 4096) (hml : ws.length = L) (hj : j < L) (hgl : gv < w.heap.size)
    (hcl : Hid (∀ i (h : i < ws.length) o, o < 8 → w.cell? ⟨gv, i * 8 + o, none⟩ = (tnE.cells ws[i])[o]?)) (hP : Hid (Pb j = true)) (hnP : Hid (∀ i, i < j → Pb i = false))
    (hF : Hid (∀ i (h : i < ws.length) w', Below w.heap.size w w' → Calls Try.prog 101 #[.agg (tnC ws[i].1 ws[i].2.1 ws[i].2.2), .pointer (some ⟨bp, 0, none⟩), .pointer (some ⟨ba, 0, none⟩)] w' fun e w'' => e = .returned (.bool (Pb i)) ∧ Below w'.heap.size w' w'')) :
    Calls Try.prog 100 #[.slice (some ⟨gv, 0, none⟩) L cap, .func (.func 101) #[] #[.pointer (some ⟨bp, 0, none⟩), .pointer (some ⟨ba, 0, none⟩)]] w fun e w' => e = .returned (.int .i64 (j : Int)) ∧ Below w.heap.size w w' := by
  go_enter Try.func100, Try.ntmps100
  go_wp2_with fail
  go_loopw [8] (fun i wr => ∃ k : Nat, k ≤ j ∧ i = .int .i64 k ∧ Hid (Below w.heap.size w wr)) (fun i _ => j + 1 - (intOf i).toNat)
  case atStart => exact ⟨0, Nat.zero_le _, rfl, Below.refl _ _⟩
  case round =>
    obtain ⟨k, hk, rfl, hb⟩ := hrel
    obtain ⟨wA, rfl⟩ : ∃ x, x = wr := ⟨_, rfl⟩
    have hkL : k < L := by omega
    have hkm : k < ws.length := by rw [hml]; exact hkL
    have hcx := fun o ho => (hb.out.cell (p := ⟨gv, k * 8 + o, none⟩) hgl).trans (hcl.out k hkm o ho)
    have hFk := Lib.hid (hF.out k hkm _ hb.out)
    obtain ⟨⟨k2, y2, f2⟩, hm⟩ : ∃ m, ws[k] = m := ⟨_, rfl⟩
    rw [hm] at hcx hFk
    have c0 : wA.cell? ⟨gv, k * 8, none⟩ = some (.int .i64 k2) := hcx 0 (show 0 < 8 by omega)
    have c1 : wA.cell? ⟨gv, k * 8 + 1, none⟩ = some (.int .i64 y2) := hcx 1 (show 1 < 8 by omega)
    have c2 : wA.cell? ⟨gv, k * 8 + 2, none⟩ = some (.int .i64 (f2 0)) := hcx 2 (show 2 < 8 by omega)
    have c3 : wA.cell? ⟨gv, k * 8 + 3, none⟩ = some (.int .i64 (f2 1)) := hcx 3 (show 3 < 8 by omega)
    have c4 : wA.cell? ⟨gv, k * 8 + 4, none⟩ = some (.int .i64 (f2 2)) := hcx 4 (show 4 < 8 by omega)
    have c5 : wA.cell? ⟨gv, k * 8 + 5, none⟩ = some (.int .i64 (f2 3)) := hcx 5 (show 5 < 8 by omega)
    have c6 : wA.cell? ⟨gv, k * 8 + 6, none⟩ = some (.int .i64 (f2 4)) := hcx 6 (show 6 < 8 by omega)
    have c7 : wA.cell? ⟨gv, k * 8 + 7, none⟩ = some (.int .i64 (f2 5)) := hcx 7 (show 7 < 8 by omega)
    clear hcx hm
    have hFk : Hid (Calls Try.prog 101 #[.agg (tnC k2 y2 f2), .pointer (some ⟨bp, 0, none⟩), .pointer (some ⟨ba, 0, none⟩)] wA fun e w'' => e = .returned (.bool (Pb k)) ∧ Below wA.heap.size wA w'') := hFk
    have iq0 : (0 : Int) ≤ (k : Int) := by omega
    have iq1 : (k : Int) < (L : Int) := by omega
    by_cases e : k = j
    · have hPt : Hid (Pb k = true) := Lib.hid (by rw [e]; exact hP.out)
      rw [hPt.out] at hFk
      have HE := Lib.hid e
      clear e
      go_wp2_with fail
      refine hFk.out.mono ?_; rintro e' w2 ⟨rfl, hb2⟩
      have hb2 := Lib.hid hb2
      go_wp2_with fail
      go_ret
      exact ⟨ret_int (by rw [HE.out]), hb.out.trans (hb2.out.mono hb.out.size)⟩
    · have hPf : Hid (Pb k = false) := Lib.hid (hnP.out k (by omega))
      rw [hPf.out] at hFk
      go_wp2_with fail
      refine hFk.out.mono ?_; rintro e' w2 ⟨rfl, hb2⟩
      have hb2 := Lib.hid hb2
      go_wp2_with fail
      go_roundw
      case rel => exact ⟨k + 1, by omega, by go_num, Lib.hid (hb.out.trans (hb2.out.mono hb.out.size))⟩
      all_goals (simp [intOf] <;> omega)
set_option maxRecDepth 100000 in
set_option maxHeartbeats 1000000 in
theorem tnearer_any (v : Value) (p s : Nat) (rs : List ByteArray) (d e : List Nat) (m b1 : Nat) (w : World) (hG : GX p s rs) (hd : stOk p s d) (he : stOk p s e) (h : RdX w v p s rs)
    (hm : (fin 1 (nbX p s rs) (allX p s) e).far d = some (m + 1)) (hM : MM hG.ks b1 (fin 1 (nbX p s rs) (allX p s) e).far w) :
    Calls Try.prog 69 #[v, .map (some b1), bsV (dF d)] w fun e' w' => e' = .returned (.agg (tnC ((nkT s rs p (fin 1 (nbX p s rs) (allX p s) e).far d).1 : Nat) (byX (nkT s rs p (fin 1 (nbX p s rs) (allX p s) e).far d).2) (dF (tuD d (nkT s rs p (fin 1 (nbX p s rs) (allX p s) e).far d).1 (nkT s rs p (fin 1 (nbX p s rs) (allX p s) e).far d).2)))) ∧ Below w.heap.size w w' := by
  have hmf : ∀ (fn : Fn) (first cap : Array Value) (w : World), (Instr.makeFunc fn first cap).run Try.prog w = .ok (.func fn first cap) w := fun _ _ _ _ => rfl
  obtain ⟨j, hj, hjk, -, hPj, hlt, -⟩ := nkT_spec hG he hd hm
  have hT := Lib.hid (fun w' (hb : Below w.heap.size w w') => turns_any v p s rs d w' hG hd (h.below hb))
  have hll := tK_len s rs d (2 * p)
  have hok := Lib.hid (fun q (hq : q ∈ tK s rs d (2 * p)) => (tK_ok hd hq).2)
  have h6 := hG.p6
  generalize nkT s rs p (fin 1 (nbX p s rs) (allX p s) e).far d = nk at *
  generalize (fin 1 (nbX p s rs) (allX p s) e).far = FF at *
  generalize tK s rs d (2 * p) = l at *
  clear hm
  obtain ⟨k2, hk2⟩ : ∃ x : Int, Hid (x = (nk.1 : Int)) := ⟨_, Lib.hid rfl⟩
  obtain ⟨y2, hy2⟩ : ∃ x : Int, Hid (x = byX nk.2) := ⟨_, Lib.hid rfl⟩
  obtain ⟨g2, hg2⟩ : ∃ x, Hid (x = dF (tuD d nk.1 nk.2)) := ⟨_, Lib.hid rfl⟩
  have htn : Hid (tnW d nk = (k2, y2, g2)) := Lib.hid (by rw [hk2.out, hy2.out, hg2.out]; rfl)
  rw [← hk2.out, ← hy2.out, ← hg2.out]
  obtain ⟨u, rfl, -⟩ := h
  obtain ⟨w2, hw2⟩ : ∃ w2, Hid (w2 = (((w.alloc (boxO p s u)).alloc (.cells #[.map (some b1)] 77)).alloc (bsO (dF d))).alloc (tnO 0 0 (fun _ => 0))) := ⟨_, Lib.hid rfl⟩
  have hb2 := Lib.hid (show Below w.heap.size w w2 by rw [hw2.out]; exact bt1 (bt1 (bt1 (ba1 w _) (ba1 _ _)) (ba1 _ _)) (ba1 _ _))
  have B2 := Lib.hid (show w2.heap[w.heap.size]? = some (boxO p s u) by rw [hw2.out]; exact hb_old _ (hb_old _ (hb_old _ (hb_new _ _))))
  have M2 := Lib.hid (show w2.heap[w.heap.size + 1]? = some (.cells #[.map (some b1)] 77) by rw [hw2.out]; exact hb_old _ (hb_old _ (hb_new' _ _ _ (by simp))))
  have A2 := Lib.hid (show w2.heap[w.heap.size + 1 + 1]? = some (bsO (dF d)) by rw [hw2.out]; exact hb_old _ (hb_new' _ _ _ (by simp)))
  have R2 := Lib.hid (show w2.heap[w.heap.size + 1 + 1 + 1]? = some (tnO 0 0 (fun _ => 0)) by rw [hw2.out]; exact hb_new' _ _ _ (by simp))
  have hM2 := Lib.hid (hM.below hb2.out)
  have f0 : w2.cell? ⟨w.heap.size, 0, none⟩ = some (.int .i64 p) := hb_cell B2.out 0
  have f1 : w2.cell? ⟨w.heap.size, 1, none⟩ = some (.int .i64 s) := hb_cell B2.out 1
  have f2 : w2.cell? ⟨w.heap.size, 2, none⟩ = some u := hb_cell B2.out 2
  have a0 : w2.cell? ⟨w.heap.size + 1 + 1, 0, none⟩ = some (.int .i64 (dF d 0)) := hb_cell A2.out 0
  have a1 : w2.cell? ⟨w.heap.size + 1 + 1, 1, none⟩ = some (.int .i64 (dF d 1)) := hb_cell A2.out 1
  have a2 : w2.cell? ⟨w.heap.size + 1 + 1, 2, none⟩ = some (.int .i64 (dF d 2)) := hb_cell A2.out 2
  have a3 : w2.cell? ⟨w.heap.size + 1 + 1, 3, none⟩ = some (.int .i64 (dF d 3)) := hb_cell A2.out 3
  have a4 : w2.cell? ⟨w.heap.size + 1 + 1, 4, none⟩ = some (.int .i64 (dF d 4)) := hb_cell A2.out 4
  have a5 : w2.cell? ⟨w.heap.size + 1 + 1, 5, none⟩ = some (.int .i64 (dF d 5)) := hb_cell A2.out 5
  have lR := hb_lt R2.out
  go_enter Try.func69, Try.ntmps69
  go_upto_region 1 with fail
  rw [← hw2.out]
  go_wp2_with fail
  refine (hT.out _ hb2.out).mono ?_; rintro e' w3 ⟨x, rfl, hox, hb3⟩
  obtain ⟨pp, c, rfl, hmx, hr⟩ := hox.rd
  obtain ⟨g, rfl, hgl, hcell⟩ := hr (by intro e; rw [List.map_eq_nil_iff] at e; rw [e] at hj; simp at hj)
  have B3 := Lib.hid (hb_below hb3 (by omega) B2.out)
  have M3 := Lib.hid (hb_below hb3 (by omega) M2.out)
  have A3 := Lib.hid (hb_below hb3 (by omega) A2.out)
  have R3 := Lib.hid (hb_below hb3 lR R2.out)
  have hM3 := Lib.hid (hM2.out.below hb3)
  have hbb := Lib.hid (bt1 hb2.out hb3)
  have hix := Lib.hid (tixf_any g (l.map (tnW d)).length c (w.heap.size + 1) (w.heap.size + 1 + 1) j (l.map (tnW d)) (fun i => nrT FF d (l.getD i (0, true))) w3 (by rw [List.length_map]; omega) rfl (by rw [List.length_map]; exact hj) hgl (Lib.hid hcell) (Lib.hid (by show nrT FF d (l.getD j _) = true; rw [List.getD_eq_getElem?_getD, List.getElem?_eq_getElem hj]; exact hPj)) (Lib.hid fun i hi => by
      have hil : i < l.length := by omega
      show nrT FF d (l.getD i _) = false; rw [List.getD_eq_getElem?_getD, List.getElem?_eq_getElem hil]; exact hlt i hil hi) (Lib.hid fun i h w' hbw => by
      have hil : i < l.length := by rw [List.length_map] at h; exact h
      have := tcloser_any hG FF b1 (w.heap.size + 1) (w.heap.size + 1 + 1) d (tuD d l[i].1 l[i].2) (l[i].1 : Nat) (byX l[i].2) w' hd (hok.out _ (List.getElem_mem hil)) (hM3.out.below hbw) (by rw [hbw.cell (p := ⟨w.heap.size + 1, 0, none⟩) (hb_lt M3.out)]; exact hb_cell M3.out 0) (fun o ho => by
        rw [hbw.cell (p := ⟨w.heap.size + 1 + 1, o, none⟩) (hb_lt A3.out), hb_cell A3.out o]
        match o, ho with
        | 0, _ => rfl
        | 1, _ => rfl
        | 2, _ => rfl
        | 3, _ => rfl
        | 4, _ => rfl
        | 5, _ => rfl)
      simp only [List.getElem_map]
      have e9 : l.getD i (0, true) = l[i] := by rw [List.getD_eq_getElem?_getD, List.getElem?_eq_getElem hil]; rfl
      rw [e9]
      exact this))
  simp only [List.length_map] at hix hmx ⊢
  have hcj := fun o ho => hcell j (by rw [List.length_map]; exact hj) o ho
  rw [List.getElem_map, hjk] at hcj
  clear hcell hr hjk hPj hlt hok hox f0 f1 f2 a0 a1 a2 a3 a4 a5
  rw [htn.out] at hcj
  clear htn
  replace hb3 := Lib.hid hb3
  replace hcj := Lib.hid hcj
  have iq0 : (0 : Int) ≤ (j : Int) := by omega
  have iq1 : (j : Int) < (l.length : Int) := by omega
  go_wp2_with fail
  refine hix.out.mono ?_; rintro e' w4 ⟨rfl, hb4⟩
  have hc4 := fun o ho => (hb4.cell (p := ⟨g, j * 8 + o, none⟩) hgl).trans (hcj.out o ho)
  have c0 : w4.cell? ⟨g, j * 8, none⟩ = some (.int .i64 k2) := hc4 0 (show 0 < 8 by omega)
  have c1 : w4.cell? ⟨g, j * 8 + 1, none⟩ = some (.int .i64 y2) := hc4 1 (show 1 < 8 by omega)
  have c2 : w4.cell? ⟨g, j * 8 + 2, none⟩ = some (.int .i64 (g2 0)) := hc4 2 (show 2 < 8 by omega)
  have c3 : w4.cell? ⟨g, j * 8 + 3, none⟩ = some (.int .i64 (g2 1)) := hc4 3 (show 3 < 8 by omega)
  have c4 : w4.cell? ⟨g, j * 8 + 4, none⟩ = some (.int .i64 (g2 2)) := hc4 4 (show 4 < 8 by omega)
  have c5 : w4.cell? ⟨g, j * 8 + 5, none⟩ = some (.int .i64 (g2 3)) := hc4 5 (show 5 < 8 by omega)
  have c6 : w4.cell? ⟨g, j * 8 + 6, none⟩ = some (.int .i64 (g2 4)) := hc4 6 (show 6 < 8 by omega)
  have c7 : w4.cell? ⟨g, j * 8 + 7, none⟩ = some (.int .i64 (g2 5)) := hc4 7 (show 7 < 8 by omega)
  have R4 := Lib.hid (hb_below hb4 (hb_lt R3.out) R3.out)
  have r0 : w4.cell? ⟨w.heap.size + 1 + 1 + 1, 0, none⟩ = some (.int .i64 0) := hb_cell R4.out 0
  have r1 : w4.cell? ⟨w.heap.size + 1 + 1 + 1, 1, none⟩ = some (.int .i64 0) := hb_cell R4.out 1
  have r2 : w4.cell? ⟨w.heap.size + 1 + 1 + 1, 2, none⟩ = some (.int .i64 0) := hb_cell R4.out 2
  have r3 : w4.cell? ⟨w.heap.size + 1 + 1 + 1, 3, none⟩ = some (.int .i64 0) := hb_cell R4.out 3
  have r4 : w4.cell? ⟨w.heap.size + 1 + 1 + 1, 4, none⟩ = some (.int .i64 0) := hb_cell R4.out 4
  have r5 : w4.cell? ⟨w.heap.size + 1 + 1 + 1, 5, none⟩ = some (.int .i64 0) := hb_cell R4.out 5
  have r6 : w4.cell? ⟨w.heap.size + 1 + 1 + 1, 6, none⟩ = some (.int .i64 0) := hb_cell R4.out 6
  have r7 : w4.cell? ⟨w.heap.size + 1 + 1 + 1, 7, none⟩ = some (.int .i64 0) := hb_cell R4.out 7
  have zf := hb_frozen R4.out
  have lR4 := hb_lt R4.out
  have hbf := Lib.hid (bt1 hbb.out hb4)
  clear hc4 hb4
  go_wp2_with fail
  refine bodyPost_ret (v := .agg (tnC k2 y2 g2)) ?_ rfl ⟨rfl, ?_⟩
  · simp [results, Try.results69, go_sem, lR4, r0, r1, r2, r3, r4, r5, r6, r7]
  · have h0 := hbf.out
    repeat (first | (with_reducible exact h0) | (with_reducible refine Below.setCell ?_ ?_ _; rotate_left; (show w.heap.size ≤ w.heap.size + 1 + 1 + 1; omega)))
end Go.Proofs.Ytjlecipeoaohiaa
