/- In how many ways so few slides lead from one state to another one: the model's walk. -/
import Derived.Test.YtcfeaaakfjilgaaSN
import Derived.Deep.RegionHeld3
import Derived.BigRegion
import Derived.StillTailTactics
namespace Go.Proofs.Ytcfeaaakfjilgaa
set_option linter.unusedSimpArgs false
set_option linter.unusedVariables false
open Go Go.RowKit RM
theorem sumI2 (o wy : Nat) (ho : o ≤ 1000000000000001) (hwy : wy ≤ 1000000000000001) : IntKind.i64.wrap ((o : Int) + (wy : Int)) = (o : Int) + (wy : Int) := by rw [IntKind.wrap_i64]; omega
theorem sumc (W1 W2 c M : Nat) (hc : c = W1 + W2) (hM : M = 1000000000000001) (h1 : W1 ≤ M) (h2 : W2 ≤ M) : c ≤ 4000000000000000 ∧ wrap64 ((W1 : Int) + (W2 : Int)) = (c : Int) ∧ IntKind.i64.wrap ((W1 : Int) + (W2 : Int)) = (c : Int) := by
  subst hM
  have e : ((W1 : Int) + (W2 : Int)) = (c : Int) := by rw [hc, Int.natCast_add]
  refine ⟨by omega, (sumI W1 W2 h1 h2).trans e, (sumI2 W1 W2 h1 h2).trans e⟩
set_option maxRecDepth 100000 in
set_option maxHeartbeats 4000000 in
theorem sCW_yes (v : Value) (ps : List Nat) (bs : List Blk) (dx dy : List Nat) (w : World) (hG : GB ps bs) (h : Bo w v (ints ps) bs) (hxU : dx ∈ allU ps bs) (hyU : dy ∈ allU ps bs)
    (hA : Hid (∀ w v, Bo w v (ints ps) bs → Calls Try.prog 41 #[v, .string (tS dx), .string (tS dy)] w fun e w' => e = .returned (.bool true) ∧ Below w.heap.size w w')) (n : Nat) (ho : (fin MW (nbS ps bs) (allU ps bs) dx).way dy = n) (r : Int) (ok : Bool) (hr1 : Hid (1000000000000000 < n → r = 0 ∧ ok = false)) (hr2 : Hid (¬ 1000000000000000 < n → r = (n : Int) ∧ ok = true)) :
    Calls Try.prog 23 #[v, .string (tS dx), .string (tS dy)] w fun e w' => e = .returned (.tuple #[.int .i64 r, .bool ok]) ∧ Below w.heap.size w w' := by
  have h0 := Lib.hid h
  obtain ⟨pv, bv, rfl, -, -⟩ := h
  obtain ⟨w2, hw2⟩ : ∃ w2, Hid (w2 = w.alloc (.cells #[pv, bv] 31)) := ⟨_, Lib.hid rfl⟩
  have hb2 : Hid (Below w.heap.size w w2) := Lib.hid (by rw [hw2.out]; exact ba1 w _)
  have F := Lib.hid (show w2.heap[w.heap.size]? = some (.cells #[pv, bv] 31) by rw [hw2.out]; exact hb_new _ _)
  have hA2 := Lib.hid (hA.out w2 _ (h0.out.below hb2.out))
  have hB := Lib.hid (fun w' hb => boFar_any MW _ ps bs dx w' hG (h0.out.below hb) hxU (by decide))
  have hNum := Lib.hid (fun w' hb t ht => boNumber_any _ ps bs t w' hG (h0.out.below hb) ht)
  have hSlv := Lib.hid (fun w' hb t ht => boSlides_any _ ps bs t w' hG (h0.out.below hb) ht)
  have hPut := Lib.hid (fun w' hb t b up ht hb' => boPut_at _ ps bs t b up w' hG (h0.out.below hb) ht hb')
  have hdx := Lib.hid ((mem_U hG).1 hxU).1
  have hdy := Lib.hid ((mem_U hG).1 hyU).1
  have hend := Lib.hid (fun k hk => ways2_end (univS hG) hxU MW k hk)
  have hFo := Lib.hid ((univS hG).fin_ok MW dx)
  have hFq := Lib.hid (fin_sb hG hxU)
  have hwle := Lib.hid (fun k => ways2_le MW (by decide) (nbS ps bs) (fin MW (nbS ps bs) (allU ps bs) dx) dx k)
  have hFe := Lib.hid (show ∀ z t, z ∈ (fin MW (nbS ps bs) (allU ps bs) dx).q → t ∈ nbS ps bs z → t ∈ (fin MW (nbS ps bs) (allU ps bs) dx).q from fun z t hz ht => by
    obtain ⟨i, hi⟩ := List.getElem?_of_mem hz
    refine (hFo.out.cl i z ?_ hi t ht).1
    exact Nat.lt_of_lt_of_le (List.getElem?_eq_some_iff.1 hi).1 (nodup_sub_len hFq.out.nd hFq.out.sub))
  have hDle := Lib.hid (fun i z hi => dst_le (M := MW) (nb := nbS ps bs) (s0 := dx) (allU ps bs).length i z hi)
  change Hid (∀ i z, (fin MW (nbS ps bs) (allU ps bs) dx).q[i]? = some z → (fin MW (nbS ps bs) (allU ps bs) dx).dst z ≤ i) at hDle
  generalize (fin MW (nbS ps bs) (allU ps bs) dx) = FF at *
  obtain ⟨M, hM⟩ : ∃ M, Hid (M = MW) := ⟨_, Lib.hid rfl⟩
  rw [← hM.out] at hend hwle
  have hLe := Lib.hid (show ∀ (b : Nat) (w : World), b ≤ 4000000000000000 → Calls Try.prog 58 #[.int .i64 1000000000000001, .int .i64 b] w fun e w' => e = .returned (.int .i64 ((min b M : Nat) : Int)) ∧ w = w' from fun b w hb => by
    rw [hM.out, Nat.min_comm]
    exact least_any 1000000000000001 b w (by decide) hb)
  have hN9 := hG.n
  have hNp := pr_pos hG ps.length
  have hone := Lib.hid (wS_one hG hdx.out M (nbS ps bs) FF)
  have hsetW := Lib.hid (fun t ht f g D h ho => wS_set (t := t) hG ht f g D h ho)
  have hgetW := Lib.hid (fun t (ht : isSt ps t) f h => wS_get (t := t) ht f h)
  have hlenW := Lib.hid (fun f => wS_len ps f)
  have hgetS := Lib.hid (fun t (ht : isSt ps t) f h => mS_get (t := t) ht f h)
  have hlenS := Lib.hid (fun f => mS_len ps f)
  have hltS := Lib.hid (fun t (ht : isSt ps t) => nm_st (t := t) ht)
  obtain ⟨N, hN⟩ : ∃ N, pr ps ps.length = N := ⟨_, rfl⟩
  rw [hN] at hB hN9 hNp hone hlenS hltS hlenW
  replace hN := Lib.hid hN
  have hmk := run_make_row' (P := Try.prog) 22 3 (.int .i64 0) 8 Try.underlying22 intInfo rfl .i64 .i64 N (by omega) (by omega)
  go_enter Try.func23, Try.ntmps23
  go_wp2_with fail
  rw [← hw2.out]
  refine hA2.out.mono ?_; rintro e w3 ⟨rfl, hb3⟩
  have F3 := Lib.hid (hb_below hb3 (hb_lt F.out) F.out)
  have hl3 : w.heap.size < w3.heap.size := hb_lt F3.out
  have f0 : w3.cell? ⟨w.heap.size, 0, none⟩ = some pv := hb_cell F3.out 0
  have f1 : w3.cell? ⟨w.heap.size, 1, none⟩ = some bv := hb_cell F3.out 1
  replace hb3 := Lib.hid (bt1 hb2.out hb3)
  go_wp2_with fail
  refine (hB.out _ hb3.out).mono ?_; rintro e w4 ⟨gm, u, rfl, hm, hq, hb4⟩
  clear f0 f1
  rcases hq.form with ⟨_, e⟩ | ⟨gq, cap, hqe, hgq, hgql, -, _, _⟩
  · exfalso
    rw [List.map_eq_nil_iff] at e
    have h1 := hFo.out.mem dx
    rw [e, hFo.out.zero] at h1
    have := h1.2 (by simp)
    cases this
  rw [List.length_map] at hqe
  subst hqe
  obtain ⟨l0, hl0⟩ : ∃ l, Hid (l = FF.q.length) := ⟨_, Lib.hid rfl⟩
  rw [← hl0.out] at hq ⊢
  have hl9 : l0 ≤ 1000 := by rw [hl0.out]; exact Nat.le_trans (nodup_sub_len hFq.out.nd hFq.out.sub) (U_len hG)
  obtain ⟨w5, hw5⟩ : ∃ w5, Hid (w5 = w4.alloc (.cells (madeCells #[.int .i64 0] N) 3)) := ⟨_, Lib.hid rfl⟩
  have hb5 := Lib.hid (show Below w4.heap.size w4 w5 by rw [hw5.out]; exact ba1 w4 _)
  obtain ⟨gw, hgw⟩ : ∃ gw, gw = w4.heap.size := ⟨_, rfl⟩
  have hT5 := Lib.hid (show TW w3.heap.size w3 w5 N gm gw (.slice (some ⟨gq, 0, none⟩) l0 cap) (FF.q.map tS) (mS ps FF.far) (List.replicate N 0) from
    ⟨hm.below hb5.out, by rw [hw5.out, hgw]; exact own_mk (hb_new _ _) hb4.size (by omega), hq.below hb5.out, by have := (hm.lt gm rfl).2; omega, hb4.trans (hb5.out.mono hb4.size), Nat.le_trans hb4.size hb5.out.size⟩)
  have F5 := Lib.hid (hb_below hT5.out.bel hl3 F3.out)
  have f0 : w5.cell? ⟨w.heap.size, 0, none⟩ = some pv := hb_cell F5.out 0
  have f1 : w5.cell? ⟨w.heap.size, 1, none⟩ = some bv := hb_cell F5.out 1
  have hbw5 := Lib.hid (bt1 hb3.out hT5.out.bel)
  clear hm hq hb4
  go_upto_region 5 with fail
  rw [← hw5.out, ← hgw]
  replace hgw := Lib.hid hgw
  go_wp2_with fail
  refine (hNum.out _ hbw5.out dx hdx.out).mono ?_; rintro e w6 ⟨rfl, hb6⟩
  have hT6 := Lib.hid (hT5.out.below hb6)
  have hnx := hltS.out dx hdx.out
  obtain ⟨c0, cf⟩ := hT6.out.wy.cell (by simp) (nm ps dx ps.length) (by simpa using hnx)
  rw [List.getElem_replicate] at c0
  clear hb6 f0 f1
  obtain ⟨w7, hw7⟩ : ∃ w7, Hid (w7 = w6.setCell ⟨gw, nm ps dx ps.length, none⟩ (.int .i64 1)) := ⟨_, Lib.hid rfl⟩
  have hT7 := Lib.hid (show TW w3.heap.size w3 w7 N gm gw (.slice (some ⟨gq, 0, none⟩) l0 cap) (FF.q.map tS) (mS ps FF.far) (wS ps (ways2 M (nbS ps bs) FF dx 0)) by
    have h1 := hT6.out.store (by simp) (nm ps dx ps.length) 1
    rw [hone.out] at h1
    rw [hw7.out]; exact h1)
  go_upto_region 6 with fail
  rw [← hw7.out]
  clear c0 cf
  go_wp2_with fail
  go_loopw [41] (fun i wr => ∃ k : Nat, k ≤ l0 ∧ i = .int .i64 k ∧ Hid (TW w3.heap.size w3 wr N gm gw (.slice (some ⟨gq, 0, none⟩) l0 cap) (FF.q.map tS) (mS ps FF.far) (wS ps (ways2 M (nbS ps bs) FF dx k)))) (fun i _ => l0 - (intOf i).toNat)
  case atStart => exact ⟨0, Nat.zero_le _, rfl, hT7⟩
  case round =>
    obtain ⟨k, hk, rfl, hS⟩ := hrel
    generalize wr = wo at *
    by_cases hkl : k < l0
    · have hklq : k < FF.q.length := by rw [← hl0.out]; exact hkl
      obtain ⟨z, hz⟩ : ∃ z, Hid (z = FF.q[k]) := ⟨_, Lib.hid rfl⟩
      have hat : Hid (FF.q[k]? = some z) := Lib.hid (by rw [hz.out]; exact List.getElem?_eq_getElem hklq)
      have hzq := Lib.hid (List.mem_of_getElem? hat.out)
      have hzU := Lib.hid (hFq.out.sub z hzq.out)
      have hzS := Lib.hid ((mem_U hG).1 hzU.out).1
      obtain ⟨a0, -⟩ := hS.out.qu.cell (by rw [List.length_map, hl0.out]) k (by simpa using hklq)
      rw [show (FF.q.map tS)[k]'(by simpa using hklq) = tS z from by rw [hz.out]; simp] at a0
      obtain ⟨D, hD⟩ : ∃ D, Hid (D = FF.dst z) := ⟨_, Lib.hid rfl⟩
      have hDf : Hid (FF.far z = some D) := Lib.hid (by rw [hD.out]; exact hFo.out.dst hzq.out)
      have hnxt := Lib.hid (ways2_some (M := M) (nb := nbS ps bs) (F := FF) (s0 := dx) hat.out)
      rw [← hD.out] at hnxt
      have hzn : nm ps z ps.length < N := hltS.out z hzS.out
      have Fo := Lib.hid (hb_below hS.out.bel hl3 F3.out)
      have f0 : wo.cell? ⟨w.heap.size, 0, none⟩ = some pv := hb_cell Fo.out 0
      have f1 : wo.cell? ⟨w.heap.size, 1, none⟩ = some bv := hb_cell Fo.out 1
      have hbo := Lib.hid (bt1 hb3.out hS.out.bel)
      have hms9 : (slS ps bs z).length ≤ 1000 := by have := slK_len (ps := ps) (bs := bs) z ps.length; have := hG.l6; unfold slS; omega
      go_wp2_with fail
      refine (hNum.out _ hbo.out z hzS.out).mono ?_; rintro e w8 ⟨rfl, hb8⟩
      have hS8 := Lib.hid (hS.out.below hb8)
      have F8 := Lib.hid (hb_below hS8.out.bel hl3 F3.out)
      have hbw8 := Lib.hid (bt1 hb3.out hS8.out.bel)
      clear f0 f1 a0 hb8
      have f0 : w8.cell? ⟨w.heap.size, 0, none⟩ = some pv := hb_cell F8.out 0
      have f1 : w8.cell? ⟨w.heap.size, 1, none⟩ = some bv := hb_cell F8.out 1
      go_wp2_with fail
      refine (hSlv.out _ hbw8.out z hzS.out).mono ?_; rintro e w9 ⟨u, rfl, hu, hb9⟩
      obtain ⟨pu, cu, rfl⟩ : ∃ p c, u = .slice p ((slS ps bs z).map slV).length c := by obtain ⟨p, c, e, h⟩ := hu.rd; exact ⟨p, c, e⟩
      have hS9 := Lib.hid (hS8.out.below hb9)
      have hg8 : gw < w8.heap.size := (hS8.out.wy.lt gw rfl).2
      rw [List.length_map] at hu
      obtain ⟨nu, hnu⟩ : ∃ nu, (slS ps bs z).length = nu := ⟨_, rfl⟩
      rw [hnu] at hu hms9
      have hu9 := Lib.hid hu
      have hnu2 : Hid (((slS ps bs z).map slV).length = nu) := Lib.hid (by rw [List.length_map, hnu])
      rw [hnu2.out]
      replace hnu := Lib.hid hnu
      clear f0 f1 hb9 hu
      generalize hnz : nm ps z ps.length = nz at *
      generalize hsz : tS z = sz at *
      go_wp2_with fail
      go_loopw [52] (fun i wr => ∃ j : Nat, j ≤ nu ∧ i = .int .i64 j ∧ Hid (TW w3.heap.size w3 wr N gm gw (.slice (some ⟨gq, 0, none⟩) l0 cap) (FF.q.map tS) (mS ps FF.far) (wS ps (ways2p M FF.far z (D + 1) ((nbS ps bs z).take j) (ways2 M (nbS ps bs) FF dx k)))) ∧ Hid (OwnG slE wr w8.heap.size (.slice pu nu cu) ((slS ps bs z).map slV))) (fun i _ => nu - (intOf i).toNat)
      case atStart => exact ⟨0, Nat.zero_le _, rfl, hS9, hu9⟩
      case round =>
        obtain ⟨j, hj, rfl, hT, hus⟩ := hrel
        generalize wr = wi at *
        by_cases hlj : j < nu
        · have hjm : j < (slS ps bs z).length := by rw [hnu.out]; exact hlj
          have hjv : j < ((slS ps bs z).map slV).length := by rw [List.length_map]; exact hjm
          obtain ⟨gu, rfl, hgu, s0, s1⟩ := hus.out.rg.sl hjv
          have hmem := List.getElem_mem hjm
          have hnbj : (nbS ps bs z)[j]? = some (mvS z (slS ps bs z)[j].1 (slS ps bs z)[j].2) := by unfold nbS; rw [List.getElem?_map, List.getElem?_eq_getElem hjm]; rfl
          rw [List.getElem_map] at s0 s1
          generalize (slS ps bs z)[j] = m at *
          obtain ⟨mb, mu⟩ := m
          obtain ⟨hmb, hcan⟩ := mem_sl.1 hmem
          dsimp only at hnbj
          replace s0 : wi.cell? ⟨gu, j * 2, none⟩ = some (.int .i64 (mb : Int)) := s0
          replace s1 : wi.cell? ⟨gu, j * 2 + 1, none⟩ = some (.int .i64 (byI mu)) := s1
          have hnxm := List.mem_of_getElem? hnbj
          have hnxq := Lib.hid (hFe.out z _ hzq.out hnxm)
          have hnxS := Lib.hid ((mem_U hG).1 (hFq.out.sub _ hnxq.out)).1
          have htk : (nbS ps bs z).take (j + 1) = (nbS ps bs z).take j ++ [mvS z mb mu] := by rw [List.take_add_one, hnbj]; rfl
          have hstep := Lib.hid (show ways2p M FF.far z (D + 1) ((nbS ps bs z).take (j + 1)) (ways2 M (nbS ps bs) FF dx k) = (if FF.far (mvS z mb mu) = some (D + 1) then (fun u => if u = mvS z mb mu then min ((ways2p M FF.far z (D + 1) ((nbS ps bs z).take j) (ways2 M (nbS ps bs) FF dx k)) (mvS z mb mu) + (ways2p M FF.far z (D + 1) ((nbS ps bs z).take j) (ways2 M (nbS ps bs) FF dx k)) z) M else (ways2p M FF.far z (D + 1) ((nbS ps bs z).take j) (ways2 M (nbS ps bs) FF dx k)) u) else ways2p M FF.far z (D + 1) ((nbS ps bs z).take j) (ways2 M (nbS ps bs) FF dx k)) from (congrArg (fun l => ways2p M FF.far z (D + 1) l (ways2 M (nbS ps bs) FF dx k)) htk).trans (ways2p_snoc M FF.far z (D + 1) ((nbS ps bs z).take j) (mvS z mb mu) (ways2 M (nbS ps bs) FF dx k)))
          have hwl := Lib.hid (ways2p_le M FF.far z (D + 1) ((nbS ps bs z).take j) _ (hwle.out k))
          have hPt := Lib.hid (fun W hb => (hPut.out W hb z mb mu hzS.out hmb).mono (R' := fun e w' => e = .returned (.tuple #[.string (tS (mvS z mb mu)), .bool true]) ∧ Below W.heap.size W w') (by rintro e w' ⟨t, rfl, h1, h2⟩; rw [hcan, h1 hcan]; exact ⟨rfl, h2⟩))
          rw [hsz] at hPt
          have hntl := hltS.out _ hnxS.out
          obtain ⟨E, hE⟩ : ∃ E, FF.far (mvS z mb mu) = some E := ⟨_, hFo.out.dst hnxq.out⟩
          clear hnbj hmem hnxm htk
          generalize mvS z mb mu = nx at *
          obtain ⟨wa, hwa⟩ : ∃ wa, Hid (wa = wi.alloc (.cells #[.int .i64 (mb : Int), .int .i64 (byI mu)] 79)) := ⟨_, Lib.hid rfl⟩
          have hba := Lib.hid (show Below wi.heap.size wi wa by rw [hwa.out]; exact ba1 wi _)
          have Ma := Lib.hid (show wa.heap[wi.heap.size]? = some (.cells #[.int .i64 (mb : Int), .int .i64 (byI mu)] 79) by rw [hwa.out]; exact hb_new _ _)
          have hTa := Lib.hid (hT.out.below hba.out)
          have hua := Lib.hid (hus.out.below hba.out)
          have Fa := Lib.hid (hb_below hTa.out.bel hl3 F3.out)
          have hbwa := Lib.hid (bt1 hb3.out hTa.out.bel)
          have f0 : wa.cell? ⟨w.heap.size, 0, none⟩ = some pv := hb_cell Fa.out 0
          have f1 : wa.cell? ⟨w.heap.size, 1, none⟩ = some bv := hb_cell Fa.out 1
          have m0 : wa.cell? ⟨wi.heap.size, 0, none⟩ = some (.int .i64 (mb : Int)) := hb_cell Ma.out 0
          have m1 : wa.cell? ⟨wi.heap.size, 1, none⟩ = some (.int .i64 (byI mu)) := hb_cell Ma.out 1
          have l1 := hb_lt Ma.out
          go_upto_region 13 with fail
          rw [← hwa.out]
          go_wp2_with fail
          refine (hPt.out _ hbwa.out).mono ?_; rintro e wb ⟨rfl, hbb⟩
          have hTb := Lib.hid (hTa.out.below hbb)
          have hub := Lib.hid (hua.out.below hbb)
          have Fb := Lib.hid (hb_below hTb.out.bel hl3 F3.out)
          have hbwb := Lib.hid (bt1 hb3.out hTb.out.bel)
          clear f0 f1 m0 m1 hbb s0 s1
          have f0 : wb.cell? ⟨w.heap.size, 0, none⟩ = some pv := hb_cell Fb.out 0
          have f1 : wb.cell? ⟨w.heap.size, 1, none⟩ = some bv := hb_cell Fb.out 1
          go_wp2_with fail
          refine (hNum.out _ hbwb.out nx hnxS.out).mono ?_; rintro e we ⟨rfl, hbe⟩
          have hTe := Lib.hid (hTb.out.below hbe)
          have hue := Lib.hid (hub.out.below hbe)
          clear f0 f1 hbe
          obtain ⟨c0, -⟩ := hTe.out.mv.cell (hlenS.out _) (nm ps nx ps.length) (by rw [hlenS.out]; exact hntl)
          obtain ⟨c1, -⟩ := hTe.out.mv.cell (hlenS.out _) (nm ps z ps.length) (by rw [hlenS.out, hnz]; exact hzn)
          rw [hgetS.out nx hnxS.out, hE] at c0
          rw [hgetS.out z hzS.out, hDf.out, hnz] at c1
          obtain ⟨d0, df⟩ := hTe.out.wy.cell (hlenW.out _) (nm ps nx ps.length) (by rw [hlenW.out]; exact hntl)
          obtain ⟨d1, -⟩ := hTe.out.wy.cell (hlenW.out _) (nm ps z ps.length) (by rw [hlenW.out, hnz]; exact hzn)
          rw [hgetW.out nx hnxS.out] at d0
          rw [hgetW.out z hzS.out, hnz] at d1
          replace c0 : we.cell? ⟨gm, nm ps nx ps.length, none⟩ = some (.int .i64 (E : Int)) := c0
          replace c1 : we.cell? ⟨gm, nz, none⟩ = some (.int .i64 (D : Int)) := c1
          have hD9 : D ≤ 1000 := by
            obtain ⟨i, hi⟩ := List.getElem?_of_mem hzq.out
            have h1 := (List.getElem?_eq_some_iff.1 hi).1
            rw [hD.out]
            exact Nat.le_trans (hDle.out i z hi) (by rw [← hl0.out] at h1; omega)
          have hsw := Lib.hid (fun g D' h ho => hsetW.out nx hnxS.out (ways2p M FF.far z (D + 1) ((nbS ps bs z).take j) (ways2 M (nbS ps bs) FF dx k)) g D' h ho)
          have hlw := hlenW.out (ways2p M FF.far z (D + 1) ((nbS ps bs z).take j) (ways2 M (nbS ps bs) FF dx k))
          have hw1 := hwl.out nx
          have hw2 := hwl.out z
          obtain ⟨W1, hW1⟩ : ∃ W1, Hid (W1 = (ways2p M FF.far z (D + 1) ((nbS ps bs z).take j) (ways2 M (nbS ps bs) FF dx k)) nx) := ⟨_, Lib.hid rfl⟩
          obtain ⟨W2, hW2⟩ : ∃ W2, Hid (W2 = (ways2p M FF.far z (D + 1) ((nbS ps bs z).take j) (ways2 M (nbS ps bs) FF dx k)) z) := ⟨_, Lib.hid rfl⟩
          rw [← hW1.out] at d0 hw1
          rw [← hW2.out] at d1 hw2
          rw [← hW1.out, ← hW2.out, hE] at hstep
          generalize hntv : nm ps nx ps.length = nt at *
          by_cases hED : E = D + 1
          · subst hED
            obtain ⟨c, hc⟩ : ∃ c, c = W1 + W2 := ⟨_, rfl⟩
            obtain ⟨hc9, hsum, hsum2⟩ := sumc W1 W2 c M hc hM.out hw1 hw2
            replace hc9 := Lib.hid hc9
            have hst := hstep.out
            rw [if_pos rfl, ← hc] at hst
            obtain ⟨mn, hmn⟩ : ∃ mn, mn = min c M := ⟨_, rfl⟩
            have hLc := Lib.hid (fun w => hLe.out c w hc9.out)
            rw [← hmn] at hLc hst
            have hset := Lib.hid (show (wS ps (ways2p M FF.far z (D + 1) ((nbS ps bs z).take j) (ways2 M (nbS ps bs) FF dx k))).set nt (mn : Int) = wS ps (ways2p M FF.far z (D + 1) ((nbS ps bs z).take (j + 1)) (ways2 M (nbS ps bs) FF dx k)) from hsw.out (ways2p M FF.far z (D + 1) ((nbS ps bs z).take (j + 1)) (ways2 M (nbS ps bs) FF dx k)) mn (by rw [hst]; exact if_pos rfl) (fun u hu => by rw [hst]; exact if_neg hu))
            clear hst hw1 hw2 hc hmn
            go_wp2_with fail
            go_quiet (fail)
            go_wp2_with fail
            go_region_with (go_at_call 58; refine (hLc.out _).mono ?_; rintro e w' ⟨rfl, rfl⟩)
            all_goals
              go_wp2_with fail
              go_roundw
              case rel =>
                refine ⟨j + 1, by omega, by go_num, Lib.hid ?_, Lib.hid ?_⟩
                · have h1 := (hTe.out.below (below_drewN (Below.refl _ _) (nq + 1))).store hlw nt (mn : Int)
                  rw [hset.out] at h1
                  exact h1
                · exact (hue.out.below (below_drewN (Below.refl _ _) (nq + 1))).grown (grown_set _ gw nt _) hg8
              all_goals (simp [intOf] <;> omega)
          · have hne2 : ((E : Int) == (D : Int) + 1) = false := by
              rw [beq_eq_false_iff_ne]; intro e; apply hED; omega
            have hne3 : ¬ (E : Int) = (D : Int) + 1 := by omega
            have hst := hstep.out
            rw [if_neg (fun e => hED (Option.some.inj e))] at hst
            rw [← hst] at hTe
            clear hst hED hw1 hw2
            go_wp2_with fail
            go_quiet (fail)
            go_wp2_with fail
            go_roundw
            case rel => exact ⟨j + 1, by omega, by go_num, Lib.hid (hTe.out.below (below_drewN (Below.refl _ _) nq)), Lib.hid (hue.out.below (below_drewN (Below.refl _ _) nq))⟩
            all_goals (simp [intOf] <;> omega)
        · have hall : ways2p M FF.far z (D + 1) ((nbS ps bs z).take j) (ways2 M (nbS ps bs) FF dx k) = ways2 M (nbS ps bs) FF dx (k + 1) := by
            rw [hnxt.out, List.take_of_length_le (by unfold nbS; rw [List.length_map, hnu.out]; omega)]
          rw [hall] at hT
          clear hall
          go_wp2_with fail
          go_roundw
          case rel => exact ⟨k + 1, by omega, by go_num, hT⟩
          all_goals (simp [intOf] <;> omega)
    · obtain rfl : k = l0 := by omega
      have Fo := Lib.hid (hb_below hS.out.bel hl3 F3.out)
      have f0 : wo.cell? ⟨w.heap.size, 0, none⟩ = some pv := hb_cell Fo.out 0
      have f1 : wo.cell? ⟨w.heap.size, 1, none⟩ = some bv := hb_cell Fo.out 1
      have hbo := Lib.hid (bt1 hb3.out hS.out.bel)
      go_wp2_with fail
      refine (hNum.out _ hbo.out dy hdy.out).mono ?_; rintro e w9 ⟨rfl, hb9⟩
      have hny := hltS.out dy hdy.out
      have hS9 := hS.out.below hb9
      obtain ⟨c0, -⟩ := hS9.wy.cell (hlenW.out _) (nm ps dy ps.length) (by rw [hlenW.out]; exact hny)
      have hlm := congrFun (hend.out k (by rw [hl0.out]; exact Nat.le_refl _)) dy
      rw [hgetW.out dy hdy.out, hlm, ho] at c0
      have hbf := Lib.hid (bt1 hbo.out hb9)
      clear hS9 hb9 f0 f1 hlm
      generalize nm ps dy ps.length = ny at *
      by_cases hbig : 1000000000000000 < n
      · have hc : decide ((n : Int) > 1000000000000000) = true := by rw [decide_eq_true]; omega
        obtain ⟨rfl, rfl⟩ := hr1.out hbig
        replace hbig := Lib.hid hbig
        go_wp2_with fail
        go_ret2; exact ⟨rfl, hbf.out⟩
      · have hc : decide ((n : Int) > 1000000000000000) = false := by rw [decide_eq_false]; omega
        obtain ⟨rfl, rfl⟩ := hr2.out hbig
        replace hbig := Lib.hid hbig
        go_wp2_with fail
        go_ret2; exact ⟨rfl, hbf.out⟩
end Go.Proofs.Ytcfeaaakfjilgaa
