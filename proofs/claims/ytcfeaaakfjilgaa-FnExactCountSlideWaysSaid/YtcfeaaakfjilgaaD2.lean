/- The model's check of bolts. -/
import Derived.Test.YtcfeaaakfjilgaaD1
namespace Go.Proofs.Ytcfeaaakfjilgaa
open Go Go.RowKit RM
theorem goodBo_eq (ps : List Int) (bs : List Blk) : goodBo ps bs = ((decide (1 ≤ ps.length) && decide (ps.length ≤ 6) && allIn ps 2 5 && decide (prI ps ≤ 1000)) && decide (bs.length ≤ 40) && bs.all (okBlk ps)) := rfl
theorem all_no {α : Type} (f : α → Bool) (bs : List α) (k : Nat) (hk : k < bs.length) (h : f bs[k] = false) : bs.all f = false := by
  rw [← Bool.not_eq_true]; intro ht
  have := List.all_eq_true.1 ht bs[k] (List.getElem_mem _)
  rw [h] at this; cases this
theorem all_snoc {α : Type} (f : α → Bool) (bs : List α) (k : Nat) (hk : k < bs.length) (h : (bs.take k).all f = true) (h1 : f bs[k] = true) : (bs.take (k + 1)).all f = true := by
  rw [List.take_succ_eq_append_getElem hk, List.all_append, h]; simp [h1]
set_option maxHeartbeats 1000000 in
theorem boGood_any (v : Value) (ps : List Int) (bs : List Blk) (w : World) (h : Bo w v ps bs) :
    Calls Try.prog 61 #[v] w fun e w' => e = .returned (.bool (goodBo ps bs)) ∧ Below w.heap.size w w' := by
  have h0 := Lib.hid h
  obtain ⟨pv, bv, rfl, ⟨p, c, rfl, hm, hr⟩, ⟨p2, c2, rfl, hm2, hr2⟩⟩ := h
  have hr1 := Lib.hid hr
  have hr2 := Lib.hid hr2
  obtain ⟨n, hn⟩ : ∃ n, ps.length = n := ⟨_, rfl⟩
  obtain ⟨m, hmm⟩ : ∃ m, bs.length = m := ⟨_, rfl⟩
  have hE := Lib.hid (goodBo_eq ps bs)
  generalize goodBo ps bs = G at *
  rw [hn] at hm hE h0 ⊢
  rw [hmm] at hm2 hE h0 ⊢
  have hn := Lib.hid hn
  have hmm := Lib.hid hmm
  unfold maxLen at hm hm2
  obtain ⟨w2, hw2⟩ : ∃ w2, Hid (w2 = (w.alloc (.cells #[.slice p n c, .slice p2 m c2] 31))) := ⟨_, Lib.hid rfl⟩
  have hb2 : Hid (Below w.heap.size w w2) := Lib.hid (by rw [hw2.out]; exact ba1 w _)
  have f0 : w2.cell? ⟨w.heap.size, 0, none⟩ = some (.slice p n c) := by rw [hw2.out]; simp
  have f1 : w2.cell? ⟨w.heap.size, 1, none⟩ = some (.slice p2 m c2) := by rw [hw2.out]; simp
  have hl2 : w.heap.size < w2.heap.size := by rw [hw2.out]; simp
  have hB := Lib.hid (h0.out.below hb2.out)
  clear hr h0
  by_cases hl : 1 ≤ n ∧ n ≤ 6
  · obtain ⟨hl1, hl6⟩ := hl
    by_cases hp : allIn ps 2 5 = true
    · by_cases hb : m ≤ 40
      · have hbc : ¬ (40 : Int) < (m : Int) := by omega
        have hCnt := Lib.hid (boCount_any _ ps bs w2 hB.out (by rw [hn.out]; exact hl6) hp)
        obtain ⟨q, hq⟩ : ∃ q, prI ps = q := ⟨_, rfl⟩
        rw [hq] at hE hCnt
        have hp := Lib.hid hp
        by_cases hq1 : q ≤ 1000
        · have hq2 : ¬ (1000 : Int) < q := by omega
          have hEG : Hid (G = bs.all (okBlk ps)) := Lib.hid (by rw [hE.out, hp.out, decide_eq_true hl1, decide_eq_true hl6, decide_eq_true hb, decide_eq_true hq1]; simp)
          clear hE
          go_enter Try.func61, Try.ntmps61
          go_wp2_with fail
          rw [← hw2.out]
          refine (l1In_yes _ _ _ _ (by omega) (by omega)).mono ?_; rintro e w' ⟨rfl, rfl⟩
          go_wp2_with fail
          refine (l1All_any p n c ps 2 5 _ hn.out (by unfold maxLen; omega) (hr1.out.below hb2.out)).mono ?_; rw [hp.out]; rintro e w' ⟨rfl, rfl⟩
          go_wp2_with fail
          refine hCnt.out.mono ?_; rintro e w3 ⟨rfl, hb3⟩
          have f0 : w3.cell? ⟨w.heap.size, 0, none⟩ = some (.slice p n c) := by rw [hb3.cell (p := ⟨w.heap.size, 0, none⟩) hl2]; exact f0
          have f1 : w3.cell? ⟨w.heap.size, 1, none⟩ = some (.slice p2 m c2) := by rw [hb3.cell (p := ⟨w.heap.size, 1, none⟩) hl2]; exact f1
          have hb13 := Lib.hid (bt1 hb2.out hb3)
          have hB3 := Lib.hid (hB.out.below hb3)
          have hR3 := Lib.hid (hr2.out.below hb13.out)
          have hl3 : w.heap.size < w3.heap.size := Nat.lt_of_lt_of_le hl2 hb3.size
          clear hb3 hCnt
          go_wp2_with fail
          go_loopw [4, 28] (fun _ i wr => ∃ k : Nat, k ≤ m ∧ i = .int .i64 k ∧ Hid ((bs.take k).all (okBlk ps) = true) ∧ Hid (Below w3.heap.size w3 wr)) (fun _ i _ => m - (intOf i).toNat)
          case atStart => exact ⟨0, Nat.zero_le _, rfl, Lib.hid rfl, Lib.hid (Below.refl _ _)⟩
          case round =>
            obtain ⟨k, hk, rfl, ha, hbr⟩ := hrel
            by_cases hlt : k < m
            · have hkx : k < bs.length := by rw [hmm.out]; exact hlt
              have f0 : wr.cell? ⟨w.heap.size, 0, none⟩ = some (.slice p n c) := by rw [hbr.out.cell (p := ⟨w.heap.size, 0, none⟩) hl3]; exact f0
              have f1 : wr.cell? ⟨w.heap.size, 1, none⟩ = some (.slice p2 m c2) := by rw [hbr.out.cell (p := ⟨w.heap.size, 1, none⟩) hl3]; exact f1
              have hlr : w.heap.size < wr.heap.size := Nat.lt_of_lt_of_le hl3 hbr.out.size
              obtain ⟨g, rfl, hgl, e0, e1, e2, e3⟩ := (hR3.out.below hbr.out).blk hkx
              have hBr := Lib.hid (hB3.out.below hbr.out)
              have hno := Lib.hid (all_no (okBlk ps) bs k hkx)
              have hye := Lib.hid (all_snoc (okBlk ps) bs k hkx ha.out)
              obtain ⟨ka, ki, kb, kj, hke⟩ : ∃ a i b j, bs[k] = ⟨a, i, b, j⟩ := ⟨_, _, _, _, rfl⟩
              rw [hke] at e0 e1 e2 e3 hno hye
              have hK := Lib.hid fun o => boBlock_any _ ka ki kb kj ps bs (wr.alloc o) (hBr.out.below (ba1 wr o)) hp.out
              generalize okBlk ps ⟨ka, ki, kb, kj⟩ = ok at *
              clear hke
              cases ok
              · have HF : Hid (G = false) := Lib.hid (by rw [hEG.out]; exact hno.out rfl)
                go_wp2_with fail
                refine (hK.out _).mono ?_; rintro e w4 ⟨rfl, hb4⟩
                go_wp2_with fail
                go_ret; exact ⟨ret_bool HF.out.symm, bt1 hb13.out (bt1 hbr.out (bt1 (ba1 wr _) hb4))⟩
              · go_wp2_with fail
                refine (hK.out _).mono ?_; rintro e w4 ⟨rfl, hb4⟩
                go_wp2_with fail
                go_roundw
                case rel => exact ⟨k + 1, by omega, by go_num, Lib.hid (hye.out trivial), Lib.hid (bt1 hbr.out (bt1 (ba1 wr _) hb4))⟩
                all_goals (simp [intOf] <;> omega)
            · have HF : Hid (G = true) := Lib.hid (by
                rw [hEG.out]; have := ha.out; rwa [List.take_of_length_le (by rw [hmm.out]; omega)] at this)
              go_wp2_with fail
              go_ret; exact ⟨ret_bool HF.out.symm, bt1 hb13.out hbr.out⟩
        · have hq2 : 1000 < q := by omega
          have HF : Hid (G = false) := Lib.hid (by rw [hE.out, decide_eq_false hq1]; simp)
          go_enter Try.func61, Try.ntmps61
          go_wp2_with fail
          rw [← hw2.out]
          refine (l1In_yes _ _ _ _ (by omega) (by omega)).mono ?_; rintro e w' ⟨rfl, rfl⟩
          go_wp2_with fail
          refine (l1All_any p n c ps 2 5 _ hn.out (by unfold maxLen; omega) (hr1.out.below hb2.out)).mono ?_; rw [hp.out]; rintro e w' ⟨rfl, rfl⟩
          go_wp2_with fail
          refine hCnt.out.mono ?_; rintro e w3 ⟨rfl, hb3⟩
          go_wp2_with fail
          go_ret; exact ⟨ret_bool HF.out.symm, bt1 hb2.out hb3⟩
      · have hbc : 40 < m := by omega
        have HF : Hid (G = false) := Lib.hid (by rw [hE.out, decide_eq_false hb]; simp)
        have hp := Lib.hid hp
        go_enter Try.func61, Try.ntmps61
        go_wp2_with fail
        rw [← hw2.out]
        refine (l1In_yes _ _ _ _ (by omega) (by omega)).mono ?_; rintro e w' ⟨rfl, rfl⟩
        go_wp2_with fail
        refine (l1All_any p n c ps 2 5 _ hn.out (by unfold maxLen; omega) (hr1.out.below hb2.out)).mono ?_; rw [hp.out]; rintro e w' ⟨rfl, rfl⟩
        go_wp2_with fail
        go_ret; exact ⟨ret_bool HF.out.symm, hb2.out⟩
    · have hpF : Hid (allIn ps 2 5 = false) := Lib.hid (by simpa using hp)
      have HF : Hid (G = false) := Lib.hid (by rw [hE.out, hpF.out]; simp)
      clear hp
      go_enter Try.func61, Try.ntmps61
      go_wp2_with fail
      rw [← hw2.out]
      refine (l1In_yes _ _ _ _ (by omega) (by omega)).mono ?_; rintro e w' ⟨rfl, rfl⟩
      go_wp2_with fail
      refine (l1All_any p n c ps 2 5 _ hn.out (by unfold maxLen; omega) (hr1.out.below hb2.out)).mono ?_; rw [hpF.out]; rintro e w' ⟨rfl, rfl⟩
      go_wp2_with fail
      go_ret; exact ⟨ret_bool HF.out.symm, hb2.out⟩
  · have HF : Hid (G = false) := Lib.hid (by rw [hE.out]; simp; omega)
    go_enter Try.func61, Try.ntmps61
    go_wp2_with fail
    rw [← hw2.out]
    refine (l1In_no _ _ _ _ (by omega)).mono ?_; rintro e w' ⟨rfl, rfl⟩
    go_wp2_with fail
    go_ret; exact ⟨ret_bool HF.out.symm, hb2.out⟩
end Go.Proofs.Ytcfeaaakfjilgaa
