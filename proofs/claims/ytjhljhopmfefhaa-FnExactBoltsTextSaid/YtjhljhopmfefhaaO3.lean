/- The text of bolts, by the program; and both sides. -/
import Derived.Test.YtjhljhopmfefhaaO2
import Derived.Test.YtjhljhopmfefhaaD3
namespace Go.Proofs.Ytjhljhopmfefhaa
open Go Go.RowKit RM
theorem sBT_bad (v : Value) (psI : List Int) (bs : List Blk) (w : World) (h : Bo w v psI bs) (hg : goodBo psI bs = false) :
    Calls Try.prog 22 #[v] w fun e w' => e = .returned (.tuple #[.string ⟨#[]⟩, .bool false]) ∧ Below w.heap.size w w' := by
  have h0 := Lib.hid h
  obtain ⟨pv, bv, rfl, -, -⟩ := h
  obtain ⟨w2, hw2⟩ : ∃ w2, Hid (w2 = w.alloc (.cells #[pv, bv] 30)) := ⟨_, Lib.hid rfl⟩
  have hb2 : Hid (Below w.heap.size w w2) := Lib.hid (by rw [hw2.out]; exact ba1 w _)
  have F := Lib.hid (show w2.heap[w.heap.size]? = some (.cells #[pv, bv] 30) by rw [hw2.out]; exact hb_new _ _)
  have hA := Lib.hid (boGood_any _ psI bs w2 (h0.out.below hb2.out))
  rw [hg] at hA
  have f0 : w2.cell? ⟨w.heap.size, 0, none⟩ = some pv := hb_cell F.out 0
  have f1 : w2.cell? ⟨w.heap.size, 1, none⟩ = some bv := hb_cell F.out 1
  go_enter Try.func22, Try.ntmps22
  go_wp2_with fail
  rw [← hw2.out]
  go_wp2_with fail
  refine hA.out.mono ?_; rintro e w3 ⟨rfl, hb3⟩
  replace hb3 := Lib.hid (bt1 hb2.out hb3)
  go_wp2_with fail
  go_ret2; exact ⟨rfl, hb3.out⟩
theorem sBT_yes (v : Value) (ps : List Nat) (bs : List Blk) (w : World) (hG : GB ps bs) (h : Bo w v (ints ps) bs) (hg : goodBo (ints ps) bs = true) :
    Calls Try.prog 22 #[v] w fun e w' => e = .returned (.tuple #[.string (txB (tS ps) bs), .bool true]) ∧ Below w.heap.size w w' := by
  have h0 := Lib.hid h
  obtain ⟨pv, bv, rfl, -, -⟩ := h
  obtain ⟨w2, hw2⟩ : ∃ w2, Hid (w2 = w.alloc (.cells #[pv, bv] 30)) := ⟨_, Lib.hid rfl⟩
  have hb2 : Hid (Below w.heap.size w w2) := Lib.hid (by rw [hw2.out]; exact ba1 w _)
  have F := Lib.hid (show w2.heap[w.heap.size]? = some (.cells #[pv, bv] 30) by rw [hw2.out]; exact hb_new _ _)
  have hA := Lib.hid (boGood_any _ (ints ps) bs w2 (h0.out.below hb2.out))
  rw [hg] at hA
  have f0 : w2.cell? ⟨w.heap.size, 0, none⟩ = some pv := hb_cell F.out 0
  have f1 : w2.cell? ⟨w.heap.size, 1, none⟩ = some bv := hb_cell F.out 1
  have hT := Lib.hid (fun w' hb => boText_any _ ps bs w' hG (h0.out.below hb))
  generalize txB (tS ps) bs = T at *
  go_enter Try.func22, Try.ntmps22
  go_wp2_with fail
  rw [← hw2.out]
  go_wp2_with fail
  refine hA.out.mono ?_; rintro e w3 ⟨rfl, hb3⟩
  have F3 := Lib.hid (hb_below hb3 (hb_lt F.out) F.out)
  replace hb3 := Lib.hid (bt1 hb2.out hb3)
  clear f0 f1
  have f0 : w3.cell? ⟨w.heap.size, 0, none⟩ = some pv := hb_cell F3.out 0
  have f1 : w3.cell? ⟨w.heap.size, 1, none⟩ = some bv := hb_cell F3.out 1
  go_wp2_with fail
  refine (hT.out w3 hb3.out).mono ?_; rintro e w4 ⟨rfl, hb4⟩
  replace hb4 := Lib.hid (bt1 hb3.out hb4)
  go_wp2_with fail
  go_ret2; exact ⟨rfl, hb4.out⟩
theorem iBT_bad (v : Value) (psI : List Int) (bs : List Blk) (w : World) (h : Bo w v psI bs) (hg : goodBo psI bs = false) :
    Calls Try.prog 23 #[v] w fun e w' => e = .returned (.tuple #[.string ⟨#[]⟩, .bool false]) ∧ Below w.heap.size w w' := by
  have h0 := Lib.hid h
  obtain ⟨pv, bv, rfl, -, -⟩ := h
  obtain ⟨w2, hw2⟩ : ∃ w2, Hid (w2 = w.alloc (.cells #[pv, bv] 30)) := ⟨_, Lib.hid rfl⟩
  have hb2 : Hid (Below w.heap.size w w2) := Lib.hid (by rw [hw2.out]; exact ba1 w _)
  have F := Lib.hid (show w2.heap[w.heap.size]? = some (.cells #[pv, bv] 30) by rw [hw2.out]; exact hb_new _ _)
  have hA := Lib.hid (AreBolts_any _ psI bs w2 (h0.out.below hb2.out))
  rw [hg] at hA
  have f0 : w2.cell? ⟨w.heap.size, 0, none⟩ = some pv := hb_cell F.out 0
  have f1 : w2.cell? ⟨w.heap.size, 1, none⟩ = some bv := hb_cell F.out 1
  go_enter Try.func23, Try.ntmps23
  go_wp2_with fail
  rw [← hw2.out]
  go_wp2_with fail
  refine hA.out.mono ?_; rintro e w3 ⟨rfl, hb3⟩
  replace hb3 := Lib.hid (bt1 hb2.out hb3)
  go_wp2_with fail
  go_ret2; exact ⟨rfl, hb3.out⟩
set_option maxHeartbeats 1000000 in
set_option maxRecDepth 100000 in
theorem iBT_yes (v : Value) (ps : List Nat) (bs : List Blk) (w : World) (hG : GB ps bs) (h : Bo w v (ints ps) bs) (hg : goodBo (ints ps) bs = true) :
    Calls Try.prog 23 #[v] w fun e w' => e = .returned (.tuple #[.string (txB (tS ps) bs), .bool true]) ∧ Below w.heap.size w w' := by
  have h0 := Lib.hid h
  obtain ⟨pv, bv, rfl, ⟨p, c, rfl, -, hr⟩, ⟨p2, c2, rfl, hml, hr2⟩⟩ := h
  have hln : (ints ps).length = ps.length := by simp
  rw [hln] at h0 ⊢; clear hln
  have h6 := hG.l6
  have h40 := hG.b
  obtain ⟨n, hn⟩ : ∃ n, ps.length = n := ⟨_, rfl⟩
  obtain ⟨m, hm⟩ : ∃ m, bs.length = m := ⟨_, rfl⟩
  have hJt := Lib.hid (join_txB (tS ps) bs)
  have hps9 : ∀ k (hk : k < ps.length), ps[k] ≤ 9 := fun k hk => ps_dig hG k hk
  rw [hn] at h0 h6 ⊢
  rw [hm] at h0 h40 hml ⊢
  replace hn := Lib.hid hn
  replace hm := Lib.hid hm
  replace hG := Lib.hid hG
  obtain ⟨w2, hw2⟩ : ∃ w2, Hid (w2 = w.alloc (.cells #[.slice p n c, .slice p2 m c2] 30)) := ⟨_, Lib.hid rfl⟩
  have hb2 : Hid (Below w.heap.size w w2) := Lib.hid (by rw [hw2.out]; exact ba1 w _)
  have F := Lib.hid (show w2.heap[w.heap.size]? = some (.cells #[.slice p n c, .slice p2 m c2] 30) by rw [hw2.out]; exact hb_new _ _)
  have hl2 : w.heap.size < w2.heap.size := hb_lt F.out
  have hrr := Lib.hid (hr.below hb2.out)
  have hrr2 := Lib.hid (hr2.below hb2.out)
  have hA := Lib.hid (AreBolts_any _ (ints ps) bs w2 (h0.out.below hb2.out))
  rw [hg] at hA
  have f0 : w2.cell? ⟨w.heap.size, 0, none⟩ = some (.slice p n c) := hb_cell F.out 0
  have f1 : w2.cell? ⟨w.heap.size, 1, none⟩ = some (.slice p2 m c2) := hb_cell F.out 1
  clear hr hr2
  have hD := Lib.hid (fun w' (hR : RI w' p (ints ps)) => digitsText_any p n c ps w' hn.out (by omega) hps9 hR)
  have hts : Hid ((tS ps).size = n) := Lib.hid ((tS_size ps).trans hn.out)
  generalize tS ps = tp at *
  go_enter Try.func23, Try.ntmps23
  go_wp2_with fail
  rw [← hw2.out]
  go_wp2_with fail
  refine hA.out.mono ?_; rintro e w3 ⟨rfl, hb3⟩
  have F3 := Lib.hid (hb_below hb3 (hb_lt F.out) F.out)
  have hr3 := Lib.hid (hrr.out.below hb3)
  have hr23 := Lib.hid (hrr2.out.below hb3)
  replace hb3 := Lib.hid (bt1 hb2.out hb3)
  clear f0 f1 hrr hrr2
  have f0 : w3.cell? ⟨w.heap.size, 0, none⟩ = some (.slice p n c) := hb_cell F3.out 0
  go_wp2_with fail
  refine (hD.out w3 hr3.out).mono ?_; rintro e w4 ⟨rfl, hb4⟩
  have F4 := Lib.hid (hb_below hb4 (hb_lt F3.out) F3.out)
  have hr24 := Lib.hid (hr23.out.below hb4)
  replace hb4 := Lib.hid (bt1 hb3.out hb4)
  obtain ⟨w5, hw5⟩ : ∃ w5, Hid (w5 = w4.alloc (.cells #[.string tp] 9)) := ⟨_, Lib.hid rfl⟩
  have ho5 := Lib.hid (show OwnT w5 w4.heap.size (.slice (some ⟨w4.heap.size, 0, none⟩) 1 1) [tp] by rw [hw5.out]; exact ⟨rfl, .inr ⟨_, 1, #[.string tp], rfl, Nat.le_refl _, hb_new _ _, Nat.le_refl _, by decide, rfl, rfl⟩⟩)
  have hb5 := Lib.hid (show Below w4.heap.size w4 w5 by rw [hw5.out]; exact ba1 w4 _)
  have F5 := Lib.hid (hb_below hb5.out (hb_lt F4.out) F4.out)
  have hr25 := Lib.hid (hr24.out.below hb5.out)
  have hl5 := hb_lt F5.out
  clear f0
  have f1 : w5.cell? ⟨w.heap.size, 1, none⟩ = some (.slice p2 m c2) := hb_cell F5.out 1
  have hbw5 := Lib.hid (bt1 hb4.out hb5.out)
  have f1' : (w4.alloc (.cells #[.string tp] 9)).cell? ⟨w.heap.size, 1, none⟩ = some (.slice p2 m c2) := by rw [← hw5.out]; exact f1
  go_wp2_with fail
  rw [← hw5.out]
  clear f1'
  go_loopw [4, 6, 17] (fun o _ i wr => ∃ q : Nat, q ≤ m ∧ i = .int .i64 q ∧ Hid (OwnT wr w4.heap.size o (tp :: (bs.take q).map (fun k => tS (kD k)))) ∧ Hid (Below w4.heap.size w4 wr)) (fun _ _ i _ => m - (intOf i).toNat)
  case atStart => exact ⟨0, Nat.zero_le _, rfl, ho5, hb5⟩
  case round =>
    obtain ⟨q, hq, rfl, ho, hbr⟩ := hrel
    by_cases hlt : q < m
    · have hqx : q < bs.length := by rw [hm.out]; exact hlt
      obtain ⟨g, rfl, hgl, e0, e1, e2, e3⟩ := (hr24.out.below hbr.out).blk hqx
      obtain ⟨A, I, B, J, hke, -, hA', hB', hI, hJ⟩ := hG.out.k bs[q] (List.getElem_mem _)
      have hA5 := (hG.out.p A hA').2
      have hB5 := (hG.out.p B hB').2
      have hl6 := hG.out.l6
      have hkd : kD ⟨A, I, B, J⟩ = [A, I, B, J] := by simp [kD]
      have hsn : Hid (tp :: (bs.take (q + 1)).map (fun k => tS (kD k)) = (tp :: (bs.take q).map (fun k => tS (kD k))) ++ [tS [A, I, B, J]]) := Lib.hid (by
        rw [List.take_succ_eq_append_getElem hqx, List.map_append, hke, ← hkd]; rfl)
      rw [hke] at e0 e1 e2 e3
      clear hke hkd
      have hd9 : ∀ k (hk : k < [A, I, B, J].length), [A, I, B, J][k] ≤ 9 := by
        intro k hk
        match k, hk with
        | 0, _ => show A ≤ 9; omega
        | 1, _ => show I ≤ 9; omega
        | 2, _ => show B ≤ 9; omega
        | 3, _ => show J ≤ 9; omega
      clear hA5 hB5 hA' hB' hI hJ
      obtain ⟨w6, hw6⟩ : ∃ w6, Hid (w6 = wr.alloc (.cells #[.int .i64 (A : Int), .int .i64 (I : Int), .int .i64 (B : Int), .int .i64 (J : Int)] 41)) := ⟨_, Lib.hid rfl⟩
      have hb6 := Lib.hid (show Below wr.heap.size wr w6 by rw [hw6.out]; exact ba1 wr _)
      have K6 := Lib.hid (show w6.heap[wr.heap.size]? = some (.cells #[.int .i64 (A : Int), .int .i64 (I : Int), .int .i64 (B : Int), .int .i64 (J : Int)] 41) by rw [hw6.out]; exact hb_new _ _)
      have k0 : w6.cell? ⟨wr.heap.size, 0, none⟩ = some (.int .i64 (A : Int)) := hb_cell K6.out 0
      have k1 : w6.cell? ⟨wr.heap.size, 1, none⟩ = some (.int .i64 (I : Int)) := hb_cell K6.out 1
      have k2 : w6.cell? ⟨wr.heap.size, 2, none⟩ = some (.int .i64 (B : Int)) := hb_cell K6.out 2
      have k3 : w6.cell? ⟨wr.heap.size, 3, none⟩ = some (.int .i64 (J : Int)) := hb_cell K6.out 3
      have hl6' := hb_lt K6.out
      obtain ⟨w7, hw7⟩ : ∃ w7, Hid (w7 = w6.alloc (.cells #[.int .i64 (A : Int), .int .i64 (I : Int), .int .i64 (B : Int), .int .i64 (J : Int)] 3)) := ⟨_, Lib.hid rfl⟩
      have hb7 := Lib.hid (show Below wr.heap.size wr w7 by rw [hw7.out]; exact hb6.out.alloc hb6.out.size _)
      have h61 : w6.heap.size = wr.heap.size + 1 := by rw [hw6.out]; simp
      have K7 := Lib.hid (show w7.heap[wr.heap.size + 1]? = some (.cells #[.int .i64 (A : Int), .int .i64 (I : Int), .int .i64 (B : Int), .int .i64 (J : Int)] 3) by rw [hw7.out]; exact hb_new' _ _ _ h61)
      have hR : RI w7 (some ⟨wr.heap.size + 1, 0, none⟩) (ints [A, I, B, J]) := fun _ => ⟨_, rfl, hb_lt K7.out, fun k hk => by
        rw [hb_cell K7.out k]
        match k, hk with
        | 0, _ => rfl
        | 1, _ => rfl
        | 2, _ => rfl
        | 3, _ => rfl⟩
      have hDT := Lib.hid (digitsText_any (some ⟨wr.heap.size + 1, 0, none⟩) 4 4 [A, I, B, J] w7 rfl (by omega) hd9 hR)
      have ho7 := Lib.hid (ho.out.below hb7.out)
      have hb47 := Lib.hid (bt2 hbr.out hb7.out hbr.out.size)
      have hln : (tp :: (bs.take q).map (fun k => tS (kD k))).length ≤ 2000000 := by simp; omega
      generalize tS [A, I, B, J] = tx at *
      clear hR hd9
      go_wp2_with fail
      rw [← hw6.out]
      go_wp2_with fail
      rw [← hw7.out]
      refine hDT.out.mono ?_; rintro e w8 ⟨rfl, hb8⟩
      have ho8 := Lib.hid (ho7.out.below hb8)
      have hb48 := Lib.hid (bt2 hb47.out hb8 hb47.out.size)
      go_wp2_with (at_builtin; (refine app_txt _ rfl _ _ rfl w4.heap.size _ _ rfl (ho8.out.alloc _) w8.heap.size _ rfl (by simp; rfl) hln (by have := hb48.out.size; simp; omega) ?_); intro v' w9 ho9 hg9; have hb9 := Lib.hid (bel_ownT (hb48.out.alloc hb48.out.size _) (ho8.out.alloc _) hg9 (by have := hb48.out.size; simp; omega)); replace ho9 := Lib.hid ho9; clear hg9)
      go_roundw
      case rel => exact ⟨q + 1, by omega, by go_num, by rw [hsn.out]; exact ho9, hb9⟩
      all_goals (simp [intOf] <;> omega)
    · have hfin : bs.take q = bs := List.take_of_length_le (by rw [hm.out]; omega)
      rw [hfin] at ho
      have hjl : (Lib.join ((tp :: bs.map (fun k => tS (kD k))).map (·.data.toList)) sepB.data.toList).length ≤ 140737488355328 := by
        have e := congrArg ByteArray.size hJt.out
        rw [txB_size, hts.out, hm.out] at e
        have e2 : ∀ l : List UInt8, (⟨l.toArray⟩ : ByteArray).size = l.length := fun l => by simp [ByteArray.size]
        rw [e2] at e
        omega
      have hn0 : (tp :: bs.map (fun k => tS (kD k))).length = m + 1 := by simp [hm.out]
      obtain ⟨g, cap, rfl, hgl, hcap, hcells⟩ : ∃ g cap, u4 = .slice (some ⟨g, 0, none⟩) (m + 1) cap ∧ g < wr.heap.size ∧ m + 1 ≤ cap ∧ Hid (∀ (j : Nat) x, (tp :: bs.map (fun k => tS (kD k)))[j]? = some x → wr.cell? ⟨g, 0 + j, none⟩ = some (.string x)) := by
        rcases ho.out.form with ⟨_, e⟩ | ⟨g, cap, e, _, hl, hc, _⟩
        · cases e
        · have h2 := ho.out.2
          rcases h2 with ⟨_, e2⟩ | ⟨g', cap', cur, e', _, _, hle, _⟩
          · rw [hn0] at e2; omega
          · rw [e] at e'
            have eg : cap = cap' := by simp at e'; exact e'.2
            refine ⟨g, cap, by rw [e, hn0], hl, ?_, Lib.hid fun j x hx => ?_⟩
            · rw [eg]; rw [hn0] at hle; exact hle
            · obtain ⟨hj, rfl⟩ := List.getElem?_eq_some_iff.1 hx
              rw [Nat.zero_add]; exact hc j hj
      have hJ := Lib.hid (join_any g 0 cap (tp :: bs.map (fun k => tS (kD k))) sepB wr hcells.out hgl (by rw [hn0]; omega) (by rw [hn0]; exact hcap) hjl)
      rw [hJt.out, hn0] at hJ
      have hsE : sepB = ⟨#[59]⟩ := rfl
      rw [hsE] at hJ
      clear hjl hJt hcells ho
      go_wp2_with fail
      refine hJ.out.mono ?_; rintro e w9 ⟨rfl, hb9⟩
      have hb9 := Lib.hid (bt1 hb4.out (bt2 hbr.out hb9 hbr.out.size))
      go_wp2_with fail
      go_ret2; exact ⟨rfl, hb9.out⟩
theorem BoltsText_both (psI : List Int) (bs : List Blk) : ∃ (r : ByteArray) (ok : Bool),
    (∀ w v, Bo w v psI bs → Calls Try.prog 22 #[v] w fun e w' => e = .returned (.tuple #[.string r, .bool ok]) ∧ Below w.heap.size w w') ∧
    (∀ w v, Bo w v psI bs → Calls Try.prog 23 #[v] w fun e w' => e = .returned (.tuple #[.string r, .bool ok]) ∧ Below w.heap.size w w') := by
  rcases good_cases psI bs with hg | ⟨ps, rfl, hG, hg⟩
  · exact ⟨⟨#[]⟩, false, fun w v h => sBT_bad v psI bs w h hg, fun w v h => iBT_bad v psI bs w h hg⟩
  · exact ⟨txB (tS ps) bs, true, fun w v h => sBT_yes v ps bs w hG h hg, fun w v h => iBT_yes v ps bs w hG h hg⟩
end Go.Proofs.Ytjhljhopmfefhaa
