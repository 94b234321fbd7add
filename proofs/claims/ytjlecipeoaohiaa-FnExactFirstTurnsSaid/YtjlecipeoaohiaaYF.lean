/- TurnsOf, both sides. -/
import Derived.Test.YtjlecipeoaohiaaYA
import Derived.Test.YtjlecipeoaohiaaRR2
namespace Go.Proofs.Ytjlecipeoaohiaa
set_option linter.unusedSimpArgs false
set_option linter.unusedVariables false
open Go Go.RowKit RM Go.Maps Go.WideMaps Go.ChangeMaps
theorem ssum_tnI (l : List (Nat × Bool)) : ssum (l.map tnI) = 2 * l.length := by
  induction l with
  | nil => rfl
  | cons a l ih => rw [List.map_cons, ssum_cons, ih]; simp [tnI]; omega
set_option maxRecDepth 100000 in
theorem sTO_no (v : Value) (P S : Int) (rs : List ByteArray) (t : ByteArray) (w : World) (hz : ∀ s ∈ rs, s.size ≤ maxLen) (ht : t.size ≤ maxLen) (hA : askS P S rs t = false) (h : RdX w v P S rs) :
    Calls Try.prog 19 #[v, .string t] w fun e w' => e = .returned (.tuple #[.slice none 0 0, .bool false]) ∧ Below w.heap.size w w' := by
  have hQ := Lib.hid (fun w' (hb : Below w.heap.size w w') => bxGood_any v P S rs w' hz (h.below hb))
  unfold askS at hA
  obtain ⟨u, rfl, -⟩ := h
  obtain ⟨w1, hw1⟩ : ∃ w1, Hid (w1 = w.alloc (boxO P S u)) := ⟨_, Lib.hid rfl⟩
  have hb1 : Hid (Below w.heap.size w w1) := Lib.hid (by rw [hw1.out]; exact ba1 w _)
  have F1 := Lib.hid (show w1.heap[w.heap.size]? = some (boxO P S u) by rw [hw1.out]; exact hb_new _ _)
  have f0 : w1.cell? ⟨w.heap.size, 0, none⟩ = some (.int .i64 P) := hb_cell F1.out 0
  have f1 : w1.cell? ⟨w.heap.size, 1, none⟩ = some (.int .i64 S) := hb_cell F1.out 1
  have f2 : w1.cell? ⟨w.heap.size, 2, none⟩ = some u := hb_cell F1.out 2
  cases hg : goodX P S rs with
  | false =>
    rw [hg] at hQ
    clear hA hg
    go_enter Try.func19, Try.ntmps19
    go_wp2_with fail
    rw [← hw1.out]
    go_wp2_with fail
    refine (hQ.out _ hb1.out).mono ?_; rintro e w2 ⟨rfl, hb⟩
    go_wp2_with fail
    go_ret2; exact ⟨rfl, bt1 hb1.out hb⟩
  | true =>
    rw [hg] at hQ hA
    obtain ⟨p, s, rfl, rfl, hG, -⟩ := GX.of hg
    rw [Bool.true_and, Int.toNat_natCast, Int.toNat_natCast] at hA
    have hSt := Lib.hid (fun w => bxState_any p s u t w ht hG.p6 hG.s2 hG.s5)
    rw [hA] at hSt
    clear hA hg
    go_enter Try.func19, Try.ntmps19
    go_wp2_with fail
    rw [← hw1.out]
    go_wp2_with fail
    refine (hQ.out _ hb1.out).mono ?_; rintro e w2 ⟨rfl, hb⟩
    have F2 := Lib.hid (hb_below hb (hb_lt F1.out) F1.out)
    have g0 : w2.cell? ⟨w.heap.size, 0, none⟩ = some (.int .i64 p) := hb_cell F2.out 0
    have g1 : w2.cell? ⟨w.heap.size, 1, none⟩ = some (.int .i64 s) := hb_cell F2.out 1
    have g2 : w2.cell? ⟨w.heap.size, 2, none⟩ = some u := hb_cell F2.out 2
    replace hb := Lib.hid (bt1 hb1.out hb)
    go_wp2_with fail
    refine (hSt.out _).mono ?_; rintro e w3 ⟨rfl, hb3⟩
    go_wp2_with fail
    go_ret2; exact ⟨rfl, bt1 hb.out hb3⟩
set_option maxRecDepth 100000 in
theorem sTO_yes (v : Value) (p s : Nat) (rs : List ByteArray) (d : List Nat) (w : World) (hz : ∀ s ∈ rs, s.size ≤ maxLen) (hg : goodX p s rs = true) (hG : GX p s rs) (hd : stOk p s d) (h : RdX w v p s rs) :
    Calls Try.prog 19 #[v, .string (tS d)] w fun e w' => ∃ u, e = .returned (.tuple #[u, .bool true]) ∧ OwnSS w' w.heap.size u ((tK s rs d (2 * p)).map tnI) ∧ Below w.heap.size w w' := by
  have hQ := Lib.hid (fun w' (hb : Below w.heap.size w w') => bxGood_any v p s rs w' hz (h.below hb))
  rw [hg] at hQ
  have hFar := Lib.hid (fun w' (hb : Below w.heap.size w w') => bxTurns_any v p s rs d w' hG (h.below hb) hd)
  have hts : (tS d).size ≤ maxLen := by rw [tS_size, hd.1]; have := hG.p6; unfold maxLen; omega
  have hstb := stB_tS (p := p) (s := s) (d := d) (by have := hG.s5; omega) hd
  obtain ⟨u, rfl, -⟩ := h
  have hSt := Lib.hid (fun w => bxState_any p s u (tS d) w hts hG.p6 hG.s2 hG.s5)
  rw [hstb] at hSt
  generalize (tK s rs d (2 * p)).map tnI = L at *
  generalize tS d = t at *
  clear hstb hts
  obtain ⟨w1, hw1⟩ : ∃ w1, Hid (w1 = w.alloc (boxO p s u)) := ⟨_, Lib.hid rfl⟩
  have hb1 : Hid (Below w.heap.size w w1) := Lib.hid (by rw [hw1.out]; exact ba1 w _)
  have F1 := Lib.hid (show w1.heap[w.heap.size]? = some (boxO p s u) by rw [hw1.out]; exact hb_new _ _)
  have f0 : w1.cell? ⟨w.heap.size, 0, none⟩ = some (.int .i64 p) := hb_cell F1.out 0
  have f1 : w1.cell? ⟨w.heap.size, 1, none⟩ = some (.int .i64 s) := hb_cell F1.out 1
  have f2 : w1.cell? ⟨w.heap.size, 2, none⟩ = some u := hb_cell F1.out 2
  go_enter Try.func19, Try.ntmps19
  go_wp2_with fail
  rw [← hw1.out]
  go_wp2_with fail
  refine (hQ.out _ hb1.out).mono ?_; rintro e w2 ⟨rfl, hb⟩
  have F2 := Lib.hid (hb_below hb (hb_lt F1.out) F1.out)
  have g0 : w2.cell? ⟨w.heap.size, 0, none⟩ = some (.int .i64 p) := hb_cell F2.out 0
  have g1 : w2.cell? ⟨w.heap.size, 1, none⟩ = some (.int .i64 s) := hb_cell F2.out 1
  have g2 : w2.cell? ⟨w.heap.size, 2, none⟩ = some u := hb_cell F2.out 2
  replace hb := Lib.hid (bt1 hb1.out hb)
  go_wp2_with fail
  refine (hSt.out _).mono ?_; rintro e w3 ⟨rfl, hb3⟩
  have F3 := Lib.hid (hb_below hb3 (hb_lt F2.out) F2.out)
  have k0 : w3.cell? ⟨w.heap.size, 0, none⟩ = some (.int .i64 p) := hb_cell F3.out 0
  have k1 : w3.cell? ⟨w.heap.size, 1, none⟩ = some (.int .i64 s) := hb_cell F3.out 1
  have k2 : w3.cell? ⟨w.heap.size, 2, none⟩ = some u := hb_cell F3.out 2
  replace hb3 := Lib.hid (bt1 hb.out hb3)
  go_wp2_with fail
  refine (hFar.out _ hb3.out).mono ?_; rintro e w4 ⟨gm, rfl, ho, hb4⟩
  have hs3 := hb3.out.size
  go_wp2_with fail
  go_ret2; exact ⟨_, rfl, ho.mono hs3, bt1 hb3.out hb4⟩
set_option maxRecDepth 1000000 in
theorem iTO_no (v : Value) (P S : Int) (rs : List ByteArray) (t : ByteArray) (w : World) (hz : ∀ s ∈ rs, s.size ≤ maxLen) (ht : t.size ≤ maxLen) (hA : askS P S rs t = false) (h : RdX w v P S rs) :
    Calls Try.prog 21 #[v, .string t] w fun e w' => e = .returned (.tuple #[.slice none 0 0, .bool false]) ∧ Below w.heap.size w w' := by
  have hQ := Lib.hid (fun w' (hb : Below w.heap.size w w') => stateOf_core v P S rs t w' hz ht (h.below hb) false hA)
  obtain ⟨u, rfl, -⟩ := h
  obtain ⟨w1, hw1⟩ : ∃ w1, Hid (w1 = w.alloc (boxO P S u)) := ⟨_, Lib.hid rfl⟩
  have hb1 : Hid (Below w.heap.size w w1) := Lib.hid (by rw [hw1.out]; exact ba1 w _)
  have F1 := Lib.hid (show w1.heap[w.heap.size]? = some (boxO P S u) by rw [hw1.out]; exact hb_new _ _)
  have f0 : w1.cell? ⟨w.heap.size, 0, none⟩ = some (.int .i64 P) := hb_cell F1.out 0
  have f1 : w1.cell? ⟨w.heap.size, 1, none⟩ = some (.int .i64 S) := hb_cell F1.out 1
  have f2 : w1.cell? ⟨w.heap.size, 2, none⟩ = some u := hb_cell F1.out 2
  clear hA hz ht
  go_enter Try.func21, Try.ntmps21
  go_wp2_with fail
  rw [← hw1.out]
  go_wp2_with fail
  refine (hQ.out _ hb1.out).mono ?_; rintro e w2 ⟨rfl, hb⟩
  go_wp2_with fail
  go_ret2; exact ⟨rfl, (bt1 hb1.out hb).alloc (by have h1 := hb1.out.size; have h2 := hb.size; omega) _⟩
set_option maxRecDepth 100000 in
theorem told_any (k y : Int) (f : Nat → Int) (w : World) :
    Calls Try.prog 58 #[.agg (tnC k y f)] w fun e w' => ∃ g, e = .returned (.slice (some ⟨g, 0, none⟩) 2 2) ∧ OwnI w' w.heap.size (.slice (some ⟨g, 0, none⟩) 2 2) [k, y] ∧ Below w.heap.size w w' := by
  obtain ⟨w1, hw1⟩ : ∃ w1, Hid (w1 = w.alloc (tnO k y f)) := ⟨_, Lib.hid rfl⟩
  have hb1 : Hid (Below w.heap.size w w1) := Lib.hid (by rw [hw1.out]; exact ba1 w _)
  have F1 := Lib.hid (show w1.heap[w.heap.size]? = some (tnO k y f) by rw [hw1.out]; exact hb_new _ _)
  have f0 : w1.cell? ⟨w.heap.size, 0, none⟩ = some (.int .i64 k) := hb_cell F1.out 0
  have f1 : w1.cell? ⟨w.heap.size, 1, none⟩ = some (.int .i64 y) := hb_cell F1.out 1
  have hs := hb1.out.size
  go_enter Try.func58, Try.ntmps58
  go_upto_region 1 with fail
  rw [← hw1.out]
  go_wp2_with fail
  go_ret; exact ⟨_, rfl, own_lit2 w1 k y _ hs, hb1.out.alloc hs _⟩
set_option maxHeartbeats 4000000 in
set_option maxRecDepth 100000 in
theorem iTO_yes (v : Value) (p s : Nat) (rs : List ByteArray) (d : List Nat) (w : World) (hz : ∀ s ∈ rs, s.size ≤ maxLen) (hA : askS p s rs (tS d) = true) (hG : GX p s rs) (hd : stOk p s d) (h : RdX w v p s rs) :
    Calls Try.prog 21 #[v, .string (tS d)] w fun e w' => ∃ u, e = .returned (.tuple #[u, .bool true]) ∧ OwnSS w' w.heap.size u ((tK s rs d (2 * p)).map tnI) ∧ Below w.heap.size w w' := by
  have hts : (tS d).size ≤ maxLen := by rw [tS_size, hd.1]; have := hG.p6; unfold maxLen; omega
  have hQ := Lib.hid (fun w' (hb : Below w.heap.size w w') => stateOf_core v p s rs (tS d) w' hz hts (h.below hb) true hA)
  rw [if_pos rfl, tF_end (by have := hG.s5; omega) hd] at hQ
  have hT := Lib.hid (fun w' (hb : Below w.heap.size w w') => turns_any v p s rs d w' hG hd (h.below hb))
  obtain ⟨u, rfl, -⟩ := h
  have hll := tK_len s rs d (2 * p)
  have h6 := hG.p6
  generalize tK s rs d (2 * p) = l at *
  obtain ⟨a, hda⟩ : ∃ a, Hid (a = dF d) := ⟨_, Lib.hid rfl⟩
  rw [← hda.out] at hT hQ
  generalize tS d = t at *
  clear hA hts hd
  obtain ⟨w1, hw1⟩ : ∃ w1, Hid (w1 = w.alloc (boxO p s u)) := ⟨_, Lib.hid rfl⟩
  have hb1 : Hid (Below w.heap.size w w1) := Lib.hid (by rw [hw1.out]; exact ba1 w _)
  have F1 := Lib.hid (show w1.heap[w.heap.size]? = some (boxO p s u) by rw [hw1.out]; exact hb_new _ _)
  have f0 : w1.cell? ⟨w.heap.size, 0, none⟩ = some (.int .i64 p) := hb_cell F1.out 0
  have f1 : w1.cell? ⟨w.heap.size, 1, none⟩ = some (.int .i64 s) := hb_cell F1.out 1
  have f2 : w1.cell? ⟨w.heap.size, 2, none⟩ = some u := hb_cell F1.out 2
  have l1 := hb_lt F1.out
  go_enter Try.func21, Try.ntmps21
  go_wp2_with fail
  rw [← hw1.out]
  go_wp2_with fail
  refine (hQ.out _ hb1.out).mono ?_; rintro e w2 ⟨rfl, hb⟩
  have F2 := Lib.hid (hb_below hb l1 F1.out)
  obtain ⟨w3, hw3⟩ : ∃ w3, Hid (w3 = w2.alloc (bsO a)) := ⟨_, Lib.hid rfl⟩
  have hs2 : w.heap.size < w2.heap.size := hb_lt F2.out
  have hb3 : Hid (Below w.heap.size w w3) := Lib.hid (by rw [hw3.out]; exact (bt1 hb1.out hb).alloc (by omega) _)
  have F3 := Lib.hid (show w3.heap[w.heap.size]? = some (boxO p s u) by rw [hw3.out]; exact hb_old _ F2.out)
  have G3 := Lib.hid (show w3.heap[w2.heap.size]? = some (bsO a) by rw [hw3.out]; exact hb_new _ _)
  clear hb f0 f1 f2
  have f0 : w3.cell? ⟨w.heap.size, 0, none⟩ = some (.int .i64 p) := hb_cell F3.out 0
  have f1 : w3.cell? ⟨w.heap.size, 1, none⟩ = some (.int .i64 s) := hb_cell F3.out 1
  have f2 : w3.cell? ⟨w.heap.size, 2, none⟩ = some u := hb_cell F3.out 2
  have h0 : w3.cell? ⟨w2.heap.size, 0, none⟩ = some (.int .i64 (a 0)) := hb_cell G3.out 0
  have h1 : w3.cell? ⟨w2.heap.size, 1, none⟩ = some (.int .i64 (a 1)) := hb_cell G3.out 1
  have h2 : w3.cell? ⟨w2.heap.size, 2, none⟩ = some (.int .i64 (a 2)) := hb_cell G3.out 2
  have h3 : w3.cell? ⟨w2.heap.size, 3, none⟩ = some (.int .i64 (a 3)) := hb_cell G3.out 3
  have h4 : w3.cell? ⟨w2.heap.size, 4, none⟩ = some (.int .i64 (a 4)) := hb_cell G3.out 4
  have h5 : w3.cell? ⟨w2.heap.size, 5, none⟩ = some (.int .i64 (a 5)) := hb_cell G3.out 5
  go_upto_region 2 with fail
  rw [← hw3.out]
  go_wp2_with fail
  refine (hT.out _ hb3.out).mono ?_; rintro e w5 ⟨x, rfl, hox, hb⟩
  obtain ⟨pp, c, rfl, hmx, hr⟩ := hox.rd
  rw [List.length_map] at hmx ⊢
  have hb5 := Lib.hid (bt1 hb3.out hb)
  have hs5 := hb5.out.size
  clear hb f0 f1 f2 h0 h1 h2 h3 h4 h5 hox
  replace hr := Lib.hid hr
  go_wp2_with fail
  go_loopw [8, 23] (fun o i wr => ∃ q : Nat, q ≤ l.length ∧ i = .int .i64 q ∧ Hid (OwnSS wr w5.heap.size o ((l.take q).map tnI)) ∧ Hid (Below w5.heap.size w5 wr)) (fun _ i _ => l.length - (intOf i).toNat)
  case atStart => exact ⟨0, Nat.zero_le _, rfl, Lib.hid (OwnSS.nil _ _), Lib.hid (Below.refl _ _)⟩
  case round =>
    obtain ⟨q, hq, rfl, ho1, hbr⟩ := hrel
    obtain ⟨wA, rfl⟩ : ∃ x, x = wr := ⟨_, rfl⟩
    have hwA := Lib.hid (bt1 hb5.out hbr.out)
    by_cases hltq : q < l.length
    · obtain ⟨g, rfl, hgl, hcell⟩ := hr.out (by intro e; rw [List.map_eq_nil_iff] at e; rw [e] at hltq; simp at hltq)
      have hcx := fun o ho => (hbr.out.cell (p := ⟨g, q * 8 + o, none⟩) hgl).trans (hcell q (by rw [List.length_map]; exact hltq) o ho)
      rw [List.getElem_map] at hcx
      have htk := Lib.hid (List.take_succ_eq_append_getElem hltq)
      have hlen9 : ((l.take q).map tnI).length ≤ 1000000 := by rw [List.length_map, List.length_take]; omega
      replace hlen9 := Lib.hid hlen9
      obtain ⟨m, hm⟩ : ∃ m, l[q] = m := ⟨_, rfl⟩
      rw [hm] at hcx htk
      clear hm hcell
      obtain ⟨mk, mu⟩ := m
      obtain ⟨k2, hk2⟩ : ∃ x : Int, Hid (x = (mk : Int)) := ⟨_, Lib.hid rfl⟩
      obtain ⟨y2, hy2⟩ : ∃ x : Int, Hid (x = byX mu) := ⟨_, Lib.hid rfl⟩
      obtain ⟨f2, hf2⟩ : ∃ x, Hid (x = dF (tuD d mk mu)) := ⟨_, Lib.hid rfl⟩
      have htn : tnW d (mk, mu) = (k2, y2, f2) := by rw [hk2.out, hy2.out, hf2.out]; rfl
      have htI : Hid (tnI (mk, mu) = [k2, y2]) := Lib.hid (by rw [hk2.out, hy2.out]; rfl)
      rw [htn] at hcx
      clear htn hk2 hy2 hf2
      have c0 : wA.cell? ⟨g, q * 8, none⟩ = some (.int .i64 k2) := hcx 0 (show 0 < 8 by omega)
      have c1 : wA.cell? ⟨g, q * 8 + 1, none⟩ = some (.int .i64 y2) := hcx 1 (show 1 < 8 by omega)
      have c2 : wA.cell? ⟨g, q * 8 + 2, none⟩ = some (.int .i64 (f2 0)) := hcx 2 (show 2 < 8 by omega)
      have c3 : wA.cell? ⟨g, q * 8 + 3, none⟩ = some (.int .i64 (f2 1)) := hcx 3 (show 3 < 8 by omega)
      have c4 : wA.cell? ⟨g, q * 8 + 4, none⟩ = some (.int .i64 (f2 2)) := hcx 4 (show 4 < 8 by omega)
      have c5 : wA.cell? ⟨g, q * 8 + 5, none⟩ = some (.int .i64 (f2 3)) := hcx 5 (show 5 < 8 by omega)
      have c6 : wA.cell? ⟨g, q * 8 + 6, none⟩ = some (.int .i64 (f2 4)) := hcx 6 (show 6 < 8 by omega)
      have c7 : wA.cell? ⟨g, q * 8 + 7, none⟩ = some (.int .i64 (f2 5)) := hcx 7 (show 7 < 8 by omega)
      clear hcx
      have iq0 : (0 : Int) ≤ (q : Int) := by omega
      have iq1 : (q : Int) < (l.length : Int) := by omega
      obtain ⟨wB, hwB⟩ : ∃ x, Hid (x = wA.alloc (tnO k2 y2 f2)) := ⟨_, Lib.hid rfl⟩
      have hsA := hbr.out.size
      have hbB := Lib.hid (show Below w5.heap.size w5 wB by rw [hwB.out]; exact hbr.out.alloc hsA _)
      have SB := Lib.hid (show wB.heap[wA.heap.size]? = some (tnO k2 y2 f2) by rw [hwB.out]; exact hb_new _ _)
      have hoB := Lib.hid (show OwnSS wB w5.heap.size u8 _ by rw [hwB.out]; exact ho1.out.alloc _)
      have s0 : wB.cell? ⟨wA.heap.size, 0, none⟩ = some (.int .i64 k2) := hb_cell SB.out 0
      have s1 : wB.cell? ⟨wA.heap.size, 1, none⟩ = some (.int .i64 y2) := hb_cell SB.out 1
      have s2 : wB.cell? ⟨wA.heap.size, 2, none⟩ = some (.int .i64 (f2 0)) := hb_cell SB.out 2
      have s3 : wB.cell? ⟨wA.heap.size, 3, none⟩ = some (.int .i64 (f2 1)) := hb_cell SB.out 3
      have s4 : wB.cell? ⟨wA.heap.size, 4, none⟩ = some (.int .i64 (f2 2)) := hb_cell SB.out 4
      have s5 : wB.cell? ⟨wA.heap.size, 5, none⟩ = some (.int .i64 (f2 3)) := hb_cell SB.out 5
      have s6 : wB.cell? ⟨wA.heap.size, 6, none⟩ = some (.int .i64 (f2 4)) := hb_cell SB.out 6
      have s7 : wB.cell? ⟨wA.heap.size, 7, none⟩ = some (.int .i64 (f2 5)) := hb_cell SB.out 7
      go_upto_region 8 with fail
      rw [← hwB.out]
      clear c0 c1 c2 c3 c4 c5 c6 c7
      have hsB := hbB.out.size
      go_wp2_with fail
      refine (told_any k2 y2 f2 wB).mono ?_; rintro e wC ⟨gt, rfl, hlC, hb⟩
      have hbC := Lib.hid (bt2 hbB.out hb hsB)
      obtain ⟨wE, hwE⟩ : ∃ x, Hid (x = wC.alloc (.cells #[.slice (some ⟨gt, 0, none⟩) 2 2] 54)) := ⟨_, Lib.hid rfl⟩
      have hsC := hbC.out.size
      have hbBE := Lib.hid (show Below wB.heap.size wB wE by rw [hwE.out]; exact hb.alloc (hb.size) _)
      have hoE := Lib.hid (hoB.out.below hbBE.out)
      have hlE := Lib.hid (show OwnI wE wB.heap.size (.slice (some ⟨gt, 0, none⟩) 2 2) [k2, y2] by rw [hwE.out]; exact hlC.alloc _)
      have hbr4 := Lib.hid (show Below w5.heap.size w5 wE by rw [hwE.out]; exact hbC.out.alloc hsC _)
      have hcE := Lib.hid (show wE.heap[wC.heap.size]? = some (.cells #[.slice (some ⟨gt, 0, none⟩) 2 2] 54) by rw [hwE.out]; exact hb_new _ _)
      have hsE := hbr4.out.size
      clear s0 s1 s2 s3 s4 s5 s6 s7 hb hlC
      go_wp2_with (at_builtin; rw [← hwE.out]; refine app_ss _ rfl _ _ rfl w5.heap.size _ _ rfl wB hoB.out hbBE.out wC.heap.size (some ⟨gt, 0, none⟩, 2, 2) [k2, y2] rfl hcE.out (hlE.out.mono hsB) (fun x e => (hlE.out.lt x e).1) hlen9.out hsE ?_; intro v' wF hoF hgF hatF; replace hoF := Lib.hid hoF; replace hgF := Lib.hid hgF; clear hatF)
      have ho9 := Lib.hid (show OwnSS wF w5.heap.size v' ((l.take (q + 1)).map tnI) by
        rw [htk.out, List.map_append]
        have : [(mk, mu)].map tnI = [[k2, y2]] := by rw [← htI.out]; rfl
        rw [this]; exact hoF.out)
      have hbr9 := Lib.hid (hbr4.out.grown hgF.out hsE (fun a e => (hoE.out.lt a e).1))
      go_roundw
      case rel => exact ⟨q + 1, by omega, by go_num, ho9, hbr9⟩
      all_goals (simp [intOf] <;> omega)
    · obtain rfl : q = l.length := by omega
      go_wp2_with fail
      go_ret2; exact ⟨_, rfl, by have := ho1.out; rw [List.take_length] at this; exact this.mono (by omega), hb5.out.trans (hbr.out.mono (by omega))⟩
theorem TurnsOf_both (P S : Int) (rs : List ByteArray) (hz : ∀ s ∈ rs, s.size ≤ maxLen) (t : ByteArray) (ht : t.size ≤ maxLen) : ∃ (r : List (List Int)) (ok : Bool), (ssum r ≤ 2000000 ∧ r.length ≤ 1000000) ∧
    (∀ w v, RdX w v P S rs → Calls Try.prog 19 #[v, .string t] w fun e w' => RetSS w r ok e w') ∧
    (∀ w v, RdX w v P S rs → Calls Try.prog 21 #[v, .string t] w fun e w' => RetSS w r ok e w') := by
  cases hA : askS P S rs t with
  | false =>
    exact ⟨[], false, ⟨by decide, by decide⟩, fun w v h => (sTO_no v P S rs t w hz ht hA h).mono fun e w' ⟨he, hb⟩ => ⟨_, he, OwnSS.nil _ _, hb⟩, fun w v h => (iTO_no v P S rs t w hz ht hA h).mono fun e w' ⟨he, hb⟩ => ⟨_, he, OwnSS.nil _ _, hb⟩⟩
  | true =>
    obtain ⟨p, s, d, rfl, rfl, hG, hsp, hd, rfl⟩ := askS_nat hA
    have hg : goodX p s rs = true := by unfold askS at hA; rw [Bool.and_eq_true] at hA; exact hA.1
    have hl := tK_len s rs d (2 * p)
    have h6 := hG.p6
    refine ⟨(tK s rs d (2 * p)).map tnI, true, ⟨?_, by rw [List.length_map]; omega⟩, fun w v h => (sTO_yes v p s rs d w hz hg hG hd h).mono fun e w' ⟨u, he, ho, hb⟩ => ⟨u, he, ho, hb⟩, fun w v h => (iTO_yes v p s rs d w hz hA hG hd h).mono fun e w' ⟨u, he, ho, hb⟩ => ⟨u, he, ho, hb⟩⟩
    rw [ssum_tnI]; omega
end Go.Proofs.Ytjlecipeoaohiaa
