/- TurnPart, by the program: a turn that is none; a state as text. -/
import Derived.Test.YtbeciklnknkilaaXO
import Derived.Test.YtbeciklnknkilaaDig
import Derived.Test.YtbeciklnknkilaaBase0
namespace Go.Proofs.Ytbeciklnknkilaa
open Go Go.RowKit RM
set_option maxHeartbeats 4000000 in
set_option maxRecDepth 100000 in
theorem findTurn_none (v : Value) (p s : Nat) (rs : List ByteArray) (d : List Nat) (part Y : Int) (w : World) (hG : GX p s rs) (hd : stOk p s d) (hA : pbB p part Y = false) (h : RdX w v p s rs) :
    Calls Try.prog 18 #[v, bsV (dF d), .int .i64 part, .int .i64 Y] w fun e w' => e = .returned (.tuple #[.agg (tnC 0 0 (fun _ => 0)), .bool false]) ∧ Below w.heap.size w w' := by
  have hT := Lib.hid (fun w' (hb : Below w.heap.size w w') => turns_any v p s rs d w' hG hd (h.below hb))
  obtain ⟨u, rfl, -⟩ := h
  have h6 := hG.p6
  have hll := tK_len s rs d (2 * p)
  have hin : Hid (∀ k' up', (k', up') ∈ tK s rs d (2 * p) → (k' : Int) = part → byX up' = Y → False) := Lib.hid (fun k' up' h1 h2 h3 => by
    have h4 := ((tK_mem s rs d k' up' _).1 h1).1
    have h5 : pbB p part Y = true := by
      have h7 : byX up' = 1 ∨ byX up' = -1 := by cases up' <;> simp [byX]
      have h8 : k' < p := by cases up' <;> simp at h4 <;> omega
      unfold pbB
      simp only [Bool.and_eq_true, Bool.or_eq_true, decide_eq_true_eq, beq_iff_eq]
      rw [← h3]
      exact ⟨⟨by omega, by omega⟩, h7⟩
    rw [hA] at h5; cases h5)
  generalize tK s rs d (2 * p) = l at *
  obtain ⟨a, hda⟩ : ∃ a, Hid (a = dF d) := ⟨_, Lib.hid rfl⟩
  rw [← hda.out] at hT ⊢
  clear hd hA
  obtain ⟨w1, hw1⟩ : ∃ w1, Hid (w1 = ((w.alloc (boxO p s u)).alloc (bsO a)).alloc (tnO 0 0 (fun _ => 0))) := ⟨_, Lib.hid rfl⟩
  have hb1 : Hid (Below w.heap.size w w1) := Lib.hid (by rw [hw1.out]; exact ((ba1 w _).alloc (by simp) _).alloc (by simp; omega) _)
  have F1 := Lib.hid (show w1.heap[w.heap.size]? = some (boxO p s u) by rw [hw1.out]; exact hb_old _ (hb_old _ (hb_new _ _)))
  have G1 := Lib.hid (show w1.heap[w.heap.size + 1]? = some (bsO a) by rw [hw1.out]; exact hb_old _ (hb_new' _ _ _ (by simp)))
  have R1 := Lib.hid (show w1.heap[w.heap.size + 1 + 1]? = some (tnO 0 0 (fun _ => 0)) by rw [hw1.out]; exact hb_new' _ _ _ (by simp))
  have l3 := hb_lt R1.out
  have f0 : w1.cell? ⟨w.heap.size, 0, none⟩ = some (.int .i64 p) := hb_cell F1.out 0
  have f1 : w1.cell? ⟨w.heap.size, 1, none⟩ = some (.int .i64 s) := hb_cell F1.out 1
  have f2 : w1.cell? ⟨w.heap.size, 2, none⟩ = some u := hb_cell F1.out 2
  have g0 : w1.cell? ⟨w.heap.size + 1, 0, none⟩ = some (.int .i64 (a 0)) := hb_cell G1.out 0
  have g1 : w1.cell? ⟨w.heap.size + 1, 1, none⟩ = some (.int .i64 (a 1)) := hb_cell G1.out 1
  have g2 : w1.cell? ⟨w.heap.size + 1, 2, none⟩ = some (.int .i64 (a 2)) := hb_cell G1.out 2
  have g3 : w1.cell? ⟨w.heap.size + 1, 3, none⟩ = some (.int .i64 (a 3)) := hb_cell G1.out 3
  have g4 : w1.cell? ⟨w.heap.size + 1, 4, none⟩ = some (.int .i64 (a 4)) := hb_cell G1.out 4
  have g5 : w1.cell? ⟨w.heap.size + 1, 5, none⟩ = some (.int .i64 (a 5)) := hb_cell G1.out 5
  go_enter Try.func18, Try.ntmps18
  go_upto_region 1 with fail
  rw [← hw1.out]
  go_wp2_with fail
  refine (hT.out _ hb1.out).mono ?_; rintro e w2 ⟨x, rfl, hox, hb⟩
  obtain ⟨pp, c, rfl, hmx, hr⟩ := hox.rd
  rw [List.length_map] at hmx ⊢
  have hlt := Lib.hid hox.lt
  have R2 := Lib.hid (hb_below hb l3 R1.out)
  have l4 := hb_lt R2.out
  have hb2 := Lib.hid (bt1 hb1.out hb)
  clear hb f0 f1 f2 g0 g1 g2 g3 g4 g5
  replace hr := Lib.hid hr
  go_wp2_with fail
  go_loopw [16] (fun i wr => ∃ q : Nat, q ≤ l.length ∧ i = .int .i64 q ∧ Hid (Below w2.heap.size w2 wr)) (fun i _ => l.length - (intOf i).toNat)
  case atStart => exact ⟨0, Nat.zero_le _, rfl, Lib.hid (Below.refl _ _)⟩
  case round =>
    obtain ⟨q, hq, rfl, hbr⟩ := hrel
    obtain ⟨wA, rfl⟩ : ∃ x, x = wr := ⟨_, rfl⟩
    have RA := Lib.hid (hb_below hbr.out l4 R2.out)
    have hwA := Lib.hid (bt1 hb2.out hbr.out)
    by_cases hltq : q < l.length
    · obtain ⟨g, rfl, hgl, hcell⟩ := hr.out (by intro e; rw [List.map_eq_nil_iff] at e; rw [e] at hltq; simp at hltq)
      have hcx := fun o ho => (hbr.out.cell (p := ⟨g, q * 8 + o, none⟩) hgl).trans (hcell q (by rw [List.length_map]; exact hltq) o ho)
      rw [List.getElem_map] at hcx
      have hin9 := Lib.hid (hin.out l[q].1 l[q].2 (List.getElem_mem hltq))
      obtain ⟨m, hm⟩ : ∃ m, l[q] = m := ⟨_, rfl⟩
      rw [hm] at hcx hin9
      clear hm hcell
      obtain ⟨mk, mu⟩ := m
      obtain ⟨k2, hk2⟩ : ∃ x : Int, Hid (x = (mk : Int)) := ⟨_, Lib.hid rfl⟩
      obtain ⟨y2, hy2⟩ : ∃ x : Int, Hid (x = byX mu) := ⟨_, Lib.hid rfl⟩
      obtain ⟨f2, hf2⟩ : ∃ x, Hid (x = dF (tuD d mk mu)) := ⟨_, Lib.hid rfl⟩
      have htn : tnW d (mk, mu) = (k2, y2, f2) := by rw [hk2.out, hy2.out, hf2.out]; rfl
      rw [htn] at hcx
      clear htn
      have c0 : wA.cell? ⟨g, q * 8, none⟩ = some (.int .i64 k2) := hcx 0 (show 0 < 8 by omega)
      have c1 : wA.cell? ⟨g, q * 8 + 1, none⟩ = some (.int .i64 y2) := hcx 1 (show 1 < 8 by omega)
      have c2 : wA.cell? ⟨g, q * 8 + 2, none⟩ = some (.int .i64 (f2 0)) := hcx 2 (show 2 < 8 by omega)
      have c3 : wA.cell? ⟨g, q * 8 + 3, none⟩ = some (.int .i64 (f2 1)) := hcx 3 (show 3 < 8 by omega)
      have c4 : wA.cell? ⟨g, q * 8 + 4, none⟩ = some (.int .i64 (f2 2)) := hcx 4 (show 4 < 8 by omega)
      have c5 : wA.cell? ⟨g, q * 8 + 5, none⟩ = some (.int .i64 (f2 3)) := hcx 5 (show 5 < 8 by omega)
      have c6 : wA.cell? ⟨g, q * 8 + 6, none⟩ = some (.int .i64 (f2 4)) := hcx 6 (show 6 < 8 by omega)
      have c7 : wA.cell? ⟨g, q * 8 + 7, none⟩ = some (.int .i64 (f2 5)) := hcx 7 (show 7 < 8 by omega)
      clear hcx
      have iq0 : (0 : Int) ≤ (q : Int) := by omega
      have iq1 : (q : Int) < (l.length : Int) := by omega
      obtain ⟨wB, hwB⟩ : ∃ x, Hid (x = wA.alloc (tnO k2 y2 f2)) := ⟨_, Lib.hid rfl⟩
      have hsA := hbr.out.size
      have hbB := Lib.hid (show Below w2.heap.size w2 wB by rw [hwB.out]; exact hbr.out.alloc hsA _)
      have SB := Lib.hid (show wB.heap[wA.heap.size]? = some (tnO k2 y2 f2) by rw [hwB.out]; exact hb_new _ _)
      have RB := Lib.hid (show wB.heap[w.heap.size + 1 + 1]? = some (tnO 0 0 (fun _ => 0)) by rw [hwB.out]; exact hb_old _ RA.out)
      have s0 : wB.cell? ⟨wA.heap.size, 0, none⟩ = some (.int .i64 k2) := hb_cell SB.out 0
      have s1 : wB.cell? ⟨wA.heap.size, 1, none⟩ = some (.int .i64 y2) := hb_cell SB.out 1
      have s2 : wB.cell? ⟨wA.heap.size, 2, none⟩ = some (.int .i64 (f2 0)) := hb_cell SB.out 2
      have s3 : wB.cell? ⟨wA.heap.size, 3, none⟩ = some (.int .i64 (f2 1)) := hb_cell SB.out 3
      have s4 : wB.cell? ⟨wA.heap.size, 4, none⟩ = some (.int .i64 (f2 2)) := hb_cell SB.out 4
      have s5 : wB.cell? ⟨wA.heap.size, 5, none⟩ = some (.int .i64 (f2 3)) := hb_cell SB.out 5
      have s6 : wB.cell? ⟨wA.heap.size, 6, none⟩ = some (.int .i64 (f2 4)) := hb_cell SB.out 6
      have s7 : wB.cell? ⟨wA.heap.size, 7, none⟩ = some (.int .i64 (f2 5)) := hb_cell SB.out 7
      go_upto_region 4 with fail
      rw [← hwB.out]
      clear c0 c1 c2 c3 c4 c5 c6 c7
      cases B1 : (k2 == part) with
      | false =>
        go_wp2_with fail
        go_roundw
        case rel => exact ⟨q + 1, by omega, by go_num, hbB⟩
        all_goals (simp [intOf] <;> omega)
      | true =>
        cases B2 : (y2 == Y) with
        | false =>
          go_wp2_with fail
          go_roundw
          case rel => exact ⟨q + 1, by omega, by go_num, hbB⟩
          all_goals (simp [intOf] <;> omega)
        | true =>
          exfalso
          rw [beq_iff_eq] at B1 B2
          exact hin9.out (hk2.out.symm.trans B1) (hy2.out.symm.trans B2)
    · obtain rfl : q = l.length := by omega
      have zA := hb_frozen RA.out
      have lA := hb_lt RA.out
      have r0 : wA.cell? ⟨w.heap.size + 1 + 1, 0, none⟩ = some (.int .i64 0) := hb_cell RA.out 0
      have r1 : wA.cell? ⟨w.heap.size + 1 + 1, 1, none⟩ = some (.int .i64 0) := hb_cell RA.out 1
      have r2 : wA.cell? ⟨w.heap.size + 1 + 1, 2, none⟩ = some (.int .i64 0) := hb_cell RA.out 2
      have r3 : wA.cell? ⟨w.heap.size + 1 + 1, 3, none⟩ = some (.int .i64 0) := hb_cell RA.out 3
      have r4 : wA.cell? ⟨w.heap.size + 1 + 1, 4, none⟩ = some (.int .i64 0) := hb_cell RA.out 4
      have r5 : wA.cell? ⟨w.heap.size + 1 + 1, 5, none⟩ = some (.int .i64 0) := hb_cell RA.out 5
      have r6 : wA.cell? ⟨w.heap.size + 1 + 1, 6, none⟩ = some (.int .i64 0) := hb_cell RA.out 6
      have r7 : wA.cell? ⟨w.heap.size + 1 + 1, 7, none⟩ = some (.int .i64 0) := hb_cell RA.out 7
      go_wp2_with fail
      refine bodyPost_ret (v := .tuple #[.agg (tnC 0 0 (fun _ => 0)), .bool false]) ?_ rfl ⟨rfl, ?_⟩
      · simp [results, Try.results18, go_sem, lA, r0, r1, r2, r3, r4, r5, r6, r7, zA]
      · have h0 := hwA.out
        repeat (first | (with_reducible exact h0) | (with_reducible refine Below.setCell ?_ ?_ _; rotate_left; (show w.heap.size ≤ w.heap.size + 1 + 1; omega)))
set_option maxRecDepth 100000 in
theorem stateText_any (p s : Nat) (u : Value) (d : List Nat) (w : World) (hp : p ≤ 6) (hs : s ≤ 5) (hd : stOk p s d) :
    Calls Try.prog 20 #[.agg #[.int .i64 p, .int .i64 s, u], bsV (dF d)] w fun e w' => e = .returned (.string (tS d)) ∧ Below w.heap.size w w' := by
  obtain ⟨w1, hw1⟩ : ∃ w1, Hid (w1 = (w.alloc (boxO p s u)).alloc (bsO (dF d))) := ⟨_, Lib.hid rfl⟩
  have hb1 : Hid (Below w.heap.size w w1) := Lib.hid (by rw [hw1.out]; exact (ba1 w _).alloc (by simp) _)
  have F1 := Lib.hid (show w1.heap[w.heap.size]? = some (boxO p s u) by rw [hw1.out]; exact hb_old _ (hb_new _ _))
  have G1 := Lib.hid (show w1.heap[w.heap.size + 1]? = some (bsO (dF d)) by rw [hw1.out]; exact hb_new' _ _ _ (by simp))
  have f0 : w1.cell? ⟨w.heap.size, 0, none⟩ = some (.int .i64 p) := hb_cell F1.out 0
  have hdl := hd.1
  have hRI := Lib.hid (show RI w1 (some ⟨w.heap.size + 1, 0, none⟩) (ints d) from fun _ => ⟨w.heap.size + 1, rfl, hb_lt G1.out, fun k hk => by
    have hk2 : k < d.length := by simpa using hk
    rw [bs_cell G1.out (k := k) (by omega)]
    simp [dF, hk2]⟩)
  have hD := Lib.hid (fun c => digitsText_any (some ⟨w.heap.size + 1, 0, none⟩) p c d w1 hdl (by omega) (fun k hk => by have := hd.2 k hk; omega) hRI.out)
  generalize dF d = f at *
  generalize tS d = t at *
  have hp0 : ¬ (p : Int) < 0 := by omega
  have hp6 : (p : Int) ≤ 6 := by omega
  clear hd hdl hRI
  go_enter Try.func20, Try.ntmps20
  go_wp2_with fail
  rw [← hw1.out]
  go_wp2_with fail
  refine (hD.out _).mono ?_; rintro e w2 ⟨rfl, hb⟩
  go_wp2_with fail
  go_ret; exact ⟨rfl, bt1 hb1.out hb⟩
end Go.Proofs.Ytbeciklnknkilaa
