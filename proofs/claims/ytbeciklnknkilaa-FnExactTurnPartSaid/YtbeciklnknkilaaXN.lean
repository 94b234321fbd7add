/- A turn among all turns, by the program. -/
import Derived.Test.YtbeciklnknkilaaXM
namespace Go.Proofs.Ytbeciklnknkilaa
open Go Go.RowKit RM
theorem tK_mem (s : Nat) (rs : List ByteArray) (d : List Nat) (k : Nat) (up : Bool) (n : Nat) : (k, up) ∈ tK s rs d n ↔ (2 * k + (if up then 0 else 1) < n ∧ tuB s rs d k up = true) := by
  induction n with
  | zero => simp [tK]
  | succ n ih =>
    unfold tK
    rw [List.mem_append, ih]
    by_cases e : 2 * k + (if up then 0 else 1) = n
    · have e1 : n / 2 = k := by cases up <;> simp at e <;> omega
      have e2 : (n % 2 == 0) = up := by
        cases up
        · simp at e; rw [beq_eq_false_iff_ne]; omega
        · simp at e; rw [beq_iff_eq]; omega
      rw [e1, e2]
      cases h : tuB s rs d k up
      · simp
      · simp; omega
    · have hne : (k, up) ≠ (n / 2, n % 2 == 0) := by
        intro h
        rw [Prod.mk.injEq] at h
        obtain ⟨h1, h2⟩ := h
        apply e
        cases up
        · have : ¬ n % 2 = 0 := by intro h3; rw [h3] at h2; simp at h2
          simp; omega
        · have : n % 2 = 0 := by simpa using h2.symm
          simp; omega
      have hn : (k, up) ∉ (if tuB s rs d (n / 2) (n % 2 == 0) then [(n / 2, n % 2 == 0)] else []) := by
        split
        · simpa using hne
        · simp
      constructor
      · rintro (⟨h1, h2⟩ | h)
        · exact ⟨by omega, h2⟩
        · exact absurd h hn
      · rintro ⟨h1, h2⟩
        exact Or.inl ⟨by omega, h2⟩
theorem byX_inj {a b : Bool} : byX a = byX b ↔ a = b := by cases a <;> cases b <;> simp [byX]
abbrev ftC (T : Bool) (k y : Int) (f : Nat → Int) : Array Value := if T then tnC k y f else tnC 0 0 (fun _ => 0)
abbrev tnO (k y : Int) (f : Nat → Int) : Obj := .cells (tnC k y f) 44
set_option maxHeartbeats 4000000 in
set_option maxRecDepth 100000 in
theorem findTurn_any (v : Value) (p s : Nat) (rs : List ByteArray) (d : List Nat) (k : Nat) (up : Bool) (w : World) (hG : GX p s rs) (hd : stOk p s d) (hk : k < p) (h : RdX w v p s rs) :
    Calls Try.prog 18 #[v, bsV (dF d), .int .i64 k, .int .i64 (byX up)] w fun e w' => e = .returned (.tuple #[.agg (ftC (tuB s rs d k up) k (byX up) (dF (tuD d k up))), .bool (tuB s rs d k up)]) ∧ Below w.heap.size w w' := by
  have hT := Lib.hid (fun w' (hb : Below w.heap.size w w') => turns_any v p s rs d w' hG hd (h.below hb))
  obtain ⟨u, rfl, -⟩ := h
  have h6 := hG.p6
  have hll := tK_len s rs d (2 * p)
  have hin : Hid (∀ k' up', (k', up') ∈ tK s rs d (2 * p) → (k', up') = (k, up) → tuB s rs d k up = true) := Lib.hid (fun k' up' h1 h2 => by rw [h2] at h1; exact ((tK_mem s rs d k up _).1 h1).2)
  have hout : Hid ((k, up) ∉ tK s rs d (2 * p) → tuB s rs d k up = false) := Lib.hid (fun h1 => by
    rw [← Bool.not_eq_true]; intro h2
    exact h1 ((tK_mem s rs d k up _).2 ⟨by cases up <;> simp <;> omega, h2⟩))
  obtain ⟨TB, hTB⟩ : ∃ b, tuB s rs d k up = b := ⟨_, rfl⟩
  rw [hTB] at hin hout ⊢
  generalize tK s rs d (2 * p) = l at *
  obtain ⟨Y, hY⟩ : ∃ y, Hid (y = byX up) := ⟨_, Lib.hid rfl⟩
  rw [← hY.out]
  obtain ⟨f, hf⟩ : ∃ f, Hid (f = dF (tuD d k up)) := ⟨_, Lib.hid rfl⟩
  rw [← hf.out]
  obtain ⟨a, hda⟩ : ∃ a, Hid (a = dF d) := ⟨_, Lib.hid rfl⟩
  rw [← hda.out] at hT ⊢
  clear hTB hd
  obtain ⟨w1, hw1⟩ : ∃ w1, Hid (w1 = ((w.alloc (boxO p s u)).alloc (bsO a)).alloc (tnO 0 0 (fun _ => 0))) := ⟨_, Lib.hid rfl⟩
  have hb1 : Hid (Below w.heap.size w w1) := Lib.hid (by rw [hw1.out]; exact ((ba1 w _).alloc (by simp) _).alloc (by simp; omega) _)
  have F1 := Lib.hid (show w1.heap[w.heap.size]? = some (boxO p s u) by rw [hw1.out]; exact hb_old _ (hb_old _ (hb_new _ _)))
  have G1 := Lib.hid (show w1.heap[w.heap.size + 1]? = some (bsO a) by rw [hw1.out]; exact hb_old _ (hb_new' _ _ _ (by simp)))
  have R1 := Lib.hid (show w1.heap[w.heap.size + 1 + 1]? = some (tnO 0 0 (fun _ => 0)) by rw [hw1.out]; exact hb_new' _ _ _ (by simp))
  have l3 := hb_lt R1.out
  have f0 : w1.cell? ⟨w.heap.size, 0, none⟩ = some (.int .i64 p) := hb_cell F1.out 0
  have f1 : w1.cell? ⟨w.heap.size, 1, none⟩ = some (.int .i64 s) := hb_cell F1.out 1
  have f2 : w1.cell? ⟨w.heap.size, 2, none⟩ = some u := hb_cell F1.out 2
  have g0 : w1.cell? ⟨w.heap.size + 1, 0, none⟩ = some (.int .i64 (a 0)) := hb_cell G1.out 0
  have g1 : w1.cell? ⟨w.heap.size + 1, 1, none⟩ = some (.int .i64 (a 1)) := hb_cell G1.out 1
  have g2 : w1.cell? ⟨w.heap.size + 1, 2, none⟩ = some (.int .i64 (a 2)) := hb_cell G1.out 2
  have g3 : w1.cell? ⟨w.heap.size + 1, 3, none⟩ = some (.int .i64 (a 3)) := hb_cell G1.out 3
  have g4 : w1.cell? ⟨w.heap.size + 1, 4, none⟩ = some (.int .i64 (a 4)) := hb_cell G1.out 4
  have g5 : w1.cell? ⟨w.heap.size + 1, 5, none⟩ = some (.int .i64 (a 5)) := hb_cell G1.out 5
  go_enter Try.func18, Try.ntmps18
  go_upto_region 1 with fail
  rw [← hw1.out]
  go_wp2_with fail
  refine (hT.out _ hb1.out).mono ?_; rintro e w2 ⟨x, rfl, hox, hb⟩
  obtain ⟨pp, c, rfl, hmx, hr⟩ := hox.rd
  rw [List.length_map] at hmx ⊢
  have hlt := Lib.hid hox.lt
  have R2 := Lib.hid (hb_below hb l3 R1.out)
  have l4 := hb_lt R2.out
  have hb2 := Lib.hid (bt1 hb1.out hb)
  clear hb f0 f1 f2 g0 g1 g2 g3 g4 g5
  replace hr := Lib.hid hr
  go_wp2_with fail
  go_loopw [16] (fun i wr => ∃ q : Nat, q ≤ l.length ∧ i = .int .i64 q ∧ Hid (∀ j (h : j < l.length), j < q → l[j] ≠ (k, up)) ∧ Hid (Below w2.heap.size w2 wr)) (fun i _ => l.length - (intOf i).toNat)
  case atStart => exact ⟨0, Nat.zero_le _, rfl, Lib.hid (fun j _ h => by omega), Lib.hid (Below.refl _ _)⟩
  case round =>
    obtain ⟨q, hq, rfl, hno, hbr⟩ := hrel
    obtain ⟨wA, rfl⟩ : ∃ x, x = wr := ⟨_, rfl⟩
    have RA := Lib.hid (hb_below hbr.out l4 R2.out)
    have hwA := Lib.hid (bt1 hb2.out hbr.out)
    by_cases hltq : q < l.length
    · obtain ⟨g, rfl, hgl, hcell⟩ := hr.out (by intro e; rw [List.map_eq_nil_iff] at e; rw [e] at hltq; simp at hltq)
      have hcx := fun o ho => (hbr.out.cell (p := ⟨g, q * 8 + o, none⟩) hgl).trans (hcell q (by rw [List.length_map]; exact hltq) o ho)
      rw [List.getElem_map] at hcx
      have hin9 := Lib.hid (hin.out l[q].1 l[q].2 (List.getElem_mem hltq))
      have hstep : Hid (l[q] ≠ (k, up) → ∀ j (h : j < l.length), j < q + 1 → l[j] ≠ (k, up)) := Lib.hid (fun h8 j hj h1 => by
        by_cases e : j = q
        · subst e; exact h8
        · exact hno.out j hj (by omega))
      obtain ⟨m, hm⟩ : ∃ m, l[q] = m := ⟨_, rfl⟩
      rw [hm] at hcx hin9 hstep
      clear hm hcell
      obtain ⟨mk, mu⟩ := m
      obtain ⟨k2, hk2⟩ : ∃ x : Int, Hid (x = (mk : Int)) := ⟨_, Lib.hid rfl⟩
      obtain ⟨y2, hy2⟩ : ∃ x : Int, Hid (x = byX mu) := ⟨_, Lib.hid rfl⟩
      obtain ⟨f2, hf2⟩ : ∃ x, Hid (x = dF (tuD d mk mu)) := ⟨_, Lib.hid rfl⟩
      have htn : tnW d (mk, mu) = (k2, y2, f2) := by rw [hk2.out, hy2.out, hf2.out]; rfl
      rw [htn] at hcx
      clear htn
      have c0 : wA.cell? ⟨g, q * 8, none⟩ = some (.int .i64 k2) := hcx 0 (show 0 < 8 by omega)
      have c1 : wA.cell? ⟨g, q * 8 + 1, none⟩ = some (.int .i64 y2) := hcx 1 (show 1 < 8 by omega)
      have c2 : wA.cell? ⟨g, q * 8 + 2, none⟩ = some (.int .i64 (f2 0)) := hcx 2 (show 2 < 8 by omega)
      have c3 : wA.cell? ⟨g, q * 8 + 3, none⟩ = some (.int .i64 (f2 1)) := hcx 3 (show 3 < 8 by omega)
      have c4 : wA.cell? ⟨g, q * 8 + 4, none⟩ = some (.int .i64 (f2 2)) := hcx 4 (show 4 < 8 by omega)
      have c5 : wA.cell? ⟨g, q * 8 + 5, none⟩ = some (.int .i64 (f2 3)) := hcx 5 (show 5 < 8 by omega)
      have c6 : wA.cell? ⟨g, q * 8 + 6, none⟩ = some (.int .i64 (f2 4)) := hcx 6 (show 6 < 8 by omega)
      have c7 : wA.cell? ⟨g, q * 8 + 7, none⟩ = some (.int .i64 (f2 5)) := hcx 7 (show 7 < 8 by omega)
      clear hcx
      have iq0 : (0 : Int) ≤ (q : Int) := by omega
      have iq1 : (q : Int) < (l.length : Int) := by omega
      have hk2' : Hid ((k2 == (k : Int)) = true → mk = k) := Lib.hid (fun h => by rw [beq_iff_eq, hk2.out] at h; omega)
      have hy2' : Hid ((y2 == Y) = true → mu = up) := Lib.hid (fun h => by rw [beq_iff_eq, hy2.out, hY.out] at h; exact byX_inj.1 h)
      have hk3 : Hid ((k2 == (k : Int)) = false → mk ≠ k) := Lib.hid (fun h e => by rw [beq_eq_false_iff_ne, hk2.out] at h; exact h (by rw [e]))
      have hy3 : Hid ((y2 == Y) = false → mu ≠ up) := Lib.hid (fun h e => by rw [beq_eq_false_iff_ne, hy2.out, hY.out] at h; exact h (by rw [e]))
      obtain ⟨wB, hwB⟩ : ∃ x, Hid (x = wA.alloc (tnO k2 y2 f2)) := ⟨_, Lib.hid rfl⟩
      have hsA := hbr.out.size
      have hbB := Lib.hid (show Below w2.heap.size w2 wB by rw [hwB.out]; exact hbr.out.alloc hsA _)
      have SB := Lib.hid (show wB.heap[wA.heap.size]? = some (tnO k2 y2 f2) by rw [hwB.out]; exact hb_new _ _)
      have RB := Lib.hid (show wB.heap[w.heap.size + 1 + 1]? = some (tnO 0 0 (fun _ => 0)) by rw [hwB.out]; exact hb_old _ RA.out)
      have s0 : wB.cell? ⟨wA.heap.size, 0, none⟩ = some (.int .i64 k2) := hb_cell SB.out 0
      have s1 : wB.cell? ⟨wA.heap.size, 1, none⟩ = some (.int .i64 y2) := hb_cell SB.out 1
      have s2 : wB.cell? ⟨wA.heap.size, 2, none⟩ = some (.int .i64 (f2 0)) := hb_cell SB.out 2
      have s3 : wB.cell? ⟨wA.heap.size, 3, none⟩ = some (.int .i64 (f2 1)) := hb_cell SB.out 3
      have s4 : wB.cell? ⟨wA.heap.size, 4, none⟩ = some (.int .i64 (f2 2)) := hb_cell SB.out 4
      have s5 : wB.cell? ⟨wA.heap.size, 5, none⟩ = some (.int .i64 (f2 3)) := hb_cell SB.out 5
      have s6 : wB.cell? ⟨wA.heap.size, 6, none⟩ = some (.int .i64 (f2 4)) := hb_cell SB.out 6
      have s7 : wB.cell? ⟨wA.heap.size, 7, none⟩ = some (.int .i64 (f2 5)) := hb_cell SB.out 7
      go_upto_region 4 with fail
      rw [← hwB.out]
      clear c0 c1 c2 c3 c4 c5 c6 c7
      cases B1 : (k2 == (k : Int)) with
      | false =>
        have hS := Lib.hid (hstep.out (fun e => hk3.out B1 (congrArg Prod.fst e)))
        go_wp2_with fail
        go_roundw
        case rel => exact ⟨q + 1, by omega, by go_num, hS, hbB⟩
        all_goals (simp [intOf] <;> omega)
      | true =>
        cases B2 : (y2 == Y) with
        | false =>
          have hS := Lib.hid (hstep.out (fun e => hy3.out B2 (congrArg Prod.snd e)))
          go_wp2_with fail
          go_roundw
          case rel => exact ⟨q + 1, by omega, by go_num, hS, hbB⟩
          all_goals (simp [intOf] <;> omega)
        | true =>
          obtain rfl := hk2'.out B1
          obtain rfl := hy2'.out B2
          have hTB : TB = true := hin9.out rfl
          subst hTB
          have ek : k2 = (mk : Int) := hk2.out
          have ey : y2 = Y := hy2.out.trans hY.out.symm
          have ef : f2 = f := hf2.out.trans hf.out.symm
          have zB := hb_frozen RB.out
          have lB := hb_lt RB.out
          have r0 : wB.cell? ⟨w.heap.size + 1 + 1, 0, none⟩ = some (.int .i64 0) := hb_cell RB.out 0
          have r1 : wB.cell? ⟨w.heap.size + 1 + 1, 1, none⟩ = some (.int .i64 0) := hb_cell RB.out 1
          have r2 : wB.cell? ⟨w.heap.size + 1 + 1, 2, none⟩ = some (.int .i64 0) := hb_cell RB.out 2
          have r3 : wB.cell? ⟨w.heap.size + 1 + 1, 3, none⟩ = some (.int .i64 0) := hb_cell RB.out 3
          have r4 : wB.cell? ⟨w.heap.size + 1 + 1, 4, none⟩ = some (.int .i64 0) := hb_cell RB.out 4
          have r5 : wB.cell? ⟨w.heap.size + 1 + 1, 5, none⟩ = some (.int .i64 0) := hb_cell RB.out 5
          have r6 : wB.cell? ⟨w.heap.size + 1 + 1, 6, none⟩ = some (.int .i64 0) := hb_cell RB.out 6
          have r7 : wB.cell? ⟨w.heap.size + 1 + 1, 7, none⟩ = some (.int .i64 0) := hb_cell RB.out 7
          go_wp2_with fail
          refine bodyPost_ret (v := .tuple #[.agg (tnC mk Y f), .bool true]) ?_ rfl ⟨rfl, ?_⟩
          · simp [results, Try.results18, go_sem, lB, ek, ey, ef, r0, r1, r2, r3, r4, r5, r6, r7, zB]
          · have h0 := bt1 hb2.out hbB.out
            repeat (first | (with_reducible exact h0) | (with_reducible refine Below.setCell ?_ ?_ _; rotate_left; (show w.heap.size ≤ w.heap.size + 1 + 1; omega)))
    · obtain rfl : q = l.length := by omega
      have hTB : TB = false := hout.out (fun h => by
        obtain ⟨j, hj, e⟩ := List.mem_iff_getElem.1 h
        exact hno.out j hj hj e)
      subst hTB
      have zA := hb_frozen RA.out
      have lA := hb_lt RA.out
      have r0 : wA.cell? ⟨w.heap.size + 1 + 1, 0, none⟩ = some (.int .i64 0) := hb_cell RA.out 0
      have r1 : wA.cell? ⟨w.heap.size + 1 + 1, 1, none⟩ = some (.int .i64 0) := hb_cell RA.out 1
      have r2 : wA.cell? ⟨w.heap.size + 1 + 1, 2, none⟩ = some (.int .i64 0) := hb_cell RA.out 2
      have r3 : wA.cell? ⟨w.heap.size + 1 + 1, 3, none⟩ = some (.int .i64 0) := hb_cell RA.out 3
      have r4 : wA.cell? ⟨w.heap.size + 1 + 1, 4, none⟩ = some (.int .i64 0) := hb_cell RA.out 4
      have r5 : wA.cell? ⟨w.heap.size + 1 + 1, 5, none⟩ = some (.int .i64 0) := hb_cell RA.out 5
      have r6 : wA.cell? ⟨w.heap.size + 1 + 1, 6, none⟩ = some (.int .i64 0) := hb_cell RA.out 6
      have r7 : wA.cell? ⟨w.heap.size + 1 + 1, 7, none⟩ = some (.int .i64 0) := hb_cell RA.out 7
      go_wp2_with fail
      refine bodyPost_ret (v := .tuple #[.agg (tnC 0 0 (fun _ => 0)), .bool false]) ?_ rfl ⟨rfl, ?_⟩
      · simp [results, Try.results18, go_sem, lA, r0, r1, r2, r3, r4, r5, r6, r7, zA]
      · have h0 := hwA.out
        repeat (first | (with_reducible exact h0) | (with_reducible refine Below.setCell ?_ ?_ _; rotate_left; (show w.heap.size ≤ w.heap.size + 1 + 1; omega)))
end Go.Proofs.Ytbeciklnknkilaa
