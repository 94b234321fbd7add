/- The box that is turned as rings are moved, both sides. -/
import Derived.Test.YtkcoabdngjbhdabXB
namespace Go.Proofs.Ytkcoabdngjbhdab
open Go Go.RowKit RM
theorem szI_two {p : Nat} (h1 : 1 ≤ p) (h2 : p ≤ 6) : szI p 2 = true := by
  have : (2 : Nat) ^ p ≤ 2 ^ 6 := Nat.pow_le_pow_right (by omega) h2
  exact szI_of (s := 2) h1 h2 (by omega) (by omega) (by omega)
theorem own_oneT (w : World) (t : ByteArray) : OwnT (w.alloc (.cells #[.string t] 9)) w.heap.size (.slice (some ⟨w.heap.size, 0, none⟩) 1 1) [t] :=
  ⟨rfl, .inr ⟨_, 1, #[.string t], rfl, Nat.le_refl _, hb_new _ _, Nat.le_refl _, by decide, rfl, rfl⟩⟩
theorem OwnT.ne_box {w : World} {B g : Nat} {v u : Value} {P S : Int} {xs : List ByteArray} (h : OwnT w B v xs) (hg : w.heap[g]? = some (boxO P S u)) : v.ownBlock ≠ some g := by
  rcases h.2 with ⟨rfl, _⟩ | ⟨g', cap, cur, rfl, _, hh, _⟩
  · intro e; cases e
  · intro e
    obtain rfl : g' = g := Option.some.inj e
    rw [hh] at hg
    simp [boxO] at hg
theorem OwnT.sl {w : World} {B : Nat} {v : Value} {xs : List ByteArray} (h : OwnT w B v xs) : ∃ pv cv, v = .slice pv xs.length cv := by
  obtain ⟨p, c, e, _⟩ := (ownT_G h).rd
  exact ⟨p, c, e⟩
theorem sRB_no (P : Int) (w : World) (h : szI P 2 = false) : Calls Try.prog 21 #[.int .i64 P] w fun e w' => RetX w 0 0 [] false e w' := by
  have hR := Lib.hid (fun w => bxSize_any P 2 w)
  rw [h] at hR
  go_enter Try.func21, Try.ntmps21
  go_wp2_with fail
  refine (hR.out _).mono ?_; rintro e w' ⟨rfl, rfl⟩
  go_wp2_with fail
  refine bodyPost_ret (v := .tuple #[.agg #[.int .i64 0, .int .i64 0, .slice none 0 0], .bool false]) ?_ rfl ⟨_, rfl, OwnT.nil _ _, ?_⟩
  · simp [results, Try.results21, go_sem]
  · exact ba1 w _
set_option maxRecDepth 100000 in
set_option maxHeartbeats 2000000 in
theorem sRB_yes (p : Nat) (w : World) (h1 : 1 ≤ p) (h2 : p ≤ 6) : Calls Try.prog 21 #[.int .i64 p] w fun e w' => RetX w p 2 (bkL p p) true e w' := by
  have hR := Lib.hid (fun w => bxSize_any p 2 w)
  rw [szI_two h1 h2] at hR
  have hs := Lib.hid (bkL_succ p)
  have hl := Lib.hid (bkL_len p)
  have hp := Lib.hid (bk_pos p)
  have hA0 := Lib.hid (fun w => bxAny_any p w (by omega))
  have hone : Hid (bkL p 1 = [rp 63 p]) := Lib.hid rfl
  have hsz := Lib.hid (rp_size 48)
  have hsn := Lib.hid (rp_snoc 48)
  have hz0 : Hid (rp 48 0 = ⟨#[]⟩) := Lib.hid rfl
  generalize hbl : bkL p = L at *
  generalize bk p = K at *
  clear hbl
  obtain ⟨t0, ht0⟩ : ∃ t, t = rp 63 p := ⟨_, rfl⟩
  rw [← ht0] at hA0 hone
  clear ht0
  obtain ⟨w1, hw1⟩ : ∃ w1, Hid (w1 = (w.alloc (boxO 0 0 (.slice none 0 0))).alloc (.cells #[.string t0] 9)) := ⟨_, Lib.hid rfl⟩
  obtain ⟨w2, hw2⟩ : ∃ w2, Hid (w2 = w1.alloc (boxO p 2 (.slice (some ⟨w.heap.size + 1, 0, none⟩) 1 1))) := ⟨_, Lib.hid rfl⟩
  have hb2 : Hid (Below w.heap.size w w2) := Lib.hid (by rw [hw2.out, hw1.out]; exact ((ba1 w _).alloc (by simp) _).alloc (by simp; omega) _)
  have R2 := Lib.hid (show w2.heap[w.heap.size]? = some (boxO 0 0 (.slice none 0 0)) by rw [hw2.out, hw1.out]; exact hb_old _ (hb_old _ (hb_new _ _)))
  have O2 := Lib.hid (show w2.heap[w.heap.size + 1 + 1]? = some (boxO p 2 (.slice (some ⟨w.heap.size + 1, 0, none⟩) 1 1)) by rw [hw2.out]; exact hb_new' _ _ _ (by rw [hw1.out]; simp))
  have y2 := Lib.hid (show w2.heap.size = w.heap.size + 3 by rw [hw2.out, hw1.out]; simp)
  have T2 := Lib.hid (show OwnT w2 (w.heap.size + 1) (.slice (some ⟨w.heap.size + 1, 0, none⟩) 1 1) (L 1) by
    rw [hw2.out, hw1.out, hone.out]
    have := own_oneT (w.alloc (boxO 0 0 (.slice none 0 0))) t0
    simp only [World.size_alloc] at this
    exact OwnT.alloc this _)
  go_enter Try.func21, Try.ntmps21
  go_wp2_with fail
  refine (hR.out _).mono ?_; rintro e w' ⟨rfl, rfl⟩
  go_wp2_with fail
  refine (hA0.out _).mono ?_; rintro e w' ⟨rfl, rfl⟩
  go_wp2_with fail
  rw [← hw1.out, ← hw2.out]
  go_loopw [5] (fun i wr => ∃ (k : Nat) (v : Value), 1 ≤ k ∧ k ≤ p ∧ i = .int .i64 k ∧ Hid (wr.heap[w.heap.size + 1 + 1]? = some (boxO p 2 v)) ∧ Hid (OwnT wr (w.heap.size + 1) v (L k)) ∧ Hid (Below (w.heap.size + 1) w2 wr)) (fun i _ => p - (intOf i).toNat)
  case atStart => exact ⟨1, _, Nat.le_refl _, h1, rfl, O2, T2, Lib.hid (Below.refl _ _)⟩
  case round =>
    obtain ⟨k, v, hk1, hk, rfl, hO, ho, hb⟩ := hrel
    obtain ⟨wq, rfl⟩ : ∃ x, x = wr := ⟨_, rfl⟩
    have hOl := hb_lt hO.out
    have o0 : wq.cell? ⟨w.heap.size + 1 + 1, 0, none⟩ = some (.int .i64 p) := hb_cell hO.out 0
    have o1 : wq.cell? ⟨w.heap.size + 1 + 1, 1, none⟩ = some (.int .i64 2) := hb_cell hO.out 1
    have o2 : wq.cell? ⟨w.heap.size + 1 + 1, 2, none⟩ = some v := hb_cell hO.out 2
    obtain ⟨pv, cv, hv⟩ := ho.out.sl
    rw [hl.out] at hv
    subst hv
    by_cases hlt : k < p
    · have hS := Lib.hid (hs.out k)
      have e2 := Lib.hid (hp.out k (by omega))
      have hA := Lib.hid (fun w => bxAny_any (p - k) w (by omega))
      rw [show ((p - k : Nat) : Int) = (p : Int) - (k : Int) by omega] at hA
      have s2 : (rp 63 (p - k)).size ≤ 20 := by rw [rp_size]; omega
      have s3 : ∀ j, j ≤ k → (rp 48 j).size ≤ 20 := fun j hj => by rw [hsz.out]; omega
      generalize rp 63 (p - k) = t2 at *
      generalize rp 48 = Z at *
      obtain ⟨y, hy⟩ : ∃ y, Hid (y = Z (k - 1) ++ ⟨#[49]⟩ ++ t2) := ⟨_, Lib.hid rfl⟩
      have hlk := hl.out k
      obtain ⟨g', c', w9, hr, ho9, hg9⟩ := app_runT (wq.alloc (.cells #[.string y] 9)).drew (w.heap.size + 1) _ (L k) y wq.heap.size ((ho.out.alloc _).below (Below.refl _ _).drew) (hb_cell (hb_new wq _) 0) (by rw [hlk]; omega) (by have := hb.out.size; rw [y2.out] at this; simp; omega)
      rw [hlk] at hr ho9
      have hne := ho.out.ne_box hO.out
      have hO9 := Lib.hid (show w9.heap[w.heap.size + 1 + 1]? = some (boxO p 2 _) from (hg9.block (w.heap.size + 1 + 1) (by simp; omega) (fun e => hne e.symm)).trans (hb_old _ hO.out))
      have hs9 := Lib.hid hg9.size
      have hO9l := hb_lt hO9.out
      have q0 : w9.cell? ⟨w.heap.size + 1 + 1, 0, none⟩ = some (.int .i64 p) := hb_cell hO9.out 0
      have q1 : w9.cell? ⟨w.heap.size + 1 + 1, 1, none⟩ = some (.int .i64 2) := hb_cell hO9.out 1
      have q2 : w9.cell? ⟨w.heap.size + 1 + 1, 2, none⟩ = some _ := hb_cell hO9.out 2
      have qf := hb_frozen hO9.out
      have hb9 : Hid (Below (w.heap.size + 1) w2 w9) := Lib.hid (((hb.out.alloc (by have := hb.out.size; rw [y2.out] at this; omega) _).drew).grown hg9 (by have := hb.out.size; rw [y2.out] at this; simp; omega) (fun j e => by have := (ho.out.lt _ e).1; omega))
      have hne9 := Lib.hid (ho9.ne_box hO9.out)
      replace ho9 := Lib.hid ho9
      replace hne := Lib.hid hne
      clear hg9
      go_wp2_with fail
      go_loop [6, 7] (fun o i => ∃ j : Nat, j ≤ k - 1 ∧ i = .int .i64 j ∧ o = .string (Z j)) (fun _ i => k - (intOf i).toNat)
      case atStart => exact ⟨0, by omega, rfl, vs hz0.out.symm⟩
      case round =>
        obtain ⟨j, hj, rfl, rfl⟩ := hrel
        have sj := s3 j (by omega)
        by_cases hj1 : j < k - 1
        · have hjl : (j : Int) < (k : Int) - 1 := by omega
          have HS := Lib.hid (hsn.out j)
          go_wp2_with fail
          go_round
          case rel => exact ⟨j + 1, by omega, by go_num, vs HS.out⟩
          all_goals (simp [intOf] <;> omega)
        · obtain rfl : j = k - 1 := by omega
          have hjl : ¬ ((k - 1 : Nat) : Int) < (k : Int) - 1 := by omega
          have hg1 : ¬ 9223372036854775807 < (Z (k - 1)).size + 1 := by omega
          have hg2 : ¬ 9223372036854775807 < (Z (k - 1) ++ ⟨#[49]⟩ : ByteArray).size + t2.size := by rw [ByteArray.size_append]; show ¬ 9223372036854775807 < (Z (k - 1)).size + 1 + t2.size; omega
          have hg3 : ¬ 9223372036854775807 < (Z (k - 1)).size + 1 + t2.size := by omega
          have hwk : IntKind.i64.wrap ((p : Int) - (k : Int)) = (p : Int) - (k : Int) := by rw [IntKind.wrap_i64]; omega
          rw [hy.out] at hr
          go_upto_region 12 with fail
          go_region_law (first | (refine step_call1 rfl 46 (.tmp 36) _ (by with_reducible rfl) _ Try.func46 (by kernel_rfl) _ (by simp [Act.eval, Act.put]) _ (hA.out _) ?_; rintro e w' ⟨rfl, rfl⟩; refine ⟨_, rfl, ?_⟩) | (refine step_appE hr rfl (.tmp 31) (.tmp 39) (by with_reducible rfl) (by with_reducible rfl) (by simp [Act.eval, Act.put]) (by simp [Act.eval, Act.put]) ?_))
          all_goals
            go_wp2_with fail
            refine ⟨⟨k + 1, _, by omega, by omega, by go_num, Lib.hid (hb_set hO9.out _), Lib.hid (by rw [hS.out, e2.out, ← hy.out]; exact ownsRow_setCell_other (a := ⟨w.heap.size + 1 + 1, 2, none⟩) ho9.out hne9.out _), Lib.hid (hb9.out.setCell (by show w.heap.size + 1 ≤ w.heap.size + 1 + 1; omega) _)⟩, by simp [intOf]; omega⟩
    · obtain rfl : k = p := by omega
      have RR := Lib.hid (hb_below (g := w.heap.size) hb.out (by omega) R2.out)
      have r0 : wq.cell? ⟨w.heap.size, 0, none⟩ = some (.int .i64 0) := hb_cell RR.out 0
      have r1 : wq.cell? ⟨w.heap.size, 1, none⟩ = some (.int .i64 0) := hb_cell RR.out 1
      have r2 : wq.cell? ⟨w.heap.size, 2, none⟩ = some (.slice none 0 0) := hb_cell RR.out 2
      have zr := hb_frozen RR.out
      have hRl := hb_lt RR.out
      go_wp2_with fail
      refine bodyPost_ret (v := .tuple #[.agg #[.int .i64 k, .int .i64 2, .slice pv k cv], .bool true]) ?_ rfl ⟨_, rfl, ?_, ?_⟩
      · simp [results, Try.results21, go_sem, hRl, r0, r1, r2]
      · have kk : ∀ (W : World) (a : Addr) (u : Value), OwnT W (w.heap.size + 1) (.slice pv k cv) (L k) → a.block < w.heap.size + 1 → OwnT (W.setCell a u) (w.heap.size + 1) (.slice pv k cv) (L k) := fun W a u h ha => ownsRow_setCell_below h ha u
        refine OwnT.mono (B := w.heap.size + 1) ?_ (by omega)
        repeat (first | (with_reducible exact ho.out) | (with_reducible refine kk _ _ _ ?_ ?_; rotate_left; (show w.heap.size < _; omega)))
      · have h0 := hb2.out.trans (hb.out.mono (by omega))
        repeat (first | (with_reducible exact h0) | (with_reducible refine Below.setCell ?_ ?_ _; rotate_left; (show w.heap.size ≤ w.heap.size; omega)))
theorem iRB_no (P : Int) (w : World) (h : szI P 2 = false) : Calls Try.prog 22 #[.int .i64 P] w fun e w' => RetX w 0 0 [] false e w' := by
  have hR := Lib.hid (fun w => isBS_any P 2 w)
  rw [h] at hR
  go_enter Try.func22, Try.ntmps22
  go_wp2_with fail
  refine (hR.out _).mono ?_; rintro e w' ⟨rfl, rfl⟩
  go_wp2_with fail
  refine bodyPost_ret (v := .tuple #[.agg #[.int .i64 0, .int .i64 0, .slice none 0 0], .bool false]) ?_ rfl ⟨_, rfl, OwnT.nil _ _, ?_⟩
  · simp [results, Try.results22, go_sem]
  · exact ba1 w _
set_option maxRecDepth 100000 in
theorem iRB_yes (p : Nat) (w : World) (h1 : 1 ≤ p) (h2 : p ≤ 6) : Calls Try.prog 22 #[.int .i64 p] w fun e w' => RetX w p 2 (bkL p p) true e w' := by
  have hR := Lib.hid (fun w => isBS_any p 2 w)
  rw [szI_two h1 h2] at hR
  have hB := Lib.hid (fun w => iBK_yes p w h1 (by omega))
  have hl := Lib.hid (bkL_len p p)
  generalize bkL p p = L at *
  obtain ⟨w1, hw1⟩ : ∃ w1, Hid (w1 = w.alloc (boxO 0 0 (.slice none 0 0))) := ⟨_, Lib.hid rfl⟩
  have hb1 : Hid (Below w.heap.size w w1) := Lib.hid (by rw [hw1.out]; exact ba1 w _)
  have R1 := Lib.hid (show w1.heap[w.heap.size]? = some (boxO 0 0 (.slice none 0 0)) by rw [hw1.out]; exact hb_new _ _)
  go_enter Try.func22, Try.ntmps22
  go_wp2_with fail
  refine (hR.out _).mono ?_; rintro e w' ⟨rfl, rfl⟩
  rw [← hw1.out]
  go_wp2_with fail
  refine (hB.out _).mono ?_; rintro e w4 ⟨u, rfl, ho, hb4⟩
  have hlo : w.heap.size < w1.heap.size := hb_lt R1.out
  have R4 := Lib.hid (hb_below hb4 hlo R1.out)
  replace hb4 := Lib.hid (bt1 hb1.out hb4)
  have r0 : w4.cell? ⟨w.heap.size, 0, none⟩ = some (.int .i64 0) := hb_cell R4.out 0
  have r1 : w4.cell? ⟨w.heap.size, 1, none⟩ = some (.int .i64 0) := hb_cell R4.out 1
  have r2 : w4.cell? ⟨w.heap.size, 2, none⟩ = some (.slice none 0 0) := hb_cell R4.out 2
  have zr := hb_frozen R4.out
  have hRl := hb_lt R4.out
  obtain ⟨pv, cv, hv⟩ := ho.sl
  rw [hl.out] at hv
  subst hv
  replace ho := Lib.hid ho
  go_wp2_with fail
  refine bodyPost_ret (v := .tuple #[.agg #[.int .i64 p, .int .i64 2, .slice pv p cv], .bool true]) ?_ rfl ⟨_, rfl, ?_, ?_⟩
  · simp [results, Try.results22, go_sem, hRl, r0, r1, r2]
  · have kk : ∀ (W : World) (a : Addr) (u : Value), OwnT W w1.heap.size (.slice pv p cv) L → a.block < w1.heap.size → OwnT (W.setCell a u) w1.heap.size (.slice pv p cv) L := fun W a u h ha => ownsRow_setCell_below h ha u
    refine OwnT.mono (B := w1.heap.size) ?_ (by omega)
    repeat (first | (with_reducible exact ho.out) | (with_reducible refine kk _ _ _ ?_ ?_; rotate_left; (show w.heap.size < _; omega)))
  · have h0 := hb4.out
    repeat (first | (with_reducible exact h0) | (with_reducible refine Below.setCell ?_ ?_ _; rotate_left; (show w.heap.size ≤ w.heap.size; omega)))
theorem RingBox_both (P : Int) (_ : (Lit.int .i64 P).wf = true) : ∃ (RP RS : Int) (r : List ByteArray) (ok : Bool), r.length ≤ 2000000 ∧
    (∀ w, Calls Try.prog 21 #[.int .i64 P] w fun e w' => RetX w RP RS r ok e w') ∧
    (∀ w, Calls Try.prog 22 #[.int .i64 P] w fun e w' => RetX w RP RS r ok e w') := by
  cases h : szI P 2 with
  | false => exact ⟨0, 0, [], false, by simp, fun w => sRB_no P w h, fun w => iRB_no P w h⟩
  | true =>
    obtain ⟨p, s, rfl, hs, h1, h2, -⟩ := szI_nat h
    exact ⟨p, 2, _, true, by rw [bkL_len]; omega, fun w => sRB_yes p w h1 h2, fun w => iRB_yes p w h1 h2⟩
end Go.Proofs.Ytkcoabdngjbhdab
