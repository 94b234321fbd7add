/- The state in which all parts are at one side; CountOpened, TurnsToOpen, both sides. -/
import Derived.Test.YtjlecipeoaohiaaYC
namespace Go.Proofs.Ytjlecipeoaohiaa
set_option linter.unusedSimpArgs false
set_option linter.unusedVariables false
open Go Go.RowKit RM Go.Maps Go.WideMaps Go.ChangeMaps
theorem gX_zero {s : Nat} (hs : 1 ≤ s) : ∀ p, gX s p 0 = List.replicate p 0 := by
  intro p
  induction p with
  | zero => rfl
  | succ p ih => rw [gX_step, Nat.zero_div, ih, Nat.zero_mod, List.replicate_succ']
theorem gX_last {s : Nat} (hs : 1 ≤ s) : ∀ p, gX s p (s ^ p - 1) = List.replicate p (s - 1) := by
  intro p
  induction p with
  | zero => rfl
  | succ p ih =>
    have h1 : 1 ≤ s ^ p := Nat.pow_pos (by omega)
    have e : s ^ (p + 1) - 1 = s * (s ^ p - 1) + (s - 1) := by
      rw [Nat.pow_succ, Nat.mul_sub, Nat.mul_comm s (s ^ p)]
      have : s * 1 ≤ s ^ p * s := by rw [Nat.mul_comm (s ^ p) s]; exact Nat.mul_le_mul_left _ h1
      omega
    rw [gX_step, e, Nat.mul_add_div (by omega), Nat.div_eq_of_lt (by omega), Nat.add_zero, ih, Nat.mul_add_mod, Nat.mod_eq_of_lt (by omega), List.replicate_succ']
theorem dF_rep (k x : Nat) : dF (List.replicate k x) = fun q => if q < k then (x : Int) else 0 := by
  funext q
  show (((List.replicate k x).getD q 0 : Nat) : Int) = _
  by_cases h : q < k
  · rw [if_pos h, List.getD_eq_getElem?_getD, List.getElem?_replicate, if_pos h]; rfl
  · rw [if_neg h, List.getD_eq_getElem?_getD, List.getElem?_replicate, if_neg h]; rfl
theorem rep_ok {p s x : Nat} (h : x < s) : stOk p s (List.replicate p x) := ⟨by simp, fun i hi => by simp; exact h⟩
set_option maxRecDepth 100000 in
theorem allAt_any (p s : Nat) (u : Value) (x : Nat) (w : World) (hp : p ≤ 6) :
    Calls Try.prog 72 #[.agg #[.int .i64 p, .int .i64 s, u], .int .i64 x] w fun e w' => e = .returned (bsV (dF (List.replicate p x))) ∧ Below w.heap.size w w' := by
  obtain ⟨f, hf⟩ : ∃ f : Nat → Nat → Int, Hid (f = fun k => dF (List.replicate k x)) := ⟨_, Lib.hid rfl⟩
  have hfp : dF (List.replicate p x) = f p := by rw [hf.out]
  rw [hfp]
  have hst := Lib.hid (fun k => show updF (f k) k (x : Int) = f (k + 1) by
    rw [hf.out]
    show updF (dF (List.replicate k x)) k x = dF (List.replicate (k + 1) x)
    rw [dF_rep, dF_rep]
    funext q
    unfold updF
    by_cases e : q = k
    · subst e; rw [if_pos rfl, if_pos (by omega)]
    · rw [if_neg e]
      show (if q < k then (x : Int) else 0) = if q < k + 1 then (x : Int) else 0
      by_cases h : q < k
      · rw [if_pos h, if_pos (by omega)]
      · rw [if_neg h, if_neg (by omega)])
  have h0 := Lib.hid (show bsO (f 0) = .cells #[.int .i64 0, .int .i64 0, .int .i64 0, .int .i64 0, .int .i64 0, .int .i64 0] 64 by rw [hf.out]; rfl)
  clear hfp
  obtain ⟨w1, hw1⟩ : ∃ w1, Hid (w1 = ((w.alloc (boxO p s u)).alloc (.cells #[.int .i64 0, .int .i64 0, .int .i64 0, .int .i64 0, .int .i64 0, .int .i64 0] 64)).alloc (.cells #[.int .i64 0, .int .i64 0, .int .i64 0, .int .i64 0, .int .i64 0, .int .i64 0] 64)) := ⟨_, Lib.hid rfl⟩
  have hb1 : Hid (Below w.heap.size w w1) := Lib.hid (by rw [hw1.out]; exact ((ba1 w _).alloc (by simp) _).alloc (by simp; omega) _)
  have F1 := Lib.hid (show w1.heap[w.heap.size]? = some (boxO p s u) by rw [hw1.out]; exact hb_old _ (hb_old _ (hb_new _ _)))
  have R1 := Lib.hid (show w1.heap[w.heap.size + 1]? = some (.cells #[.int .i64 0, .int .i64 0, .int .i64 0, .int .i64 0, .int .i64 0, .int .i64 0] 64) by rw [hw1.out]; exact hb_old _ (hb_new' _ _ _ (by simp)))
  have A1 := Lib.hid (show w1.heap[w.heap.size + 1 + 1]? = some (bsO (f 0)) by rw [hw1.out, h0.out]; exact hb_new' _ _ _ (by simp))
  have f0 : w1.cell? ⟨w.heap.size, 0, none⟩ = some (.int .i64 p) := hb_cell F1.out 0
  go_enter Try.func72, Try.ntmps72
  go_wp2_with fail
  rw [← hw1.out]
  go_wp2_with fail
  go_loopw [9] (fun i wr => ∃ k : Nat, k ≤ p ∧ i = .int .i64 k ∧ Hid (wr.heap[w.heap.size + 1 + 1]? = some (bsO (f k))) ∧ Hid (wr.heap[w.heap.size + 1]? = some (.cells #[.int .i64 0, .int .i64 0, .int .i64 0, .int .i64 0, .int .i64 0, .int .i64 0] 64)) ∧ Hid (Below w.heap.size w wr)) (fun i _ => p - (intOf i).toNat)
  case atStart => exact ⟨0, Nat.zero_le _, rfl, A1, R1, hb1⟩
  case round =>
    obtain ⟨k, hk, rfl, hA, hR, hb⟩ := hrel
    generalize wr = wA at *
    by_cases hlt : k < p
    · have hk6 : k < 6 := by omega
      have ck := bs_cell hA.out hk6
      have ik0 : (0 : Int) ≤ (k : Int) := by omega
      have ik6 : (k : Int) < 6 := by omega
      have cf := hb_frozen hA.out k
      have hS := Lib.hid (show (wA.setCell ⟨w.heap.size + 1 + 1, k, none⟩ (.int .i64 (x : Int))).heap[w.heap.size + 1 + 1]? = some (bsO (f (k + 1))) by rw [← hst.out k]; exact bs_set hA.out hk6 x)
      have hR2 := Lib.hid (show (wA.setCell ⟨w.heap.size + 1 + 1, k, none⟩ (.int .i64 (x : Int))).heap[w.heap.size + 1]? = some (.cells #[.int .i64 0, .int .i64 0, .int .i64 0, .int .i64 0, .int .i64 0, .int .i64 0] 64) from (hb_ne _ (by omega)).trans hR.out)
      have hb2 := Lib.hid (show Below w.heap.size w (wA.setCell ⟨w.heap.size + 1 + 1, k, none⟩ (.int .i64 (x : Int))) from hb.out.setCell (show w.heap.size ≤ w.heap.size + 1 + 1 by omega) _)
      go_wp2_with fail
      go_roundw
      case rel => exact ⟨k + 1, by omega, by go_num, hS, hR2, hb2⟩
      all_goals (simp [intOf] <;> omega)
    · obtain rfl : k = p := by omega
      have c := hb_cell hA.out
      have r := hb_cell hR.out
      have z := hb_frozen hR.out
      have l1 := hb_lt hA.out
      have l2 := hb_lt hR.out
      obtain ⟨w9, hw9⟩ : ∃ w9, Hid (w9 = ((((((wA.setCell ⟨w.heap.size + 1, 0, none⟩ (.int .i64 (f k 0))).setCell ⟨w.heap.size + 1, 1, none⟩ (.int .i64 (f k 1))).setCell ⟨w.heap.size + 1, 2, none⟩ (.int .i64 (f k 2))).setCell ⟨w.heap.size + 1, 3, none⟩ (.int .i64 (f k 3))).setCell ⟨w.heap.size + 1, 4, none⟩ (.int .i64 (f k 4))).setCell ⟨w.heap.size + 1, 5, none⟩ (.int .i64 (f k 5)))) := ⟨_, Lib.hid rfl⟩
      have R9 := Lib.hid (show w9.heap[w.heap.size + 1]? = some (bsO (f k)) by rw [hw9.out]; exact six_at hR.out _ _ _ _ _ _)
      have hb9 := Lib.hid (show Below w.heap.size w w9 by rw [hw9.out]; exact six_below hb.out (by omega) _ _ _ _ _ _)
      go_wp2_with fail
      rw [← hw9.out]
      refine bodyPost_ret (v := bsV (f k)) ?_ rfl ⟨rfl, hb9.out⟩
      have c9 := hb_cell R9.out
      have l9 := hb_lt R9.out
      simp [results, Try.results72, go_sem, c9, l9]
/-- a box in memory -/
abbrev XO1 (f B : Nat) (P S : Int) (u : Value) (W w : World) : Prop :=
  (w.cell? ⟨f, 0, none⟩ = some (.int .i64 P) ∧ w.cell? ⟨f, 1, none⟩ = some (.int .i64 S) ∧ w.cell? ⟨f, 2, none⟩ = some u) ∧ f < w.heap.size ∧ Below B W w
theorem keepO {f : Nat} {P S : Int} {u : Value} {W a b : World} (kk : Below a.heap.size a b) (hx : XO1 f W.heap.size P S u W a) : XO1 f W.heap.size P S u W b := by
  obtain ⟨⟨a0, a1, a2⟩, hf, hb⟩ := hx
  have e : ∀ g o, g < a.heap.size → b.cell? ⟨g, o, none⟩ = a.cell? ⟨g, o, none⟩ := fun g o hg => kk.cell (p := ⟨g, o, none⟩) hg
  have hs := kk.size
  exact ⟨⟨by rw [e _ _ hf]; exact a0, by rw [e _ _ hf]; exact a1, by rw [e _ _ hf]; exact a2⟩, by omega, bt1 hb kk⟩
theorem keepOB {f : Nat} {P S : Int} {u : Value} {W w : World} (hx : XO1 f W.heap.size P S u W w) : Below W.heap.size W w := hx.2.2
set_option maxRecDepth 100000 in
theorem sCO_no (v : Value) (P S : Int) (rs : List ByteArray) (w : World) (hz : ∀ s ∈ rs, s.size ≤ maxLen) (hA : goodX P S rs = false) (h : RdX w v P S rs) :
    Calls Try.prog 31 #[v] w fun e w' => e = .returned (.tuple #[.int .i64 0, .bool false]) ∧ Below w.heap.size w w' := by
  have hQ := Lib.hid (fun w' (hb : Below w.heap.size w w') => bxGood_any v P S rs w' hz (h.below hb))
  rw [hA] at hQ
  obtain ⟨u, rfl, -⟩ := h
  clear hA
  go_enter Try.func31, Try.ntmps31
  go_wp2_with fail
  refine (hQ.out _ (ba1 w _)).mono ?_; rintro e w' ⟨rfl, hb⟩
  go_wp2_with fail
  go_ret2; exact ⟨rfl, bt1 (ba1 w _) hb⟩
set_option maxRecDepth 100000 in
set_option maxHeartbeats 4000000 in
theorem sCO_yes (v : Value) (p s : Nat) (rs : List ByteArray) (w : World) (hz : ∀ s ∈ rs, s.size ≤ maxLen) (hg : goodX p s rs = true) (hG : GX p s rs) (hsp : s ^ p ≤ 1000) (h : RdX w v p s rs) :
    Calls Try.prog 31 #[v] w fun e w' => e = .returned (.tuple #[.int .i64 (((fin 1 (nbX p s rs) (allX p s) (List.replicate p 0)).q.length : Nat) : Int), .bool true]) ∧ Below w.heap.size w w' := by
  have hQ := Lib.hid (fun w' (hb : Below w.heap.size w w') => bxGood_any v p s rs w' hz (h.below hb))
  rw [hg] at hQ
  have h6 := hG.p6
  have h5 := hG.s5
  have h2 := hG.s2
  have hFar := Lib.hid (fun w' (hb : Below w.heap.size w w') => bxFar_any 1 v p s rs (List.replicate p 0) w' hG hsp (h.below hb) (rep_ok (by omega)) (Nat.le_refl _))
  obtain ⟨u, rfl, -⟩ := h
  have hOf := Lib.hid (fun w => show Calls Try.prog 70 #[.agg #[.int .i64 p, .int .i64 s, u], .int .i64 0] w fun e w' => e = .returned (.string (tS (gX s p 0))) ∧ Below w.heap.size w w' from bxOf_any p s u 0 w h6 h2 h5 (by omega))
  rw [gX_zero (by omega)] at hOf
  generalize (fin 1 (nbX p s rs) (allX p s) (List.replicate p 0)).q.length = L at *
  generalize (fin 1 (nbX p s rs) (allX p s) (List.replicate p 0)).far = FF at *
  generalize tS (List.replicate p 0) = t at *
  clear hg hz
  obtain ⟨w1, hw1⟩ : ∃ w1, Hid (w1 = w.alloc (boxO p s u)) := ⟨_, Lib.hid rfl⟩
  have hb1 : Hid (Below w.heap.size w w1) := Lib.hid (by rw [hw1.out]; exact ba1 w _)
  have F1 := Lib.hid (show w1.heap[w.heap.size]? = some (boxO p s u) by rw [hw1.out]; exact hb_new _ _)
  have f0 : w1.cell? ⟨w.heap.size, 0, none⟩ = some (.int .i64 p) := hb_cell F1.out 0
  have f1 : w1.cell? ⟨w.heap.size, 1, none⟩ = some (.int .i64 s) := hb_cell F1.out 1
  have f2 : w1.cell? ⟨w.heap.size, 2, none⟩ = some u := hb_cell F1.out 2
  go_enter Try.func31, Try.ntmps31
  go_wp2_with fail
  rw [← hw1.out]
  go_wp2_with fail
  refine (hQ.out _ hb1.out).mono ?_; rintro e w2 ⟨rfl, hb⟩
  have F2 := Lib.hid (hb_below hb (hb_lt F1.out) F1.out)
  replace hb := Lib.hid (bt1 hb1.out hb)
  have hSS : XO1 w.heap.size w2.heap.size p s u w2 w2 := ⟨⟨hb_cell F2.out 0, hb_cell F2.out 1, hb_cell F2.out 2⟩, hb_lt F2.out, Below.refl _ _⟩
  go_upto_region 3 with fail
  go_region_held3 (fun v => XO1 w.heap.size w2.heap.size p s u w2 v) ((first | assumption | (refine ⟨⟨?_, ?_, ?_⟩, ?_, ?_⟩ <;> first | assumption | go_keep | omega | exact (Below.refl _ _).drew)))
    (first | (go_at_call 70; with_reducible refine (hOf.out _).mono ?_; rintro e w' ⟨rfl, hb9⟩; have hbn := keepO hb9 (by assumption)) | (go_at_call 66; with_reducible refine (hFar.out _ (bt1 hb.out (keepOB (by assumption)))).mono ?_; rintro e w' ⟨gm, rfl, hown, hb11⟩; have hbn2 := keepO hb11 (by assumption)))
  all_goals
    have hfin := keepOB (by assumption)
    go_wp2_with fail
    go_ret2; exact ⟨rfl, bt1 hb.out hfin⟩
set_option maxRecDepth 100000 in
theorem iCO_no (v : Value) (P S : Int) (rs : List ByteArray) (w : World) (hz : ∀ s ∈ rs, s.size ≤ maxLen) (hA : goodX P S rs = false) (h : RdX w v P S rs) :
    Calls Try.prog 32 #[v] w fun e w' => e = .returned (.tuple #[.int .i64 0, .bool false]) ∧ Below w.heap.size w w' := by
  have hQ := Lib.hid (fun w' (hb : Below w.heap.size w w') => iIB_any v P S rs w' hz (h.below hb))
  rw [hA] at hQ
  obtain ⟨u, rfl, -⟩ := h
  clear hA
  go_enter Try.func32, Try.ntmps32
  go_wp2_with fail
  refine (hQ.out _ (ba1 w _)).mono ?_; rintro e w' ⟨rfl, hb⟩
  go_wp2_with fail
  go_ret2; exact ⟨rfl, bt1 (ba1 w _) hb⟩
set_option maxRecDepth 1000000 in
set_option maxHeartbeats 4000000 in
theorem iCO_yes (v : Value) (p s : Nat) (rs : List ByteArray) (w : World) (hz : ∀ s ∈ rs, s.size ≤ maxLen) (hg : goodX p s rs = true) (hG : GX p s rs) (hsp : s ^ p ≤ 1000) (h : RdX w v p s rs) :
    Calls Try.prog 32 #[v] w fun e w' => e = .returned (.tuple #[.int .i64 (((fin 1 (nbX p s rs) (allX p s) (List.replicate p 0)).q.length : Nat) : Int), .bool true]) ∧ Below w.heap.size w w' := by
  have hQ := Lib.hid (fun w' (hb : Below w.heap.size w w') => iIB_any v p s rs w' hz (h.below hb))
  rw [hg] at hQ
  have h6 := hG.p6
  have h2 := hG.s2
  have hd : stOk p s (List.replicate p 0) := rep_ok (by omega)
  have hSe := Lib.hid (fun w' (hb : Below w.heap.size w w') => searchT_any v p s rs (List.replicate p 0) 1 w' hG hsp hd (Nat.le_refl _) (h.below hb))
  have hsz := Lib.hid (fun W b (hm : MM hG.ks b (fin 1 (nbX p s rs) (allX p s) (List.replicate p 0)).far W) => MM.size hG (by omega) (Nat.le_refl 1) hd hm)
  obtain ⟨u, rfl, -⟩ := h
  have hAt := Lib.hid (fun w => show Calls Try.prog 72 #[.agg #[.int .i64 p, .int .i64 s, u], .int .i64 0] w fun e w' => e = .returned (bsV (dF (List.replicate p 0))) ∧ Below w.heap.size w w' from allAt_any p s u 0 w h6)
  obtain ⟨L, hL⟩ : ∃ L, (fin 1 (nbX p s rs) (allX p s) (List.replicate p 0)).q.length = L := ⟨_, rfl⟩
  rw [hL] at hsz ⊢
  obtain ⟨f, hf⟩ : ∃ f, Hid (f = dF (List.replicate p 0)) := ⟨_, Lib.hid rfl⟩
  rw [← hf.out] at hAt hSe
  clear hL hg hz
  obtain ⟨w1, hw1⟩ : ∃ w1, Hid (w1 = w.alloc (boxO p s u)) := ⟨_, Lib.hid rfl⟩
  have hb1 : Hid (Below w.heap.size w w1) := Lib.hid (by rw [hw1.out]; exact ba1 w _)
  have F1 := Lib.hid (show w1.heap[w.heap.size]? = some (boxO p s u) by rw [hw1.out]; exact hb_new _ _)
  have f0 : w1.cell? ⟨w.heap.size, 0, none⟩ = some (.int .i64 p) := hb_cell F1.out 0
  have f1 : w1.cell? ⟨w.heap.size, 1, none⟩ = some (.int .i64 s) := hb_cell F1.out 1
  have f2 : w1.cell? ⟨w.heap.size, 2, none⟩ = some u := hb_cell F1.out 2
  go_enter Try.func32, Try.ntmps32
  go_wp2_with fail
  rw [← hw1.out]
  go_wp2_with fail
  refine (hQ.out _ hb1.out).mono ?_; rintro e w2 ⟨rfl, hb⟩
  have F2 := Lib.hid (hb_below hb (hb_lt F1.out) F1.out)
  replace hb := Lib.hid (bt1 hb1.out hb)
  have hSS : XO1 w.heap.size w2.heap.size p s u w2 w2 := ⟨⟨hb_cell F2.out 0, hb_cell F2.out 1, hb_cell F2.out 2⟩, hb_lt F2.out, Below.refl _ _⟩
  go_upto_region 3 with fail
  refine wp_region_held_drew (S := (fun v => XO1 w.heap.size w2.heap.size p s u w2 v)) (by kernel_rfl) ?_ (fun hHeld => ?_)
  · refine ⟨⟨?_, ?_, ?_⟩, ?_, ?_⟩ <;> first | exact hSS.1.1 | exact hSS.1.2.1 | exact hSS.1.2.2 | assumption | go_keep | omega | exact (Below.refl _ _).drew
  refine wpAnyH_take (i := 0) (oi := _) (v := ?_) rfl (by kernel_rfl) (by kernel_rfl) (by kernel_rfl) (fun _ _ _ h => h) (Or.inl ⟨by rfl, ?_⟩) (by assumption) ?_
  rotate_left
  · intro w hSw; (try dsimp only at hSw); obtain ⟨⟨q0, q1, q2⟩, -, -⟩ := hSw; go_simp; (try with_reducible rfl)
  (try simp only [Act.put, List.setIfInBounds_toArray, List.set_cons_zero, List.set_cons_succ])
  refine wpAnyH_take (i := 1) (oi := _) (v := ?_) rfl (by kernel_rfl) (by kernel_rfl) (by kernel_rfl) (fun _ _ _ h => h) (Or.inl ⟨by rfl, ?_⟩) (by assumption) ?_
  rotate_left
  · intro w hSw; (try dsimp only at hSw); obtain ⟨⟨q0, q1, q2⟩, -, -⟩ := hSw; go_simp; (try with_reducible rfl)
  (try simp only [Act.put, List.setIfInBounds_toArray, List.set_cons_zero, List.set_cons_succ])
  refine wpAnyH_ready (rs := [2]) (by kernel_rfl) (by simp) ?_
  refine AllReadyH.cons (o := _) rfl (fun K hK => ?_) AllReadyH.nil
  go_simp
  refine (hAt.out _).mono ?_; rintro e w5 ⟨rfl, hbm⟩
  refine hK.out _ _ (keepO hbm hHeld) (fun hHeld => ?_)
  clear hK
  (try simp only [Act.put, List.setIfInBounds_toArray, List.set_cons_zero, List.set_cons_succ])
  refine wpAnyH_ready (rs := [3]) (by kernel_rfl) (by simp) ?_
  refine AllReadyH.cons (o := _) rfl (fun K hK => ?_) AllReadyH.nil
  go_simp
  refine (hSe.out _ (bt1 hb.out (keepOB hHeld))).mono ?_; rintro e w6 ⟨b1, rfl, hm, -, hb11⟩
  obtain ⟨D, hD1, -, hD2⟩ := hsz.out _ _ hm
  have hlen := fun ty => hD1.len Try.underlying77 ty
  rw [hD2] at hlen
  clear hm hD1 hD2
  refine hK.out _ _ (keepO hb11 hHeld) (fun hHeld => ?_)
  clear hK
  (try simp only [Act.put, List.setIfInBounds_toArray, List.set_cons_zero, List.set_cons_succ])
  refine wpAnyH_ready (rs := [4]) (by kernel_rfl) (by simp) ?_
  refine AllReadyH.cons (o := _) rfl (fun K hK => ?_) AllReadyH.nil
  go_simp
  refine hK.out _ _ hHeld (fun hHeld => ?_)
  clear hK
  (try simp only [Act.put, List.setIfInBounds_toArray, List.set_cons_zero, List.set_cons_succ])
  refine wpAnyH_ready (rs := [5]) (by kernel_rfl) (by simp) ?_
  refine AllReadyH.cons (o := _) rfl (fun K hK => ?_) AllReadyH.nil
  go_simp
  refine hK.out _ _ hHeld (fun hHeld => ?_)
  clear hK
  (try simp only [Act.put, List.setIfInBounds_toArray, List.set_cons_zero, List.set_cons_succ])
  refine wpAnyH_ready (rs := [6]) (by kernel_rfl) (by simp) ?_
  refine AllReadyH.cons (o := _) rfl (fun K hK => ?_) AllReadyH.nil
  go_simp
  refine hK.out _ _ hHeld (fun hHeld => ?_)
  clear hK
  (try simp only [Act.put, List.setIfInBounds_toArray, List.set_cons_zero, List.set_cons_succ])
  refine wpAnyH_done (by kernel_rfl) ?_ _
  have hfin := keepOB hHeld
  go_wp2_with fail
  go_ret2; exact ⟨rfl, bt1 hb.out hfin⟩
theorem CountOpened_both (P S : Int) (rs : List ByteArray) (hz : ∀ s ∈ rs, s.size ≤ maxLen) : ∃ (r0 : Int) (r1 : Bool),
    (∀ w v, RdX w v P S rs → Calls Try.prog 31 #[v] w fun e w' => e = .returned (.tuple #[.int .i64 r0, .bool r1]) ∧ Below w.heap.size w w') ∧
    (∀ w v, RdX w v P S rs → Calls Try.prog 32 #[v] w fun e w' => e = .returned (.tuple #[.int .i64 r0, .bool r1]) ∧ Below w.heap.size w w') := by
  cases hA : goodX P S rs with
  | false => exact ⟨0, false, fun w v h => sCO_no v P S rs w hz hA h, fun w v h => iCO_no v P S rs w hz hA h⟩
  | true =>
    obtain ⟨p, s, rfl, rfl, hG, hsp⟩ := GX.of hA
    exact ⟨_, true, fun w v h => sCO_yes v p s rs w hz hA hG hsp h, fun w v h => iCO_yes v p s rs w hz hA hG hsp h⟩
end Go.Proofs.Ytjlecipeoaohiaa
