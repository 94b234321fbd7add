/- TurnsToOpen, both sides. -/
import Derived.Test.YtjlecipeoaohiaaYD
namespace Go.Proofs.Ytjlecipeoaohiaa
set_option linter.unusedSimpArgs false
set_option linter.unusedVariables false
open Go Go.RowKit RM Go.Maps Go.WideMaps Go.ChangeMaps
set_option maxRecDepth 100000 in
theorem sTO_no (v : Value) (P S : Int) (rs : List ByteArray) (w : World) (hz : ∀ s ∈ rs, s.size ≤ maxLen) (hA : goodX P S rs = false) (h : RdX w v P S rs) :
    Calls Try.prog 35 #[v] w fun e w' => e = .returned (.tuple #[.int .i64 0, .bool false]) ∧ Below w.heap.size w w' := by
  have hQ := Lib.hid (fun w' (hb : Below w.heap.size w w') => bxGood_any v P S rs w' hz (h.below hb))
  rw [hA] at hQ
  obtain ⟨u, rfl, -⟩ := h
  clear hA
  go_enter Try.func35, Try.ntmps35
  go_wp2_with fail
  refine (hQ.out _ (ba1 w _)).mono ?_; rintro e w' ⟨rfl, hb⟩
  go_wp2_with fail
  go_ret2; exact ⟨rfl, bt1 (ba1 w _) hb⟩
set_option maxRecDepth 100000 in
set_option maxHeartbeats 4000000 in
theorem sTO_yes (v : Value) (p s : Nat) (rs : List ByteArray) (w : World) (hz : ∀ s ∈ rs, s.size ≤ maxLen) (hg : goodX p s rs = true) (hG : GX p s rs) (hsp : s ^ p ≤ 1000) (h : RdX w v p s rs) :
    Calls Try.prog 35 #[v] w fun e w' => e = .returned (.tuple #[.int .i64 ((((fin 1 (nbX p s rs) (allX p s) (List.replicate p (s - 1))).far (List.replicate p 0)).getD 0 : Nat) : Int), .bool ((fin 1 (nbX p s rs) (allX p s) (List.replicate p (s - 1))).far (List.replicate p 0)).isSome]) ∧ Below w.heap.size w w' := by
  have hQ := Lib.hid (fun w' (hb : Below w.heap.size w w') => bxGood_any v p s rs w' hz (h.below hb))
  rw [hg] at hQ
  have h6 := hG.p6
  have h5 := hG.s5
  have h2 := hG.s2
  have hFe := Lib.hid (fun w' (hb : Below w.heap.size w w') => bxFewest_any v p s rs (List.replicate p (s - 1)) (List.replicate p 0) w' hG hsp (rep_ok (by omega)) (rep_ok (by omega)) (h.below hb))
  obtain ⟨u, rfl, -⟩ := h
  have hpw : 1 ≤ s ^ p := Nat.pow_pos (by omega)
  have hOf := Lib.hid (fun w => show Calls Try.prog 70 #[.agg #[.int .i64 p, .int .i64 s, u], .int .i64 0] w fun e w' => e = .returned (.string (tS (gX s p 0))) ∧ Below w.heap.size w w' from bxOf_any p s u 0 w h6 h2 h5 (by omega))
  have hOfN := Lib.hid (fun w => bxOf_any p s u (s ^ p - 1) w h6 h2 h5 (by omega))
  have hCnt := Lib.hid (fun w => bxCount_any p s w h6 h5)
  rw [gX_zero (by omega)] at hOf
  rw [gX_last (by omega)] at hOfN
  obtain ⟨o, ho⟩ : ∃ o, (fin 1 (nbX p s rs) (allX p s) (List.replicate p (s - 1))).far (List.replicate p 0) = o := ⟨_, rfl⟩
  rw [ho] at hFe ⊢
  generalize tS (List.replicate p 0) = t at *
  generalize tS (List.replicate p (s - 1)) = t2 at *
  have ew : IntKind.i64.wrap (((s ^ p : Nat) : Int) - 1) = ((s ^ p - 1 : Nat) : Int) := by rw [IntKind.wrap_i64]; omega
  obtain ⟨Y, hY⟩ : ∃ Y, s ^ p - 1 = Y := ⟨_, rfl⟩
  rw [hY] at hOfN ew
  generalize s ^ p = N at *
  clear ho hY hsp hpw
  clear hg hz
  obtain ⟨w1, hw1⟩ : ∃ w1, Hid (w1 = w.alloc (boxO p s u)) := ⟨_, Lib.hid rfl⟩
  have hb1 : Hid (Below w.heap.size w w1) := Lib.hid (by rw [hw1.out]; exact ba1 w _)
  have F1 := Lib.hid (show w1.heap[w.heap.size]? = some (boxO p s u) by rw [hw1.out]; exact hb_new _ _)
  have f0 : w1.cell? ⟨w.heap.size, 0, none⟩ = some (.int .i64 p) := hb_cell F1.out 0
  have f1 : w1.cell? ⟨w.heap.size, 1, none⟩ = some (.int .i64 s) := hb_cell F1.out 1
  have f2 : w1.cell? ⟨w.heap.size, 2, none⟩ = some u := hb_cell F1.out 2
  go_enter Try.func35, Try.ntmps35
  go_wp2_with fail
  rw [← hw1.out]
  go_wp2_with fail
  refine (hQ.out _ hb1.out).mono ?_; rintro e w2 ⟨rfl, hb⟩
  have F2 := Lib.hid (hb_below hb (hb_lt F1.out) F1.out)
  replace hb := Lib.hid (bt1 hb1.out hb)
  have hSS : XO1 w.heap.size w2.heap.size p s u w2 w2 := ⟨⟨hb_cell F2.out 0, hb_cell F2.out 1, hb_cell F2.out 2⟩, hb_lt F2.out, Below.refl _ _⟩
  go_upto_region 3 with fail
  go_region_held3 (fun v => XO1 w.heap.size w2.heap.size p s u w2 v) ((first | assumption | (refine ⟨⟨?_, ?_, ?_⟩, ?_, ?_⟩ <;> first | assumption | go_keep | omega | exact (Below.refl _ _).drew)))
    (first | (go_at_call 74; with_reducible refine (hCnt.out _).mono ?_; rintro e w' ⟨rfl, rfl⟩) | (go_at_call 70; with_reducible refine (hOf.out _).mono ?_; rintro e w' ⟨rfl, hb9⟩; have hbn := keepO hb9 (by assumption)) | (go_at_call 70; with_reducible refine (hOfN.out _).mono ?_; rintro e w' ⟨rfl, hb9⟩; have hbn := keepO hb9 (by assumption)) | (go_at_call 63; with_reducible refine (hFe.out _ (bt1 hb.out (keepOB (by assumption)))).mono ?_; rintro e w' ⟨rfl, hb11⟩; have hbn2 := keepO hb11 (by assumption)))
  all_goals
    have hfin := keepOB (by assumption)
    go_wp2_with fail
    go_ret2; exact ⟨rfl, bt1 hb.out hfin⟩
set_option maxRecDepth 100000 in
theorem iTO_no (v : Value) (P S : Int) (rs : List ByteArray) (w : World) (hz : ∀ s ∈ rs, s.size ≤ maxLen) (hA : goodX P S rs = false) (h : RdX w v P S rs) :
    Calls Try.prog 36 #[v] w fun e w' => e = .returned (.tuple #[.int .i64 0, .bool false]) ∧ Below w.heap.size w w' := by
  have hQ := Lib.hid (fun w' (hb : Below w.heap.size w w') => iIB_any v P S rs w' hz (h.below hb))
  rw [hA] at hQ
  obtain ⟨u, rfl, -⟩ := h
  clear hA
  go_enter Try.func36, Try.ntmps36
  go_wp2_with fail
  refine (hQ.out _ (ba1 w _)).mono ?_; rintro e w' ⟨rfl, hb⟩
  go_wp2_with fail
  go_ret2; exact ⟨rfl, bt1 (ba1 w _) hb⟩
set_option maxRecDepth 1000000 in
set_option maxHeartbeats 4000000 in
theorem iTO_yes (v : Value) (p s : Nat) (rs : List ByteArray) (w : World) (hz : ∀ s ∈ rs, s.size ≤ maxLen) (hg : goodX p s rs = true) (hG : GX p s rs) (hsp : s ^ p ≤ 1000) (h : RdX w v p s rs) :
    Calls Try.prog 36 #[v] w fun e w' => e = .returned (.tuple #[.int .i64 ((((fin 1 (nbX p s rs) (allX p s) (List.replicate p (s - 1))).far (List.replicate p 0)).getD 0 : Nat) : Int), .bool ((fin 1 (nbX p s rs) (allX p s) (List.replicate p (s - 1))).far (List.replicate p 0)).isSome]) ∧ Below w.heap.size w w' := by
  have hQ := Lib.hid (fun w' (hb : Below w.heap.size w w') => iIB_any v p s rs w' hz (h.below hb))
  rw [hg] at hQ
  have h6 := hG.p6
  have h2 := hG.s2
  have h5 := hG.s5
  have hd : stOk p s (List.replicate p 0) := rep_ok (by omega)
  have hd2 : stOk p s (List.replicate p (s - 1)) := rep_ok (by omega)
  have hSe := Lib.hid (fun w' (hb : Below w.heap.size w w') => searchT_any v p s rs (List.replicate p (s - 1)) 1 w' hG hsp hd2 (Nat.le_refl _) (h.below hb))
  obtain ⟨o, ho⟩ : ∃ o, (fin 1 (nbX p s rs) (allX p s) (List.replicate p (s - 1))).far (List.replicate p 0) = o := ⟨_, rfl⟩
  have hLk := Lib.hid (fun W b (hm : MM hG.ks b (fin 1 (nbX p s rs) (allX p s) (List.replicate p (s - 1))).far W) => show (Instr.lookup 77 (.map (some b)) (bsV (dF (List.replicate p 0))) true).run Try.prog W = .ok (.tuple #[.int .i64 ((o.getD 0 : Nat) : Int), .bool o.isSome]) W by
    obtain ⟨D, h1, h2⟩ := hm.ex
    rw [← ho]; exact mlkO (K := hG.ks) humX hd h1 h2)
  rw [ho]
  obtain ⟨u, rfl, -⟩ := h
  have hAt := Lib.hid (fun w => show Calls Try.prog 72 #[.agg #[.int .i64 p, .int .i64 s, u], .int .i64 0] w fun e w' => e = .returned (bsV (dF (List.replicate p 0))) ∧ Below w.heap.size w w' from allAt_any p s u 0 w h6)
  have hAtN := Lib.hid (fun w => allAt_any p s u (s - 1) w h6)
  have ew : IntKind.i64.wrap ((s : Int) - 1) = ((s - 1 : Nat) : Int) := by rw [IntKind.wrap_i64]; omega
  obtain ⟨f, hf⟩ : ∃ f, Hid (f = dF (List.replicate p 0)) := ⟨_, Lib.hid rfl⟩
  obtain ⟨g, hg8⟩ : ∃ f, Hid (f = dF (List.replicate p (s - 1))) := ⟨_, Lib.hid rfl⟩
  rw [← hf.out] at hAt hLk
  rw [← hg8.out] at hAtN hSe
  obtain ⟨Y, hY⟩ : ∃ Y, s - 1 = Y := ⟨_, rfl⟩
  replace hSe := hSe
  have ew2 : IntKind.i64.wrap ((s : Int) - 1) = (Y : Int) := by rw [ew, hY]
  have hAtN2 : Hid (∀ w, Calls Try.prog 72 #[.agg #[.int .i64 p, .int .i64 s, u], .int .i64 (Y : Int)] w fun e w' => e = .returned (bsV g) ∧ Below w.heap.size w w') := by rw [hY] at hAtN; exact hAtN
  replace hY := Lib.hid hY
  clear ho ew hAtN hg hz
  obtain ⟨w1, hw1⟩ : ∃ w1, Hid (w1 = w.alloc (boxO p s u)) := ⟨_, Lib.hid rfl⟩
  have hb1 : Hid (Below w.heap.size w w1) := Lib.hid (by rw [hw1.out]; exact ba1 w _)
  have F1 := Lib.hid (show w1.heap[w.heap.size]? = some (boxO p s u) by rw [hw1.out]; exact hb_new _ _)
  have f0 : w1.cell? ⟨w.heap.size, 0, none⟩ = some (.int .i64 p) := hb_cell F1.out 0
  have f1 : w1.cell? ⟨w.heap.size, 1, none⟩ = some (.int .i64 s) := hb_cell F1.out 1
  have f2 : w1.cell? ⟨w.heap.size, 2, none⟩ = some u := hb_cell F1.out 2
  go_enter Try.func36, Try.ntmps36
  go_wp2_with fail
  rw [← hw1.out]
  go_wp2_with fail
  refine (hQ.out _ hb1.out).mono ?_; rintro e w2 ⟨rfl, hb⟩
  have F2 := Lib.hid (hb_below hb (hb_lt F1.out) F1.out)
  replace hb := Lib.hid (bt1 hb1.out hb)
  have hSS : XO1 w.heap.size w2.heap.size p s u w2 w2 := ⟨⟨hb_cell F2.out 0, hb_cell F2.out 1, hb_cell F2.out 2⟩, hb_lt F2.out, Below.refl _ _⟩
  go_upto_region 3 with fail
  go_region_held3 (fun v => XO1 w.heap.size w2.heap.size p s u w2 v) ((first | assumption | (refine ⟨⟨?_, ?_, ?_⟩, ?_, ?_⟩ <;> first | assumption | go_keep | omega | exact (Below.refl _ _).drew)))
    (first | (go_at_call 72; with_reducible refine (hAt.out _).mono ?_; rintro e w' ⟨rfl, hb9⟩; have hbn := keepO hb9 (by assumption); (try (have hm := MM.below hm hb9; have hlk := hLk.out _ _ hm))) | (go_at_call 72; with_reducible refine (hAtN2.out _).mono ?_; rintro e w' ⟨rfl, hb9⟩; have hbn := keepO hb9 (by assumption)) | (go_at_call 65; with_reducible refine (hSe.out _ (bt1 hb.out (keepOB (by assumption)))).mono ?_; rintro e w' ⟨b1, rfl, hm, -, hb11⟩; have hlk := hLk.out _ _ hm; have hbn2 := keepO hb11 (by assumption)))
  all_goals
    have hfin := keepOB (by assumption)
    go_wp2_with fail
    go_ret2; exact ⟨rfl, bt1 hb.out hfin⟩
theorem TurnsToOpen_both (P S : Int) (rs : List ByteArray) (hz : ∀ s ∈ rs, s.size ≤ maxLen) : ∃ (r0 : Int) (r1 : Bool),
    (∀ w v, RdX w v P S rs → Calls Try.prog 35 #[v] w fun e w' => e = .returned (.tuple #[.int .i64 r0, .bool r1]) ∧ Below w.heap.size w w') ∧
    (∀ w v, RdX w v P S rs → Calls Try.prog 36 #[v] w fun e w' => e = .returned (.tuple #[.int .i64 r0, .bool r1]) ∧ Below w.heap.size w w') := by
  cases hA : goodX P S rs with
  | false => exact ⟨0, false, fun w v h => sTO_no v P S rs w hz hA h, fun w v h => iTO_no v P S rs w hz hA h⟩
  | true =>
    obtain ⟨p, s, rfl, rfl, hG, hsp⟩ := GX.of hA
    exact ⟨_, _, fun w v h => sTO_yes v p s rs w hz hA hG hsp h, fun w v h => iTO_yes v p s rs w hz hA hG hsp h⟩
end Go.Proofs.Ytjlecipeoaohiaa
