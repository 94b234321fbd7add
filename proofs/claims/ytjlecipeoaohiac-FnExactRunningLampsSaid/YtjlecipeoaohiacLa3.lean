/- CountingLamps and RunningLamps, both sides. -/
import Derived.Test.YtjlecipeoaohiacLa1
namespace Go.Proofs.Ytjlecipeoaohiac
set_option linter.unusedSimpArgs false
set_option linter.unusedVariables false
open Go Go.RowKit RM
/-- texts by their number -/
def rowsL (f : Nat → ByteArray) (k : Nat) : List ByteArray := (List.range k).map f
theorem rowsL_succ (f : Nat → ByteArray) (k : Nat) : rowsL f (k + 1) = rowsL f k ++ [f k] := by unfold rowsL; rw [List.range_succ, List.map_append]; rfl
theorem rowsL_len (f : Nat → ByteArray) (k : Nat) : (rowsL f k).length = k := by simp [rowsL]
def ctL (n k : Nat) : ByteArray := rp 49 k ++ rp 63 (n - k)
def rnL (n k : Nat) : ByteArray := if k = 0 then ⟨#[49]⟩ ++ rp 63 (n - 2) ++ ⟨#[48]⟩ else rp 63 (k - 1) ++ ⟨#[49, 48]⟩ ++ rp 63 (n - 1 - k)
theorem rnL_pos (n k : Nat) (h : k ≠ 0) : rnL n k = rp 63 (k - 1) ++ ⟨#[49, 48]⟩ ++ rp 63 (n - 1 - k) := by unfold rnL; rw [if_neg h]
theorem own_oneT (w : World) (t : ByteArray) : OwnT (w.alloc (.cells #[.string t] 9)) w.heap.size (.slice (some ⟨w.heap.size, 0, none⟩) 1 1) [t] :=
  ⟨rfl, .inr ⟨_, 1, #[.string t], rfl, Nat.le_refl _, hb_new _ _, Nat.le_refl _, by decide, rfl, rfl⟩⟩
theorem laCount_any (n : Int) (w : World) : Calls Try.prog 12 #[.int .i64 n] w fun e w' => e = .returned (.bool (decide (1 ≤ n) && decide (n ≤ 10))) ∧ w = w' := by
  by_cases h : 1 ≤ n ∧ n ≤ 10
  · have e : (decide (1 ≤ n) && decide (n ≤ 10)) = true := by simp; omega
    rw [e]
    go_enter Try.func12, Try.ntmps12
    go_wp2_with (go_at_call 19; refine (l1In_yes _ _ _ _ (by omega) (by omega)).mono ?_; rintro e w' ⟨rfl, rfl⟩)
    go_ret; exact ⟨rfl, rfl⟩
  · have e : (decide (1 ≤ n) && decide (n ≤ 10)) = false := by rw [← Bool.not_eq_true, Bool.and_eq_true, decide_eq_true_eq, decide_eq_true_eq]; exact h
    rw [e]
    go_enter Try.func12, Try.ntmps12
    go_wp2_with (go_at_call 19; refine (l1In_no _ _ _ _ (by omega)).mono ?_; rintro e w' ⟨rfl, rfl⟩)
    go_ret; exact ⟨rfl, rfl⟩
theorem isLC_any (n : Int) (w : World) : Calls Try.prog 14 #[.int .i64 n] w fun e w' => e = .returned (.bool (decide (1 ≤ n) && decide (n ≤ 10))) ∧ w = w' := by
  cases e1 : decide (1 ≤ n) <;> cases e2 : decide (n ≤ 10) <;>
  · have e3 : decide (n ≥ 1) = decide (1 ≤ n) := rfl
    rw [e1] at e3
    go_enter Try.func14, Try.ntmps14
    go_wp2_with fail
    go_ret; exact ⟨rfl, rfl⟩
theorem lamp_cases (n : Int) : (decide (1 ≤ n) && decide (n ≤ 10)) = false ∨ ∃ k : Nat, n = (k : Int) ∧ 1 ≤ k ∧ k ≤ 10 := by
  by_cases h : 1 ≤ n ∧ n ≤ 10
  · exact .inr ⟨n.toNat, by omega, by omega, by omega⟩
  · left; rw [← Bool.not_eq_true, Bool.and_eq_true, decide_eq_true_eq, decide_eq_true_eq]; exact h

theorem sCL_no (n : Int) (w : World) (h : (decide (1 ≤ n) && decide (n ≤ 10)) = false) : Calls Try.prog 5 #[.int .i64 n] w fun e w' => RetY w [] false e w' := by
  have hR := Lib.hid (fun w => laCount_any n w)
  rw [h] at hR
  go_enter Try.func5, Try.ntmps5
  go_wp2_with fail
  refine (hR.out _).mono ?_; rintro e w' ⟨rfl, rfl⟩
  go_wp2_with fail
  refine bodyPost_ret (v := .tuple #[.agg #[.slice none 0 0], .bool false]) ?_ rfl ⟨_, rfl, OwnT.nil _ _, ?_⟩
  · simp [results, Try.results5, go_sem]
  · exact ba1 w _
set_option maxRecDepth 100000 in
set_option maxHeartbeats 4000000 in
theorem sCL_yes (n : Nat) (w : World) (h1 : 1 ≤ n) (h2 : n ≤ 10) : Calls Try.prog 5 #[.int .i64 n] w fun e w' => RetY w (rowsL (ctL n) n) true e w' := by
  have hR := Lib.hid (fun w => laCount_any (n : Int) w)
  rw [show (decide ((1 : Int) ≤ (n : Int)) && decide ((n : Int) ≤ 10)) = true by simp; omega] at hR
  have hs := Lib.hid (rowsL_succ (ctL n))
  have hl := Lib.hid (rowsL_len (ctL n))
  have hp : Hid (∀ k, ctL n k = rp 49 k ++ rp 63 (n - k)) := Lib.hid (fun k => rfl)
  have h0 : Hid (rowsL (ctL n) 0 = []) := Lib.hid rfl
  generalize hbl : rowsL (ctL n) = L at *
  generalize ctL n = K at *
  clear hbl
  obtain ⟨w2, hw2⟩ : ∃ w2, Hid (w2 = (w.alloc (lampO (.slice none 0 0))).alloc (lampO (.slice none 0 0))) := ⟨_, Lib.hid rfl⟩
  have hb2 : Hid (Below w.heap.size w w2) := Lib.hid (by rw [hw2.out]; exact (ba1 w _).alloc (by simp) _)
  have R2 := Lib.hid (show w2.heap[w.heap.size]? = some (lampO (.slice none 0 0)) by rw [hw2.out]; exact hb_old _ (hb_new _ _))
  have O2 := Lib.hid (show w2.heap[w.heap.size + 1]? = some (lampO (.slice none 0 0)) by rw [hw2.out]; exact hb_new' _ _ _ (by simp))
  have y2 := Lib.hid (show w2.heap.size = w.heap.size + 2 by rw [hw2.out]; simp)
  go_enter Try.func5, Try.ntmps5
  go_wp2_with fail
  refine (hR.out _).mono ?_; rintro e w' ⟨rfl, rfl⟩
  go_wp2_with fail
  rw [← hw2.out]
  have hgR : w.heap.size < (w.heap.size + 1) := by omega
  have hgB : (w.heap.size + 1) < w2.heap.size := by rw [y2.out]; omega
  obtain ⟨LB, hLB⟩ : ∃ b, b = w.heap.size + 1 := ⟨_, rfl⟩
  have hLB1 : w.heap.size < LB := by omega
  have hLB2 : LB ≤ (w.heap.size + 1) := by omega
  go_loopw [5] (fun i wr => ∃ (k : Nat) (v : Value), k ≤ n ∧ i = .int .i64 k ∧ Hid (wr.heap[(w.heap.size + 1)]? = some (lampO v)) ∧ Hid (OwnT wr LB v (L k)) ∧ Hid (Below LB w2 wr)) (fun i _ => n - (intOf i).toNat)
  case atStart => exact ⟨0, .slice none 0 0, Nat.zero_le _, rfl, O2, Lib.hid (by rw [h0.out]; exact OwnT.nil _ _), Lib.hid (Below.refl _ _)⟩
  case round =>
    obtain ⟨k, v, hk, rfl, hO, ho, hb⟩ := hrel
    obtain ⟨wq, rfl⟩ : ∃ x, x = wr := ⟨_, rfl⟩
    have hOl := hb_lt hO.out
    have o0 : wq.cell? ⟨w.heap.size + 1, 0, none⟩ = some v := hb_cell hO.out 0
    obtain ⟨pv, cv, hv⟩ := ho.out.sl
    rw [hl.out] at hv
    subst hv
    by_cases hlt : k < n
    · have hS := Lib.hid (hs.out k)
      have e2 := Lib.hid (hp.out k)
      have hA := Lib.hid (fun w => riAllB_any 49 (k) w (by omega))
      have s1 : (rp 49 (k)).size ≤ 20 := by rw [rp_size]; omega
      have hB := Lib.hid (fun w => riAllB_any 63 (n - k) w (by omega))
      rw [show ((n - k : Nat) : Int) = (n : Int) - (k : Int) by omega] at hB
      have s2 : (rp 63 (n - k)).size ≤ 20 := by rw [rp_size]; omega
      generalize rp 49 (k) = t1 at *
      generalize rp 63 (n - k) = t2 at *
      obtain ⟨y, hy⟩ : ∃ y, Hid (y = t1 ++ t2) := ⟨_, Lib.hid rfl⟩
      have hx0 : ¬ 9223372036854775807 < t1.size + t2.size := by omega
      have hwk : IntKind.i64.wrap ((n : Int) - (k : Int)) = (n : Int) - (k : Int) := by rw [IntKind.wrap_i64]; omega
      have hlk := hl.out k
      have hbs := hb.out.size
      obtain ⟨g', c', w9, hr, ho9, hg9⟩ := app_runT (wq.alloc (.cells #[.string y] 9)).drew LB _ (L k) y wq.heap.size ((ho.out.alloc _).below (Below.refl _ _).drew) (hb_cell (hb_new wq _) 0) (by rw [hlk]; omega) (by simp; omega)
      rw [hlk] at hr ho9
      have hne := ho.out.ne_lamp hO.out
      have hO9 := Lib.hid (show w9.heap[(w.heap.size + 1)]? = some (lampO _) from (hg9.block (w.heap.size + 1) (by simp; omega) (fun e => hne e.symm)).trans (hb_old _ hO.out))
      have hs9 := Lib.hid hg9.size
      have hO9l := hb_lt hO9.out
      have q0 : w9.cell? ⟨w.heap.size + 1, 0, none⟩ = some _ := hb_cell hO9.out 0
      have qf := hb_frozen hO9.out
      have hb9 : Hid (Below LB w2 w9) := Lib.hid (((hb.out.alloc (by omega) _).drew).grown hg9 (by simp; omega) (fun j e => by have := (ho.out.lt _ e).1; omega))
      have hne9 := Lib.hid (ho9.ne_lamp hO9.out)
      replace ho9 := Lib.hid ho9
      replace hne := Lib.hid hne
      clear hg9
      rw [hy.out] at hr
      go_upto_region 7 with fail
      go_region_law (first | (refine step_call2 rfl 13 (.tmp 17) (.const (.string ⟨#[49]⟩)) _ (by with_reducible rfl) _ Try.func13 (by kernel_rfl) _ _ (by simp [Act.eval, Act.put]) (by simp [Act.eval, Act.put]) _ (hA.out _) ?_; rintro e w' ⟨rfl, rfl⟩; refine ⟨_, rfl, ?_⟩) | (refine step_call2 rfl 13 (.tmp 21) (.const (.string ⟨#[63]⟩)) _ (by with_reducible rfl) _ Try.func13 (by kernel_rfl) _ _ (by simp [Act.eval, Act.put]) (by simp [Act.eval, Act.put]) _ (hB.out _) ?_; rintro e w' ⟨rfl, rfl⟩; refine ⟨_, rfl, ?_⟩) | (refine step_appE hr rfl (.tmp 16) (.tmp 24) (by with_reducible rfl) (by with_reducible rfl) (by simp [Act.eval, Act.put]) (by simp [Act.eval, Act.put]) ?_))
      all_goals
        go_wp2_with fail
        refine ⟨⟨k + 1, _, by omega, by go_num, Lib.hid (hb_set hO9.out _), Lib.hid (by rw [hS.out, e2.out, ← hy.out]; exact ownsRow_setCell_other (a := ⟨w.heap.size + 1, 0, none⟩) ho9.out hne9.out _), Lib.hid (hb9.out.setCell hLB2 _)⟩, by simp [intOf]; omega⟩
    · obtain rfl : k = n := by omega
      have RR := Lib.hid (hb_below (g := w.heap.size) hb.out hLB1 R2.out)
      have r0 : wq.cell? ⟨w.heap.size, 0, none⟩ = some (.slice none 0 0) := hb_cell RR.out 0
      have zr := hb_frozen RR.out
      have hRl := hb_lt RR.out
      go_wp2_with fail
      refine bodyPost_ret (v := .tuple #[.agg #[.slice pv k cv], .bool true]) ?_ rfl ⟨_, rfl, ?_, ?_⟩
      · simp [results, Try.results5, go_sem, hRl, r0]
      · have kk : ∀ (W : World) (a : Addr) (u : Value), OwnT W LB (.slice pv k cv) (L k) → a.block < LB → OwnT (W.setCell a u) LB (.slice pv k cv) (L k) := fun W a u h ha => ownsRow_setCell_below h ha u
        refine OwnT.mono (B := LB) ?_ (by omega)
        repeat (first | (with_reducible exact ho.out) | (with_reducible refine kk _ _ _ ?_ ?_; rotate_left; (show w.heap.size < _; omega)))
      · have h0 := hb2.out.trans (hb.out.mono (by omega))
        repeat (first | (with_reducible exact h0) | (with_reducible refine Below.setCell ?_ ?_ _; rotate_left; (show w.heap.size ≤ w.heap.size; omega)))
theorem iCL_no (n : Int) (w : World) (h : (decide (1 ≤ n) && decide (n ≤ 10)) = false) : Calls Try.prog 6 #[.int .i64 n] w fun e w' => RetY w [] false e w' := by
  have hR := Lib.hid (fun w => isLC_any n w)
  rw [h] at hR
  go_enter Try.func6, Try.ntmps6
  go_wp2_with fail
  refine (hR.out _).mono ?_; rintro e w' ⟨rfl, rfl⟩
  go_wp2_with fail
  refine bodyPost_ret (v := .tuple #[.agg #[.slice none 0 0], .bool false]) ?_ rfl ⟨_, rfl, OwnT.nil _ _, ?_⟩
  · simp [results, Try.results6, go_sem]
  · exact ba1 w _
set_option maxRecDepth 100000 in
set_option maxHeartbeats 4000000 in
theorem iCL_yes (n : Nat) (w : World) (h1 : 1 ≤ n) (h2 : n ≤ 10) : Calls Try.prog 6 #[.int .i64 n] w fun e w' => RetY w (rowsL (ctL n) n) true e w' := by
  have hR := Lib.hid (fun w => isLC_any (n : Int) w)
  rw [show (decide ((1 : Int) ≤ (n : Int)) && decide ((n : Int) ≤ 10)) = true by simp; omega] at hR
  have hs := Lib.hid (rowsL_succ (ctL n))
  have hl := Lib.hid (rowsL_len (ctL n))
  have hp : Hid (∀ k, ctL n k = rp 49 k ++ rp 63 (n - k)) := Lib.hid (fun k => rfl)
  have h0 : Hid (rowsL (ctL n) 0 = []) := Lib.hid rfl
  generalize hbl : rowsL (ctL n) = L at *
  generalize ctL n = K at *
  clear hbl
  obtain ⟨w2, hw2⟩ : ∃ w2, Hid (w2 = (w.alloc (lampO (.slice none 0 0))).alloc (lampO (.slice none 0 0))) := ⟨_, Lib.hid rfl⟩
  have hb2 : Hid (Below w.heap.size w w2) := Lib.hid (by rw [hw2.out]; exact (ba1 w _).alloc (by simp) _)
  have R2 := Lib.hid (show w2.heap[w.heap.size]? = some (lampO (.slice none 0 0)) by rw [hw2.out]; exact hb_old _ (hb_new _ _))
  have O2 := Lib.hid (show w2.heap[w.heap.size + 1]? = some (lampO (.slice none 0 0)) by rw [hw2.out]; exact hb_new' _ _ _ (by simp))
  have y2 := Lib.hid (show w2.heap.size = w.heap.size + 2 by rw [hw2.out]; simp)
  go_enter Try.func6, Try.ntmps6
  go_wp2_with fail
  refine (hR.out _).mono ?_; rintro e w' ⟨rfl, rfl⟩
  go_wp2_with fail
  rw [← hw2.out]
  have hgR : w.heap.size < (w.heap.size + 1) := by omega
  have hgB : (w.heap.size + 1) < w2.heap.size := by rw [y2.out]; omega
  obtain ⟨LB, hLB⟩ : ∃ b, b = w.heap.size + 1 := ⟨_, rfl⟩
  have hLB1 : w.heap.size < LB := by omega
  have hLB2 : LB ≤ (w.heap.size + 1) := by omega
  go_loopw [11] (fun i wr => ∃ (k : Nat) (v : Value), k ≤ n ∧ i = .int .i64 k ∧ Hid (wr.heap[(w.heap.size + 1)]? = some (lampO v)) ∧ Hid (OwnT wr LB v (L k)) ∧ Hid (Below LB w2 wr)) (fun i _ => n - (intOf i).toNat)
  case atStart => exact ⟨0, .slice none 0 0, Nat.zero_le _, rfl, O2, Lib.hid (by rw [h0.out]; exact OwnT.nil _ _), Lib.hid (Below.refl _ _)⟩
  case round =>
    obtain ⟨k, v, hk, rfl, hO, ho, hb⟩ := hrel
    obtain ⟨wq, rfl⟩ : ∃ x, x = wr := ⟨_, rfl⟩
    have hOl := hb_lt hO.out
    have o0 : wq.cell? ⟨w.heap.size + 1, 0, none⟩ = some v := hb_cell hO.out 0
    obtain ⟨pv, cv, hv⟩ := ho.out.sl
    rw [hl.out] at hv
    subst hv
    by_cases hlt : k < n
    · have hS := Lib.hid (hs.out k)
      have e2 := Lib.hid (hp.out k)
      have hA := Lib.hid (fun w => srepB_any 49 (k) w (by omega))
      have s1 : (rp 49 (k)).size ≤ 20 := by rw [rp_size]; omega
      have hB := Lib.hid (fun w => srepB_any 63 (n - k) w (by omega))
      rw [show ((n - k : Nat) : Int) = (n : Int) - (k : Int) by omega] at hB
      have s2 : (rp 63 (n - k)).size ≤ 20 := by rw [rp_size]; omega
      generalize rp 49 (k) = t1 at *
      generalize rp 63 (n - k) = t2 at *
      obtain ⟨y, hy⟩ : ∃ y, Hid (y = t1 ++ t2) := ⟨_, Lib.hid rfl⟩
      have hx0 : ¬ 9223372036854775807 < t1.size + t2.size := by omega
      have hwk : IntKind.i64.wrap ((n : Int) - (k : Int)) = (n : Int) - (k : Int) := by rw [IntKind.wrap_i64]; omega
      have hlk := hl.out k
      have hbs := hb.out.size
      have hne := Lib.hid (ho.out.ne_lamp hO.out)
      have hAp := Lib.hid (fun wx (hbx : Below wq.heap.size wq wx) => show ∃ g' c' w9, (Builtin.append_ #[22, 22] 22 #[.slice pv k cv, .slice (some ⟨wx.heap.size, 0, none⟩) 1 1]).run Try.prog (wx.alloc (.cells #[.string (t1 ++ t2)] 9)) = .ok (.slice (some ⟨g', 0, none⟩) (k + 1) c') w9 ∧ (OwnT w9 LB (.slice (some ⟨g', 0, none⟩) (k + 1) c') (L (k + 1)) ∧ w9.heap[(w.heap.size + 1)]? = some (lampO (.slice pv k cv)) ∧ Below LB w2 w9) from by
        have how := ho.out.below hbx
        have hOx := hb_below hbx hOl hO.out
        have hsx := hbx.size
        obtain ⟨g', c', w9, hr, ho9, hg9⟩ := app_runT (wx.alloc (.cells #[.string y] 9)) LB _ (L k) y wx.heap.size (how.alloc _) (hb_cell (hb_new wx _) 0) (by rw [hlk]; omega) (by simp; omega)
        rw [hlk, hy.out] at hr
        rw [hlk] at ho9
        refine ⟨g', c', w9, hr, by rw [hS.out, e2.out, ← hy.out]; exact ho9, (hg9.block (w.heap.size + 1) (by simp; omega) (fun e => hne.out e.symm)).trans (hb_old _ hOx), ((bt2 hb.out hbx (by omega)).alloc (by omega) _).grown hg9 (by simp; omega) (fun j e => by have := (ho.out.lt _ e).1; omega)⟩)
      go_upto_region 7 with fail
      go_region_law (first | (have h7 := hB2; clear h7; obtain ⟨g', c', w9, hr, hfin⟩ := hAp.out _ hB2; refine step_appE hr rfl (.tmp 15) (.tmp 23) (by with_reducible rfl) (by with_reducible rfl) (by simp [Act.eval, Act.put]) (by simp [Act.eval, Act.put]) ?_; replace hfin := Lib.hid hfin; have hO9l := hb_lt hfin.out.2.1; have q9 : w9.cell? ⟨w.heap.size + 1, 0, none⟩ = some _ := hb_cell hfin.out.2.1 0; have qf := hb_frozen hfin.out.2.1) | (have h7 := hB1; clear h7; refine step_call2 rfl 15 (.const (.string ⟨#[49]⟩)) (.tmp 16) _ (by with_reducible rfl) _ Try.func15 (by kernel_rfl) _ _ (by simp [Act.eval, Act.put]) (by simp [Act.eval, Act.put]) _ (hA.out _) ?_; rintro e w4 ⟨rfl, hbc⟩; refine ⟨_, rfl, ?_⟩; have hB2 := bt1 hB1 hbc; have hlxw4 := Nat.lt_of_lt_of_le hOl (hB2).size; have qxw4 : w4.cell? ⟨w.heap.size + 1, 0, none⟩ = some _ := hb_cell (hb_below hB2 hOl hO.out) 0) | (have h7 := hB1; clear h7; refine step_call2 rfl 15 (.const (.string ⟨#[63]⟩)) (.tmp 20) _ (by with_reducible rfl) _ Try.func15 (by kernel_rfl) _ _ (by simp [Act.eval, Act.put]) (by simp [Act.eval, Act.put]) _ (hB.out _) ?_; rintro e w4 ⟨rfl, hbc⟩; refine ⟨_, rfl, ?_⟩; have hB2 := bt1 hB1 hbc; have hlxw4 := Nat.lt_of_lt_of_le hOl (hB2).size; have qxw4 : w4.cell? ⟨w.heap.size + 1, 0, none⟩ = some _ := hb_cell (hb_below hB2 hOl hO.out) 0) | (skip; refine step_call2 rfl 15 (.const (.string ⟨#[49]⟩)) (.tmp 16) _ (by with_reducible rfl) _ Try.func15 (by kernel_rfl) _ _ (by simp [Act.eval, Act.put]) (by simp [Act.eval, Act.put]) _ (hA.out _) ?_; rintro e w3 ⟨rfl, hbc⟩; refine ⟨_, rfl, ?_⟩; have hB1 := (show Below wq.heap.size wq w3 from (Below.refl _ _).drew.trans hbc); have hlxw3 := Nat.lt_of_lt_of_le hOl (hB1).size; have qxw3 : w3.cell? ⟨w.heap.size + 1, 0, none⟩ = some _ := hb_cell (hb_below hB1 hOl hO.out) 0) | (skip; refine step_call2 rfl 15 (.const (.string ⟨#[63]⟩)) (.tmp 20) _ (by with_reducible rfl) _ Try.func15 (by kernel_rfl) _ _ (by simp [Act.eval, Act.put]) (by simp [Act.eval, Act.put]) _ (hB.out _) ?_; rintro e w3 ⟨rfl, hbc⟩; refine ⟨_, rfl, ?_⟩; have hB1 := (show Below wq.heap.size wq w3 from (Below.refl _ _).drew.trans hbc); have hlxw3 := Nat.lt_of_lt_of_le hOl (hB1).size; have qxw3 : w3.cell? ⟨w.heap.size + 1, 0, none⟩ = some _ := hb_cell (hb_below hB1 hOl hO.out) 0))
      all_goals
        go_wp2_with fail
        refine ⟨⟨k + 1, _, by omega, by go_num, Lib.hid (hb_set hfin.out.2.1 _), Lib.hid (ownsRow_setCell_other (a := ⟨w.heap.size + 1, 0, none⟩) hfin.out.1 (hfin.out.1.ne_lamp hfin.out.2.1) _), Lib.hid (hfin.out.2.2.setCell hLB2 _)⟩, by simp [intOf]; omega⟩
    · obtain rfl : k = n := by omega
      have RR := Lib.hid (hb_below (g := w.heap.size) hb.out hLB1 R2.out)
      have r0 : wq.cell? ⟨w.heap.size, 0, none⟩ = some (.slice none 0 0) := hb_cell RR.out 0
      have zr := hb_frozen RR.out
      have hRl := hb_lt RR.out
      go_wp2_with fail
      refine bodyPost_ret (v := .tuple #[.agg #[.slice pv k cv], .bool true]) ?_ rfl ⟨_, rfl, ?_, ?_⟩
      · simp [results, Try.results6, go_sem, hRl, r0]
      · have kk : ∀ (W : World) (a : Addr) (u : Value), OwnT W LB (.slice pv k cv) (L k) → a.block < LB → OwnT (W.setCell a u) LB (.slice pv k cv) (L k) := fun W a u h ha => ownsRow_setCell_below h ha u
        refine OwnT.mono (B := LB) ?_ (by omega)
        repeat (first | (with_reducible exact ho.out) | (with_reducible refine kk _ _ _ ?_ ?_; rotate_left; (show w.heap.size < _; omega)))
      · have h0 := hb2.out.trans (hb.out.mono (by omega))
        repeat (first | (with_reducible exact h0) | (with_reducible refine Below.setCell ?_ ?_ _; rotate_left; (show w.heap.size ≤ w.heap.size; omega)))
set_option maxRecDepth 100000 in
set_option maxHeartbeats 4000000 in
theorem sRL_yes (n : Nat) (w : World) (h1 : 2 ≤ n) (h2 : n ≤ 10) : Calls Try.prog 10 #[.int .i64 n] w fun e w' => RetY w (rowsL (rnL n) n) true e w' := by
  have hR := Lib.hid (fun w => laCount_any (n : Int) w)
  rw [show (decide ((1 : Int) ≤ (n : Int)) && decide ((n : Int) ≤ 10)) = true by simp; omega] at hR
  have hs := Lib.hid (rowsL_succ (rnL n))
  have hl := Lib.hid (rowsL_len (rnL n))
  have hp := Lib.hid (rnL_pos n)
  have hone : Hid (rowsL (rnL n) 1 = [⟨#[49]⟩ ++ rp 63 (n - 2) ++ ⟨#[48]⟩]) := Lib.hid rfl
  have hA0 := Lib.hid (fun w => riAllB_any 63 (n - 2) w (by omega))
  rw [show ((n - 2 : Nat) : Int) = (n : Int) - 2 by omega] at hA0
  have s0 : (rp 63 (n - 2)).size ≤ 20 := by rw [rp_size]; omega
  obtain ⟨t0, ht0⟩ : ∃ t, t = rp 63 (n - 2) := ⟨_, rfl⟩
  rw [← ht0] at hA0 hone s0
  clear ht0
  have hg0 : ¬ 9223372036854775807 < 1 + t0.size := by omega
  have hg1 : ¬ 9223372036854775807 < 1 + t0.size + 1 := by omega
  have hwn : IntKind.i64.wrap ((n : Int) - 2) = (n : Int) - 2 := by rw [IntKind.wrap_i64]; omega
  have hsz9 : (⟨#[49]⟩ ++ t0 : ByteArray).size = 1 + t0.size := by rw [ByteArray.size_append]; rfl
  have hg2 : ¬ 9223372036854775807 < (⟨#[49]⟩ ++ t0 : ByteArray).size + 1 := by rw [hsz9]; omega
  generalize hbl : rowsL (rnL n) = L at *
  generalize rnL n = K at *
  clear hbl
  obtain ⟨w0, hw0⟩ : ∃ w0, Hid (w0 = w.alloc (lampO (.slice none 0 0))) := ⟨_, Lib.hid rfl⟩
  have hb0 : Hid (Below w.heap.size w w0) := Lib.hid (by rw [hw0.out]; exact ba1 w _)
  have R0 := Lib.hid (show w0.heap[w.heap.size]? = some (lampO (.slice none 0 0)) by rw [hw0.out]; exact hb_new _ _)
  have hlt2 : decide ((n : Int) < 2) = false := by simp; omega
  have hgt10 : decide ((n : Int) > 10) = false := by simp; omega
  go_enter Try.func10, Try.ntmps10
  go_wp2_with fail
  refine (hR.out _).mono ?_; rintro e w' ⟨rfl, rfl⟩
  go_wp2_with fail
  rw [← hw0.out]
  refine (hA0.out _).mono ?_; rintro e w1 ⟨rfl, hbq⟩
  subst hbq
  have hb1 := Lib.hid (Below.refl w0.heap.size w0)
  obtain ⟨w1, hw1⟩ : ∃ x, x = w0 := ⟨_, rfl⟩
  rw [← hw1]
  replace hb1 := Lib.hid (show Below w0.heap.size w0 w1 by rw [hw1]; exact hb1.out)
  clear hw1
  have R1 := Lib.hid (hb_below hb1.out (hb_lt R0.out) R0.out)
  obtain ⟨y0, hy0⟩ : ∃ y, Hid (y = ⟨#[49]⟩ ++ t0 ++ ⟨#[48]⟩) := ⟨_, Lib.hid rfl⟩
  obtain ⟨w2, hw2⟩ : ∃ w2, Hid (w2 = (w1.alloc (.cells #[.string y0] 9)).alloc (lampO (.slice (some ⟨w1.heap.size, 0, none⟩) 1 1))) := ⟨_, Lib.hid rfl⟩
  have hb12 := Lib.hid (show Below w1.heap.size w1 w2 by rw [hw2.out]; exact (ba1 w1 _).alloc (by simp) _)
  have hb2 : Hid (Below w.heap.size w w2) := Lib.hid (bt1 (bt1 hb0.out hb1.out) hb12.out)
  have R2 := Lib.hid (hb_below hb12.out (hb_lt R1.out) R1.out)
  have O2 := Lib.hid (show w2.heap[w1.heap.size + 1]? = some (lampO (.slice (some ⟨w1.heap.size, 0, none⟩) 1 1)) by rw [hw2.out]; exact hb_new' _ _ _ (by simp))
  have y2 := Lib.hid (show w2.heap.size = w1.heap.size + 2 by rw [hw2.out]; simp)
  have T2 := Lib.hid (show OwnT w2 w1.heap.size (.slice (some ⟨w1.heap.size, 0, none⟩) 1 1) (L 1) by
    rw [hw2.out, hone.out, ← hy0.out]
    exact OwnT.alloc (own_oneT w1 y0) _)
  have hR1 := hb_lt R1.out
  go_wp2_with fail
  rw [← hy0.out, ← hw2.out]
  have hgR : w.heap.size < (w1.heap.size + 1) := by omega
  have hgB : (w1.heap.size + 1) < w2.heap.size := by rw [y2.out]; omega
  obtain ⟨LB, hLB⟩ : ∃ b, b = w1.heap.size := ⟨_, rfl⟩
  have hLB1 : w.heap.size < LB := by have := hR1; omega
  have hLB2 : LB ≤ (w1.heap.size + 1) := by omega
  go_loopw [5] (fun i wr => ∃ (k : Nat) (v : Value), 1 ≤ k ∧ k ≤ n ∧ i = .int .i64 k ∧ Hid (wr.heap[(w1.heap.size + 1)]? = some (lampO v)) ∧ Hid (OwnT wr LB v (L k)) ∧ Hid (Below LB w2 wr)) (fun i _ => n - (intOf i).toNat)
  case atStart => exact ⟨1, _, Nat.le_refl _, by omega, rfl, O2, Lib.hid (by rw [hLB]; exact T2.out), Lib.hid (Below.refl _ _)⟩
  case round =>
    obtain ⟨k, v, hk1, hk, rfl, hO, ho, hb⟩ := hrel
    obtain ⟨wq, rfl⟩ : ∃ x, x = wr := ⟨_, rfl⟩
    have hOl := hb_lt hO.out
    have o0 : wq.cell? ⟨w1.heap.size + 1, 0, none⟩ = some v := hb_cell hO.out 0
    obtain ⟨pv, cv, hv⟩ := ho.out.sl
    rw [hl.out] at hv
    subst hv
    by_cases hlt : k < n
    · have hS := Lib.hid (hs.out k)
      have e2 := Lib.hid (hp.out k (by omega))
      have hA := Lib.hid (fun w => riAllB_any 63 (k - 1) w (by omega))
      rw [show ((k - 1 : Nat) : Int) = (k : Int) - 1 by omega] at hA
      have s1 : (rp 63 (k - 1)).size ≤ 20 := by rw [rp_size]; omega
      have hB := Lib.hid (fun w => riAllB_any 63 (n - 1 - k) w (by omega))
      rw [show ((n - 1 - k : Nat) : Int) = (n : Int) - 1 - (k : Int) by omega] at hB
      have s2 : (rp 63 (n - 1 - k)).size ≤ 20 := by rw [rp_size]; omega
      generalize rp 63 (k - 1) = t1 at *
      generalize rp 63 (n - 1 - k) = t2 at *
      obtain ⟨y, hy⟩ : ∃ y, Hid (y = t1 ++ ⟨#[49, 48]⟩ ++ t2) := ⟨_, Lib.hid rfl⟩
      have hx0 : ¬ 9223372036854775807 < t1.size + t2.size := by omega
      have hx1 : ¬ 9223372036854775807 < t1.size + 2 := by omega
      have hx3 : ¬ 9223372036854775807 < t1.size + 2 + t2.size := by omega
      have hx2 : ¬ 9223372036854775807 < (t1 ++ ⟨#[49, 48]⟩ : ByteArray).size + t2.size := by rw [ByteArray.size_append]; exact hx3
      have hwa : IntKind.i64.wrap ((k : Int) - 1) = (k : Int) - 1 := by rw [IntKind.wrap_i64]; omega
      have hwb : IntKind.i64.wrap ((n : Int) - 1) = (n : Int) - 1 := by rw [IntKind.wrap_i64]; omega
      have hwc : IntKind.i64.wrap ((n : Int) - 1 - (k : Int)) = (n : Int) - 1 - (k : Int) := by rw [IntKind.wrap_i64]; omega
      have hlk := hl.out k
      have hbs := hb.out.size
      obtain ⟨g', c', w9, hr, ho9, hg9⟩ := app_runT (wq.alloc (.cells #[.string y] 9)).drew LB _ (L k) y wq.heap.size ((ho.out.alloc _).below (Below.refl _ _).drew) (hb_cell (hb_new wq _) 0) (by rw [hlk]; omega) (by simp; omega)
      rw [hlk] at hr ho9
      have hne := ho.out.ne_lamp hO.out
      have hO9 := Lib.hid (show w9.heap[(w1.heap.size + 1)]? = some (lampO _) from (hg9.block (w1.heap.size + 1) (by simp; omega) (fun e => hne e.symm)).trans (hb_old _ hO.out))
      have hs9 := Lib.hid hg9.size
      have hO9l := hb_lt hO9.out
      have q0 : w9.cell? ⟨w1.heap.size + 1, 0, none⟩ = some _ := hb_cell hO9.out 0
      have qf := hb_frozen hO9.out
      have hb9 : Hid (Below LB w2 w9) := Lib.hid (((hb.out.alloc (by omega) _).drew).grown hg9 (by simp; omega) (fun j e => by have := (ho.out.lt _ e).1; omega))
      have hne9 := Lib.hid (ho9.ne_lamp hO9.out)
      replace ho9 := Lib.hid ho9
      replace hne := Lib.hid hne
      clear hg9
      rw [hy.out] at hr
      go_upto_region 7 with fail
      go_region_law (first | (refine step_call2 rfl 13 (.tmp 29) (.const (.string ⟨#[63]⟩)) _ (by with_reducible rfl) _ Try.func13 (by kernel_rfl) _ _ (by simp [Act.eval, Act.put]) (by simp [Act.eval, Act.put]) _ (hA.out _) ?_; rintro e w' ⟨rfl, rfl⟩; refine ⟨_, rfl, ?_⟩) | (refine step_call2 rfl 13 (.tmp 35) (.const (.string ⟨#[63]⟩)) _ (by with_reducible rfl) _ Try.func13 (by kernel_rfl) _ _ (by simp [Act.eval, Act.put]) (by simp [Act.eval, Act.put]) _ (hB.out _) ?_; rintro e w' ⟨rfl, rfl⟩; refine ⟨_, rfl, ?_⟩) | (refine step_appE hr rfl (.tmp 27) (.tmp 38) (by with_reducible rfl) (by with_reducible rfl) (by simp [Act.eval, Act.put]) (by simp [Act.eval, Act.put]) ?_))
      all_goals
        go_wp2_with fail
        refine ⟨⟨k + 1, _, by omega, by omega, by go_num, Lib.hid (hb_set hO9.out _), Lib.hid (by rw [hS.out, e2.out, ← hy.out]; exact ownsRow_setCell_other (a := ⟨w1.heap.size + 1, 0, none⟩) ho9.out hne9.out _), Lib.hid (hb9.out.setCell hLB2 _)⟩, by simp [intOf]; omega⟩
    · obtain rfl : k = n := by omega
      have RR := Lib.hid (hb_below (g := w.heap.size) hb.out hLB1 R2.out)
      have r0 : wq.cell? ⟨w.heap.size, 0, none⟩ = some (.slice none 0 0) := hb_cell RR.out 0
      have zr := hb_frozen RR.out
      have hRl := hb_lt RR.out
      go_wp2_with fail
      refine bodyPost_ret (v := .tuple #[.agg #[.slice pv k cv], .bool true]) ?_ rfl ⟨_, rfl, ?_, ?_⟩
      · simp [results, Try.results10, go_sem, hRl, r0]
      · have kk : ∀ (W : World) (a : Addr) (u : Value), OwnT W LB (.slice pv k cv) (L k) → a.block < LB → OwnT (W.setCell a u) LB (.slice pv k cv) (L k) := fun W a u h ha => ownsRow_setCell_below h ha u
        refine OwnT.mono (B := LB) ?_ (by omega)
        repeat (first | (with_reducible exact ho.out) | (with_reducible refine kk _ _ _ ?_ ?_; rotate_left; (show w.heap.size < _; omega)))
      · have h0 := hb2.out.trans (hb.out.mono (by omega))
        repeat (first | (with_reducible exact h0) | (with_reducible refine Below.setCell ?_ ?_ _; rotate_left; (show w.heap.size ≤ w.heap.size; omega)))
set_option maxRecDepth 100000 in
set_option maxHeartbeats 4000000 in
theorem iRL_yes (n : Nat) (w : World) (h1 : 2 ≤ n) (h2 : n ≤ 10) : Calls Try.prog 11 #[.int .i64 n] w fun e w' => RetY w (rowsL (rnL n) n) true e w' := by
  have hs := Lib.hid (rowsL_succ (rnL n))
  have hl := Lib.hid (rowsL_len (rnL n))
  have hp := Lib.hid (rnL_pos n)
  have hone : Hid (rowsL (rnL n) 1 = [⟨#[49]⟩ ++ rp 63 (n - 2) ++ ⟨#[48]⟩]) := Lib.hid rfl
  have hA0 := Lib.hid (fun w => srepB_any 63 (n - 2) w (by omega))
  rw [show ((n - 2 : Nat) : Int) = (n : Int) - 2 by omega] at hA0
  have s0 : (rp 63 (n - 2)).size ≤ 20 := by rw [rp_size]; omega
  obtain ⟨t0, ht0⟩ : ∃ t, t = rp 63 (n - 2) := ⟨_, rfl⟩
  rw [← ht0] at hA0 hone s0
  clear ht0
  have hg0 : ¬ 9223372036854775807 < 1 + t0.size := by omega
  have hg1 : ¬ 9223372036854775807 < 1 + t0.size + 1 := by omega
  have hwn : IntKind.i64.wrap ((n : Int) - 2) = (n : Int) - 2 := by rw [IntKind.wrap_i64]; omega
  have hsz9 : (⟨#[49]⟩ ++ t0 : ByteArray).size = 1 + t0.size := by rw [ByteArray.size_append]; rfl
  have hg2 : ¬ 9223372036854775807 < (⟨#[49]⟩ ++ t0 : ByteArray).size + 1 := by rw [hsz9]; omega
  generalize hbl : rowsL (rnL n) = L at *
  generalize rnL n = K at *
  clear hbl
  obtain ⟨w0, hw0⟩ : ∃ w0, Hid (w0 = w.alloc (lampO (.slice none 0 0))) := ⟨_, Lib.hid rfl⟩
  have hb0 : Hid (Below w.heap.size w w0) := Lib.hid (by rw [hw0.out]; exact ba1 w _)
  have R0 := Lib.hid (show w0.heap[w.heap.size]? = some (lampO (.slice none 0 0)) by rw [hw0.out]; exact hb_new _ _)
  have hlt2 : decide ((n : Int) < 2) = false := by simp; omega
  have hgt10 : decide ((n : Int) > 10) = false := by simp; omega
  go_enter Try.func11, Try.ntmps11
  go_wp2_with fail
  rw [← hw0.out]
  refine (hA0.out _).mono ?_; rintro e w1 ⟨rfl, hbq⟩
  have hb1 := Lib.hid hbq
  clear hbq
  have R1 := Lib.hid (hb_below hb1.out (hb_lt R0.out) R0.out)
  obtain ⟨y0, hy0⟩ : ∃ y, Hid (y = ⟨#[49]⟩ ++ t0 ++ ⟨#[48]⟩) := ⟨_, Lib.hid rfl⟩
  obtain ⟨w2, hw2⟩ : ∃ w2, Hid (w2 = (w1.alloc (.cells #[.string y0] 9)).alloc (lampO (.slice (some ⟨w1.heap.size, 0, none⟩) 1 1))) := ⟨_, Lib.hid rfl⟩
  have hb12 := Lib.hid (show Below w1.heap.size w1 w2 by rw [hw2.out]; exact (ba1 w1 _).alloc (by simp) _)
  have hb2 : Hid (Below w.heap.size w w2) := Lib.hid (bt1 (bt1 hb0.out hb1.out) hb12.out)
  have R2 := Lib.hid (hb_below hb12.out (hb_lt R1.out) R1.out)
  have O2 := Lib.hid (show w2.heap[w1.heap.size + 1]? = some (lampO (.slice (some ⟨w1.heap.size, 0, none⟩) 1 1)) by rw [hw2.out]; exact hb_new' _ _ _ (by simp))
  have y2 := Lib.hid (show w2.heap.size = w1.heap.size + 2 by rw [hw2.out]; simp)
  have T2 := Lib.hid (show OwnT w2 w1.heap.size (.slice (some ⟨w1.heap.size, 0, none⟩) 1 1) (L 1) by
    rw [hw2.out, hone.out, ← hy0.out]
    exact OwnT.alloc (own_oneT w1 y0) _)
  have hR1 := hb_lt R1.out
  go_wp2_with fail
  rw [← hy0.out, ← hw2.out]
  have hgR : w.heap.size < (w1.heap.size + 1) := by omega
  have hgB : (w1.heap.size + 1) < w2.heap.size := by rw [y2.out]; omega
  obtain ⟨LB, hLB⟩ : ∃ b, b = w1.heap.size := ⟨_, rfl⟩
  have hLB1 : w.heap.size < LB := by have := hR1; omega
  have hLB2 : LB ≤ (w1.heap.size + 1) := by omega
  go_loopw [5] (fun i wr => ∃ (k : Nat) (v : Value), 1 ≤ k ∧ k ≤ n ∧ i = .int .i64 k ∧ Hid (wr.heap[(w1.heap.size + 1)]? = some (lampO v)) ∧ Hid (OwnT wr LB v (L k)) ∧ Hid (Below LB w2 wr)) (fun i _ => n - (intOf i).toNat)
  case atStart => exact ⟨1, _, Nat.le_refl _, by omega, rfl, O2, Lib.hid (by rw [hLB]; exact T2.out), Lib.hid (Below.refl _ _)⟩
  case round =>
    obtain ⟨k, v, hk1, hk, rfl, hO, ho, hb⟩ := hrel
    obtain ⟨wq, rfl⟩ : ∃ x, x = wr := ⟨_, rfl⟩
    have hOl := hb_lt hO.out
    have o0 : wq.cell? ⟨w1.heap.size + 1, 0, none⟩ = some v := hb_cell hO.out 0
    obtain ⟨pv, cv, hv⟩ := ho.out.sl
    rw [hl.out] at hv
    subst hv
    by_cases hlt : k < n
    · have hS := Lib.hid (hs.out k)
      have e2 := Lib.hid (hp.out k (by omega))
      have hA := Lib.hid (fun w => srepB_any 63 (k - 1) w (by omega))
      rw [show ((k - 1 : Nat) : Int) = (k : Int) - 1 by omega] at hA
      have s1 : (rp 63 (k - 1)).size ≤ 20 := by rw [rp_size]; omega
      have hB := Lib.hid (fun w => srepB_any 63 (n - 1 - k) w (by omega))
      rw [show ((n - 1 - k : Nat) : Int) = (n : Int) - 1 - (k : Int) by omega] at hB
      have s2 : (rp 63 (n - 1 - k)).size ≤ 20 := by rw [rp_size]; omega
      generalize rp 63 (k - 1) = t1 at *
      generalize rp 63 (n - 1 - k) = t2 at *
      obtain ⟨y, hy⟩ : ∃ y, Hid (y = t1 ++ ⟨#[49, 48]⟩ ++ t2) := ⟨_, Lib.hid rfl⟩
      have hx0 : ¬ 9223372036854775807 < t1.size + t2.size := by omega
      have hx1 : ¬ 9223372036854775807 < t1.size + 2 := by omega
      have hx3 : ¬ 9223372036854775807 < t1.size + 2 + t2.size := by omega
      have hx2 : ¬ 9223372036854775807 < (t1 ++ ⟨#[49, 48]⟩ : ByteArray).size + t2.size := by rw [ByteArray.size_append]; exact hx3
      have hwa : IntKind.i64.wrap ((k : Int) - 1) = (k : Int) - 1 := by rw [IntKind.wrap_i64]; omega
      have hwb : IntKind.i64.wrap ((n : Int) - 1) = (n : Int) - 1 := by rw [IntKind.wrap_i64]; omega
      have hwc : IntKind.i64.wrap ((n : Int) - 1 - (k : Int)) = (n : Int) - 1 - (k : Int) := by rw [IntKind.wrap_i64]; omega
      have hlk := hl.out k
      have hbs := hb.out.size
      have hne := Lib.hid (ho.out.ne_lamp hO.out)
      have hAp := Lib.hid (fun wx (hbx : Below wq.heap.size wq wx) => show ∃ g' c' w9, (Builtin.append_ #[22, 22] 22 #[.slice pv k cv, .slice (some ⟨wx.heap.size, 0, none⟩) 1 1]).run Try.prog (wx.alloc (.cells #[.string (t1 ++ ⟨#[49, 48]⟩ ++ t2)] 9)) = .ok (.slice (some ⟨g', 0, none⟩) (k + 1) c') w9 ∧ (OwnT w9 LB (.slice (some ⟨g', 0, none⟩) (k + 1) c') (L (k + 1)) ∧ w9.heap[(w1.heap.size + 1)]? = some (lampO (.slice pv k cv)) ∧ Below LB w2 w9) from by
        have how := ho.out.below hbx
        have hOx := hb_below hbx hOl hO.out
        have hsx := hbx.size
        obtain ⟨g', c', w9, hr, ho9, hg9⟩ := app_runT (wx.alloc (.cells #[.string y] 9)) LB _ (L k) y wx.heap.size (how.alloc _) (hb_cell (hb_new wx _) 0) (by rw [hlk]; omega) (by simp; omega)
        rw [hlk, hy.out] at hr
        rw [hlk] at ho9
        refine ⟨g', c', w9, hr, by rw [hS.out, e2.out, ← hy.out]; exact ho9, (hg9.block (w1.heap.size + 1) (by simp; omega) (fun e => hne.out e.symm)).trans (hb_old _ hOx), ((bt2 hb.out hbx (by omega)).alloc (by omega) _).grown hg9 (by simp; omega) (fun j e => by have := (ho.out.lt _ e).1; omega)⟩)
      go_upto_region 7 with fail
      go_region_law (first | (have h7 := hB2; clear h7; obtain ⟨g', c', w9, hr, hfin⟩ := hAp.out _ hB2; refine step_appE hr rfl (.tmp 26) (.tmp 37) (by with_reducible rfl) (by with_reducible rfl) (by simp [Act.eval, Act.put]) (by simp [Act.eval, Act.put]) ?_; replace hfin := Lib.hid hfin; have hO9l := hb_lt hfin.out.2.1; have q9 : w9.cell? ⟨w1.heap.size + 1, 0, none⟩ = some _ := hb_cell hfin.out.2.1 0; have qf := hb_frozen hfin.out.2.1) | (have h7 := hB1; clear h7; refine step_call2 rfl 15 (.const (.string ⟨#[63]⟩)) (.tmp 28) _ (by with_reducible rfl) _ Try.func15 (by kernel_rfl) _ _ (by simp [Act.eval, Act.put]) (by simp [Act.eval, Act.put]) _ (hA.out _) ?_; rintro e w4 ⟨rfl, hbc⟩; refine ⟨_, rfl, ?_⟩; have hB2 := bt1 hB1 hbc; have hlxw4 := Nat.lt_of_lt_of_le hOl (hB2).size; have qxw4 : w4.cell? ⟨w1.heap.size + 1, 0, none⟩ = some _ := hb_cell (hb_below hB2 hOl hO.out) 0) | (have h7 := hB1; clear h7; refine step_call2 rfl 15 (.const (.string ⟨#[63]⟩)) (.tmp 34) _ (by with_reducible rfl) _ Try.func15 (by kernel_rfl) _ _ (by simp [Act.eval, Act.put]) (by simp [Act.eval, Act.put]) _ (hB.out _) ?_; rintro e w4 ⟨rfl, hbc⟩; refine ⟨_, rfl, ?_⟩; have hB2 := bt1 hB1 hbc; have hlxw4 := Nat.lt_of_lt_of_le hOl (hB2).size; have qxw4 : w4.cell? ⟨w1.heap.size + 1, 0, none⟩ = some _ := hb_cell (hb_below hB2 hOl hO.out) 0) | (skip; refine step_call2 rfl 15 (.const (.string ⟨#[63]⟩)) (.tmp 28) _ (by with_reducible rfl) _ Try.func15 (by kernel_rfl) _ _ (by simp [Act.eval, Act.put]) (by simp [Act.eval, Act.put]) _ (hA.out _) ?_; rintro e w3 ⟨rfl, hbc⟩; refine ⟨_, rfl, ?_⟩; have hB1 := (show Below wq.heap.size wq w3 from (Below.refl _ _).drew.trans hbc); have hlxw3 := Nat.lt_of_lt_of_le hOl (hB1).size; have qxw3 : w3.cell? ⟨w1.heap.size + 1, 0, none⟩ = some _ := hb_cell (hb_below hB1 hOl hO.out) 0) | (skip; refine step_call2 rfl 15 (.const (.string ⟨#[63]⟩)) (.tmp 34) _ (by with_reducible rfl) _ Try.func15 (by kernel_rfl) _ _ (by simp [Act.eval, Act.put]) (by simp [Act.eval, Act.put]) _ (hB.out _) ?_; rintro e w3 ⟨rfl, hbc⟩; refine ⟨_, rfl, ?_⟩; have hB1 := (show Below wq.heap.size wq w3 from (Below.refl _ _).drew.trans hbc); have hlxw3 := Nat.lt_of_lt_of_le hOl (hB1).size; have qxw3 : w3.cell? ⟨w1.heap.size + 1, 0, none⟩ = some _ := hb_cell (hb_below hB1 hOl hO.out) 0))
      all_goals
        go_wp2_with fail
        refine ⟨⟨k + 1, _, by omega, by omega, by go_num, Lib.hid (hb_set hfin.out.2.1 _), Lib.hid (ownsRow_setCell_other (a := ⟨w1.heap.size + 1, 0, none⟩) hfin.out.1 (hfin.out.1.ne_lamp hfin.out.2.1) _), Lib.hid (hfin.out.2.2.setCell hLB2 _)⟩, by simp [intOf]; omega⟩
    · obtain rfl : k = n := by omega
      have RR := Lib.hid (hb_below (g := w.heap.size) hb.out hLB1 R2.out)
      have r0 : wq.cell? ⟨w.heap.size, 0, none⟩ = some (.slice none 0 0) := hb_cell RR.out 0
      have zr := hb_frozen RR.out
      have hRl := hb_lt RR.out
      go_wp2_with fail
      refine bodyPost_ret (v := .tuple #[.agg #[.slice pv k cv], .bool true]) ?_ rfl ⟨_, rfl, ?_, ?_⟩
      · simp [results, Try.results11, go_sem, hRl, r0]
      · have kk : ∀ (W : World) (a : Addr) (u : Value), OwnT W LB (.slice pv k cv) (L k) → a.block < LB → OwnT (W.setCell a u) LB (.slice pv k cv) (L k) := fun W a u h ha => ownsRow_setCell_below h ha u
        refine OwnT.mono (B := LB) ?_ (by omega)
        repeat (first | (with_reducible exact ho.out) | (with_reducible refine kk _ _ _ ?_ ?_; rotate_left; (show w.heap.size < _; omega)))
      · have h0 := hb2.out.trans (hb.out.mono (by omega))
        repeat (first | (with_reducible exact h0) | (with_reducible refine Below.setCell ?_ ?_ _; rotate_left; (show w.heap.size ≤ w.heap.size; omega)))
theorem sRL_no (n : Int) (w : World) (h : (decide (1 ≤ n) && decide (n ≤ 10)) = false) : Calls Try.prog 10 #[.int .i64 n] w fun e w' => RetY w [] false e w' := by
  have hR := Lib.hid (fun w => laCount_any n w)
  rw [h] at hR
  go_enter Try.func10, Try.ntmps10
  go_wp2_with fail
  refine (hR.out _).mono ?_; rintro e w' ⟨rfl, rfl⟩
  go_wp2_with fail
  refine bodyPost_ret (v := .tuple #[.agg #[.slice none 0 0], .bool false]) ?_ rfl ⟨_, rfl, OwnT.nil _ _, ?_⟩
  · simp [results, Try.results10, go_sem]
  · exact ba1 w _
theorem sRL_one (w : World) : Calls Try.prog 10 #[.int .i64 1] w fun e w' => RetY w [] false e w' := by
  have hR := Lib.hid (fun w => laCount_any 1 w)
  rw [show (decide ((1 : Int) ≤ 1) && decide ((1 : Int) ≤ 10)) = true from rfl] at hR
  go_enter Try.func10, Try.ntmps10
  go_wp2_with fail
  refine (hR.out _).mono ?_; rintro e w' ⟨rfl, rfl⟩
  go_wp2_with fail
  refine bodyPost_ret (v := .tuple #[.agg #[.slice none 0 0], .bool false]) ?_ rfl ⟨_, rfl, OwnT.nil _ _, ?_⟩
  · simp [results, Try.results10, go_sem]
  · exact ba1 w _
theorem iRL_no (n : Int) (w : World) (h : n < 2 ∨ 10 < n) : Calls Try.prog 11 #[.int .i64 n] w fun e w' => RetY w [] false e w' := by
  cases e1 : decide (n < 2) with
  | true =>
    go_enter Try.func11, Try.ntmps11
    go_wp2_with fail
    refine bodyPost_ret (v := .tuple #[.agg #[.slice none 0 0], .bool false]) ?_ rfl ⟨_, rfl, OwnT.nil _ _, ?_⟩
    · simp [results, Try.results11, go_sem]
    · exact ba1 w _
  | false =>
    have e2 : decide (n > 10) = true := by simp at e1 ⊢; omega
    go_enter Try.func11, Try.ntmps11
    go_wp2_with fail
    refine bodyPost_ret (v := .tuple #[.agg #[.slice none 0 0], .bool false]) ?_ rfl ⟨_, rfl, OwnT.nil _ _, ?_⟩
    · simp [results, Try.results11, go_sem]
    · exact ba1 w _
theorem CountingLamps_both (n : Int) (_ : (Lit.int .i64 n).wf = true) : ∃ (r : List ByteArray) (ok : Bool), r.length ≤ 2000000 ∧
    (∀ w, Calls Try.prog 5 #[.int .i64 n] w fun e w' => RetY w r ok e w') ∧
    (∀ w, Calls Try.prog 6 #[.int .i64 n] w fun e w' => RetY w r ok e w') := by
  rcases lamp_cases n with h | ⟨k, rfl, h1, h2⟩
  · exact ⟨[], false, by simp, fun w => sCL_no n w h, fun w => iCL_no n w h⟩
  · exact ⟨_, true, by rw [rowsL_len]; omega, fun w => sCL_yes k w h1 h2, fun w => iCL_yes k w h1 h2⟩
theorem RunningLamps_both (n : Int) (_ : (Lit.int .i64 n).wf = true) : ∃ (r : List ByteArray) (ok : Bool), r.length ≤ 2000000 ∧
    (∀ w, Calls Try.prog 10 #[.int .i64 n] w fun e w' => RetY w r ok e w') ∧
    (∀ w, Calls Try.prog 11 #[.int .i64 n] w fun e w' => RetY w r ok e w') := by
  rcases lamp_cases n with h | ⟨k, rfl, h1, h2⟩
  · refine ⟨[], false, by simp, fun w => sRL_no n w h, fun w => iRL_no n w ?_⟩
    rw [← Bool.not_eq_true, Bool.and_eq_true, decide_eq_true_eq, decide_eq_true_eq] at h; omega
  · by_cases h3 : k = 1
    · subst h3; exact ⟨[], false, by simp, fun w => sRL_one w, fun w => iRL_no _ w (by omega)⟩
    · exact ⟨_, true, by rw [rowsL_len]; omega, fun w => sRL_yes k w (by omega) h2, fun w => iRL_yes k w (by omega) h2⟩
end Go.Proofs.Ytjlecipeoaohiac
