/- Chapter 7: the greatest of counts; fractions that are compared; the states with the greatest chance. -/
import Derived.Test.YtfnhmacnghkgiaeDoorZI
import Derived.BigQuiet
import Derived.Laws.StructEq
namespace Go.Proofs.YtfnhmacnghkgiaeDoor
set_option linter.unusedSimpArgs false
set_option linter.unusedVariables false
open Go Go.RowKit RM
/-- the greatest of the numbers up to k -/
def mxF (g : Nat → Int) : Nat → Int
  | 0 => g 0
  | k + 1 => max (mxF g k) (g (k + 1))
theorem mxF_ge (g : Nat → Int) : ∀ k i, i ≤ k → g i ≤ mxF g k := by
  intro k
  induction k with
  | zero => intro i h; obtain rfl : i = 0 := by omega
            exact Int.le_refl _
  | succ k ih =>
    intro i h
    show g i ≤ max (mxF g k) (g (k + 1))
    by_cases e : i = k + 1
    · subst e; omega
    · have := ih i (by omega); omega
theorem mxF_at (g : Nat → Int) : ∀ k, ∃ i, i ≤ k ∧ mxF g k = g i := by
  intro k
  induction k with
  | zero => exact ⟨0, by omega, rfl⟩
  | succ k ih =>
    show ∃ i, i ≤ k + 1 ∧ max (mxF g k) (g (k + 1)) = g i
    by_cases e : mxF g k ≤ g (k + 1)
    · exact ⟨k + 1, by omega, by omega⟩
    · obtain ⟨i, hi, e2⟩ := ih
      exact ⟨i, by omega, by omega⟩
theorem max_any (gm cap B N : Nat) (ms : List Int) (g : Nat → Int) (w : World) (hN : N ≤ 4096) (h1 : 1 ≤ N) (hml : ms.length = N) (hg : Hid (∀ k (h : k < ms.length), ms[k] = g k)) (ho : OwnI w B (.slice (some ⟨gm, 0, none⟩) N cap) ms) :
    Calls Tryd.prog 40 #[.slice (some ⟨gm, 0, none⟩) N cap] w fun e w' => e = .returned (.int .i64 (mxF g (N - 1))) ∧ w = w' := by
  have e0 := (ho.cell hml 0 (by omega)).1
  rw [hg.out] at e0
  have ho := Lib.hid ho
  obtain ⟨a0, ha0⟩ : ∃ a0, Hid (a0 = g 0) := ⟨_, Lib.hid rfl⟩
  rw [← ha0.out] at e0
  go_enter Tryd.func40, Tryd.ntmps40
  go_wp2_with fail
  go_loop [3, 4] (fun m i => ∃ k : Nat, 1 ≤ k ∧ k ≤ N ∧ i = .int .i64 k ∧ m = .int .i64 (mxF g (k - 1))) (fun _ i => N - (intOf i).toNat)
  case atStart => exact ⟨1, by omega, by omega, rfl, by rw [ha0.out]; rfl⟩
  case round =>
    obtain ⟨k, hk1, hk, rfl, rfl⟩ := hrel
    by_cases hlt : k < N
    · have hkm : k < ms.length := by rw [hml]; exact hlt
      have c0 := (ho.out.cell hml k hkm).1
      rw [hg.out] at c0
      have hst : Hid (mxF g (k + 1 - 1) = max (mxF g (k - 1)) (g k)) := Lib.hid (by
        obtain ⟨j, rfl⟩ : ∃ j, k = j + 1 := ⟨k - 1, by omega⟩
        rfl)
      obtain ⟨a1, ha1⟩ : ∃ a1, Hid (a1 = mxF g (k - 1)) := ⟨_, Lib.hid rfl⟩
      obtain ⟨b1, hb1⟩ : ∃ b1, Hid (b1 = g k) := ⟨_, Lib.hid rfl⟩
      rw [← hb1.out, ← ha1.out] at hst
      rw [← hb1.out] at c0
      rw [← ha1.out]
      clear e0
      go_wp2_with fail
      go_round
      case rel => exact ⟨k + 1, by omega, by omega, by go_num, by rw [hst.out]⟩
      all_goals (simp [intOf] <;> omega)
    · obtain rfl : N = k := by omega
      clear e0
      go_wp2_with fail
      go_ret; exact ⟨rfl, rfl⟩
abbrev cI (x : Int) : Value := .int .i64 x
theorem all_range_int : ∀ (xs ys : List Int), xs.length = ys.length → ((List.range xs.length).all fun i => xs.getD i 0 == ys.getD i 0) = (xs == ys)
  | [], [], _ => rfl
  | x :: xs, y :: ys, h => by
    have ih := all_range_int xs ys (by simpa using h)
    rw [List.length_cons, List.range_succ_eq_map, List.all_cons, List.all_map]
    simp only [List.getD_cons_zero, Function.comp_def, List.getD_cons_succ, ih]
    simp [List.cons_beq_cons]
  | [], _ :: _, h => by simp at h
  | _ :: _, [], h => by simp at h
theorem equalIn_ints {P : Program} (w : World) (d : Nat) (t e : TypeId) (n : Nat) (ht : P.underlying t = some (.array n e)) (he : P.underlying e = some (.int .i64)) (hsz : ∀ w, (sizeOf e).run P w = .ok 1 w)
    (xs ys : List Int) (hx : xs.length = n) (hy : ys.length = n) :
    (Op.equalIn (d + 2) t (.agg (xs.map cI).toArray) (.agg (ys.map cI).toArray)).run P w = .ok (xs == ys) w := by
  rw [← all_range_int xs ys (hx.trans hy.symm), hx, List.range_eq_range', Op.equalIn]
  simp only [Sem.run_bind, run_underlying ht, Result.andThen_ok, hsz, Std.Legacy.Range.forIn_eq_forIn_range', Std.Legacy.Range.size, Nat.sub_zero, Nat.add_sub_cancel, Nat.div_one]
  have hl : ∀ i ∈ List.range' 0 n 1, i < n := fun i hi => by simpa using (List.mem_range'_1.1 hi).2
  generalize List.range' 0 n 1 = l at hl ⊢
  induction l with
  | nil => simp
  | cons i l ih =>
    have hi : i < n := hl i (by simp)
    have px : (part e (xs.map cI).toArray (i * 1)).run P w = .ok (cI (xs.getD i 0)) w := by
      simp [part, isAgg, run_underlying he, List.getD, List.getElem?_eq_getElem (show i < xs.length by omega)]
    have py : (part e (ys.map cI).toArray (i * 1)).run P w = .ok (cI (ys.getD i 0)) w := by
      simp [part, isAgg, run_underlying he, List.getD, List.getElem?_eq_getElem (show i < ys.length by omega)]
    have pe : (Op.equalIn (d + 1) e (cI (xs.getD i 0)) (cI (ys.getD i 0))).run P w = .ok (xs.getD i 0 == ys.getD i 0) w := by
      rw [cI, cI, run_equalIn_int w d e .i64 .i64 _ _ he]
    simp only [List.forIn_cons, Sem.run_bind, px, py, pe, Result.andThen_ok, List.all_cons]
    cases hb : (xs.getD i 0 == ys.getD i 0)
    · simp
    · simp only [Bool.not_true, Bool.false_eq_true, if_false, Sem.run_pure, Result.andThen_ok, Bool.true_and]
      exact ih fun j hj => hl j (by simp [hj])

theorem szJ (w : World) : (sizeOf 3).run Tryd.prog w = .ok 1 w := by
  have := Tryd.sizeOf3 w
  exact this
theorem eq_ra (w : World) (p q r s : Int) : (binOp .eql 63 (.agg #[.int .i64 p, .int .i64 q]) (.agg #[.int .i64 r, .int .i64 s])).run Tryd.prog w = .ok (.bool ([p, q] == [r, s])) w := by
  have h := equalIn_ints (P := Tryd.prog) w 9998 63 3 2 Tryd.underlying63 Tryd.underlying3 (fun w => szJ w) [p, q] [r, s] rfl rfl
  rw [run_eql_struct]
  have h2 : (Op.equalIn 10000 63 (.agg #[.int .i64 p, .int .i64 q]) (.agg #[.int .i64 r, .int .i64 s])).run Tryd.prog w = .ok ([p, q] == [r, s]) w := h
  rw [h2]
  rfl
theorem gRa : Tryd.prog.eqGuardType Tryd.prog.depth 63 = false := by kernel_rfl
theorem eqg_ra (w : World) (op : BinOp) (x y : Operand) (xs ys : Array Value) : (eqGuard op 63 x y (.agg xs) (.agg ys)).run Tryd.prog w = .ok () w := run_eqGuard_agg w op _ x y xs ys gRa
/-- fractions over one number are the same where their parts are -/
theorem low_inj (a b Z : Nat) (h : 0 < Z) (h1 : lowP a Z = lowP b Z) (h2 : lowQ a Z = lowQ b Z) : a = b := by
  unfold lowP lowQ at *
  have da := Nat.gcd_dvd_right a Z
  have db := Nat.gcd_dvd_right b Z
  have ga := gcd_pos a Z h
  have gb := gcd_pos b Z h
  have e1 : Z / Nat.gcd a Z * Nat.gcd a Z = Z := Nat.div_mul_cancel da
  have e2 : Z / Nat.gcd b Z * Nat.gcd b Z = Z := Nat.div_mul_cancel db
  have q : 0 < Z / Nat.gcd a Z := Nat.div_pos (Nat.le_of_dvd h da) ga
  have g : Nat.gcd a Z = Nat.gcd b Z := by
    rw [← h2] at e2
    exact Nat.eq_of_mul_eq_mul_left q (e1.trans e2.symm)
  have a1 : a / Nat.gcd a Z * Nat.gcd a Z = a := Nat.div_mul_cancel (Nat.gcd_dvd_left a Z)
  have b1 : b / Nat.gcd b Z * Nat.gcd b Z = b := Nat.div_mul_cancel (Nat.gcd_dvd_left b Z)
  rw [← a1, ← b1, h1, g]
theorem low_beq (a b Z : Nat) (h : 0 < Z) : ([((lowP a Z : Nat) : Int), ((lowQ a Z : Nat) : Int)] == [((lowP b Z : Nat) : Int), ((lowQ b Z : Nat) : Int)]) = decide (a = b) := by
  by_cases e : a = b
  · subst e; simp
  · rw [decide_eq_false e, beq_eq_false_iff_ne]
    intro h2
    simp only [List.cons.injEq] at h2
    obtain ⟨x, y, -⟩ := h2
    exact e (low_inj a b Z h (by omega) (by omega))
/-- the states of numbers from lo on, whose numbers f are M -/
def liL (n lo : Nat) (f : Nat → Nat) (M k : Nat) : List ByteArray := ((List.range k).filter fun i => decide (f (lo + i) = M)).map fun i => ST n (gray (lo + i))
theorem liL_yes (n lo : Nat) (f : Nat → Nat) (M k : Nat) (h : f (lo + k) = M) : liL n lo f M (k + 1) = liL n lo f M k ++ [ST n (gray (lo + k))] := by
  unfold liL; rw [List.range_succ, List.filter_append, List.map_append]; simp [h]
theorem liL_no (n lo : Nat) (f : Nat → Nat) (M k : Nat) (h : f (lo + k) ≠ M) : liL n lo f M (k + 1) = liL n lo f M k := by
  unfold liL; rw [List.range_succ, List.filter_append, List.map_append]; simp [h]
theorem liL_len (n lo : Nat) (f : Nat → Nat) (M k : Nat) : (liL n lo f M k).length ≤ k := by
  unfold liL; rw [List.length_map]; exact Nat.le_trans (List.length_filter_le _ _) (by simp)
theorem li_before (n : Nat) (f : Nat → Nat) (M lo : Nat) (h : ∀ i, i < lo → f i ≠ M) : ∀ k, k ≤ lo → liL n 0 f M k = []
  | 0, _ => rfl
  | k + 1, hk => by rw [liL_no n 0 f M k (by rw [Nat.zero_add]; exact h k (by omega))]; exact li_before n f M lo h k (by omega)
theorem li_in (n : Nat) (f : Nat → Nat) (M lo : Nat) (h : ∀ i, i < lo → f i ≠ M) : ∀ k, liL n 0 f M (lo + k) = liL n lo f M k
  | 0 => by rw [Nat.add_zero, li_before n f M lo h lo (Nat.le_refl _)]; rfl
  | k + 1 => by
    by_cases e : f (lo + k) = M
    · rw [← Nat.add_assoc, liL_yes n 0 f M (lo + k) (by rw [Nat.zero_add]; exact e), liL_yes n lo f M k e, li_in n f M lo h k, Nat.zero_add]
    · rw [← Nat.add_assoc, liL_no n 0 f M (lo + k) (by rw [Nat.zero_add]; exact e), liL_no n lo f M k e, li_in n f M lo h k]
theorem li_behind (n : Nat) (f : Nat → Nat) (M R : Nat) (h : ∀ i, R ≤ i → f i ≠ M) : ∀ k, liL n 0 f M (R + k) = liL n 0 f M R
  | 0 => rfl
  | k + 1 => by rw [← Nat.add_assoc, liL_no n 0 f M (R + k) (by rw [Nat.zero_add]; exact h _ (by omega)), li_behind n f M R h k]
/-- the greatest of the first k, of numbers from 0 on -/
def moN (f : Nat → Nat) : Nat → Nat
  | 0 => 0
  | k + 1 => max (moN f k) (f k)
theorem moN_ge (f : Nat → Nat) : ∀ k i, i < k → f i ≤ moN f k := by
  intro k
  induction k with
  | zero => intro i h; omega
  | succ k ih =>
    intro i h
    show f i ≤ max (moN f k) (f k)
    by_cases e : i = k
    · subst e; omega
    · have := ih i (by omega); omega
theorem moN_at (f : Nat → Nat) : ∀ k, moN f k = 0 ∨ ∃ i, i < k ∧ moN f k = f i := by
  intro k
  induction k with
  | zero => exact .inl rfl
  | succ k ih =>
    show max (moN f k) (f k) = 0 ∨ ∃ i, i < k + 1 ∧ max (moN f k) (f k) = f i
    by_cases e : moN f k ≤ f k
    · exact .inr ⟨k, by omega, by omega⟩
    · rcases ih with h | ⟨i, hi, h⟩
      · omega
      · exact .inr ⟨i, by omega, by omega⟩
theorem moN_le (f : Nat → Nat) (b : Nat) (h : ∀ i, f i ≤ b) (k : Nat) : moN f k ≤ b := by
  rcases moN_at f k with e | ⟨i, _, e⟩ <;> rw [e]
  · omega
  · exact h i
/-- the greatest of a window in which all others than 0 lie is the greatest of all -/
theorem mo_win (f : Nat → Nat) (lo m K : Nat) (hm : 0 < m) (hK : lo + m ≤ K) (h0 : ∀ i, (i < lo ∨ lo + m ≤ i) → f i = 0) : mxF (fun i => ((f (lo + i) : Nat) : Int)) (m - 1) = ((moN f K : Nat) : Int) := by
  obtain ⟨y, hy, e1⟩ := mxF_at (fun i => ((f (lo + i) : Nat) : Int)) (m - 1)
  have a := moN_ge f K (lo + y) (by omega)
  rcases moN_at f K with e | ⟨i, hi, e⟩
  · rw [e1, e]
    show ((f (lo + y) : Nat) : Int) = _
    omega
  · by_cases hw : lo ≤ i ∧ i < lo + m
    · have b := mxF_ge (fun i => ((f (lo + i) : Nat) : Int)) (m - 1) (i - lo) (by omega)
      simp only [show lo + (i - lo) = i from by omega] at b
      rw [e1] at b ⊢
      show ((f (lo + y) : Nat) : Int) = _
      change ((f i : Nat) : Int) ≤ ((f (lo + y) : Nat) : Int) at b
      omega
    · have z := h0 i (by omega)
      rw [e1]
      show ((f (lo + y) : Nat) : Int) = _
      omega
end Go.Proofs.YtfnhmacnghkgiaeDoor
