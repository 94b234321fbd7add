/- Chapter 2: limits, products, mixed digits; what both ways share. -/
import Derived.Test.YtbgdhiieeegnjacK3
import Derived.Test.YtbgdhiieeegnjacArgs
import Derived.Test.YtbgdhiieeegnjacC2
import Derived.Deep.QuietTactic
import Derived.BigQuiet
namespace Go.Proofs.Ytbgdhiieeegnjac
open Go Go.RowKit RM

/-- within bounds -/
def bdB (lo hi x : Int) : Bool := decide (lo ≤ x) && decide (x ≤ hi)
theorem bd_cases (lo hi x : Int) : (bdB lo hi x = true ∧ lo ≤ x ∧ x ≤ hi) ∨ (bdB lo hi x = false ∧ (x < lo ∨ hi < x)) := by
  unfold bdB
  by_cases h : lo ≤ x ∧ x ≤ hi
  · left; simp [h]
  · right; simp; omega
def allBd (lo hi : Int) (l : List Int) : Bool := l.all (bdB lo hi)
theorem allBd_snoc (lo hi : Int) (xs : List Int) (k : Nat) (h : k < xs.length) : allBd lo hi (xs.take (k + 1)) = (allBd lo hi (xs.take k) && bdB lo hi xs[k]) := by
  unfold allBd; rw [take_step xs k h, List.all_append]; simp
theorem allBd_no (lo hi : Int) (xs : List Int) (k : Nat) (h : k < xs.length) (hf : bdB lo hi xs[k] = false) : allBd lo hi xs = false := by
  unfold allBd
  rw [← Bool.not_eq_true]; intro ht
  rw [List.all_eq_true] at ht
  rw [ht _ (List.getElem_mem h)] at hf; cases hf
theorem allBd_at {lo hi : Int} {xs : List Int} (h : allBd lo hi xs = true) (k : Nat) (hk : k < xs.length) : lo ≤ xs[k] ∧ xs[k] ≤ hi := by
  unfold allBd at h
  rw [List.all_eq_true] at h
  have := h _ (List.getElem_mem hk)
  unfold bdB at this; simpa using this
theorem allBd_lim (xs : List Int) : allBd 1 20 xs = xs.all limB := rfl

theorem allIn_nil (lo hi : Int) (p : Option Addr) (cap : Nat) (w : World) :
    Calls Try.prog 55 #[.slice p 0 cap, .int .i64 lo, .int .i64 hi] w fun e w' => e = .returned (.bool true) ∧ w = w' := by
  go_enter Try.func55, Try.ntmps55
  go_wp2_with fail
  go_loop [11] (fun i => i = .int .i64 0) (fun _ => 0)
  case atStart => rfl
  case round =>
    obtain rfl := hrel
    go_wp2
    go_ret; exact ⟨rfl, rfl⟩

theorem allIn_some (lo hi : Int) (xs : List Int) (b : Nat) (cap : Nat) (n : Nat) (w : World) (hn : n ≤ 1048576) (hx : Hid (xs.length = n))
    (hc : Hid (∀ i (h : i < xs.length), w.cell? ⟨b, i, none⟩ = some (.int .i64 xs[i]))) :
    Calls Try.prog 55 #[.slice (some ⟨b, 0, none⟩) n cap, .int .i64 lo, .int .i64 hi] w fun e w' => e = .returned (.bool (allBd lo hi xs)) ∧ w = w' := by
  go_enter Try.func55, Try.ntmps55
  go_wp2_with fail
  go_loop [11] (fun i => ∃ k : Nat, k ≤ n ∧ i = .int .i64 k ∧ Hid (allBd lo hi (xs.take k) = true)) (fun i => n - (intOf i).toNat)
  case atStart => exact ⟨0, by omega, rfl, rfl⟩
  case round =>
    obtain ⟨k, hk, rfl, ha⟩ := hrel
    by_cases hlt : k < n
    · have hkx : k < xs.length := by rw [hx.out]; exact hlt
      have hrd := hc.out k hkx
      have hat := Lib.hid (allBd_snoc lo hi xs k hkx)
      rcases bd_cases lo hi xs[k] with ⟨hr, h1, h2⟩ | ⟨hr, h1⟩
      · have HR := Lib.hid (show allBd lo hi (xs.take (k + 1)) = true by rw [hat.out, ha.out, hr]; rfl)
        clear hr
        generalize xs[k] = z at *
        go_wp2_with fail
        refine (l1In_yes _ _ _ _ h1 h2).mono ?_; rintro e w' ⟨rfl, rfl⟩
        go_wp2_with fail
        go_round
        case rel => exact ⟨k + 1, by omega, by go_num, HR⟩
        all_goals (simp [intOf] <;> omega)
      · have HF := Lib.hid (allBd_no lo hi xs k hkx hr)
        clear hr
        generalize xs[k] = z at *
        go_wp2_with fail
        refine (l1In_no _ _ _ _ h1).mono ?_; rintro e w' ⟨rfl, rfl⟩
        go_wp2_with fail
        go_ret; exact ⟨ret_bool HF.out.symm, rfl⟩
    · have HF : Hid (allBd lo hi xs = true) := Lib.hid (by have := ha.out; rw [List.take_of_length_le (by rw [hx.out]; omega)] at this; exact this)
      go_wp2_with fail
      go_ret; exact ⟨ret_bool HF.out.symm, rfl⟩

theorem allIn_any (lo hi : Int) (v : Value) (xs : List Int) (B : Nat) (w : World) (hn : xs.length ≤ 1048576) (h : OwnI w B v xs) :
    Calls Try.prog 55 #[v, .int .i64 lo, .int .i64 hi] w fun e w' => e = .returned (.bool (allBd lo hi xs)) ∧ w = w' := by
  rcases h.form with ⟨rfl, rfl⟩ | ⟨g, cap, rfl, _, _, hc, _, _⟩
  · exact allIn_nil _ _ _ _ w
  · exact allIn_some lo hi xs g cap _ w hn (Lib.hid rfl) (Lib.hid hc)

/-- which lists are limits -/
def lmB (l : List Int) : Bool := decide (1 ≤ l.length) && decide (l.length ≤ 8) && allBd 1 20 l
theorem lm_len (l : List Int) (h : l.length < 1 ∨ 8 < l.length) : lmB l = false := by
  unfold lmB
  have : (decide (1 ≤ l.length) && decide (l.length ≤ 8)) = false := by simp; omega
  rw [this]; rfl
theorem lm_in (l : List Int) (h1 : 1 ≤ l.length) (h2 : l.length ≤ 8) : lmB l = allBd 1 20 l := by
  unfold lmB
  have : (decide (1 ≤ l.length) && decide (l.length ≤ 8)) = true := by simp; omega
  rw [this]; rfl
theorem lm_parts {l : List Int} (h : lmB l = true) : 1 ≤ l.length ∧ l.length ≤ 8 ∧ allBd 1 20 l = true := by
  unfold lmB at h
  simp only [Bool.and_eq_true, decide_eq_true_eq] at h
  exact ⟨h.1.1, h.1.2, h.2⟩
theorem lm_prd {l : List Int} (h : lmB l = true) (k : Nat) : 1 ≤ prd (l.drop k) ∧ prd (l.drop k) ≤ 25600000000 := by
  obtain ⟨_, h2, h3⟩ := lm_parts h
  refine prd_le _ ?_ (by rw [List.length_drop]; omega)
  rw [allBd_lim, List.all_eq_true] at h3
  rw [List.all_eq_true]
  intro x hx
  exact h3 x (List.mem_of_mem_drop hx)
theorem lm_at {l : List Int} (h : lmB l = true) (k : Nat) (hk : k < l.length) : 1 ≤ l[k] ∧ l[k] ≤ 20 := allBd_at (lm_parts h).2.2 k hk

theorem areLim_len (p : Option Addr) (n cap : Nat) (w : World) (hn : n ≤ 1048576) (h : n < 1 ∨ 8 < n) :
    Calls Try.prog 63 #[.slice p n cap] w fun e w' => e = .returned (.bool false) ∧ w = w' := by
  by_cases h1 : n < 1
  · obtain rfl : n = 0 := by omega
    clear h h1
    go_enter Try.func63, Try.ntmps63
    go_wp2
    go_ret; exact ⟨rfl, rfl⟩
  · have h2 : 8 < n := by omega
    clear h
    go_enter Try.func63, Try.ntmps63
    go_wp2
    go_ret; exact ⟨ret_bool (by first | rfl | (simp; done) | (simp; omega)), rfl⟩

theorem areLim_some (xs : List Int) (b cap n : Nat) (w : World) (h1 : 1 ≤ n) (h2 : n ≤ 8) (hx : Hid (xs.length = n))
    (hc : Hid (∀ i (h : i < xs.length), w.cell? ⟨b, i, none⟩ = some (.int .i64 xs[i]))) :
    Calls Try.prog 63 #[.slice (some ⟨b, 0, none⟩) n cap] w fun e w' => e = .returned (.bool (allBd 1 20 xs)) ∧ w = w' := by
  go_enter Try.func63, Try.ntmps63
  go_wp2_with fail
  go_loop [15] (fun i => ∃ k : Nat, k ≤ n ∧ i = .int .i64 k ∧ Hid (allBd 1 20 (xs.take k) = true)) (fun i => n - (intOf i).toNat)
  case atStart => exact ⟨0, by omega, rfl, rfl⟩
  case round =>
    obtain ⟨k, hk, rfl, ha⟩ := hrel
    by_cases hlt : k < n
    · have hkx : k < xs.length := by rw [hx.out]; exact hlt
      have hrd := hc.out k hkx
      have hat := Lib.hid (allBd_snoc 1 20 xs k hkx)
      rcases bd_cases 1 20 xs[k] with ⟨hr, h3, h4⟩ | ⟨hr, h3⟩
      · have HR := Lib.hid (show allBd 1 20 (xs.take (k + 1)) = true by rw [hat.out, ha.out, hr]; rfl)
        clear hr
        generalize xs[k] = z at *
        go_wp2
        go_round
        case rel => exact ⟨k + 1, by omega, by go_num, HR⟩
        all_goals (simp [intOf] <;> omega)
      · have HF := Lib.hid (allBd_no 1 20 xs k hkx hr)
        clear hr
        generalize xs[k] = z at *
        rcases h3 with h3 | h3
        all_goals
          go_wp2
          go_ret; exact ⟨ret_bool HF.out.symm, rfl⟩
    · have HF : Hid (allBd 1 20 xs = true) := Lib.hid (by have := ha.out; rw [List.take_of_length_le (by rw [hx.out]; omega)] at this; exact this)
      go_wp2
      go_ret; exact ⟨ret_bool HF.out.symm, rfl⟩

theorem areLim_any (v : Value) (xs : List Int) (B : Nat) (w : World) (hn : xs.length ≤ 1048576) (h : OwnI w B v xs) :
    Calls Try.prog 63 #[v] w fun e w' => e = .returned (.bool (lmB xs)) ∧ w = w' := by
  rcases h.form with ⟨rfl, rfl⟩ | ⟨g, cap, rfl, _, _, hc, _, _⟩
  · exact areLim_len _ _ _ w (by omega) (by omega)
  · by_cases hl : xs.length < 1 ∨ 8 < xs.length
    · rw [lm_len xs hl]; exact areLim_len _ _ _ w hn hl
    · rw [lm_in xs (by omega) (by omega)]
      exact areLim_some xs g cap _ w (by omega) (by omega) (Lib.hid rfl) (Lib.hid hc)

theorem nuLim_core (p : Option Addr) (n cap : Nat) (b : Bool) (w : World) (hn : n ≤ 1048576) (h1 : 1 ≤ n) (h2 : n ≤ 8)
    (hA : Hid (∀ w', w = w' → Calls Try.prog 55 #[.slice p n cap, .int .i64 1, .int .i64 20] w' fun e w'' => e = .returned (.bool b) ∧ w' = w'')) :
    Calls Try.prog 61 #[.slice p n cap] w fun e w' => e = .returned (.bool b) ∧ w = w' := by
  go_enter Try.func61, Try.ntmps61
  go_wp2_with fail
  refine (l1In_yes _ _ _ _ (by omega) (by omega)).mono ?_; rintro e w' ⟨rfl, rfl⟩
  go_wp2_with fail
  refine (hA.out _ rfl).mono ?_; rintro e w' ⟨rfl, rfl⟩
  go_wp2_with fail
  go_ret; exact ⟨rfl, rfl⟩

theorem nuLim_len (p : Option Addr) (n cap : Nat) (w : World) (hn : n ≤ 1048576) (h : n < 1 ∨ 8 < n) :
    Calls Try.prog 61 #[.slice p n cap] w fun e w' => e = .returned (.bool false) ∧ w = w' := by
  have hL := Lib.hid fun w => l1In_no (n : Int) 1 8 w (by omega)
  clear h
  go_enter Try.func61, Try.ntmps61
  go_wp2_with fail
  refine (hL.out _).mono ?_; rintro e w' ⟨rfl, rfl⟩
  go_wp2_with fail
  go_ret; exact ⟨rfl, rfl⟩

theorem nuLim_any (v : Value) (xs : List Int) (B : Nat) (w : World) (hn : xs.length ≤ 1048576) (h : OwnI w B v xs) :
    Calls Try.prog 61 #[v] w fun e w' => e = .returned (.bool (lmB xs)) ∧ w = w' := by
  have hA := fun w' (e : w = w') => allIn_any 1 20 v xs B w' hn (e ▸ h)
  by_cases hl : xs.length < 1 ∨ 8 < xs.length
  · rw [lm_len xs hl]
    rcases h.form with ⟨rfl, rfl⟩ | ⟨g, cap, rfl, _, _, hc, _, _⟩
    · exact nuLim_len _ _ _ w (by omega) (by omega)
    · exact nuLim_len _ _ _ w hn hl
  · rw [lm_in xs (by omega) (by omega)]
    rcases h.form with ⟨rfl, rfl⟩ | ⟨g, cap, rfl, _, _, hc, _, _⟩
    · simp at hl
    · exact nuLim_core _ _ _ _ w hn (by omega) (by omega) (Lib.hid hA)

/-- a product, one factor more -/
theorem prd_app (a b : List Int) : prd (a ++ b) = prd a * prd b := by
  induction a with
  | nil => simp [prd]
  | cons x t ih => rw [List.cons_append, prd_cons, prd_cons, ih, Int.mul_assoc]
theorem prd_take (l : List Int) (k : Nat) (h : k < l.length) : prd (l.take (k + 1)) = prd (l.take k) * l[k] := by
  rw [take_step l k h, prd_app]; simp [prd]
theorem prd_take_bd (l : List Int) (k : Nat) (h : l.all limB = true) (hl : l.length ≤ 8) : 1 ≤ prd (l.take k) ∧ prd (l.take k) ≤ 25600000000 := by
  refine prd_le _ ?_ (by rw [List.length_take]; omega)
  rw [List.all_eq_true] at h ⊢
  intro x hx
  exact h x (List.mem_of_mem_take hx)

theorem countM_some (xs : List Int) (b cap n : Nat) (w : World) (h2 : n ≤ 8) (hx : Hid (xs.length = n)) (hl : Hid (xs.all limB = true))
    (hc : Hid (∀ i (h : i < xs.length), w.cell? ⟨b, i, none⟩ = some (.int .i64 xs[i]))) :
    Calls Try.prog 64 #[.slice (some ⟨b, 0, none⟩) n cap] w fun e w' => e = .returned (.int .i64 (prd xs)) ∧ w = w' := by
  go_enter Try.func64, Try.ntmps64
  go_wp2_with fail
  go_loop [3, 8] (fun l i => ∃ (k : Nat) (P : Int), k ≤ n ∧ i = .int .i64 k ∧ l = .int .i64 P ∧ Hid (prd (xs.take k) = P)) (fun _ i => n - (intOf i).toNat)
  case atStart => exact ⟨0, 1, by omega, rfl, rfl, rfl⟩
  case round =>
    obtain ⟨k, P, hk, rfl, rfl, hP⟩ := hrel
    by_cases hlt : k < n
    · have hkx : k < xs.length := by rw [hx.out]; exact hlt
      have hrd := hc.out k hkx
      have HQ := Lib.hid (prd_take xs k hkx)
      have hbd := prd_take_bd xs (k + 1) hl.out (by rw [hx.out]; exact h2)
      obtain ⟨Q, hQ⟩ : ∃ Q, Q = prd (xs.take (k + 1)) := ⟨_, rfl⟩
      have e1 : IntKind.i64.wrap (P * xs[k]) = Q := by
        rw [← hP.out, ← HQ.out, ← hQ, IntKind.wrap_i64]; rw [← hQ] at hbd; omega
      have HQ2 := Lib.hid hQ.symm
      clear hQ hbd
      generalize xs[k] = z at *
      go_wp2
      go_round
      case rel => exact ⟨k + 1, Q, by omega, by go_num, rfl, HQ2⟩
      all_goals (simp [intOf] <;> omega)
    · have HF : Hid (prd xs = P) := Lib.hid (by have := hP.out; rw [List.take_of_length_le (by rw [hx.out]; omega)] at this; exact this)
      go_wp2
      go_ret; exact ⟨ret_int HF.out.symm, rfl⟩

theorem prod_nil (p : Option Addr) (cap : Nat) (w : World) : Calls Try.prog 62 #[.slice p 0 cap] w fun e w' => e = .returned (.int .i64 1) ∧ w = w' := by
  go_enter Try.func62, Try.ntmps62
  go_wp2_with fail
  go_loop [3, 8] (fun l i => i = .int .i64 0 ∧ l = .int .i64 1) (fun _ _ => 0)
  case atStart => exact ⟨rfl, rfl⟩
  case round =>
    obtain ⟨rfl, rfl⟩ := hrel
    go_wp2
    go_ret; exact ⟨rfl, rfl⟩

theorem prod_some (xs : List Int) (b off cap n : Nat) (w : World) (h2 : n ≤ 8) (hx : Hid (xs.length = n)) (hl : Hid (xs.all limB = true))
    (hc : Hid (∀ i (h : i < xs.length), w.cell? ⟨b, off + i, none⟩ = some (.int .i64 xs[i]))) :
    Calls Try.prog 62 #[.slice (some ⟨b, off, none⟩) n cap] w fun e w' => e = .returned (.int .i64 (prd xs)) ∧ w = w' := by
  go_enter Try.func62, Try.ntmps62
  go_wp2_with fail
  go_loop [3, 8] (fun l i => ∃ (k : Nat) (P : Int), k ≤ n ∧ i = .int .i64 k ∧ l = .int .i64 P ∧ Hid (prd (xs.take k) = P)) (fun _ i => n - (intOf i).toNat)
  case atStart => exact ⟨0, 1, by omega, rfl, rfl, rfl⟩
  case round =>
    obtain ⟨k, P, hk, rfl, rfl, hP⟩ := hrel
    by_cases hlt : k < n
    · have hkx : k < xs.length := by rw [hx.out]; exact hlt
      have hrd := hc.out k hkx
      have HQ := Lib.hid (prd_take xs k hkx)
      have hbd := prd_take_bd xs (k + 1) hl.out (by rw [hx.out]; exact h2)
      obtain ⟨Q, hQ⟩ : ∃ Q, Q = prd (xs.take (k + 1)) := ⟨_, rfl⟩
      have e1 : IntKind.i64.wrap (P * xs[k]) = Q := by
        rw [← hP.out, ← HQ.out, ← hQ, IntKind.wrap_i64]; rw [← hQ] at hbd; omega
      have HQ2 := Lib.hid hQ.symm
      clear hQ hbd
      generalize xs[k] = z at *
      go_wp2
      go_round
      case rel => exact ⟨k + 1, Q, by omega, by go_num, rfl, HQ2⟩
      all_goals (simp [intOf] <;> omega)
    · have HF : Hid (prd xs = P) := Lib.hid (by have := hP.out; rw [List.take_of_length_le (by rw [hx.out]; omega)] at this; exact this)
      go_wp2
      go_ret; exact ⟨ret_int HF.out.symm, rfl⟩

theorem back_any (d r p : Int) (w : World) (hd : 0 ≤ d) (hd2 : d ≤ 4000000000000000000) (hr : 0 ≤ r) (hp : r < p) (hp2 : p ≤ 1000000000000000000) :
    Calls Try.prog 65 #[.int .i64 d, .int .i64 r, .int .i64 p] w fun e w' => e = .returned (.int .i64 (bck d r p)) ∧ w = w' := by
  unfold bck
  by_cases h : d % 2 = 1
  · rw [if_pos h]
    have h' : (d % 2 == 1) = true := by rw [h]; rfl
    go_enter Try.func65, Try.ntmps65
    go_wp2
    go_ret; exact ⟨rfl, rfl⟩
  · rw [if_neg h]
    have h' : (d % 2 == 1) = false := by simpa using h
    go_enter Try.func65, Try.ntmps65
    go_wp2
    go_ret; exact ⟨rfl, rfl⟩
end Go.Proofs.Ytbgdhiieeegnjac
