/- The model's check of boxes. -/
import Derived.Test.YtjlecipeoaohiaaX0
import Derived.Test.YtjlecipeoaohiaaBase0
import Derived.Laws.RangeAny
namespace Go.Proofs.Ytjlecipeoaohiaa
open Go Go.RowKit RM
/-- a text is a rule: what each way of a check wants -/
theorem oks_int (s : Nat) (c : UInt8) : oks s c = (((c.toNat : Int) == 63) || (decide ((48 : Int) ≤ c.toNat) && decide ((c.toNat : Int) - 48 ≤ (s : Int) - 1))) := by
  unfold oks
  rw [b63]
  congr 1
  congr 1
  · rw [Bool.eq_iff_iff, decide_eq_true_eq, decide_eq_true_eq]; omega
  · rw [Bool.eq_iff_iff, decide_eq_true_eq, decide_eq_true_eq]; omega
theorem all_noP (P : UInt8 → Bool) (s : ByteArray) (i : Nat) (h : i < s.size) (hq : P s[i] = false) : s.data.toList.all P = false := by
  rw [← Bool.not_eq_true]; intro ha
  have := List.all_eq_true.1 ha _ (List.getElem_mem (show i < s.data.toList.length by rw [len_data]; exact h))
  rw [byte_at s i h, hq] at this; cases this
theorem all_yesP (P : UInt8 → Bool) (s : ByteArray) (h : ∀ i (h : i < s.size), P s[i] = true) : s.data.toList.all P = true := by
  rw [List.all_eq_true]
  intro c hc
  obtain ⟨i, hi, rfl⟩ := List.getElem_of_mem hc
  rw [len_data] at hi
  rw [byte_at s i hi]; exact h i hi
theorem ruleOk_byte (p s part : Nat) (r : ByteArray) (i : Nat) (h : i < r.size) (hq : oks s r[i] = false) : ruleOk p s part r = false := by
  rw [← Bool.not_eq_true, ruleOk_iff]
  rintro ⟨_, _, h3⟩
  rw [all_noP _ r i h hq] at h3; cases h3
theorem ruleOk_part (p s part : Nat) (r : ByteArray) (h : part < r.size) (hq : ((r[part].toNat : Int) == 63) = false) : ruleOk p s part r = false := by
  rw [← Bool.not_eq_true, ruleOk_iff]
  rintro ⟨_, h2, _⟩
  rw [byte_getD r part h] at h2
  rw [← b63, h2] at hq; simp at hq
theorem ruleOk_all (p s part : Nat) (r : ByteArray) (hl : r.size = p) (h : part < r.size) (h2 : ((r[part].toNat : Int) == 63) = true) (h3 : ∀ i (h : i < r.size), oks s r[i] = true) : ruleOk p s part r = true := by
  rw [ruleOk_iff]
  refine ⟨hl, ?_, all_yesP _ r h3⟩
  rw [byte_getD r part h]
  rw [← b63] at h2; simpa using h2
theorem bxCount_any (p s : Nat) (w : World) (hp : p ≤ 6) (hs : s ≤ 5) : Calls Try.prog 74 #[.int .i64 p, .int .i64 s] w fun e w' => e = .returned (.int .i64 ((s ^ p : Nat) : Int)) ∧ w = w' := by
  have hpw := Lib.hid (fun k (hk : k ≤ 6) => pow_small hs k hk)
  have hst := Lib.hid (fun k => Nat.pow_succ (n := s) (m := k))
  have h0 : Hid (s ^ 0 = 1) := Lib.hid rfl
  obtain ⟨PW, hPW⟩ : ∃ f : Nat → Nat, f = fun k => s ^ k := ⟨_, rfl⟩
  have e : ∀ k, s ^ k = PW k := fun k => by rw [hPW]
  simp only [e] at hpw hst h0 ⊢
  clear e hPW
  go_enter Try.func74, Try.ntmps74
  go_wp2_with fail
  go_loop [0, 5] (fun i q => ∃ k : Nat, k ≤ p ∧ i = .int .i64 ((p : Int) - k) ∧ q = .int .i64 (PW k : Nat)) (fun i _ => (intOf i).toNat)
  case atStart => exact ⟨0, by omega, vi (by omega), by rw [h0.out]; rfl⟩
  case round =>
    obtain ⟨k, hk, rfl, rfl⟩ := hrel
    by_cases h : k < p
    · have h1 := hpw.out k (by omega)
      have h2 := hpw.out (k + 1) (by omega)
      have h3 := hst.out k
      rw [h3] at h2
      have hc : ((PW k * s : Nat) : Int) = (PW k : Int) * s := by simp
      have hm : (PW k : Int) * s ≤ 15625 := by rw [← hc]; omega
      have hm0 : 0 ≤ (PW k : Int) * s := by rw [← hc]; omega
      have hc2 : Hid (((PW (k + 1) : Nat) : Int) = (PW k : Int) * s) := Lib.hid (by rw [h3, hc])
      clear hc h2 h3
      go_wp2_with fail
      go_round
      case rel => exact ⟨k + 1, by omega, vi (by omega), vi hc2.out.symm⟩
      all_goals (simp [intOf] <;> omega)
    · obtain rfl : k = p := by omega
      go_wp2_with fail
      go_ret; exact ⟨rfl, rfl⟩
theorem bxSize_any (P S : Int) (w : World) : Calls Try.prog 41 #[.int .i64 P, .int .i64 S] w fun e w' => e = .returned (.bool (szI P S)) ∧ w = w' := by
  rcases szI_cases P S with ⟨h, e⟩ | ⟨p, s, rfl, rfl, h1, h2, h3, h4, e⟩
  · rw [e]
    by_cases hP : 1 ≤ P ∧ P ≤ 6
    · have hS : S < 2 ∨ 5 < S := by omega
      clear h e
      obtain ⟨p1, p2⟩ := hP
      go_enter Try.func41, Try.ntmps41
      go_wp2_with fail
      refine (l1In_yes _ _ _ _ p1 p2).mono ?_; rintro e w' ⟨rfl, rfl⟩
      go_wp2_with fail
      refine (l1In_no _ _ _ _ hS).mono ?_; rintro e w' ⟨rfl, rfl⟩
      go_wp2_with fail
      go_ret; exact ⟨rfl, rfl⟩
    · have hP2 : P < 1 ∨ 6 < P := by omega
      clear h e
      go_enter Try.func41, Try.ntmps41
      go_wp2_with fail
      refine (l1In_no _ _ _ _ hP2).mono ?_; rintro e w' ⟨rfl, rfl⟩
      go_wp2_with fail
      go_ret; exact ⟨rfl, rfl⟩
  · rw [e]
    have hB := Lib.hid (fun w => bxCount_any p s w h2 h4)
    have hd : decide (((s ^ p : Nat) : Int) ≤ 1000) = decide (s ^ p ≤ 1000) := by rw [Bool.eq_iff_iff, decide_eq_true_eq, decide_eq_true_eq]; omega
    generalize s ^ p = M at *
    generalize decide (M ≤ 1000) = D at *
    clear e
    go_enter Try.func41, Try.ntmps41
    go_wp2_with fail
    refine (l1In_yes _ _ _ _ (by omega) (by omega)).mono ?_; rintro e w' ⟨rfl, rfl⟩
    go_wp2_with fail
    refine (l1In_yes _ _ _ _ (by omega) (by omega)).mono ?_; rintro e w' ⟨rfl, rfl⟩
    go_wp2_with fail
    refine (hB.out _).mono ?_; rintro e w' ⟨rfl, rfl⟩
    go_wp2_with fail
    go_ret; exact ⟨rfl, rfl⟩
end Go.Proofs.Ytjlecipeoaohiaa
