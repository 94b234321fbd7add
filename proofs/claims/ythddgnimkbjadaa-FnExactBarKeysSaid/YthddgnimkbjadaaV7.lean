/- Keys by which each ring can always be moved, and those of the bar, on both sides. -/
import Derived.Test.YthddgnimkbjadaaV6
import Derived.Test.YthddgnimkbjadaaRepS
namespace Go.Proofs.Ythddgnimkbjadaa
open Go Go.RowKit RM
/-- a text of one sign, so many times -/
def rp (b : UInt8) (n : Nat) : ByteArray := ⟨(List.replicate n b).toArray⟩
theorem rp_size (b : UInt8) (n : Nat) : (rp b n).size = n := by
  show (List.replicate n b).toArray.size = n
  simp
theorem rp_snoc (b : UInt8) (n : Nat) : rp b n ++ ⟨#[b]⟩ = rp b (n + 1) := by
  apply ByteArray.ext
  apply Array.ext'
  simp [rp, List.replicate_succ']
theorem repL_one (b : UInt8) (n : Nat) : (⟨(Lib.repeatL (⟨#[b]⟩ : ByteArray).data.toList n).toArray⟩ : ByteArray) = rp b n := by
  have e : ∀ n, Lib.repeatL [b] n = List.replicate n b := fun n => by
    induction n with
    | zero => rfl
    | succ n ih => show [b] ++ Lib.repeatL [b] n = _; rw [ih]; rfl
  unfold rp
  rw [← e n]
/-- the key of the ring k among n, by the bar -/
def bk (n k : Nat) : ByteArray := if k = 0 then rp 63 n else rp 48 (k - 1) ++ ⟨#[49]⟩ ++ rp 63 (n - k)
theorem riAllB_any (b : UInt8) (n : Nat) (w : World) (hn : n ≤ 20) :
    Calls Try.prog 20 #[.int .i64 n, .string ⟨#[b]⟩] w fun e w' => e = .returned (.string (rp b n)) ∧ w = w' := by
  have HB := Lib.hid (rp_snoc b)
  have HZ : Hid (rp b 0 = ⟨#[]⟩) := Lib.hid rfl
  have hsz := rp_size b
  generalize rp b = R at *
  go_enter Try.func20, Try.ntmps20
  go_wp2_with fail
  go_loop [0, 5] (fun i o => ∃ k : Nat, k ≤ n ∧ i = .int .i64 ((n : Int) - k) ∧ o = .string (R k)) (fun i _ => (intOf i).toNat)
  case atStart => exact ⟨0, by omega, vi (by omega), vs HZ.out.symm⟩
  case round =>
    obtain ⟨k, hk, rfl, rfl⟩ := hrel
    have hs2 : (R k).size ≤ 20 := by rw [hsz]; omega
    by_cases h : k < n
    · have HS := Lib.hid (HB.out k)
      go_wp2_with fail
      go_round
      case rel => exact ⟨k + 1, by omega, vi (by omega), vs HS.out⟩
      all_goals (simp [intOf] <;> omega)
    · obtain rfl : k = n := by omega
      go_wp2_with fail
      go_ret; exact ⟨rfl, rfl⟩
theorem keRings_any (n : Int) (w : World) : Calls Try.prog 19 #[.int .i64 n] w fun e w' => e = .returned (.bool (decide (1 ≤ n) && decide (n ≤ 10))) ∧ w = w' := by
  by_cases h : 1 ≤ n ∧ n ≤ 10
  · have e : (decide (1 ≤ n) && decide (n ≤ 10)) = true := by simp; omega
    rw [e]
    go_enter Try.func19, Try.ntmps19
    go_wp2_with (go_at_call 25; refine (l1In_yes _ _ _ _ (by omega) (by omega)).mono ?_; rintro e w' ⟨rfl, rfl⟩)
    go_ret; exact ⟨rfl, rfl⟩
  · have e : (decide (1 ≤ n) && decide (n ≤ 10)) = false := by rw [← Bool.not_eq_true, Bool.and_eq_true, decide_eq_true_eq, decide_eq_true_eq]; exact h
    rw [e]
    go_enter Try.func19, Try.ntmps19
    go_wp2_with (go_at_call 25; refine (l1In_no _ _ _ _ (by omega)).mono ?_; rintro e w' ⟨rfl, rfl⟩)
    go_ret; exact ⟨rfl, rfl⟩
theorem sFK_no (n : Int) (w : World) (h : (decide (1 ≤ n) && decide (n ≤ 10)) = false) : Calls Try.prog 15 #[.int .i64 n] w fun e w' => RetT w [] false e w' := by
  have hR := Lib.hid (fun w => keRings_any n w)
  rw [h] at hR
  go_enter Try.func15, Try.ntmps15
  go_wp2_with fail
  refine (hR.out _).mono ?_; rintro e w' ⟨rfl, rfl⟩
  go_wp2_with fail
  go_ret2; exact ⟨_, rfl, OwnT.nil _ _, Below.refl _ _⟩
theorem sFK_yes (n : Nat) (w : World) (h1 : 1 ≤ n) (h2 : n ≤ 10) : Calls Try.prog 15 #[.int .i64 n] w fun e w' => RetT w (List.replicate n (rp 63 n)) true e w' := by
  have hR := Lib.hid (fun w => keRings_any (n : Int) w)
  rw [show (decide ((1 : Int) ≤ (n : Int)) && decide ((n : Int) ≤ 10)) = true by simp; omega] at hR
  have hA := Lib.hid (fun w => riAllB_any 63 n w (by omega))
  generalize rp 63 n = t at *
  go_enter Try.func15, Try.ntmps15
  go_wp2_with fail
  refine (hR.out _).mono ?_; rintro e w' ⟨rfl, rfl⟩
  go_wp2_with fail
  go_loopw [4, 5] (fun o i wr => ∃ k : Nat, k ≤ n ∧ i = .int .i64 k ∧ Hid (OwnT wr w.heap.size o (List.replicate k t)) ∧ Hid (Below w.heap.size w wr)) (fun _ i _ => n - (intOf i).toNat)
  case atStart => exact ⟨0, Nat.zero_le _, rfl, Lib.hid (OwnT.nil _ _), Lib.hid (Below.refl _ _)⟩
  case round =>
    obtain ⟨k, hk, rfl, ho, hb⟩ := hrel
    obtain ⟨wA, rfl⟩ : ∃ x, x = wr := ⟨_, rfl⟩
    by_cases hlt : k < n
    · have hS : Hid (List.replicate k t ++ [t] = List.replicate (k + 1) t) := Lib.hid (List.replicate_succ' ..).symm
      go_wp2_with fail
      refine (hA.out _).mono ?_; rintro e w' ⟨rfl, rfl⟩
      go_wp2_with (at_builtin; refine app_txt _ rfl _ _ rfl w.heap.size _ _ rfl (ho.out.alloc _) wA.heap.size _ rfl (by simp; rfl) (by simp; omega) (by have := hb.out.size; simp; omega) ?_; intro v' w9 ho9 hg9; have hb9 := Lib.hid (bel_ownT (hb.out.alloc hb.out.size _) (ho.out.alloc _) hg9 (by have := hb.out.size; simp; omega)); replace ho9 := Lib.hid ho9; clear hg9)
      go_roundw
      case rel => exact ⟨k + 1, by omega, by go_num, by rw [← hS.out]; exact ho9, hb9⟩
      all_goals (simp [intOf] <;> omega)
    · obtain rfl : k = n := by omega
      go_wp2_with fail
      go_ret2; exact ⟨_, rfl, ho.out, hb.out⟩
theorem iFK_no (n : Int) (w : World) (h : (decide (1 ≤ n) && decide (n ≤ 10)) = false) : Calls Try.prog 16 #[.int .i64 n] w fun e w' => RetT w [] false e w' := by
  have hR := Lib.hid (fun w => isKC_any n w)
  rw [h] at hR
  go_enter Try.func16, Try.ntmps16
  go_wp2_with fail
  refine (hR.out _).mono ?_; rintro e w' ⟨rfl, rfl⟩
  go_wp2_with fail
  go_ret2; exact ⟨_, rfl, OwnT.nil _ _, Below.refl _ _⟩
theorem srepB_any (b : UInt8) (n : Nat) (w : World) (hn : n ≤ 100) : Calls Try.prog 21 #[.string ⟨#[b]⟩, .int .i64 n] w fun e w' => e = .returned (.string (rp b n)) ∧ Below w.heap.size w w' := by
  have := srep_any ⟨#[b]⟩ n w (by omega) (by show 1 * n ≤ _; omega)
  rwa [repL_one] at this
theorem iFK_yes (n : Nat) (w : World) (h1 : 1 ≤ n) (h2 : n ≤ 10) : Calls Try.prog 16 #[.int .i64 n] w fun e w' => RetT w (List.replicate n (rp 63 n)) true e w' := by
  have hR := Lib.hid (fun w => isKC_any (n : Int) w)
  rw [show (decide ((1 : Int) ≤ (n : Int)) && decide ((n : Int) ≤ 10)) = true by simp; omega] at hR
  have hA := Lib.hid (fun w => srepB_any 63 n w (by omega))
  generalize rp 63 n = t at *
  go_enter Try.func16, Try.ntmps16
  go_wp2_with fail
  refine (hR.out _).mono ?_; rintro e w' ⟨rfl, rfl⟩
  go_wp2_with fail
  refine (hA.out _).mono ?_; rintro e w2 ⟨rfl, hb2⟩
  go_wp2_with fail
  refine (rep_any w2.heap.size 1 n t _ h1 (by omega) (by simp) (by simp)).mono ?_; rintro e w3 ⟨u, rfl, ho, hb3⟩
  go_wp2_with fail
  go_ret2; exact ⟨_, rfl, ho.mono (by have := hb2.size; simp; omega), bt1 (bt1 hb2 (ba1 _ _)) hb3⟩
theorem ring_cases (n : Int) : (decide (1 ≤ n) && decide (n ≤ 10)) = false ∨ ∃ k : Nat, n = (k : Int) ∧ 1 ≤ k ∧ k ≤ 10 := by
  by_cases h : 1 ≤ n ∧ n ≤ 10
  · exact .inr ⟨n.toNat, by omega, by omega, by omega⟩
  · left; rw [← Bool.not_eq_true, Bool.and_eq_true, decide_eq_true_eq, decide_eq_true_eq]; exact h
theorem FreeKeys_both (n : Int) (_ : (Lit.int .i64 n).wf = true) : ∃ (r : List ByteArray) (ok : Bool), r.length ≤ 1000 ∧
    (∀ w, Calls Try.prog 15 #[.int .i64 n] w fun e w' => RetT w r ok e w') ∧
    (∀ w, Calls Try.prog 16 #[.int .i64 n] w fun e w' => RetT w r ok e w') := by
  rcases ring_cases n with h | ⟨k, rfl, h1, h2⟩
  · exact ⟨[], false, by simp, fun w => sFK_no n w h, fun w => iFK_no n w h⟩
  · exact ⟨_, true, by simp; omega, fun w => sFK_yes k w h1 h2, fun w => iFK_yes k w h1 h2⟩
end Go.Proofs.Ythddgnimkbjadaa
