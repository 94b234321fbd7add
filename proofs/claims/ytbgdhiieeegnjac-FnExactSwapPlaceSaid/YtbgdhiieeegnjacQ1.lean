/- Chapter 2: orders by swaps: how many lists, where a number is put in; the model's list. -/
import Derived.Test.YtbgdhiieeegnjacK6
import Derived.Test.YtbgdhiieeegnjacIns
import Derived.Laws.AppendOwnNone
import Derived.Deep.RegionWith
namespace Go.Proofs.Ytbgdhiieeegnjac
open Go Go.RowKit RM

theorem isSw_yes (n : Int) (w : World) (h1 : 1 ≤ n) (h2 : n ≤ 10) : Calls Try.prog 52 #[.int .i64 n] w fun e w' => e = .returned (.bool true) ∧ w = w' := by
  go_enter Try.func52, Try.ntmps52
  go_wp2
  go_ret; exact ⟨rfl, rfl⟩

theorem isSw_no (n : Int) (w : World) (h : n < 1 ∨ 10 < n) : Calls Try.prog 52 #[.int .i64 n] w fun e w' => e = .returned (.bool false) ∧ w = w' := by
  by_cases h1 : n < 1
  · clear h
    go_enter Try.func52, Try.ntmps52
    go_wp2
    go_ret; exact ⟨rfl, rfl⟩
  · have h2 : 10 < n := by omega
    clear h
    go_enter Try.func52, Try.ntmps52
    go_wp2
    go_ret; exact ⟨ret_bool (by first | rfl | (simp; done) | (simp; omega)), rfl⟩

theorem fac_wrap (k : Nat) (hk : k < 10) : IntKind.i64.wrap (((fac k : Nat) : Int) * ((k : Int) + 1)) = ((fac (k + 1) : Nat) : Int) := by
  have h := (fac_le (s := k + 1) (by omega)).2
  rw [show ((k : Int) + 1) = ((k + 1 : Nat) : Int) by omega, ← Int.natCast_mul, ← fac_succ, IntKind.wrap_i64]; omega

theorem orders_any (s : Nat) (w : World) (hs : s ≤ 10) : Calls Try.prog 53 #[.int .i64 s] w fun e w' => e = .returned (.int .i64 ((fac s : Nat) : Int)) ∧ w = w' := by
  go_enter Try.func53, Try.ntmps53
  go_wp2_with fail
  go_loop [3, 6] (fun l i => ∃ k m : Nat, k ≤ s ∧ i = .int .i64 k ∧ l = .int .i64 m ∧ Hid (fac k = m)) (fun _ i => s - (intOf i).toNat)
  case atStart => exact ⟨0, 1, by omega, rfl, rfl, rfl⟩
  case round =>
    obtain ⟨k, m, hk, rfl, rfl, hm⟩ := hrel
    by_cases hlt : k < s
    · have e1 := fac_wrap k (by omega)
      rw [hm.out] at e1
      obtain ⟨m2, hm2⟩ : ∃ m2, m2 = fac (k + 1) := ⟨_, rfl⟩
      rw [← hm2] at e1
      have HM := Lib.hid hm2.symm
      clear hm2
      go_wp2
      go_round
      case rel => exact ⟨k + 1, m2, by omega, by go_num, rfl, HM⟩
      all_goals (simp [intOf] <;> omega)
    · obtain rfl : k = s := by omega
      go_wp2
      go_ret; exact ⟨ret_int (by rw [hm.out]), rfl⟩

theorem nuLists_any (s : Nat) (w : World) (h1 : 1 ≤ s) (hs : s ≤ 10) : Calls Try.prog 50 #[.int .i64 s] w fun e w' => e = .returned (.int .i64 ((fac s : Nat) : Int)) ∧ w = w' := by
  go_enter Try.func50, Try.ntmps50
  go_wp2_with fail
  go_loop [3, 4] (fun l i => ∃ (k m : Nat) (z : Int), k ≤ s ∧ 1 ≤ k ∧ i = .int .i64 z ∧ z = (k : Int) + 1 ∧ l = .int .i64 m ∧ Hid (fac k = m)) (fun _ i => s + 1 - (intOf i).toNat)
  case atStart => exact ⟨1, 1, 2, h1, by omega, rfl, rfl, rfl, rfl⟩
  case round =>
    obtain ⟨k, m, z, hk, hk1, rfl, hz, rfl, hm⟩ := hrel
    by_cases hlt : k < s
    · have e1 := fac_wrap k (by omega)
      rw [hm.out, ← hz] at e1
      obtain ⟨m2, hm2⟩ : ∃ m2, m2 = fac (k + 1) := ⟨_, rfl⟩
      rw [← hm2] at e1
      have HM := Lib.hid hm2.symm
      have hz1 : z ≤ (s : Int) := by omega
      have hz0 : 2 ≤ z := by omega
      have HZ := Lib.hid hz
      clear hm2 hz
      go_wp2
      go_round
      case rel => exact ⟨k + 1, m2, _, by omega, by omega, rfl, by have := HZ.out; omega, rfl, HM⟩
      all_goals (have := HZ.out; simp [intOf] <;> omega)
    · obtain rfl : k = s := by omega
      have hz1 : (k : Int) < z := by omega
      clear hz
      go_wp2
      go_ret; exact ⟨ret_int (by rw [hm.out]), rfl⟩

theorem putIn_any (r t p : Int) (w : World) (hr : 0 ≤ r) (hr2 : r ≤ 1000000000) (ht : 0 ≤ t) (hp : t < p) (hp2 : p ≤ 1000) : Calls Try.prog 58 #[.int .i64 p, .int .i64 r, .int .i64 t] w fun e w' => e = .returned (.int .i64 (bck (r + 1) t p)) ∧ w = w' := by
  have hB := Lib.hid fun w => back_any (r + 1) t p w (by omega) (by omega) ht hp (by omega)
  generalize bck (r + 1) t p = z at *
  go_enter Try.func58, Try.ntmps58
  go_wp2_with fail
  refine (hB.out _).mono ?_; rintro e w' ⟨rfl, rfl⟩
  go_wp2_with fail
  go_ret; exact ⟨rfl, rfl⟩
theorem bck_put (s r : Nat) : bck (((r / (s + 1) : Nat) : Int) + 1) ((r % (s + 1) : Nat) : Int) ((s : Int) + 1) = ((putAt s r : Nat) : Int) := by
  have h := Nat.mod_lt r (show 0 < s + 1 by omega)
  unfold bck putAt
  generalize r % (s + 1) = t at *
  generalize r / (s + 1) = q at *
  by_cases e : q % 2 = 0
  · rw [if_pos e, if_pos (by omega)]; omega
  · rw [if_neg e, if_neg (by omega)]
theorem swL_ins (s r : Nat) : swL (s + 1) r = insI (swL s (r / (s + 1))) (putAt s r) (s : Int) := rfl

/-- a call hands back integers in memory of its own -/
def RetW (w : World) (xs : List Int) (e : Ending) (w' : World) : Prop := ∃ v, e = .returned v ∧ OwnI w' w.heap.size v xs ∧ Below w.heap.size w w'

theorem swapped_zero (r : Int) (w : World) : Calls Try.prog 54 #[.int .i64 0, .int .i64 r] w fun e w' => RetW w [] e w' := by
  go_enter Try.func54, Try.ntmps54
  go_wp2
  go_ret; exact ⟨_, rfl, OwnI.nil _ _, Below.refl _ _⟩

theorem swapped_step (s r q t : Nat) (xs : List Int) (w : World) (hs : s < 10) (hr : r ≤ 4000000) (hq : (r : Int) / ((s : Int) + 1) = (q : Int)) (ht : (r : Int) % ((s : Int) + 1) = (t : Int)) (hq2 : q ≤ 4000000) (ht2 : t < s + 1) (p : Nat) (hp : p ≤ s) (hxl : Hid (xs.length = s))
    (hI : Hid (∀ w, Calls Try.prog 54 #[.int .i64 s, .int .i64 q] w fun e w' => RetW w xs e w'))
    (hP : Hid (∀ w, Calls Try.prog 58 #[.int .i64 ((s : Int) + 1), .int .i64 q, .int .i64 t] w fun e w' => e = .returned (.int .i64 p) ∧ w = w')) :
    Calls Try.prog 54 #[.int .i64 ((s : Int) + 1), .int .i64 r] w fun e w' => RetW w (insI xs p (s : Int)) e w' := by
  have hz : ((s : Int) + 1 == 0) = false := by simp; omega
  have hq' : (r : Int).tdiv ((s : Int) + 1) = (q : Int) := by rw [Int.tdiv_eq_ediv_of_nonneg (by omega)]; exact hq
  have ht' : (r : Int).tmod ((s : Int) + 1) = (t : Int) := by rw [Int.tmod_eq_emod_of_nonneg (by omega)]; exact ht
  have e1 : IntKind.i64.wrap ((s : Int) + 1 - 1) = (s : Int) := by rw [IntKind.wrap_i64]; omega
  have hz2 : ¬ ((s : Int) + 1 = 0) := by omega
  have e2 : IntKind.i64.wrap (q : Int) = (q : Int) := by rw [IntKind.wrap_i64]; omega
  have e3 : IntKind.i64.wrap (s : Int) = (s : Int) := by rw [IntKind.wrap_i64]; omega
  go_enter Try.func54, Try.ntmps54
  go_wp2_with fail
  refine (hI.out _).mono ?_; rintro e w1 ⟨v, rfl, ho, hb⟩
  have ho := Lib.hid ho
  have hb := Lib.hid hb
  go_wp2_with fail
  have hIns : Hid (Calls Try.prog 70 #[v, .int .i64 p, .slice (some ⟨w1.heap.size, 0, none⟩) 1 1] (w1.alloc (.cells #[.int .i64 (s : Int)] 3)).drew fun e w' => RetIns w.heap.size (w1.alloc (.cells #[.int .i64 (s : Int)] 3)).drew v.ownBlock (insI xs p (s : Int)) e w') :=
    Lib.hid (insert_own v xs w.heap.size p w1.heap.size (s : Int) (w1.alloc (.cells #[.int .i64 (s : Int)] 3)).drew (by rw [hxl.out]; omega) (by rw [hxl.out]; exact hp) (by have := hb.out.size; simp; omega) (heap_atA w1 _) (by intro e; have := (ho.out.lt _ e).2; omega) ((ho.out.alloc _).drewN 1))
  go_region_with (first | (go_at_call 58; ((with_reducible refine (hP.out _).mono ?_); rintro e w' ⟨rfl, rfl⟩)) | (go_at_call 70; ((with_reducible refine hIns.out.mono ?_); rintro e w2 ⟨v2, rfl, ho2, hg2⟩)))
  all_goals
    have ho2 := Lib.hid ho2
    have hb2 := Lib.hid (bel_own ((hb.out.alloc hb.out.size _).drew) ((ho.out.alloc _).drewN 1) hg2 (by have := hb.out.size; simp; omega))
    clear hg2
    go_wp2_with fail
    go_ret; exact ⟨_, rfl, ho2.out, hb2.out⟩

theorem swapped_any (s : Nat) : ∀ (r : Nat) (w : World), s ≤ 10 → r ≤ 4000000 → Calls Try.prog 54 #[.int .i64 s, .int .i64 r] w fun e w' => RetW w (swL s r) e w' := by
  induction s with
  | zero => intro r w _ _; exact swapped_zero _ w
  | succ s ih =>
    intro r w hs hr
    have hq := Nat.div_le_self r (s + 1)
    have hm := Nat.mod_lt r (show 0 < s + 1 by omega)
    rw [swL_ins, show ((s + 1 : Nat) : Int) = (s : Int) + 1 from by omega]
    refine swapped_step s r (r / (s + 1)) (r % (s + 1)) _ w (by omega) hr ?_ ?_ (by omega) hm (putAt s r) (putAt_le s r) (Lib.hid (swL_len s _)) (Lib.hid fun w => ih _ w (by omega) (by omega)) (Lib.hid fun w => ?_)
    · rw [Int.natCast_ediv]; congr 1
    · rw [Int.natCast_emod]; congr 1
    · rw [← bck_put s r]
      generalize r / (s + 1) = q at *
      generalize r % (s + 1) = t at *
      exact putIn_any _ _ _ w (by omega) (by omega) (by omega) (by omega) (by omega)
end Go.Proofs.Ytbgdhiieeegnjac
