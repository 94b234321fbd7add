/- Chapter 2: the rank of mixed digits, both ways. -/
import Derived.Test.YtbgdhiieeegnjacM1
namespace Go.Proofs.Ytbgdhiieeegnjac
open Go Go.RowKit RM

/-- each digit is less than its limit -/
def mdP (xs ds : List Int) (i : Nat) : Bool := decide (0 ≤ ds.getD i 0) && decide (ds.getD i 0 < xs.getD i 0)
def mdT (xs ds : List Int) (k : Nat) : Bool := (List.range k).all (mdP xs ds)
theorem mdT_zero (xs ds : List Int) : mdT xs ds 0 = true := rfl
theorem mdT_succ (xs ds : List Int) (k : Nat) : mdT xs ds (k + 1) = (mdT xs ds k && mdP xs ds k) := by
  unfold mdT; rw [List.range_succ, List.all_append]; simp
theorem mdT_no (xs ds : List Int) (n k : Nat) (h : k < n) (hf : mdP xs ds k = false) : mdT xs ds n = false := by
  unfold mdT
  rw [← Bool.not_eq_true]; intro ht
  rw [List.all_eq_true] at ht
  rw [ht k (List.mem_range.2 h)] at hf; cases hf
theorem mdT_at {xs ds : List Int} {n : Nat} (h : mdT xs ds n = true) (k : Nat) (hk : k < n) (h1 : k < xs.length) (h2 : k < ds.length) : 0 ≤ ds[k] ∧ ds[k] < xs[k] := by
  unfold mdT at h
  rw [List.all_eq_true] at h
  have := h k (List.mem_range.2 hk)
  unfold mdP at this
  rw [getD_at ds k h2, getD_at xs k h1] at this
  simpa using this
theorem mdP_yes {xs ds : List Int} {k : Nat} (h1 : k < xs.length) (h2 : k < ds.length) (a : 0 ≤ ds[k]) (b : ds[k] < xs[k]) : mdP xs ds k = true := by
  unfold mdP; rw [getD_at ds k h2, getD_at xs k h1]; simp [a, b]
theorem mdP_no {xs ds : List Int} {k : Nat} (h1 : k < xs.length) (h2 : k < ds.length) (a : ds[k] < 0 ∨ xs[k] ≤ ds[k]) : mdP xs ds k = false := by
  unfold mdP; rw [getD_at ds k h2, getD_at xs k h1]; simp; omega

def rmB (xs ds : List Int) : Bool := lmB xs && (decide (ds.length = xs.length) && mdT xs ds ds.length)
def rmA (xs ds : List Int) : Int := if rmB xs ds then rkM xs ds else 0
theorem rm_no {xs ds : List Int} (h : rmB xs ds = false) : rmA xs ds = 0 := by unfold rmA; rw [h]; rfl
theorem rm_yes {xs ds : List Int} (h : rmB xs ds = true) : rmA xs ds = rkM xs ds := by unfold rmA; rw [h]; rfl
theorem rm_lim {xs ds : List Int} (h : lmB xs = false) : rmB xs ds = false := by unfold rmB; rw [h]; rfl
theorem rm_len {xs ds : List Int} (h : ds.length ≠ xs.length) : rmB xs ds = false := by unfold rmB; simp [h]
theorem rm_in {xs ds : List Int} (h : lmB xs = true) (hl : ds.length = xs.length) : rmB xs ds = mdT xs ds ds.length := by unfold rmB; rw [h]; simp [hl]

/-- one digit more, ahead of those that are ranked -/
theorem rk_step (xs ds : List Int) (k : Nat) (h1 : k < xs.length) (h2 : k < ds.length) :
    rkM (xs.drop k) (ds.drop k) = ds[k] * prd (xs.drop (k + 1)) + bck ds[k] (rkM (xs.drop (k + 1)) (ds.drop (k + 1))) (prd (xs.drop (k + 1))) := by
  rw [drop_step xs k h1, drop_step ds k h2, rkM_cons]
theorem rk_end (xs ds : List Int) (n : Nat) (h1 : xs.length = n) (h2 : ds.length = n) : rkM (xs.drop n) (ds.drop n) = 0 := by
  rw [List.drop_eq_nil_of_le (by omega), List.drop_eq_nil_of_le (by omega)]; rfl
theorem prd_end (xs : List Int) (n : Nat) (h1 : xs.length = n) : prd (xs.drop n) = 1 := by
  rw [List.drop_eq_nil_of_le (by omega)]; rfl
theorem rk_nums {d x O z : Int} (hd0 : 0 ≤ d) (hd : d < x) (hx : x ≤ 20) (hO1 : 1 ≤ O) (hO2 : O ≤ 25600000000) (hz0 : 0 ≤ z) (hz1 : z < O) :
    0 ≤ d * O ∧ d * O ≤ 512000000000 ∧ 0 ≤ d * O + z ∧ d * O + z < x * O := by
  have a : 0 ≤ d * O := Int.mul_nonneg hd0 (by omega)
  have b : d * O ≤ 20 * O := Int.mul_le_mul_of_nonneg_right (by omega) (by omega)
  have c : (d + 1) * O ≤ x * O := Int.mul_le_mul_of_nonneg_right (by omega) (by omega)
  rw [Int.add_mul, Int.one_mul] at c
  omega

theorem areMx_len (p q : Option Addr) (n c m c2 : Nat) (w : World) (hn : n ≤ 1048576) (hm : m ≤ 1048576) (h : m ≠ n) :
    Calls Try.prog 66 #[.slice p n c, .slice q m c2] w fun e w' => e = .returned (.bool false) ∧ w = w' := by
  have hne : ((m : Int) != (n : Int)) = true := by simp; omega
  go_enter Try.func66, Try.ntmps66
  go_wp2
  go_ret; exact ⟨rfl, rfl⟩

theorem areMx_some (xs ds : List Int) (b c b2 c2 n : Nat) (w : World) (hn : n ≤ 1048576) (hx : Hid (xs.length = n)) (hd : Hid (ds.length = n))
    (hcx : Hid (∀ i (h : i < xs.length), w.cell? ⟨b, i, none⟩ = some (.int .i64 xs[i]))) (hcd : Hid (∀ i (h : i < ds.length), w.cell? ⟨b2, i, none⟩ = some (.int .i64 ds[i]))) :
    Calls Try.prog 66 #[.slice (some ⟨b, 0, none⟩) n c, .slice (some ⟨b2, 0, none⟩) n c2] w fun e w' => e = .returned (.bool (mdT xs ds n)) ∧ w = w' := by
  have hne : ((n : Int) != (n : Int)) = false := by simp
  go_enter Try.func66, Try.ntmps66
  go_wp2_with fail
  go_loop [14] (fun i => ∃ k : Nat, k ≤ n ∧ i = .int .i64 k ∧ Hid (mdT xs ds k = true)) (fun i => n - (intOf i).toNat)
  case atStart => exact ⟨0, by omega, rfl, rfl⟩
  case round =>
    obtain ⟨k, hk, rfl, ha⟩ := hrel
    by_cases hlt : k < n
    · have h1 : k < xs.length := by rw [hx.out]; exact hlt
      have h2 : k < ds.length := by rw [hd.out]; exact hlt
      have hr1 := hcx.out k h1
      have hr2 := hcd.out k h2
      have hsu := Lib.hid (mdT_succ xs ds k)
      by_cases hin : 0 ≤ ds[k] ∧ ds[k] < xs[k]
      · have HT := Lib.hid (show mdT xs ds (k + 1) = true by rw [hsu.out, ha.out, mdP_yes h1 h2 hin.1 hin.2]; rfl)
        have hR := Lib.hid fun w => isRank_yes ds[k] xs[k] w hin.1 hin.2
        clear hin
        generalize xs[k] = x at *
        generalize ds[k] = d at *
        go_wp2_with fail
        refine (hR.out _).mono ?_; rintro e w' ⟨rfl, rfl⟩
        go_wp2_with fail
        go_round
        case rel => exact ⟨k + 1, by omega, by go_num, HT⟩
        all_goals (simp [intOf] <;> omega)
      · have hin' : ds[k] < 0 ∨ xs[k] ≤ ds[k] := by omega
        have HF := Lib.hid (mdT_no xs ds n k hlt (mdP_no h1 h2 hin'))
        have hR := Lib.hid fun w => isRank_no ds[k] xs[k] w hin'
        clear hin hin'
        generalize xs[k] = x at *
        generalize ds[k] = d at *
        go_wp2_with fail
        refine (hR.out _).mono ?_; rintro e w' ⟨rfl, rfl⟩
        go_wp2_with fail
        go_ret; exact ⟨ret_bool HF.out.symm, rfl⟩
    · obtain rfl : k = n := by omega
      go_wp2_with fail
      go_ret; exact ⟨ret_bool ha.out.symm, rfl⟩

theorem iRankM_lim (p q : Option Addr) (n c m c2 : Nat) (w : World) (hA : Hid (∀ w', w = w' → Calls Try.prog 63 #[.slice p n c] w' fun e w'' => e = .returned (.bool false) ∧ w' = w'')) :
    Calls Try.prog 33 #[.slice p n c, .slice q m c2] w fun e w' => QB0 w 0 false e w' := by
  go_enter Try.func33, Try.ntmps33
  go_wp2_with fail
  refine (hA.out _ rfl).mono ?_; rintro e w' ⟨rfl, rfl⟩
  go_wp2_with fail
  go_ret2; exact ⟨rfl, Below.refl _ _⟩

theorem iRankM_mix (p q : Option Addr) (n c m c2 : Nat) (w : World) (hA : Hid (∀ w', w = w' → Calls Try.prog 63 #[.slice p n c] w' fun e w'' => e = .returned (.bool true) ∧ w' = w''))
    (hM : Hid (∀ w', w = w' → Calls Try.prog 66 #[.slice p n c, .slice q m c2] w' fun e w'' => e = .returned (.bool false) ∧ w' = w'')) :
    Calls Try.prog 33 #[.slice p n c, .slice q m c2] w fun e w' => QB0 w 0 false e w' := by
  go_enter Try.func33, Try.ntmps33
  go_wp2_with fail
  refine (hA.out _ rfl).mono ?_; rintro e w' ⟨rfl, rfl⟩
  go_wp2_with fail
  refine (hM.out _ rfl).mono ?_; rintro e w' ⟨rfl, rfl⟩
  go_wp2_with fail
  go_ret2; exact ⟨rfl, Below.refl _ _⟩

set_option maxHeartbeats 1000000 in
theorem iRankM_yes (xs ds : List Int) (b c b2 c2 n : Nat) (w : World) (h1 : 1 ≤ n) (h2 : n ≤ 8) (hx : Hid (xs.length = n)) (hd : Hid (ds.length = n)) (hlm : Hid (lmB xs = true)) (hmd : Hid (mdT xs ds n = true))
    (hcx : Hid (∀ i (h : i < xs.length), w.cell? ⟨b, i, none⟩ = some (.int .i64 xs[i]))) (hcd : Hid (∀ i (h : i < ds.length), w.cell? ⟨b2, i, none⟩ = some (.int .i64 ds[i])))
    (hA : Hid (∀ w', w = w' → Calls Try.prog 63 #[.slice (some ⟨b, 0, none⟩) n c] w' fun e w'' => e = .returned (.bool true) ∧ w' = w''))
    (hM : Hid (∀ w', w = w' → Calls Try.prog 66 #[.slice (some ⟨b, 0, none⟩) n c, .slice (some ⟨b2, 0, none⟩) n c2] w' fun e w'' => e = .returned (.bool true) ∧ w' = w'')) :
    Calls Try.prog 33 #[.slice (some ⟨b, 0, none⟩) n c, .slice (some ⟨b2, 0, none⟩) n c2] w fun e w' => QB0 w (rkM xs ds) true e w' := by
  go_enter Try.func33, Try.ntmps33
  go_wp2_with fail
  refine (hA.out _ rfl).mono ?_; rintro e w' ⟨rfl, rfl⟩
  go_wp2_with fail
  refine (hM.out _ rfl).mono ?_; rintro e w' ⟨rfl, rfl⟩
  go_wp2_with fail
  go_loopw [6, 7, 8] (fun rr oo ii wr => ∃ (j : Nat) (i z O : Int), j ≤ n ∧ ii = .int .i64 i ∧ i = (j : Int) - 1 ∧ rr = .int .i64 z ∧ oo = .int .i64 O ∧ 0 ≤ z ∧ z < O ∧ O ≤ 25600000000 ∧ Hid (prd (xs.drop j) = O) ∧ Hid (rkM (xs.drop j) (ds.drop j) = z) ∧ Hid (∃ q, wr = w.drewN q)) (fun _ _ ii _ => (intOf ii + 1).toNat)
  case atStart => exact ⟨n, _, 0, 1, by omega, rfl, rfl, rfl, rfl, by omega, by omega, by omega, Lib.hid (prd_end xs n hx.out), Lib.hid (rk_end xs ds n hx.out hd.out), Lib.hid ⟨0, rfl⟩⟩
  case round =>
    obtain ⟨j, i, z, O, hj, rfl, hi, rfl, rfl, hz0, hz1, hO2, hO, hz, hwr⟩ := hrel
    by_cases hlt : j = 0
    · subst hlt
      obtain rfl : i = -1 := by omega
      clear hi
      have HF : Hid (rkM xs ds = z) := Lib.hid (by have := hz.out; rw [List.drop_zero, List.drop_zero] at this; exact this)
      go_wp2
      go_ret2
      rw [HF.out]; obtain ⟨q, hq⟩ := hwr.out; exact ⟨rfl, hq ▸ below_drewN (Below.refl _ _) _⟩
    · obtain ⟨k, rfl⟩ : ∃ k, j = k + 1 := ⟨j - 1, by omega⟩
      obtain rfl : i = (k : Int) := by omega
      clear hi hlt
      have hkn : k < n := by omega
      have k1 : k < xs.length := by rw [hx.out]; omega
      have k2 : k < ds.length := by rw [hd.out]; omega
      have hr1 : wr.cell? ⟨b, k, none⟩ = some (.int .i64 xs[k]) := by obtain ⟨q, hq⟩ := hwr.out; rw [hq]; exact hcx.out k k1
      have hr2 : wr.cell? ⟨b2, k, none⟩ = some (.int .i64 ds[k]) := by obtain ⟨q, hq⟩ := hwr.out; rw [hq]; exact hcd.out k k2
      obtain ⟨hl1, hl2⟩ := lm_at hlm.out k k1
      obtain ⟨hm1, hm2⟩ := mdT_at hmd.out k (by omega) k1 k2
      have hrk := Lib.hid (rk_step xs ds k k1 k2)
      have hpd := Lib.hid (prd_drop xs k k1)
      have hq := lm_prd hlm.out k
      have hbk := bck_bd (d := ds[k]) hz0 hz1
      have hB := Lib.hid fun w => back_any ds[k] z O w hm1 (by omega) hz0 hz1 (by omega)
      rw [hO.out] at hrk hpd
      rw [hz.out] at hrk
      obtain ⟨z2, hz2⟩ : ∃ z2, z2 = bck ds[k] z O := ⟨_, rfl⟩
      rw [← hz2] at hrk hbk hB
      clear hz2
      have hnum := rk_nums hm1 hm2 hl2 (show 1 ≤ O by omega) hO2 hbk.1 hbk.2
      obtain ⟨D, hD⟩ : ∃ D, D = ds[k] * O := ⟨_, rfl⟩
      obtain ⟨R, hR⟩ : ∃ R, R = xs[k] * O := ⟨_, rfl⟩
      rw [← hD] at hnum hrk
      rw [← hR] at hnum
      rw [hpd.out, ← hR] at hq
      have hq2 : Hid (prd (xs.drop k) = R) := Lib.hid (by rw [hpd.out, hR])
      have w1 : IntKind.i64.wrap (ds[k] * O) = D := by rw [← hD, IntKind.wrap_i64]; omega
      have w2 : IntKind.i64.wrap (O * xs[k]) = R := by rw [Int.mul_comm, ← hR, IntKind.wrap_i64]; omega
      have hB2 : Hid (∀ w, Calls Try.prog 65 #[.int .i64 ds[k], .int .i64 z, .int .i64 O] w fun e w' => e = .returned (.int .i64 z2) ∧ w' = w) := Lib.hid fun w => (hB.out w).mono fun _ _ ⟨a, b⟩ => ⟨a, b.symm⟩
      obtain ⟨n1, n2, n3, n4⟩ := hnum
      obtain ⟨g1, g2⟩ := hbk
      obtain ⟨g3, g4⟩ := hq
      clear hD hR hB
      generalize xs[k] = x at *
      generalize ds[k] = d at *
      go_wp2_with fail
      go_quiet ((go_at_call 65; refine Calls.quiet_of_same (hB2.out _)))
      go_wp2_with fail
      go_roundw
      case rel => exact ⟨k, _, D + z2, R, by omega, rfl, rfl, by go_num, rfl, n3, n4, g4, hq2, hrk, Lib.hid (by obtain ⟨q, hq⟩ := hwr.out; exact ⟨q + nq, by rw [hq]; exact World.drewN_drewN _ _ _⟩)⟩
      all_goals (simp [intOf] <;> omega)
end Go.Proofs.Ytbgdhiieeegnjac
