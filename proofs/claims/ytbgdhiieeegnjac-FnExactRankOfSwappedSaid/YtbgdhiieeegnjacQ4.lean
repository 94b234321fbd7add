/- Chapter 2: the rank in the order by swaps: the program's rank. -/
import Derived.Test.YtbgdhiieeegnjacQ1
import Derived.Test.YtbgdhiieeegnjacQ3
import Derived.Test.YtbgdhiieeegnjacShelf
namespace Go.Proofs.Ytbgdhiieeegnjac
open Go Go.RowKit RM

/-- which lists have a rank, and which one -/
def swB (l : List Int) : Bool := decide (1 ≤ l.length) && decide (l.length ≤ 10) && perB l
def swR (l : List Int) : Int := if swB l then ((rkS l l.length : Nat) : Int) else 0
theorem sw_len {l : List Int} (h : l.length < 1 ∨ 10 < l.length) : swB l = false ∧ swR l = 0 := by
  have e : swB l = false := by
    unfold swB
    have : (decide (1 ≤ l.length) && decide (l.length ≤ 10)) = false := by simp; omega
    rw [this]; rfl
  exact ⟨e, by unfold swR; rw [e]; rfl⟩
theorem sw_no {l : List Int} (h : perB l = false) : swB l = false ∧ swR l = 0 := by
  have e : swB l = false := by unfold swB; rw [h]; simp
  exact ⟨e, by unfold swR; rw [e]; rfl⟩
theorem sw_yes {l : List Int} (h1 : 1 ≤ l.length) (h2 : l.length ≤ 10) (h : perB l = true) : swB l = true ∧ swR l = ((rkS l l.length : Nat) : Int) := by
  have e : swB l = true := by unfold swB; rw [h]; simp [h1, h2]
  exact ⟨e, by unfold swR; rw [e]; rfl⟩

theorem has_no {xs : List Int} {k : Int} (h : xs.contains k = false) : k ∉ xs := by
  intro g
  have : xs.contains k = true := by simpa using g
  rw [h] at this; cases this

theorem has_int (xs : List Int) (b cap n : Nat) (k : Int) (w : World) (hn : n ≤ 1000) (hx : Hid (xs.length = n)) (hc : Hid (∀ i (h : i < xs.length), w.cell? ⟨b, i, none⟩ = some (.int .i64 xs[i]))) :
    Calls Try.prog 71 #[.slice (some ⟨b, 0, none⟩) n cap, .int .i64 k] w fun e w' => e = .returned (.bool (xs.contains k)) ∧ w' = w := by
  have h := contains_int b 0 n cap xs k w (by rw [hx.out]; exact Nat.le_refl _) (by omega) (fun j hj => by
    rw [Nat.zero_add, hc.out j hj, List.getD_eq_getElem?_getD, List.getElem?_eq_getElem hj]; rfl)
  rw [List.take_of_length_le (by rw [hx.out]; exact Nat.le_refl _)] at h
  exact h

theorem each_some (xs : List Int) (b cap n : Nat) (w : World) (hn : n ≤ 1000) (hx : Hid (xs.length = n)) (hc : Hid (∀ i (h : i < xs.length), w.cell? ⟨b, i, none⟩ = some (.int .i64 xs[i]))) :
    Calls Try.prog 57 #[.slice (some ⟨b, 0, none⟩) n cap] w fun e w' => e = .returned (.bool (perB xs)) ∧ w = w' := by
  go_enter Try.func57, Try.ntmps57
  go_wp2_with fail
  go_loop [6] (fun i => ∃ k : Nat, k ≤ n ∧ i = .int .i64 k ∧ Hid (∀ j : Nat, j < k → (j : Int) ∈ xs)) (fun i => n - (intOf i).toNat)
  case atStart => exact ⟨0, by omega, rfl, Lib.hid (fun j h => by omega)⟩
  case round =>
    obtain ⟨k, hk, rfl, ha⟩ := hrel
    by_cases hlt : k < n
    · have hH := Lib.hid (has_int xs b cap n (k : Int) w hn hx hc)
      cases hb : xs.contains (k : Int)
      · have HF : Hid (perB xs = false) := Lib.hid (per_no k (by rw [hx.out]; exact hlt) (has_no hb))
        rw [hb] at hH
        clear hb
        go_wp2_with fail
        refine hH.out.mono ?_; rintro e w' ⟨rfl, rfl⟩
        go_wp2_with fail
        go_ret; exact ⟨ret_bool HF.out.symm, rfl⟩
      · have HA : Hid (∀ j : Nat, j < k + 1 → (j : Int) ∈ xs) := Lib.hid (fun j h => by
          rcases Nat.lt_or_ge j k with g | g
          · exact ha.out j g
          · obtain rfl : j = k := by omega
            simpa using hb)
        rw [hb] at hH
        clear hb
        go_wp2_with fail
        refine hH.out.mono ?_; rintro e w' ⟨rfl, rfl⟩
        go_wp2_with fail
        go_round
        case rel => exact ⟨k + 1, by omega, by go_num, HA⟩
        all_goals (simp [intOf] <;> omega)
    · have HF : Hid (perB xs = true) := Lib.hid (per_yes (fun j h => ha.out j (by rw [hx.out] at h; omega)))
      go_wp2_with fail
      go_ret; exact ⟨ret_bool HF.out.symm, rfl⟩

theorem iRankS2_len (p : Option Addr) (n cap : Nat) (w : World) (h : n < 1 ∨ 10 < n) (hn : n ≤ 1048576) :
    Calls Try.prog 27 #[.slice p n cap] w fun e w' => QB0 w 0 false e w' := by
  have hS := Lib.hid fun w => isSw_no (n : Int) w (by omega)
  clear h
  go_enter Try.func27, Try.ntmps27
  go_wp2_with fail
  refine (hS.out _).mono ?_; rintro e w' ⟨rfl, rfl⟩
  go_wp2_with fail
  go_ret2; exact ⟨rfl, Below.refl _ _⟩

theorem iRankS2_no (xs : List Int) (b cap n : Nat) (w : World) (h1 : 1 ≤ n) (h2 : n ≤ 10) (hx : Hid (xs.length = n)) (hp : Hid (perB xs = false)) (hc : Hid (∀ i (h : i < xs.length), w.cell? ⟨b, i, none⟩ = some (.int .i64 xs[i]))) :
    Calls Try.prog 27 #[.slice (some ⟨b, 0, none⟩) n cap] w fun e w' => QB0 w 0 false e w' := by
  have hS := Lib.hid fun w => isSw_yes (n : Int) w (by omega) (by omega)
  have hE := Lib.hid (each_some xs b cap n w (by omega) hx hc)
  rw [hp.out] at hE
  go_enter Try.func27, Try.ntmps27
  go_wp2_with fail
  refine (hS.out _).mono ?_; rintro e w' ⟨rfl, rfl⟩
  go_wp2_with fail
  refine hE.out.mono ?_; rintro e w' ⟨rfl, rfl⟩
  go_wp2_with fail
  go_ret2; exact ⟨rfl, Below.refl _ _⟩

theorem rks_turn (l : List Int) (k : Nat) (R P : Nat) (hR : rkS l k = R) (hP : plc (k : Int) l = P) (hPk : P ≤ k) :
    ∃ T : Nat, T ≤ k ∧ bck ((R : Int) + 1) (P : Int) ((k : Int) + 1) = (T : Int) ∧ rkS l (k + 1) = R * (k + 1) + T := by
  rw [rkS_succ, hR, hP]
  by_cases e : R % 2 = 0
  · refine ⟨k - P, by omega, ?_, by rw [if_pos e]⟩
    unfold bck; rw [if_pos (by omega)]; omega
  · refine ⟨P, hPk, ?_, by rw [if_neg e]⟩
    unfold bck; rw [if_neg (by omega)]

theorem iRankS2_yes (xs : List Int) (b cap n : Nat) (w : World) (h1 : 1 ≤ n) (h2 : n ≤ 10) (hx : Hid (xs.length = n)) (hp : Hid (perB xs = true)) (hc : Hid (∀ i (h : i < xs.length), w.cell? ⟨b, i, none⟩ = some (.int .i64 xs[i]))) :
    Calls Try.prog 27 #[.slice (some ⟨b, 0, none⟩) n cap] w fun e w' => QB0 w ((rkS xs n : Nat) : Int) true e w' := by
  have hS := Lib.hid fun w => isSw_yes (n : Int) w (by omega) (by omega)
  have hE := Lib.hid (each_some xs b cap n w (by omega) hx hc)
  rw [hp.out] at hE
  go_enter Try.func27, Try.ntmps27
  go_wp2_with fail
  refine (hS.out _).mono ?_; rintro e w' ⟨rfl, rfl⟩
  go_wp2_with fail
  refine hE.out.mono ?_; rintro e w' ⟨rfl, rfl⟩
  go_wp2_with fail
  clear hE
  go_loop [4, 18] (fun l i => ∃ k R : Nat, k ≤ n ∧ i = .int .i64 k ∧ l = .int .i64 R ∧ R ≤ 3628800 ∧ Hid (rkS xs k = R)) (fun _ i => n - (intOf i).toNat)
  case atStart => exact ⟨0, 0, by omega, rfl, rfl, by omega, rfl⟩
  case round =>
    obtain ⟨k, R, hk, rfl, rfl, hR9, hR⟩ := hrel
    by_cases hlt : k < n
    · obtain ⟨P, hP⟩ : ∃ P, P = plc (k : Int) xs := ⟨_, rfl⟩
      have hPk : P ≤ k := by rw [hP]; exact plc_le hp.out k (by rw [hx.out]; omega)
      have hPl := place_any xs b cap n (k : Int) w (by omega) hx (Lib.hid (per_mem hp.out k (by rw [hx.out]; exact hlt))) hc
      rw [← hP] at hPl
      have hPl := Lib.hid hPl
      obtain ⟨T, hT, hbk, hnx⟩ := rks_turn xs k R P hR.out hP.symm hPk
      have hPI := putIn_any (R : Int) (P : Int) ((k : Int) + 1) w (by omega) (by omega) (by omega) (by omega) (by omega)
      rw [hbk] at hPI
      have hPI := Lib.hid hPI
      obtain ⟨R2, hR2⟩ : ∃ R2, R2 = R * (k + 1) + T := ⟨_, rfl⟩
      rw [← hR2] at hnx
      have hb9 : R2 ≤ 3628800 := by
        have a := rkS_lt hp.out (k + 1) (by rw [hx.out]; omega)
        have b := (fac_le (s := k + 1) (by omega)).2
        omega
      have HN := Lib.hid hnx
      obtain ⟨M, hM⟩ : ∃ M, M = R * (k + 1) := ⟨_, rfl⟩
      rw [← hM] at hR2
      have hM2 : (R : Int) * ((k : Int) + 1) = (M : Int) := by rw [hM]; simp
      have e1 : IntKind.i64.wrap ((R : Int) * ((k : Int) + 1)) = (M : Int) := by rw [hM2, IntKind.wrap_i64]; omega
      have e2 : (M : Int) + (T : Int) = (R2 : Int) := by omega
      have hM9 : M ≤ 3628800 := by omega
      have hE2 := Lib.hid e2
      clear e2 hR2
      clear hM hM2 hP hbk hnx
      go_wp2_with fail
      refine hPl.out.mono ?_; rintro e w' ⟨rfl, rfl⟩
      go_wp2_with fail
      refine hPI.out.mono ?_; rintro e w' ⟨rfl, rfl⟩
      go_wp2_with fail
      go_round
      case rel => exact ⟨k + 1, R2, by omega, by go_num, by rw [hE2.out], hb9, HN⟩
      all_goals (simp [intOf] <;> omega)
    · obtain rfl : k = n := by omega
      go_wp2
      rw [hR.out]
      go_ret2; exact ⟨rfl, Below.refl _ _⟩
end Go.Proofs.Ytbgdhiieeegnjac
