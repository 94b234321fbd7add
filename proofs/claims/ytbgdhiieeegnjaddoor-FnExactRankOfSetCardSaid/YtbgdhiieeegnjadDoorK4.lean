/- Chapter 2: sets as lists, ranks of choices; both ways. -/
import Derived.Test.YtbgdhiieeegnjadDoorK3
import Derived.Test.YtbgdhiieeegnjadDoorArgs
namespace Go.Proofs.YtbgdhiieeegnjadDoor
open Go Go.RowKit RM

/-- strictly increasing numbers below a size that is one -/
def setB (n : Int) (l : List Int) : Bool := decide (1 ≤ n) && decide (n ≤ 20) && risF n 0 l
theorem setB_size {n : Int} (l : List Int) (h : n < 1 ∨ 20 < n) : setB n l = false := by
  have : (decide (1 ≤ n) && decide (n ≤ 20)) = false := by simp; omega
  unfold setB; rw [this]; rfl
theorem setB_in {n : Int} (l : List Int) (h1 : 1 ≤ n) (h2 : n ≤ 20) : setB n l = risF n 0 l := by
  have : (decide (1 ≤ n) && decide (n ≤ 20)) = true := by simp; omega
  unfold setB; rw [this]; rfl

theorem isSet_size (n : Int) (p : Option Addr) (len cap : Nat) (w : World) (h : n < 1 ∨ 20 < n) :
    Calls Tryd.prog 11 #[.int .i64 n, .slice p len cap] w fun e w' => e = .returned (.bool false) ∧ w = w' := by
  have hS := Lib.hid fun w => isSize_no n w h
  clear h
  go_enter Tryd.func11, Tryd.ntmps11
  go_wp2_with fail
  refine (hS.out _).mono ?_; rintro e w' ⟨rfl, rfl⟩
  go_wp2_with fail
  go_ret; exact ⟨rfl, rfl⟩

theorem isSet_nil (n : Int) (p : Option Addr) (cap : Nat) (w : World) (h1 : 1 ≤ n) (h2 : n ≤ 20) :
    Calls Tryd.prog 11 #[.int .i64 n, .slice p 0 cap] w fun e w' => e = .returned (.bool true) ∧ w = w' := by
  have hS := Lib.hid fun w => isSize_yes n w h1 h2
  go_enter Tryd.func11, Tryd.ntmps11
  go_wp2_with fail
  refine (hS.out _).mono ?_; rintro e w' ⟨rfl, rfl⟩
  go_wp2_with fail
  go_loop [5, 13] (fun b i => i = .int .i64 0 ∧ b = .int .i64 0) (fun _ _ => 0)
  case atStart => exact ⟨rfl, rfl⟩
  case round =>
    obtain ⟨rfl, rfl⟩ := hrel
    go_wp2
    go_ret; exact ⟨rfl, rfl⟩

theorem isSet_some (n : Int) (xs : List Int) (b cap len : Nat) (w : World) (h1 : 1 ≤ n) (h2 : n ≤ 20) (hn : len ≤ 2000000) (hx : Hid (xs.length = len))
    (hc : Hid (∀ i (h : i < xs.length), w.cell? ⟨b, i, none⟩ = some (.int .i64 xs[i]))) :
    Calls Tryd.prog 11 #[.int .i64 n, .slice (some ⟨b, 0, none⟩) len cap] w fun e w' => e = .returned (.bool (risF n 0 xs)) ∧ w = w' := by
  have hS := Lib.hid fun w => isSize_yes n w h1 h2
  go_enter Tryd.func11, Tryd.ntmps11
  go_wp2_with fail
  refine (hS.out _).mono ?_; rintro e w' ⟨rfl, rfl⟩
  go_wp2_with fail
  go_loop [5, 13] (fun l i => ∃ (k : Nat) (z : Int), k ≤ len ∧ i = .int .i64 k ∧ l = .int .i64 z ∧ 0 ≤ z ∧ z ≤ 20 ∧ Hid (risF n 0 xs = risF n z (xs.drop k))) (fun _ i => len - (intOf i).toNat)
  case atStart => exact ⟨0, 0, by omega, rfl, rfl, by omega, by omega, rfl⟩
  case round =>
    obtain ⟨k, z, hk, rfl, rfl, hz0, hz1, hr⟩ := hrel
    by_cases hlt : k < len
    · have hkx : k < xs.length := by rw [hx.out]; exact hlt
      have hrd := hc.out k hkx
      have hds := Lib.hid (drop_step xs k hkx)
      rcases Int.lt_or_le xs[k] z with hb | hb
      · have HF := Lib.hid (show risF n 0 xs = false by rw [hr.out, hds.out]; exact risF_no _ _ _ _ (Or.inl hb))
        generalize xs[k] = y at *
        go_wp2
        go_ret; exact ⟨ret_bool HF.out.symm, rfl⟩
      · rcases Int.lt_or_le xs[k] n with hb2 | hb2
        · have HT := Lib.hid (show risF n 0 xs = risF n (xs[k] + 1) (xs.drop (k + 1)) by rw [hr.out, hds.out]; exact risF_yes _ _ _ _ hb hb2)
          generalize xs[k] = y at *
          go_wp2
          go_round
          case rel => exact ⟨k + 1, y + 1, by omega, by go_num, rfl, by omega, by omega, HT⟩
          all_goals (simp [intOf] <;> omega)
        · have HF := Lib.hid (show risF n 0 xs = false by rw [hr.out, hds.out]; exact risF_no _ _ _ _ (Or.inr hb2))
          generalize xs[k] = y at *
          go_wp2
          go_ret; exact ⟨ret_bool HF.out.symm, rfl⟩
    · have HF : Hid (risF n 0 xs = true) := Lib.hid (by
        rw [hr.out, List.drop_eq_nil_of_le (by rw [hx.out]; omega)]; rfl)
      go_wp2
      go_ret; exact ⟨ret_bool HF.out.symm, rfl⟩

theorem isSet_any (n : Int) (v : Value) (xs : List Int) (B : Nat) (w : World) (hn : xs.length ≤ 2000000) (h : OwnI w B v xs) :
    Calls Tryd.prog 11 #[.int .i64 n, v] w fun e w' => e = .returned (.bool (setB n xs)) ∧ w = w' := by
  by_cases hs : n < 1 ∨ 20 < n
  · rw [setB_size xs hs]
    rcases h.form with ⟨rfl, rfl⟩ | ⟨g, cap, rfl, _, _, hc, _, _⟩
    · exact isSet_size n _ _ _ w hs
    · exact isSet_size n _ _ _ w hs
  · rw [setB_in xs (by omega) (by omega)]
    rcases h.form with ⟨rfl, rfl⟩ | ⟨g, cap, rfl, _, _, hc, _, _⟩
    · exact isSet_nil n _ _ w (by omega) (by omega)
    · exact isSet_some n xs g cap _ w (by omega) (by omega) hn (Lib.hid rfl) (Lib.hid hc)

theorem rising_nil (n : Int) (p : Option Addr) (cap : Nat) (w : World) :
    Calls Tryd.prog 9 #[.slice p 0 cap, .int .i64 0, .int .i64 n] w fun e w' => e = .returned (.bool true) ∧ ∃ q, w' = w.drewN q := by
  go_enter Tryd.func9, Tryd.ntmps9
  go_wp2_with fail
  go_loop [11] (fun i => i = .int .i64 0) (fun _ => 0)
  case atStart => rfl
  case round =>
    obtain rfl := hrel
    go_wp2
    go_ret; exact ⟨rfl, 0, rfl⟩

/-- what comes ahead of the place k, and one more: 0 at the start -/
def prevI (xs : List Int) (k : Nat) : Int := if k = 0 then 0 else xs.getD (k - 1) 0 + 1
theorem prevI_zero (xs : List Int) : prevI xs 0 = 0 := rfl
theorem prevI_succ (xs : List Int) (k : Nat) (h : k < xs.length) : prevI xs (k + 1) = xs[k] + 1 := by
  unfold prevI; rw [if_neg (by omega), Nat.add_sub_cancel, getD_at xs k h]

theorem rising_some (n : Int) (xs : List Int) (b cap len : Nat) (w : World) (h1 : 1 ≤ n) (h2 : n ≤ 20) (hn : len ≤ 2000000) (hx : Hid (xs.length = len))
    (hc : Hid (∀ i (h : i < xs.length), w.cell? ⟨b, i, none⟩ = some (.int .i64 xs[i]))) :
    Calls Tryd.prog 9 #[.slice (some ⟨b, 0, none⟩) len cap, .int .i64 0, .int .i64 (n - 1)] w fun e w' => e = .returned (.bool (risF n 0 xs)) ∧ ∃ q, w' = w.drewN q := by
  go_enter Tryd.func9, Tryd.ntmps9
  go_wp2_with fail
  go_loop [11] (fun i => ∃ k : Nat, k ≤ len ∧ i = .int .i64 k ∧ 0 ≤ prevI xs k ∧ Hid (risF n 0 xs = risF n (prevI xs k) (xs.drop k))) (fun i => len - (intOf i).toNat)
  case atStart => exact ⟨0, by omega, rfl, by rw [prevI_zero]; omega, by rw [prevI_zero]; rfl⟩
  case round =>
    obtain ⟨k, hk, rfl, hz0, hr⟩ := hrel
    by_cases hlt : k < len
    · have hkx : k < xs.length := by rw [hx.out]; exact hlt
      have hrd := hc.out k hkx
      have hds := Lib.hid (drop_step xs k hkx)
      have hps := Lib.hid (prevI_succ xs k hkx)
      by_cases hin : 0 ≤ xs[k] ∧ xs[k] < n
      · obtain ⟨hi1, hi2⟩ := hin
        cases k with
        | zero =>
          have HT := Lib.hid (show risF n 0 xs = risF n (prevI xs 1) (xs.drop 1) by rw [hr.out, hds.out, hps.out, prevI_zero]; exact risF_yes _ _ _ _ hi1 hi2)
          have hpz := Lib.hid (show 0 ≤ prevI xs 1 by rw [hps.out]; omega)
          clear hz0
          generalize xs[0] = y at *
          go_wp2_with fail
          refine (l1In_yes _ _ _ _ hi1 (by omega)).mono ?_; rintro e w' ⟨rfl, rfl⟩
          go_wp2_with fail
          go_round
          case rel => exact ⟨1, by omega, by go_num, hpz.out, HT⟩
          all_goals (simp [intOf] <;> omega)
        | succ j =>
          have hjx : j < xs.length := by omega
          have hrd2 := hc.out j hjx
          have hpj := prevI_succ xs j hjx
          rw [hpj] at hz0 hr
          have HPZ := Lib.hid (show 0 ≤ prevI xs (j + 1 + 1) by rw [hps.out]; omega)
          clear hpj
          rcases Int.lt_or_le xs[j] xs[j + 1] with hb | hb
          · have HT := Lib.hid (show risF n 0 xs = risF n (prevI xs (j + 1 + 1)) (xs.drop (j + 1 + 1)) by rw [hr.out, hds.out, hps.out]; exact risF_yes _ _ _ _ (by omega) hi2)
            generalize xs[j + 1] = y at *
            generalize xs[j] = x at *
            go_wp2_with fail
            refine (l1In_yes _ _ _ _ hi1 (by omega)).mono ?_; rintro e w' ⟨rfl, rfl⟩
            go_wp2_with fail
            go_round
            case rel => exact ⟨j + 1 + 1, by omega, by go_num, HPZ.out, HT⟩
            all_goals (simp [intOf] <;> omega)
          · have HF := Lib.hid (show risF n 0 xs = false by rw [hr.out, hds.out]; exact risF_no _ _ _ _ (Or.inl (by omega)))
            generalize xs[j + 1] = y at *
            generalize xs[j] = x at *
            go_wp2_with fail
            refine (l1In_yes _ _ _ _ hi1 (by omega)).mono ?_; rintro e w' ⟨rfl, rfl⟩
            go_wp2_with fail
            go_ret; exact ⟨ret_bool HF.out.symm, 0, rfl⟩
      · have hin' : xs[k] < 0 ∨ n ≤ xs[k] := by omega
        have HF := Lib.hid (show risF n 0 xs = false by rw [hr.out, hds.out]; exact risF_no _ _ _ _ (by omega))
        clear hin hz0
        generalize xs[k] = y at *
        go_wp2_with fail
        refine (l1In_no _ _ _ _ (by omega)).mono ?_; rintro e w' ⟨rfl, rfl⟩
        go_wp2_with fail
        go_ret; exact ⟨ret_bool HF.out.symm, 0, rfl⟩
    · have HF : Hid (risF n 0 xs = true) := Lib.hid (by
        rw [hr.out, List.drop_eq_nil_of_le (by rw [hx.out]; omega)]; rfl)
      clear hz0
      go_wp2
      go_ret; exact ⟨ret_bool HF.out.symm, 0, rfl⟩

theorem rising_any (n : Int) (v : Value) (xs : List Int) (B : Nat) (w : World) (h1 : 1 ≤ n) (h2 : n ≤ 20) (hn : xs.length ≤ 2000000) (h : OwnI w B v xs) :
    Calls Tryd.prog 9 #[v, .int .i64 0, .int .i64 (n - 1)] w fun e w' => e = .returned (.bool (risF n 0 xs)) ∧ ∃ q, w' = w.drewN q := by
  rcases h.form with ⟨rfl, rfl⟩ | ⟨g, cap, rfl, _, _, hc, _, _⟩
  · exact rising_nil _ _ _ w
  · exact rising_some n xs g cap _ w h1 h2 hn (Lib.hid rfl) (Lib.hid hc)
end Go.Proofs.YtbgdhiieeegnjadDoor
