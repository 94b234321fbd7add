/- Chapter 2: the rank in the order by swaps: the model's rank. -/
import Derived.Test.YtbgdhiieeegnjacQ4
namespace Go.Proofs.Ytbgdhiieeegnjac
open Go Go.RowKit RM

theorem has_snoc (xs : List Int) (k : Nat) (h : k < xs.length) (x : Int) : (xs.take (k + 1)).contains x = ((xs.take k).contains x || (x == xs[k])) := by
  rw [take_step xs k h, List.contains_append]
  congr 1
  show (x == xs[k] || false) = (x == xs[k])
  simp

theorem l1Has_some (xs : List Int) (b cap n : Nat) (x : Int) (A : Bool) (w : World) (hn : n ≤ 1048576) (hA : Hid ((xs.take n).contains x = A)) (hx : Hid (n ≤ xs.length)) (hc : Hid (∀ i (h : i < xs.length), w.cell? ⟨b, i, none⟩ = some (.int .i64 xs[i]))) :
    Calls Try.prog 56 #[.slice (some ⟨b, 0, none⟩) n cap, .int .i64 x] w fun e w' => e = .returned (.bool A) ∧ w = w' := by
  go_enter Try.func56, Try.ntmps56
  go_wp2_with fail
  go_loop [9] (fun i => ∃ k : Nat, k ≤ n ∧ i = .int .i64 k ∧ Hid ((xs.take k).contains x = false)) (fun i => n - (intOf i).toNat)
  case atStart => exact ⟨0, by omega, rfl, rfl⟩
  case round =>
    obtain ⟨k, hk, rfl, ha⟩ := hrel
    by_cases hlt : k < n
    · have hkx : k < xs.length := Nat.lt_of_lt_of_le hlt hx.out
      have hrd := hc.out k hkx
      have hsn := Lib.hid (has_snoc xs k hkx x)
      by_cases he : xs[k] = x
      · have HF : Hid (A = true) := Lib.hid (by
          rw [← hA.out]
          have : x ∈ xs.take n := by
            rw [← he]; exact List.mem_take_iff_getElem.2 ⟨k, by omega, rfl⟩
          simpa using this)
        rw [he] at hrd
        have hq : (x == x) = true := by simp
        go_wp2
        go_ret; exact ⟨ret_bool HF.out.symm, rfl⟩
      · have HA : Hid ((xs.take (k + 1)).contains x = false) := Lib.hid (by
          rw [hsn.out, ha.out]; simp; exact fun e => he e.symm)
        have hq : (xs[k] == x) = false := by simpa using he
        clear he
        generalize xs[k] = z at *
        go_wp2
        go_round
        case rel => exact ⟨k + 1, by omega, by go_num, HA⟩
        all_goals (simp [intOf] <;> omega)
    · obtain rfl : k = n := by omega
      go_wp2
      have HF : Hid (A = false) := Lib.hid (by rw [← hA.out]; exact ha.out)
      go_ret; exact ⟨ret_bool HF.out.symm, rfl⟩

theorem sRankS2_len (p : Option Addr) (n cap : Nat) (w : World) (h : n < 1 ∨ 10 < n) (hn : n ≤ 1048576) :
    Calls Try.prog 26 #[.slice p n cap] w fun e w' => QB0 w 0 false e w' := by
  have hS := Lib.hid fun w => l1In_no (n : Int) 1 10 w (by omega)
  clear h
  go_enter Try.func26, Try.ntmps26
  go_wp2_with fail
  refine (hS.out _).mono ?_; rintro e w' ⟨rfl, rfl⟩
  go_wp2_with fail
  go_ret2; exact ⟨rfl, Below.refl _ _⟩

theorem sRankS2_all (xs : List Int) (b cap n : Nat) (w : World) (h1 : 1 ≤ n) (h2 : n ≤ 10) (hx : Hid (xs.length = n)) (hp : Hid (allBd 0 ((n : Int) - 1) xs = false)) (hc : Hid (∀ i (h : i < xs.length), w.cell? ⟨b, i, none⟩ = some (.int .i64 xs[i]))) :
    Calls Try.prog 26 #[.slice (some ⟨b, 0, none⟩) n cap] w fun e w' => QB0 w 0 false e w' := by
  have hS := Lib.hid fun w => l1In_yes (n : Int) 1 10 w (by omega) (by omega)
  have hE := Lib.hid (allIn_some 0 ((n : Int) - 1) xs b cap n w (by omega) hx hc)
  rw [hp.out] at hE
  go_enter Try.func26, Try.ntmps26
  go_wp2_with fail
  refine (hS.out _).mono ?_; rintro e w' ⟨rfl, rfl⟩
  go_wp2_with fail
  refine hE.out.mono ?_; rintro e w' ⟨rfl, rfl⟩
  go_wp2_with fail
  go_ret2; exact ⟨rfl, Below.refl _ _⟩

theorem nodup_snoc (xs : List Int) (k : Nat) (h : k < xs.length) (hn : (xs.take k).Nodup) (hc : (xs.take k).contains xs[k] = false) : (xs.take (k + 1)).Nodup := by
  rw [take_step xs k h, List.nodup_append]
  refine ⟨hn, by simp, ?_⟩
  intro a ha b hb
  simp at hb; subst hb
  intro e; subst e
  exact has_no hc ha
theorem nodup_no (xs : List Int) (k : Nat) (h : k < xs.length) (hc : (xs.take k).contains xs[k] = true) : ¬ xs.Nodup := by
  intro hn
  have : (xs.take (k + 1)).Nodup := hn.sublist (List.take_sublist _ _)
  rw [take_step xs k h, List.nodup_append] at this
  exact this.2.2 xs[k] (by simpa using hc) xs[k] (by simp) rfl

set_option maxHeartbeats 1000000 in
theorem sRankS2_in (xs : List Int) (b cap n : Nat) (w : World) (h1 : 1 ≤ n) (h2 : n ≤ 10) (hcap : n ≤ cap) (hcap2 : cap ≤ 9223372036854775807) (hx : Hid (xs.length = n)) (hp : Hid (allBd 0 ((n : Int) - 1) xs = true)) (hc : Hid (∀ i (h : i < xs.length), w.cell? ⟨b, i, none⟩ = some (.int .i64 xs[i])))
    (r : Int) (ok : Bool) (hno : Hid (perB xs = false → r = 0 ∧ ok = false)) (hyes : Hid (perB xs = true → r = ((rkS xs n : Nat) : Int) ∧ ok = true)) :
    Calls Try.prog 26 #[.slice (some ⟨b, 0, none⟩) n cap] w fun e w' => QB0 w r ok e w' := by
  have hS := Lib.hid fun w => l1In_yes (n : Int) 1 10 w (by omega) (by omega)
  have hE := Lib.hid (allIn_some 0 ((n : Int) - 1) xs b cap n w (by omega) hx hc)
  rw [hp.out] at hE
  go_enter Try.func26, Try.ntmps26
  go_wp2_with fail
  refine (hS.out _).mono ?_; rintro e w' ⟨rfl, rfl⟩
  go_wp2_with fail
  refine hE.out.mono ?_; rintro e w' ⟨rfl, rfl⟩
  go_wp2_with fail
  clear hE hS
  go_loop [26] (fun i => ∃ k : Nat, k ≤ n ∧ i = .int .i64 k ∧ Hid ((xs.take k).Nodup)) (fun i => n - (intOf i).toNat)
  case atStart => exact ⟨0, by omega, rfl, Lib.hid (by simp)⟩
  case round =>
    obtain ⟨k, hk, rfl, hnd⟩ := hrel
    by_cases hlt : k < n
    · have hkx : k < xs.length := by rw [hx.out]; exact hlt
      have hrd := hc.out k hkx
      have hH := Lib.hid (l1Has_some xs b cap k xs[k] _ w (by omega) (Lib.hid rfl) (Lib.hid (by omega)) hc)
      cases hb : (xs.take k).contains xs[k]
      · have HN := Lib.hid (nodup_snoc xs k hkx hnd.out hb)
        rw [hb] at hH
        clear hb
        generalize xs[k] = z at *
        go_wp2_with fail
        refine hH.out.mono ?_; rintro e w' ⟨rfl, rfl⟩
        go_wp2_with fail
        go_round
        case rel => exact ⟨k + 1, by omega, by go_num, HN⟩
        all_goals (simp [intOf] <;> omega)
      · have hpn : perB xs = false := by
          cases e : perB xs
          · rfl
          · exact absurd (per_nodup e) (nodup_no xs k hkx hb)
        obtain ⟨rfl, rfl⟩ := hno.out hpn
        rw [hb] at hH
        clear hb hpn
        generalize xs[k] = z at *
        go_wp2_with fail
        refine hH.out.mono ?_; rintro e w' ⟨rfl, rfl⟩
        go_wp2_with fail
        go_ret2; exact ⟨rfl, Below.refl _ _⟩
    · have hpy : perB xs = true := by
        refine per_of (fun x hx2 => ?_) (by have := hnd.out; rw [List.take_of_length_le (by rw [hx.out]; omega)] at this; exact this)
        obtain ⟨i, hi, rfl⟩ := List.getElem_of_mem hx2
        have := allBd_at hp.out i hi
        have := hx.out
        omega
      obtain ⟨rfl, rfl⟩ := hyes.out hpy
      have hpy := Lib.hid hpy
      clear hk hnd
      go_wp2_with fail
      go_loop [7, 8] (fun l i => ∃ m R : Nat, m ≤ n ∧ i = .int .i64 ((m : Int) + 1) ∧ l = .int .i64 R ∧ R ≤ 3628800 ∧ Hid (rkS xs m = R)) (fun _ i => n + 1 - (intOf i).toNat)
      case atStart => exact ⟨0, 0, by omega, rfl, rfl, by omega, rfl⟩
      case round =>
        obtain ⟨m, R, hm, rfl, rfl, hR9, hR⟩ := hrel
        by_cases hlt2 : m < n
        · obtain ⟨P, hP⟩ : ∃ P, P = plc (m : Int) xs := ⟨_, rfl⟩
          have hPk : P ≤ m := by rw [hP]; exact plc_le hpy.out m (by rw [hx.out]; omega)
          have hmx : Hid ((m : Int) ∈ xs.drop 0) := Lib.hid (by rw [List.drop_zero]; exact per_mem hpy.out m (by rw [hx.out]; exact hlt2))
          have hpl0 : Hid (0 + plc (m : Int) (xs.drop 0) = P) := Lib.hid (by rw [List.drop_zero, hP]; omega)
          have hnx := rkS_succ xs m
          rw [hR.out, ← hP] at hnx
          have hb9 : rkS xs (m + 1) ≤ 3628800 := by
            have a := rkS_lt hpy.out (m + 1) (by rw [hx.out]; omega)
            have b := (fac_le (s := m + 1) (by omega)).2
            omega
          obtain ⟨R2, hR2⟩ : ∃ R2, R2 = rkS xs (m + 1) := ⟨_, rfl⟩
          rw [← hR2] at hnx hb9
          have HN := Lib.hid hR2.symm
          clear hR2 hP
          obtain ⟨M, hM⟩ : ∃ M, M = R * (m + 1) := ⟨_, rfl⟩
          rw [← hM] at hnx
          have hM2 : (R : Int) * ((m : Int) + 1) = (M : Int) := by rw [hM]; simp
          have hM9 : M ≤ 3628800 := by omega
          have e1 : IntKind.i64.wrap ((R : Int) * ((m : Int) + 1)) = (M : Int) := by rw [hM2, IntKind.wrap_i64]; omega
          have hnx := Lib.hid hnx
          clear hM hM2
          go_wp2_with fail
          go_loop [9, 44] (fun a i => ∃ j p : Nat, j < n ∧ i = .int .i64 j ∧ a = .int .i64 p ∧ p ≤ m ∧ Hid ((m : Int) ∈ xs.drop j) ∧ Hid (p + plc (m : Int) (xs.drop j) = P)) (fun _ i => n - (intOf i).toNat)
          case atStart => exact ⟨0, 0, by omega, rfl, rfl, by omega, hmx, hpl0⟩
          case round =>
            obtain ⟨j, p, hj, rfl, rfl, hp9, hmj, hpj⟩ := hrel
            clear hmx hpl0
            have hjx : j < xs.length := by rw [hx.out]; exact hj
            have hrd := hc.out j hjx
            have hds := Lib.hid (drop_step xs j hjx)
            by_cases he : xs[j] = (m : Int)
            · obtain rfl : p = P := by have := hpj.out; rw [hds.out, he, plc_here] at this; omega
              rw [he] at hrd
              have hq1 : ((m : Int) == (m : Int)) = true := by simp
              by_cases hev : R % 2 = 0
              · have hE2 : Hid ((M : Int) + ((m : Int) - (p : Int)) = (R2 : Int)) := Lib.hid (by have := hnx.out; rw [if_pos hev] at this; omega)
                have e3 : (R : Int).tmod 2 = 0 := by rw [Int.tmod_eq_emod_of_nonneg (by omega)]; omega
                clear hev
                go_wp2
                go_round
                case rel => exact ⟨m + 1, R2, by omega, by go_num, by rw [hE2.out], hb9, HN⟩
                all_goals (simp [intOf] <;> omega)
              · have hE2 : Hid ((M : Int) + (p : Int) = (R2 : Int)) := Lib.hid (by have := hnx.out; rw [if_neg hev] at this; omega)
                have e3 : (R : Int).tmod 2 = 1 := by rw [Int.tmod_eq_emod_of_nonneg (by omega)]; omega
                clear hev
                go_wp2
                go_round
                case rel => exact ⟨m + 1, R2, by omega, by go_num, by rw [hE2.out], hb9, HN⟩
                all_goals (simp [intOf] <;> omega)
            · have hmm : Hid ((m : Int) ∈ xs.drop (j + 1)) := Lib.hid (by
                have := hmj.out
                rw [hds.out, List.mem_cons] at this
                rcases this with e | e
                · exact absurd e.symm he
                · exact e)
              have hnx2 : j + 1 < n := by
                rcases Nat.lt_or_ge (j + 1) n with g | g
                · exact g
                · have := hmm.out
                  rw [List.drop_eq_nil_of_le (by rw [hx.out]; exact g)] at this
                  cases this
              have hq1 : (xs[j] == (m : Int)) = false := by simpa using he
              have hbz := allBd_at hp.out j hjx
              rcases Int.lt_or_le xs[j] (m : Int) with hl | hl
              · have HP : Hid (p + 1 + plc (m : Int) (xs.drop (j + 1)) = P) := Lib.hid (by rw [← hpj.out, hds.out, plc_less _ _ _ hl]; omega)
                have hp8 : p + 1 ≤ m := by have := HP.out; omega
                have hq2 : decide (xs[j] < (m : Int) + 1) = true := by simp; omega
                clear he
                generalize xs[j] = z at *
                go_wp2
                go_round
                case rel => exact ⟨j + 1, p + 1, by omega, by go_num, by go_num, by omega, hmm, HP⟩
                all_goals (simp [intOf] <;> omega)
              · have HP : Hid (p + plc (m : Int) (xs.drop (j + 1)) = P) := Lib.hid (by rw [← hpj.out, hds.out, plc_more _ _ _ (by omega)])
                have hq2 : decide (xs[j] < (m : Int) + 1) = false := by simp; omega
                clear he
                generalize xs[j] = z at *
                go_wp2
                go_round
                case rel => exact ⟨j + 1, p, by omega, by go_num, rfl, by omega, hmm, HP⟩
                all_goals (simp [intOf] <;> omega)
        · obtain rfl : m = n := by omega
          go_wp2
          go_ret2; rw [hR.out]; exact ⟨rfl, Below.refl _ _⟩
end Go.Proofs.Ytbgdhiieeegnjac
