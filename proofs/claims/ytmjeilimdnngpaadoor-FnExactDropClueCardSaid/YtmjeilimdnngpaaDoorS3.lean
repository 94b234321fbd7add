import Derived.Test.YtmjeilimdnngpaaDoorS2
namespace Go.Proofs.YtmjeilimdnngpaaDoor
open Go Go.RowKit RM

theorem riNumber_core (s : ByteArray) (n x : Nat) (w : World) (hn : n ≤ 20) (hs : n = s.size) (hx : x < 2 ^ n)
    (hb : Hid (∀ k (h : k < s.size), ((s[k].toNat : Int) == 49) = x.testBit k)) :
    Calls Tryd.prog 92 #[.string s] w fun e w' => e = .returned (.int .i64 (num x)) ∧ w = w' := by
  have HL : Hid (∀ j, num (x / 2 ^ j) < 1048576) := Lib.hid fun j => num_le n x j hx hn
  have H0 : Hid (x / 2 ^ n = 0) := Lib.hid (Nat.div_eq_of_lt hx)
  clear hx
  subst hs
  go_enter Tryd.func92, Tryd.ntmps92
  go_wp2
  go_loop [3, 4, 5] (fun a d i => ∃ j m : Nat, j ≤ s.size ∧ i = .int .i64 ((j : Int) - 1) ∧ a = .int .i64 m ∧ d = .int .i64 ((m % 2 : Nat) : Int) ∧ m < 1048576 ∧ Hid (num (x / 2 ^ j) = m)) (fun _ _ i => (intOf i + 1).toNat)
  case atStart => exact ⟨s.size, 0, by omega, rfl, rfl, rfl, by omega, by rw [H0.out, num_zero]; rfl⟩
  case round =>
    obtain ⟨j, m, hj, rfl, rfl, rfl, hm, ha⟩ := hrel
    by_cases hlt : 0 < j
    · obtain ⟨j, rfl⟩ : ∃ i, j = i + 1 := ⟨j - 1, by omega⟩
      have hst := Lib.hid (num_step x j)
      have hbj := Lib.hid (hb.out j (by omega))
      have hjj : ((j + 1 : Nat) : Int) - 1 = (j : Int) := by omega
      rw [hjj]
      clear hjj
      have hm1 := HL.out j
      cases h9 : ((s[j].toNat : Int) == 49)
      · have hv : Hid (num (x / 2 ^ j) = 2 * m + m % 2) := Lib.hid (by
          rw [hst.out, ha.out]; unfold bitN; rw [← hbj.out, h9]; simp)
        have hm2 : 2 * m + m % 2 < 1048576 := by rw [← hv.out]; exact hm1
        clear hm1
        go_wp2
        go_round
        case rel => exact ⟨j, 2 * m + m % 2, by omega, rfl, by go_num, vi (by omega), hm2, hv⟩
        all_goals (simp [intOf] <;> omega)
      · have hv : Hid (num (x / 2 ^ j) = 2 * m + (1 - m % 2)) := Lib.hid (by
          rw [hst.out, ha.out]; unfold bitN; rw [← hbj.out, h9]; simp; omega)
        have hm2 : 2 * m + (1 - m % 2) < 1048576 := by rw [← hv.out]; exact hm1
        clear hm1
        go_wp2
        go_round
        case rel => exact ⟨j, 2 * m + (1 - m % 2), by omega, rfl, vi (by omega), vi (by omega), hm2, hv⟩
        all_goals (simp [intOf] <;> omega)
    · obtain rfl : j = 0 := by omega
      have HF : Hid (num x = m) := Lib.hid (by have := ha.out; simpa using this)
      go_wp2
      go_ret; exact ⟨ret_int (by rw [HF.out]), rfl⟩

theorem riNumber_ST (n x : Nat) (w : World) (hn : n ≤ 20) (hx : x < 2 ^ n) :
    Calls Tryd.prog 92 #[.string (ST n x)] w fun e w' => e = .returned (.int .i64 (num x)) ∧ w = w' :=
  riNumber_core _ n x w hn (ST_size n x).symm hx (Lib.hid fun k h => ST_eq n x k h)

theorem tx_zero (x : Nat) : tx 0 x = [] := rfl
theorem riState_any (n m : Nat) (w : World) (hn : n ≤ 20) (hm : m < 1048576) :
    Calls Tryd.prog 66 #[.int .i64 n, .int .i64 m] w fun e w' => e = .returned (.string (ST n (gray m))) ∧ ∃ q, w' = w.drewN q := by
  go_enter Tryd.func66, Tryd.ntmps66
  go_wp2
  go_loopw [5, 6] (fun o i wr => ∃ k q : Nat, k ≤ n ∧ i = .int .i64 k ∧ o = .string (ST k (gray m)) ∧ wr = w.drewN q) (fun _ i _ => n - (intOf i).toNat)
  case atStart => exact ⟨0, 0, by omega, rfl, rfl, rfl⟩
  case round =>
    obtain ⟨k, q, hk, rfl, rfl, rfl⟩ := hrel
    have hsz : (ST k (gray m)).size ≤ 20 := by rw [ST_size]; omega
    by_cases h : k < n
    · have ht := gray_test m k hm
      cases hg : (gray m).testBit k
      · rw [hg] at ht
        have HS := Lib.hid (ST_snoc0 k _ hg)
        clear hg
        go_wp2
        go_quiet (fail)
        go_wp2
        go_roundw
        case rel => exact ⟨k + 1, q + nq, by omega, by go_num, vs HS.out, rfl⟩
        all_goals (simp [intOf] <;> omega)
      · rw [hg] at ht
        have HS := Lib.hid (ST_snoc1 k _ hg)
        clear hg
        go_wp2
        go_quiet (fail)
        go_wp2
        go_roundw
        case rel => exact ⟨k + 1, q + nq, by omega, by go_num, vs HS.out, rfl⟩
        all_goals (simp [intOf] <;> omega)
    · obtain rfl : k = n := by omega
      go_wp2
      go_ret; exact ⟨rfl, q, rfl⟩

end Go.Proofs.YtmjeilimdnngpaaDoor
