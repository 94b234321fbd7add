import Derived.Test.YtmjeilimdnngpaaDoorS1
namespace Go.Proofs.YtmjeilimdnngpaaDoor
open Go Go.RowKit RM

/-- a sign of a state, in the walk's words -/
theorem ST_eq (n x k : Nat) (h : k < (ST n x).size) : (((ST n x)[k].toNat : Int) == 49) = x.testBit k := by
  rw [ST_get]; cases x.testBit k <;> rfl
theorem ST_ne (n x k : Nat) (h : k < (ST n x).size) : (((ST n x)[k].toNat : Int) != 49) = !x.testBit k := by
  rw [ST_get]; cases x.testBit k <;> rfl

theorem ons_take (s : ByteArray) (k : Nat) (h : k < s.size) : ons (s.data.toList.take (k+1)) = ons (s.data.toList.take k) + (if ((s[k].toNat : Int) == 49) = true then 1 else 0) := by
  unfold ons
  rw [List.take_succ_eq_append_getElem (by simpa using h), List.filter_append]
  have e : (s.data.toList[k]'(by simpa using h)) = s[k] := rfl
  rw [e]
  have f : (s[k] == 49) = ((s[k].toNat : Int) == 49) := by
    rw [Bool.eq_iff_iff, beq_iff_eq, beq_iff_eq, ← UInt8.toNat_inj]; simp; omega
  by_cases g : (s[k] == 49) = true
  · rw [if_pos (by rw [← f]; exact g)]; simp [g]
  · rw [if_neg (by rw [← f]; exact g)]; simp [g]

theorem riOn_any (s : ByteArray) (w : World) (hs : s.size ≤ 20) :
    Calls Tryd.prog 73 #[.string s] w fun e w' => e = .returned (.int .i64 (ons s.data.toList)) ∧ w = w' := by
  go_enter Tryd.func73, Tryd.ntmps73
  go_wp2
  go_loop [3, 4] (fun n i => ∃ k m : Nat, k ≤ s.size ∧ i = .int .i64 k ∧ n = .int .i64 m ∧ m ≤ k ∧ Hid (ons (s.data.toList.take k) = m)) (fun _ i => s.size - (intOf i).toNat)
  case atStart => exact ⟨0, 0, Nat.zero_le _, rfl, rfl, Nat.le_refl _, rfl⟩
  case round =>
    obtain ⟨k, m, hk, rfl, rfl, hm, ha⟩ := hrel
    by_cases hlt : k < s.size
    · have hat := Lib.hid (ons_take s k hlt)
      cases h9 : ((s[k].toNat : Int) == 49)
      · go_wp2
        go_round
        case rel => exact ⟨k + 1, m, by omega, by go_num, rfl, by omega, by rw [hat.out, ha.out, if_neg (by rw [h9]; simp)]; rfl⟩
        case measure => simp [intOf]; omega
      · go_wp2
        go_round
        case rel => exact ⟨k + 1, m + 1, by omega, by go_num, by go_num, by omega, by rw [hat.out, ha.out, if_pos h9]; rfl⟩
        case measure => simp [intOf]; omega
    · have HF : Hid (ons s.data.toList = m) := by
        have := ha.out; rw [List.take_of_length_le (by simp; omega)] at this; exact this
      go_wp2
      go_ret; exact ⟨ret_int (by rw [HF.out]), rfl⟩

end Go.Proofs.YtmjeilimdnngpaaDoor
