/- Contracts of the plain functions of the model. -/
import Derived.Test.YtmjeilimdnngpaaDoorH
namespace Go.Proofs.YtmjeilimdnngpaaDoor
open Go Go.RowKit RM

theorem okc_iff (c : UInt8) : okc c = true ↔ (c.toNat : Int) = 48 ∨ (c.toNat : Int) = 49 := by
  unfold okc
  rw [Bool.or_eq_true, beq_iff_eq, beq_iff_eq, ← UInt8.toNat_inj, ← UInt8.toNat_inj]
  simp; omega

theorem l1In_yes (n lo hi : Int) (w : World) (h1 : lo ≤ n) (h2 : n ≤ hi) : Calls Tryd.prog 46 #[.int .i64 n, .int .i64 lo, .int .i64 hi] w fun e w' => e = .returned (.bool true) ∧ w = w' := by
  go_enter Tryd.func46, Tryd.ntmps46
  go_wp2
  go_ret; exact ⟨rfl, rfl⟩

theorem l1In_no (n lo hi : Int) (w : World) (h : n < lo ∨ hi < n) : Calls Tryd.prog 46 #[.int .i64 n, .int .i64 lo, .int .i64 hi] w fun e w' => e = .returned (.bool false) ∧ w = w' := by
  by_cases h1 : n < lo
  · go_enter Tryd.func46, Tryd.ntmps46
    go_wp2
    go_ret; exact ⟨rfl, rfl⟩
  · have h2 : hi < n := by omega
    clear h
    go_enter Tryd.func46, Tryd.ntmps46
    go_wp2
    go_ret; exact ⟨ret_bool (by simp; omega), rfl⟩

theorem all_take (s : ByteArray) (k : Nat) (h : k < s.size) : (s.data.toList.take (k+1)).all okc = ((s.data.toList.take k).all okc && okc s[k]) := by
  rw [List.take_succ_eq_append_getElem (by simpa using h), List.all_append]
  simp; rfl

theorem goodB_yes (s : ByteArray) (h1 : 1 ≤ s.size) (h2 : s.size ≤ 20) (h : s.data.toList.all okc = true) : goodB s.data.toList = true := by
  unfold goodB; rw [h]; simp; omega
theorem goodB_no (s : ByteArray) (k : Nat) (hk : k < s.size) (h : okc s[k] = false) : goodB s.data.toList = false := by
  unfold goodB
  have : s.data.toList.all okc = false := by
    rw [← Bool.not_eq_true]; intro ht
    rw [List.all_eq_true] at ht
    have := ht s[k] (by simp; exact Array.getElem_mem _)
    rw [h] at this; cases this
  rw [this]; simp
theorem goodB_len (s : ByteArray) (h : s.size < 1 ∨ 20 < s.size) : goodB s.data.toList = false := by
  unfold goodB
  have : (decide (1 ≤ s.data.toList.length) && decide (s.data.toList.length ≤ 20)) = false := by simp; omega
  rw [this]; rfl

/-- what a sign is, in the walk's words -/
theorem sign_cases (c : UInt8) : (okc c = true ∧ c.toNat = 48 ∧ ((c.toNat : Int) != 48) = false ∧ ((c.toNat : Int) != 49) = true) ∨ (okc c = true ∧ c.toNat = 49 ∧ ((c.toNat : Int) != 48) = true ∧ ((c.toNat : Int) != 49) = false) ∨ (okc c = false ∧ ((c.toNat : Int) != 48) = true ∧ ((c.toNat : Int) != 49) = true) := by
  by_cases h : okc c = true
  · rcases (okc_iff c).1 h with g | g
    · left; exact ⟨h, by omega, by rw [g]; rfl, by rw [g]; rfl⟩
    · right; left; exact ⟨h, by omega, by rw [g]; rfl, by rw [g]; rfl⟩
  · right; right
    have h' := fun x => h ((okc_iff c).2 x)
    refine ⟨by simpa using h, ?_, ?_⟩
    · simp; intro e; exact h' (Or.inl e)
    · simp; intro e; exact h' (Or.inr e)

theorem riGood_any (s : ByteArray) (w : World) (hs : s.size ≤ maxLen) :
    Calls Tryd.prog 72 #[.string s] w fun e w' => e = .returned (.bool (goodB s.data.toList)) ∧ w = w' := by
  unfold maxLen at hs
  by_cases hl : 1 ≤ s.size ∧ s.size ≤ 20
  · obtain ⟨hl1, hl2⟩ := hl
    go_enter Tryd.func72, Tryd.ntmps72
    go_wp2_with (go_at_call 46; refine (l1In_yes _ _ _ _ (by omega) (by omega)).mono ?_; rintro e w' ⟨rfl, rfl⟩)
    go_loop [3] (fun i => ∃ k : Nat, k ≤ s.size ∧ i = .int .i64 k ∧ Hid ((s.data.toList.take k).all okc = true)) (fun i => s.size - (intOf i).toNat)
    case atStart => exact ⟨0, Nat.zero_le _, rfl, rfl⟩
    case round =>
      obtain ⟨k, hk, rfl, ha⟩ := hrel
      by_cases hlt : k < s.size
      · have hat := Lib.hid (all_take s k hlt)
        rcases sign_cases s[k] with ⟨hc, -, h8, h9⟩ | ⟨hc, -, h8, h9⟩ | ⟨hc, h8, h9⟩
        · have HC := Lib.hid hc
          clear hc
          go_wp2
          go_round
          case rel => exact ⟨k + 1, by omega, by go_num, by rw [hat.out, ha.out, HC.out]; rfl⟩
          case measure => simp [intOf]; omega
        · have HC := Lib.hid hc
          clear hc
          go_wp2
          go_round
          case rel => exact ⟨k + 1, by omega, by go_num, by rw [hat.out, ha.out, HC.out]; rfl⟩
          case measure => simp [intOf]; omega
        · have HF := Lib.hid (goodB_no s k hlt hc)
          clear hc hat
          go_wp2
          go_ret; exact ⟨ret_bool HF.out.symm, rfl⟩
      · have HF : Hid (goodB s.data.toList = true) := by
          have := ha.out; rw [List.take_of_length_le (by simp; omega)] at this; exact goodB_yes s hl1 hl2 this
        go_wp2
        go_ret; exact ⟨ret_bool HF.out.symm, rfl⟩
  · have HF := Lib.hid (goodB_len s (by omega))
    go_enter Tryd.func72, Tryd.ntmps72
    go_wp2_with (go_at_call 46; refine (l1In_no _ _ _ _ (by omega)).mono ?_; rintro e w' ⟨rfl, rfl⟩)
    go_ret; exact ⟨ret_bool HF.out.symm, rfl⟩

end Go.Proofs.YtmjeilimdnngpaaDoor
