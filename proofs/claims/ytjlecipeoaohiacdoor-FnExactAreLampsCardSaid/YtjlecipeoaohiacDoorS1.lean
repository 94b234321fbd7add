/- Contracts of the plain functions of the model. -/
import Derived.Test.YtjlecipeoaohiacDoorH
namespace Go.Proofs.YtjlecipeoaohiacDoor
open Go Go.RowKit RM

theorem okc_iff (c : UInt8) : okc c = true ↔ (c.toNat : Int) = 48 ∨ (c.toNat : Int) = 49 := by
  unfold okc
  rw [Bool.or_eq_true, beq_iff_eq, beq_iff_eq, ← UInt8.toNat_inj, ← UInt8.toNat_inj]
  simp; omega

theorem l1In_yes (n lo hi : Int) (w : World) (h1 : lo ≤ n) (h2 : n ≤ hi) : Calls Tryd.prog 42 #[.int .i64 n, .int .i64 lo, .int .i64 hi] w fun e w' => e = .returned (.bool true) ∧ w = w' := by
  go_enter Tryd.func42, Tryd.ntmps42
  go_wp2
  go_ret; exact ⟨rfl, rfl⟩

theorem l1In_no (n lo hi : Int) (w : World) (h : n < lo ∨ hi < n) : Calls Tryd.prog 42 #[.int .i64 n, .int .i64 lo, .int .i64 hi] w fun e w' => e = .returned (.bool false) ∧ w = w' := by
  by_cases h1 : n < lo
  · go_enter Tryd.func42, Tryd.ntmps42
    go_wp2
    go_ret; exact ⟨rfl, rfl⟩
  · have h2 : hi < n := by omega
    clear h
    go_enter Tryd.func42, Tryd.ntmps42
    go_wp2
    go_ret; exact ⟨ret_bool (by simp; omega), rfl⟩

theorem all_take (s : ByteArray) (k : Nat) (h : k < s.size) : (s.data.toList.take (k+1)).all okc = ((s.data.toList.take k).all okc && okc s[k]) := by
  rw [List.take_succ_eq_append_getElem (by simpa using h), List.all_append]
  simp; rfl

theorem goodB_yes (s : ByteArray) (h1 : 1 ≤ s.size) (h2 : s.size ≤ 20) (h : s.data.toList.all okc = true) : goodB s.data.toList = true := by
  unfold goodB; rw [h]; simp; omega
theorem goodB_no (s : ByteArray) (k : Nat) (hk : k < s.size) (h : okc s[k] = false) : goodB s.data.toList = false := by
  unfold goodB
  have : s.data.toList.all okc = false := by
    rw [← Bool.not_eq_true]; intro ht
    rw [List.all_eq_true] at ht
    have := ht s[k] (by simp; exact Array.getElem_mem _)
    rw [h] at this; cases this
  rw [this]; simp
theorem goodB_len (s : ByteArray) (h : s.size < 1 ∨ 20 < s.size) : goodB s.data.toList = false := by
  unfold goodB
  have : (decide (1 ≤ s.data.toList.length) && decide (s.data.toList.length ≤ 20)) = false := by simp; omega
  rw [this]; rfl

/-- what a sign is, in the walk's words -/
theorem sign_cases (c : UInt8) : (okc c = true ∧ c.toNat = 48 ∧ ((c.toNat : Int) != 48) = false ∧ ((c.toNat : Int) != 49) = true) ∨ (okc c = true ∧ c.toNat = 49 ∧ ((c.toNat : Int) != 48) = true ∧ ((c.toNat : Int) != 49) = false) ∨ (okc c = false ∧ ((c.toNat : Int) != 48) = true ∧ ((c.toNat : Int) != 49) = true) := by
  by_cases h : okc c = true
  · rcases (okc_iff c).1 h with g | g
    · left; exact ⟨h, by omega, by rw [g]; rfl, by rw [g]; rfl⟩
    · right; left; exact ⟨h, by omega, by rw [g]; rfl, by rw [g]; rfl⟩
  · right; right
    have h' := fun x => h ((okc_iff c).2 x)
    refine ⟨by simpa using h, ?_, ?_⟩
    · simp; intro e; exact h' (Or.inl e)
    · simp; intro e; exact h' (Or.inr e)


end Go.Proofs.YtjlecipeoaohiacDoor
