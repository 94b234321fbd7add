/- The model's check of boxes. -/
import Derived.Test.YtjlecipeoaohiacDoorX0
import Derived.Test.YtjlecipeoaohiacDoorV3
import Derived.Laws.RangeAny
namespace Go.Proofs.YtjlecipeoaohiacDoor
open Go Go.RowKit RM
/-- a text is a rule: what each way of a check wants -/
theorem oks_int (s : Nat) (c : UInt8) : oks s c = (((c.toNat : Int) == 63) || (decide ((48 : Int) ≤ c.toNat) && decide ((c.toNat : Int) - 48 ≤ (s : Int) - 1))) := by
  unfold oks
  rw [b63]
  congr 1
  congr 1
  · rw [Bool.eq_iff_iff, decide_eq_true_eq, decide_eq_true_eq]; omega
  · rw [Bool.eq_iff_iff, decide_eq_true_eq, decide_eq_true_eq]; omega
theorem all_noP (P : UInt8 → Bool) (s : ByteArray) (i : Nat) (h : i < s.size) (hq : P s[i] = false) : s.data.toList.all P = false := by
  rw [← Bool.not_eq_true]; intro ha
  have := List.all_eq_true.1 ha _ (List.getElem_mem (show i < s.data.toList.length by rw [len_data]; exact h))
  rw [byte_at s i h, hq] at this; cases this
theorem all_yesP (P : UInt8 → Bool) (s : ByteArray) (h : ∀ i (h : i < s.size), P s[i] = true) : s.data.toList.all P = true := by
  rw [List.all_eq_true]
  intro c hc
  obtain ⟨i, hi, rfl⟩ := List.getElem_of_mem hc
  rw [len_data] at hi
  rw [byte_at s i hi]; exact h i hi
theorem ruleOk_byte (p s part : Nat) (r : ByteArray) (i : Nat) (h : i < r.size) (hq : oks s r[i] = false) : ruleOk p s part r = false := by
  rw [← Bool.not_eq_true, ruleOk_iff]
  rintro ⟨_, _, h3⟩
  rw [all_noP _ r i h hq] at h3; cases h3
theorem ruleOk_part (p s part : Nat) (r : ByteArray) (h : part < r.size) (hq : ((r[part].toNat : Int) == 63) = false) : ruleOk p s part r = false := by
  rw [← Bool.not_eq_true, ruleOk_iff]
  rintro ⟨_, h2, _⟩
  rw [byte_getD r part h] at h2
  rw [← b63, h2] at hq; simp at hq
theorem ruleOk_all (p s part : Nat) (r : ByteArray) (hl : r.size = p) (h : part < r.size) (h2 : ((r[part].toNat : Int) == 63) = true) (h3 : ∀ i (h : i < r.size), oks s r[i] = true) : ruleOk p s part r = true := by
  rw [ruleOk_iff]
  refine ⟨hl, ?_, all_yesP _ r h3⟩
  rw [byte_getD r part h]
  rw [← b63] at h2; simpa using h2
end Go.Proofs.YtjlecipeoaohiacDoor
