/- Which texts are keys, by the model. -/
import Derived.Test.YtjlecipeoaohiacDoorV1
import Derived.Test.YtjlecipeoaohiacDoorV2
import Derived.Test.YtjlecipeoaohiacDoorS1
namespace Go.Proofs.YtjlecipeoaohiacDoor
open Go Go.RowKit RM
theorem okq_int (c : UInt8) : okq c = !(((c.toNat : Int) != 63) && ((c.toNat : Int) != 48) && ((c.toNat : Int) != 49)) := by
  have e : ∀ n : Nat, n < 256 → ((c == UInt8.ofNat n) = ((c.toNat : Int) == (n : Int))) := by
    intro n hn
    rw [Bool.eq_iff_iff, beq_iff_eq, beq_iff_eq, ← UInt8.toNat_inj, UInt8.toNat_ofNat']
    omega
  unfold okq
  rw [show (63 : UInt8) = UInt8.ofNat 63 from rfl, show (48 : UInt8) = UInt8.ofNat 48 from rfl, show (49 : UInt8) = UInt8.ofNat 49 from rfl, e 63 (by omega), e 48 (by omega), e 49 (by omega)]
  simp only [bne]
  cases ((c.toNat : Int) == ((63 : Nat) : Int)) <;> cases ((c.toNat : Int) == ((48 : Nat) : Int)) <;> cases ((c.toNat : Int) == ((49 : Nat) : Int)) <;> simp_all
theorem byte_at (s : ByteArray) (i : Nat) (h : i < s.size) : s.data.toList[i]'(by rw [Array.length_toList]; exact h) = s[i] := by
  rw [Array.getElem_toList]; rfl
theorem byte_getD (s : ByteArray) (i : Nat) (h : i < s.size) (d : UInt8) : s.data.toList.getD i d = s[i] := by
  rw [getD_at s.data.toList i d (by rw [Array.length_toList]; exact h), byte_at s i h]
theorem len_data (s : ByteArray) : s.data.toList.length = s.size := Array.length_toList
theorem b63 (c : UInt8) : (c == 63) = ((c.toNat : Int) == 63) := by
  rw [Bool.eq_iff_iff, beq_iff_eq, beq_iff_eq, ← UInt8.toNat_inj]
  show c.toNat = 63 ↔ _
  omega
/-- a sign among the first that is none -/
theorem all_no (s : ByteArray) (i : Nat) (h : i < s.size) (hq : okq s[i] = false) : s.data.toList.all okq = false := by
  rw [← Bool.not_eq_true]; intro ha
  have := List.all_eq_true.1 ha _ (List.getElem_mem (show i < s.data.toList.length by rw [len_data]; exact h))
  rw [byte_at s i h, hq] at this; cases this
theorem all_yes (s : ByteArray) (h : ∀ i (h : i < s.size), okq s[i] = true) : s.data.toList.all okq = true := by
  rw [List.all_eq_true]
  intro c hc
  obtain ⟨i, hi, rfl⟩ := List.getElem_of_mem hc
  rw [len_data] at hi
  rw [byte_at s i hi]; exact h i hi
end Go.Proofs.YtjlecipeoaohiacDoor
