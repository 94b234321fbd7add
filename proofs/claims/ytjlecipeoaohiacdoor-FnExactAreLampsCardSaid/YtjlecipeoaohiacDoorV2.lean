/- Keys: plain mathematics. -/
import Derived.Test.YtjlecipeoaohiacDoorStr
namespace Go.Proofs.YtjlecipeoaohiacDoor
open RM
/-- which bytes are signs of keys; the signs that tell -/
def okq (c : UInt8) : Bool := c == 63 || (c == 48 || c == 49)
def tq (c : UInt8) : UInt8 := if c = 63 then 48 else 49
/-- the rings that a key tells, and those of them that are to be on -/
def tolX (l : List UInt8) : Nat := sg (l.map tq)
def onX (l : List UInt8) : Nat := sg l
theorem tol_bit (l : List UInt8) (i : Nat) (h : i < l.length) : (tolX l).testBit i = !(l[i] == 63) := by
  unfold tolX
  rw [sg_bit, List.getElem?_map, List.getElem?_eq_getElem h]
  unfold tq
  by_cases e : l[i] = 63
  · simp [e]
  · simp [e]
theorem tol_lt (l : List UInt8) : tolX l < 2 ^ l.length := by have := sg_lt (l.map tq); rwa [List.length_map] at this
theorem on_bit (l : List UInt8) (i : Nat) (h : i < l.length) : (onX l).testBit i = (l[i] == 49) := by
  unfold onX
  rw [sg_bit, List.getElem?_eq_getElem h, Bool.eq_iff_iff]; simp
theorem on_lt (l : List UInt8) : onX l < 2 ^ l.length := sg_lt l
/-- a key fits the signs of a state -/
def fitN (l : List UInt8) (x : Nat) : Bool := decide (x &&& tolX l = onX l)
/-- a key fits at a sign -/
def fitA (l m : List UInt8) (i : Nat) : Bool := l.getD i 0 == 63 || l.getD i 0 == m.getD i 0
theorem fit_no (l : List UInt8) (n x i : Nat) (hl : l.length = n) (hq : l.all okq = true) (hi : i < n) (h : fitA l (tx n x) i = false) : fitN l x = false := by
  unfold fitN
  rw [decide_eq_false_iff_not]
  intro he
  have h1 := congrArg (fun y => y.testBit i) he
  simp only [Nat.testBit_and] at h1
  have hil : i < l.length := by omega
  rw [tol_bit l i hil, on_bit l i hil] at h1
  unfold fitA at h
  rw [List.getD_eq_getElem?_getD, List.getElem?_eq_getElem hil, List.getD_eq_getElem?_getD, List.getElem?_eq_getElem (by rw [tx_len]; exact hi)] at h
  simp only [Option.getD_some, tx_get] at h
  rw [List.all_eq_true] at hq
  have hc := hq l[i] (List.getElem_mem _)
  unfold okq at hc
  generalize l[i] = c at *
  simp only [Bool.or_eq_true, beq_iff_eq] at hc
  rcases hc with rfl | rfl | rfl
  · simp at h
  · cases hb : x.testBit i <;> rw [hb] at h h1 <;> simp at h h1
  · cases hb : x.testBit i <;> rw [hb] at h h1 <;> simp at h h1
theorem fit_yes (l : List UInt8) (n x : Nat) (hl : l.length = n) (hq : l.all okq = true) (hx : x < 2 ^ n) (h : ∀ i, i < n → fitA l (tx n x) i = true) : fitN l x = true := by
  unfold fitN
  rw [decide_eq_true_eq]
  apply Nat.eq_of_testBit_eq
  intro i
  rw [Nat.testBit_and]
  by_cases hi : i < n
  · have hil : i < l.length := by omega
    rw [tol_bit l i hil, on_bit l i hil]
    have h := h i hi
    unfold fitA at h
    rw [List.getD_eq_getElem?_getD, List.getElem?_eq_getElem hil, List.getD_eq_getElem?_getD, List.getElem?_eq_getElem (by rw [tx_len]; exact hi)] at h
    simp only [Option.getD_some, tx_get] at h
    rw [List.all_eq_true] at hq
    have hc := hq l[i] (List.getElem_mem _)
    unfold okq at hc
    generalize l[i] = c at *
    simp only [Bool.or_eq_true, beq_iff_eq] at hc
    rcases hc with rfl | rfl | rfl
    · simp
    · cases hb : x.testBit i <;> rw [hb] at h <;> simp at h ⊢
    · cases hb : x.testBit i <;> rw [hb] at h <;> simp at h ⊢
  · have h1 : x < 2 ^ i := Nat.lt_of_lt_of_le hx (Nat.pow_le_pow_right (by decide) (by omega))
    have h2 : onX l < 2 ^ i := Nat.lt_of_lt_of_le (on_lt l) (Nat.pow_le_pow_right (by decide) (by omega))
    rw [Nat.testBit_lt_two_pow h1, Nat.testBit_lt_two_pow h2]; rfl
/-- the key of the ring k among n -/
def keyOk (n k : Nat) (s : ByteArray) : Bool := decide (s.size = n) && (s.data.toList.getD k 0 == 63) && s.data.toList.all okq
/-- the texts are keys -/
def goodK (ks : List ByteArray) : Bool := decide (1 ≤ ks.length) && decide (ks.length ≤ 10) && (List.range ks.length).all fun k => keyOk ks.length k (ks.getD k ⟨#[]⟩)
theorem goodK_len (ks : List ByteArray) (h : goodK ks = true) : 1 ≤ ks.length ∧ ks.length ≤ 10 := by
  unfold goodK at h
  simp only [Bool.and_eq_true, decide_eq_true_eq] at h
  exact h.1
theorem getD_at {α : Type} (xs : List α) (k : Nat) (d : α) (h : k < xs.length) : xs.getD k d = xs[k] := by
  rw [List.getD_eq_getElem?_getD, List.getElem?_eq_getElem h]; rfl
theorem goodK_at (ks : List ByteArray) (h : goodK ks = true) (k : Nat) (hk : k < ks.length) : keyOk ks.length k ks[k] = true := by
  unfold goodK at h
  simp only [Bool.and_eq_true, decide_eq_true_eq] at h
  have := List.all_eq_true.1 h.2 k (List.mem_range.2 hk)
  rwa [getD_at ks k _ hk] at this
theorem goodK_no (ks : List ByteArray) (k : Nat) (hk : k < ks.length) (h : keyOk ks.length k ks[k] = false) : goodK ks = false := by
  rw [← Bool.not_eq_true]; intro h2
  rw [goodK_at ks h2 k hk] at h; cases h
theorem goodK_yes (ks : List ByteArray) (h1 : 1 ≤ ks.length) (h2 : ks.length ≤ 10) (h : ∀ k (hk : k < ks.length), keyOk ks.length k ks[k] = true) : goodK ks = true := by
  unfold goodK
  rw [Bool.and_eq_true, Bool.and_eq_true]
  refine ⟨⟨by simpa using h1, by simpa using h2⟩, List.all_eq_true.2 fun k hk => ?_⟩
  have hk := List.mem_range.1 hk
  rw [getD_at ks k _ hk]; exact h k hk
theorem keyOk_iff (n k : Nat) (s : ByteArray) : keyOk n k s = true ↔ s.size = n ∧ s.data.toList.getD k 0 = 63 ∧ s.data.toList.all okq = true := by
  unfold keyOk
  rw [Bool.and_eq_true, Bool.and_eq_true, decide_eq_true_eq, beq_iff_eq, and_assoc]
/-- the keys as the program has them -/
def kp (s : ByteArray) : Nat × Nat := (tolX s.data.toList, onX s.data.toList)
end Go.Proofs.YtjlecipeoaohiacDoor
