/- Boxes: plain mathematics. -/
import Derived.Test.YtjlecipeoaohiacDoorV2
namespace Go.Proofs.YtjlecipeoaohiacDoor
open RM
/-- which bytes are signs of rules for parts of s sides -/
def oks (s : Nat) (c : UInt8) : Bool := c == 63 || (decide (48 ≤ c.toNat) && decide (c.toNat < 48 + s))
/-- a text is a rule for a part -/
def ruleOk (p s part : Nat) (r : ByteArray) : Bool := decide (r.size = p) && (r.data.toList.getD part 0 == 63) && r.data.toList.all (oks s)
/-- the numbers of parts and sides are those of boxes -/
def szI (P S : Int) : Bool := decide (1 ≤ P) && decide (P ≤ 6) && decide (2 ≤ S) && decide (S ≤ 5) && decide (S.toNat ^ P.toNat ≤ 1000)
/-- parts, sides and rules are a box -/
def goodX (P S : Int) (rs : List ByteArray) : Bool := szI P S && decide ((rs.length : Int) = P * (S - 1)) && (List.range rs.length).all fun k => ruleOk P.toNat S.toNat (k / (S.toNat - 1)) (rs.getD k ⟨#[]⟩)
theorem szI_cases (P S : Int) : ((P < 1 ∨ 6 < P ∨ S < 2 ∨ 5 < S) ∧ szI P S = false) ∨ ∃ p s : Nat, P = p ∧ S = s ∧ 1 ≤ p ∧ p ≤ 6 ∧ 2 ≤ s ∧ s ≤ 5 ∧ szI P S = decide (s ^ p ≤ 1000) := by
  by_cases h : 1 ≤ P ∧ P ≤ 6 ∧ 2 ≤ S ∧ S ≤ 5
  · right
    refine ⟨P.toNat, S.toNat, by omega, by omega, by omega, by omega, by omega, by omega, ?_⟩
    unfold szI
    simp [h.1, h.2.1, h.2.2.1, h.2.2.2]
  · left
    refine ⟨by omega, ?_⟩
    rw [← Bool.not_eq_true]; intro e
    unfold szI at e
    simp only [Bool.and_eq_true, decide_eq_true_eq] at e
    exact h ⟨e.1.1.1.1, e.1.1.1.2, e.1.1.2, e.1.2⟩
theorem szI_nat {P S : Int} (h : szI P S = true) : ∃ p s : Nat, P = p ∧ S = s ∧ 1 ≤ p ∧ p ≤ 6 ∧ 2 ≤ s ∧ s ≤ 5 ∧ s ^ p ≤ 1000 := by
  rcases szI_cases P S with ⟨_, e⟩ | ⟨p, s, h1, h2, h3, h4, h5, h6, e⟩
  · rw [e] at h; cases h
  · rw [e] at h; exact ⟨p, s, h1, h2, h3, h4, h5, h6, by simpa using h⟩
theorem szI_of {p s : Nat} (h1 : 1 ≤ p) (h2 : p ≤ 6) (h3 : 2 ≤ s) (h4 : s ≤ 5) (h5 : s ^ p ≤ 1000) : szI p s = true := by
  unfold szI
  simp only [Bool.and_eq_true, decide_eq_true_eq, Int.toNat_natCast]
  exact ⟨⟨⟨⟨by omega, by omega⟩, by omega⟩, by omega⟩, h5⟩
theorem pow_small {s : Nat} (hs : s ≤ 5) (k : Nat) (hk : k ≤ 6) : s ^ k ≤ 15625 := by
  calc s ^ k ≤ 5 ^ k := Nat.pow_le_pow_left hs k
    _ ≤ 5 ^ 6 := Nat.pow_le_pow_right (by omega) hk
theorem goodX_sz {P S : Int} {rs : List ByteArray} (h : szI P S = false) : goodX P S rs = false := by unfold goodX; rw [h]; simp
theorem goodX_len {P S : Int} {rs : List ByteArray} (h : ¬ (rs.length : Int) = P * (S - 1)) : goodX P S rs = false := by
  unfold goodX; rw [decide_eq_false h]; simp
theorem goodX_no {p s : Nat} {rs : List ByteArray} (k : Nat) (hk : k < rs.length) (h : ruleOk p s (k / (s - 1)) rs[k] = false) : goodX p s rs = false := by
  rw [← Bool.not_eq_true]; intro e
  unfold goodX at e
  rw [Bool.and_eq_true] at e
  have := List.all_eq_true.1 e.2 k (by simpa using hk)
  simp only [Int.toNat_natCast] at this
  rw [getD_at rs k _ hk, h] at this; cases this
theorem mulsub {p s : Nat} (h : 1 ≤ s) : (p : Int) * ((s : Int) - 1) = ((p * (s - 1) : Nat) : Int) := by
  have e : ((s : Int) - 1) = ((s - 1 : Nat) : Int) := by omega
  rw [e]; simp
theorem goodX_yes {p s : Nat} {rs : List ByteArray} (h1 : szI p s = true) (h2 : rs.length = p * (s - 1)) (h3 : 1 ≤ s) (h : ∀ k (hk : k < rs.length), ruleOk p s (k / (s - 1)) rs[k] = true) : goodX p s rs = true := by
  unfold goodX
  rw [h1, Bool.true_and, Bool.and_eq_true, decide_eq_true_eq]
  refine ⟨by rw [h2, mulsub h3], ?_⟩
  rw [List.all_eq_true]
  intro k hk
  have hk' : k < rs.length := by simpa using hk
  simp only [Int.toNat_natCast]
  rw [getD_at rs k _ hk']; exact h k hk'
theorem goodX_nat {P S : Int} {rs : List ByteArray} (h : goodX P S rs = true) : ∃ p s : Nat, P = p ∧ S = s ∧ 1 ≤ p ∧ p ≤ 6 ∧ 2 ≤ s ∧ s ≤ 5 ∧ s ^ p ≤ 1000 ∧ rs.length = p * (s - 1) ∧ ∀ k (hk : k < rs.length), ruleOk p s (k / (s - 1)) rs[k] = true := by
  have h0 := h
  unfold goodX at h0
  simp only [Bool.and_eq_true, decide_eq_true_eq] at h0
  obtain ⟨⟨h1, h2⟩, -⟩ := h0
  obtain ⟨p, s, rfl, rfl, g1, g2, g3, g4, g5⟩ := szI_nat h1
  refine ⟨p, s, rfl, rfl, g1, g2, g3, g4, g5, ?_, ?_⟩
  · have e : ((s : Int) - 1) = ((s - 1 : Nat) : Int) := by omega
    rw [e] at h2; exact_mod_cast h2
  · intro k hk
    cases e : ruleOk p s (k / (s - 1)) rs[k]
    · rw [goodX_no k hk e] at h; cases h
    · rfl
theorem ruleOk_iff (p s part : Nat) (r : ByteArray) : ruleOk p s part r = true ↔ r.size = p ∧ r.data.toList.getD part 0 = 63 ∧ r.data.toList.all (oks s) = true := by
  unfold ruleOk
  rw [Bool.and_eq_true, Bool.and_eq_true, decide_eq_true_eq, beq_iff_eq, and_assoc]
theorem ruleOk_len (p s part : Nat) (r : ByteArray) (h : r.size ≠ p) : ruleOk p s part r = false := by
  rw [← Bool.not_eq_true, ruleOk_iff]; exact fun e => h e.1
theorem oks_ascii (s : Nat) (hs : s ≤ 10) (c : UInt8) (h : oks s c = true) : c.toNat < 128 := by
  unfold oks at h
  simp only [Bool.or_eq_true, beq_iff_eq, Bool.and_eq_true, decide_eq_true_eq] at h
  rcases h with rfl | h
  · decide
  · omega
end Go.Proofs.YtjlecipeoaohiacDoor
