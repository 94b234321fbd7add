/- What is asked of a turn, by the model; CanTurn, TurnPart by the model. -/
import Derived.Test.YtjlecipeoaohiaaXH
namespace Go.Proofs.Ytjlecipeoaohiaa
open Go Go.RowKit RM
/-- a part and a way -/
def pbB (P part by' : Int) : Bool := (decide (0 ≤ part) && decide (part ≤ P - 1)) && (by' == 1 || by' == -1)
def askB (P S : Int) (rs : List ByteArray) (t : ByteArray) (part by' : Int) : Bool := goodX P S rs && stB P.toNat S.toNat t && pbB P part by'
theorem pbB_nat {p : Nat} {part by' : Int} (h : pbB p part by' = true) : ∃ (k : Nat) (up : Bool), part = k ∧ k < p ∧ by' = byX up := by
  unfold pbB at h
  simp only [Bool.and_eq_true, Bool.or_eq_true, decide_eq_true_eq, beq_iff_eq] at h
  rcases h.2 with h2 | h2
  · exact ⟨part.toNat, true, by omega, by omega, h2⟩
  · exact ⟨part.toNat, false, by omega, by omega, h2⟩
theorem askB_nat {P S : Int} {rs : List ByteArray} {t : ByteArray} {part by' : Int} (h : askB P S rs t part by' = true) : ∃ (p s : Nat) (d : List Nat) (k : Nat) (up : Bool), P = p ∧ S = s ∧ GX p s rs ∧ stOk p s d ∧ t = tS d ∧ part = k ∧ k < p ∧ by' = byX up := by
  unfold askB at h
  simp only [Bool.and_eq_true] at h
  obtain ⟨⟨h1, h2⟩, h3⟩ := h
  obtain ⟨p, s, rfl, rfl, hG, -⟩ := GX.of h1
  simp only [Int.toNat_natCast] at h2
  have := hG.s5
  obtain ⟨d, hd, rfl⟩ := stB_nat (by omega) h2
  obtain ⟨k, up, rfl, hk, rfl⟩ := pbB_nat h3
  exact ⟨p, s, d, k, up, rfl, rfl, hG, hd, rfl, rfl, hk, rfl⟩
end Go.Proofs.Ytjlecipeoaohiaa
