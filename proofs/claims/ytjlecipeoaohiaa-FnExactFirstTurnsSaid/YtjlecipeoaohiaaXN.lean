/- A turn among all turns, by the program. -/
import Derived.Test.YtjlecipeoaohiaaXM
namespace Go.Proofs.Ytjlecipeoaohiaa
open Go Go.RowKit RM
theorem tK_mem (s : Nat) (rs : List ByteArray) (d : List Nat) (k : Nat) (up : Bool) (n : Nat) : (k, up) ∈ tK s rs d n ↔ (2 * k + (if up then 0 else 1) < n ∧ tuB s rs d k up = true) := by
  induction n with
  | zero => simp [tK]
  | succ n ih =>
    unfold tK
    rw [List.mem_append, ih]
    by_cases e : 2 * k + (if up then 0 else 1) = n
    · have e1 : n / 2 = k := by cases up <;> simp at e <;> omega
      have e2 : (n % 2 == 0) = up := by
        cases up
        · simp at e; rw [beq_eq_false_iff_ne]; omega
        · simp at e; rw [beq_iff_eq]; omega
      rw [e1, e2]
      cases h : tuB s rs d k up
      · simp
      · simp; omega
    · have hne : (k, up) ≠ (n / 2, n % 2 == 0) := by
        intro h
        rw [Prod.mk.injEq] at h
        obtain ⟨h1, h2⟩ := h
        apply e
        cases up
        · have : ¬ n % 2 = 0 := by intro h3; rw [h3] at h2; simp at h2
          simp; omega
        · have : n % 2 = 0 := by simpa using h2.symm
          simp; omega
      have hn : (k, up) ∉ (if tuB s rs d (n / 2) (n % 2 == 0) then [(n / 2, n % 2 == 0)] else []) := by
        split
        · simpa using hne
        · simp
      constructor
      · rintro (⟨h1, h2⟩ | h)
        · exact ⟨by omega, h2⟩
        · exact absurd h hn
      · rintro ⟨h1, h2⟩
        exact Or.inl ⟨by omega, h2⟩
theorem byX_inj {a b : Bool} : byX a = byX b ↔ a = b := by cases a <;> cases b <;> simp [byX]
abbrev ftC (T : Bool) (k y : Int) (f : Nat → Int) : Array Value := if T then tnC k y f else tnC 0 0 (fun _ => 0)
abbrev tnO (k y : Int) (f : Nat → Int) : Obj := .cells (tnC k y f) 70
end Go.Proofs.Ytjlecipeoaohiaa
