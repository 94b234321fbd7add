/- A rule of a box, both sides. -/
import Derived.Test.YtbeciklnknkilaaX6
import Derived.Test.YtbeciklnknkilaaX8
import Derived.Test.YtbeciklnknkilaaClone
namespace Go.Proofs.Ytbeciklnknkilaa
open Go Go.RowKit RM
/-- there is such a part, and such a side that is not the last one -/
def plB (P S part side : Int) : Bool := (decide (0 ≤ part) && decide (part ≤ P - 1)) && (decide (0 ≤ side) && decide (side ≤ S - 2))
theorem plB_nat {p s : Nat} {part side : Int} (h : plB p s part side = true) : ∃ i j : Nat, part = i ∧ side = j ∧ i < p ∧ j + 1 < s := by
  unfold plB at h
  simp only [Bool.and_eq_true, decide_eq_true_eq] at h
  exact ⟨part.toNat, side.toNat, by omega, by omega, by omega, by omega⟩
theorem idx_lt {p s i j : Nat} (hi : i < p) (hj : j + 1 < s) : i * (s - 1) + j < p * (s - 1) := by
  calc i * (s - 1) + j < i * (s - 1) + (s - 1) := by omega
    _ = (i + 1) * (s - 1) := by rw [Nat.add_mul, Nat.one_mul]
    _ ≤ p * (s - 1) := Nat.mul_le_mul_right _ hi
theorem idx_div {s i j : Nat} (hj : j + 1 < s) : (i * (s - 1) + j) / (s - 1) = i := by
  rw [Nat.mul_comm, Nat.mul_add_div (by omega), Nat.div_eq_of_lt (by omega)]; omega
/-- the text of a rule -/
def ruX (P S : Int) (rs : List ByteArray) (part side : Int) : ByteArray := if goodX P S rs && plB P S part side then rs.getD (part * (S - 1) + side).toNat ⟨#[]⟩ else ⟨#[]⟩
theorem hasPart_any (P S x : Int) (u : Value) (w : World) (b : Bool) (h : (decide (0 ≤ x) && decide (x < P)) = b) : Calls Try.prog 17 #[.agg #[.int .i64 P, .int .i64 S, u], .int .i64 x] w fun e w' => e = .returned (.bool b) ∧ Below w.heap.size w w' := by
  subst h
  by_cases h1 : 0 ≤ x
  · rw [decide_eq_true h1]
    have h2 : decide (0 ≤ x) = true := decide_eq_true h1
    go_enter Try.func17, Try.ntmps17
    go_wp2_with fail
    go_ret; exact ⟨rfl, ba1 w _⟩
  · rw [decide_eq_false h1]
    have h2 : decide (0 ≤ x) = false := decide_eq_false h1
    go_enter Try.func17, Try.ntmps17
    go_wp2_with fail
    go_ret; exact ⟨rfl, ba1 w _⟩
theorem ruleIx_any (p s i j : Nat) (u : Value) (w : World) (h3 : 2 ≤ s) (h4 : s ≤ 5) (hp : p ≤ 6) (hi : i < p) (hj : j + 1 < s) : Calls Try.prog 42 #[.agg #[.int .i64 p, .int .i64 s, u], .int .i64 i, .int .i64 j] w fun e w' => e = .returned (.int .i64 ((i * (s - 1) + j : Nat) : Int)) ∧ Below w.heap.size w w' := by
  have hix := idx_lt hi hj
  have h24 := mul24 (p := p) (s := s) hp h4
  have hms := mulsub (p := i) (s := s) (by omega)
  have hI : Hid ((i : Int) * ((s : Int) - 1) + (j : Int) = ((i * (s - 1) + j : Nat) : Int)) := Lib.hid (by rw [hms]; simp)
  have hm0 : 0 ≤ (i : Int) * ((s : Int) - 1) := by rw [hms]; omega
  have hm1 : (i : Int) * ((s : Int) - 1) ≤ 24 := by rw [hms]; omega
  clear hms hix h24
  go_enter Try.func42, Try.ntmps42
  go_wp2_with fail
  go_ret; exact ⟨ret_int hI.out, ba1 w _⟩
end Go.Proofs.Ytbeciklnknkilaa
