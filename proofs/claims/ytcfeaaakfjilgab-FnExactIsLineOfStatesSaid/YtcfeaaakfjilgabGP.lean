/- How many states are reached: plain mathematics. -/
import Derived.Test.YtcfeaaakfjilgabV16
import Derived.Test.YtcfeaaakfjilgabW7
namespace Go.Proofs.Ytcfeaaakfjilgab
set_option linter.unusedSimpArgs false
set_option linter.unusedVariables false
open Go Go.RowKit RM
/-- how many of the states are reached -/
def cntR (n : Nat) (D : Nat → Option Nat) : Nat := ((List.range (2 ^ n)).filter fun s => (D s).isSome).length
def cntG (D : Nat → Option Nat) (k : Nat) : Nat := ((List.range k).filter fun y => (D (gray y)).isSome).length
theorem cntG_yes (D : Nat → Option Nat) (k : Nat) (h : (D (gray k)).isSome = true) : cntG D (k + 1) = cntG D k + 1 := by
  unfold cntG; rw [List.range_succ, List.filter_append, List.filter_cons_of_pos (p := fun y => (D (gray y)).isSome) h]; simp
theorem cntG_no (D : Nat → Option Nat) (k : Nat) (h : (D (gray k)).isSome = false) : cntG D (k + 1) = cntG D k := by
  unfold cntG; rw [List.range_succ, List.filter_append, List.filter_cons_of_neg (p := fun y => (D (gray y)).isSome) (by rw [h]; simp)]; simp
theorem gray_perm (n : Nat) : ((List.range (2 ^ n)).map gray).Perm (List.range (2 ^ n)) := by
  refine (List.perm_ext_iff_of_nodup ?_ List.nodup_range).2 fun a => ?_
  · rw [List.nodup_iff_pairwise_ne, List.pairwise_map]
    exact (List.nodup_iff_pairwise_ne.1 List.nodup_range).imp fun {a b} h e => h (by rw [← num_gray a, ← num_gray b, e])
  · rw [List.mem_map]
    constructor
    · rintro ⟨y, hy, rfl⟩; exact List.mem_range.2 (gray_lt n y (List.mem_range.1 hy))
    · intro h; exact ⟨num a, List.mem_range.2 (num_lt n a (List.mem_range.1 h)), gray_num a⟩
theorem cnt_eq (n : Nat) (D : Nat → Option Nat) : cntG D (2 ^ n) = cntR n D := by
  unfold cntG cntR
  have e := ((gray_perm n).filter (fun s => (D s).isSome)).length_eq
  rw [List.filter_map, List.length_map] at e
  exact e
theorem cnt_stL (n : Nat) (D : Nat → Option Nat) (R : List (Nat × Nat)) (hl : R.length = 2 ^ n) (hR : ∀ s (hl : s < R.length), (∀ m, D s = some m → R[s].1 = m ∧ 1 ≤ R[s].2 ∧ R[s].2 ≤ 9223372036854775808) ∧ (D s = none → R[s] = (0, 0))) :
    (stL R (2 ^ n)).length = cntR n D := by
  unfold stL cntR
  congr 1
  apply List.filter_congr
  intro s hs
  have hs' : s < R.length := by rw [hl]; exact List.mem_range.1 hs
  rw [getD_at R s _ hs', Bool.eq_iff_iff, decide_eq_true_eq]
  cases hd : D s with
  | none => rw [(hR s hs').2 hd]; simp
  | some m => have := ((hR s hs').1 m hd).2.1; simp; omega
theorem fI_ge (o : Option Nat) : decide (fI o ≥ 0) = o.isSome := by
  cases o with
  | none => rfl
  | some d => show decide ((d : Int) ≥ 0) = true; rw [decide_eq_true_eq]; omega
end Go.Proofs.Ytcfeaaakfjilgab
