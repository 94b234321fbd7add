/- A slide made: by the model on texts. -/
import Derived.Test.YtcfeaaakfjilgaaF4
namespace Go.Proofs.Ytcfeaaakfjilgaa
open Go Go.RowKit RM
def byI (up : Bool) : Int := if up then 1 else -1
theorem tS_take (d : List Nat) (B : Nat) (h : B ≤ d.length) : (tS d).extract 0 B = tS (d.take B) := by
  apply ByteArray.ext
  rw [ByteArray.data_extract]
  apply Array.ext'
  simp [tS, List.map_take]
theorem tS_drop (d : List Nat) (B : Nat) : (tS d).extract B d.length = tS (d.drop B) := by
  apply ByteArray.ext
  rw [ByteArray.data_extract]
  apply Array.ext'
  simp only [tS, Array.toList_extract]
  simp [List.map_drop, List.extract]
  rw [List.take_of_length_le (by simp)]
theorem tS_set (d : List Nat) (B x : Nat) (h : B < d.length) : ((tS d).extract 0 B ++ tS [x]) ++ (tS d).extract (B + 1) d.length = tS (d.set B x) := by
  rw [tS_take d B (by omega), tS_drop, ← tS_app, ← tS_app, List.set_eq_take_append_cons_drop, if_pos h]
  simp
/-- the place behind a slide -/
def plS (d : List Nat) (b : Nat) (up : Bool) : Int := ((pl d b : Nat) : Int) + byI up
theorem can_eq {ps : List Nat} {bs : List Blk} {d : List Nat} (hd : isSt ps d) (b : Nat) (hb : b < ps.length) (up : Bool) :
    (canS ps bs d b up = false ∧ (plS d b up < 0 ∨ ((ps.getD b 1 : Nat) : Int) ≤ plS d b up)) ∨ (0 ≤ plS d b up ∧ plS d b up < ((ps.getD b 1 : Nat) : Int) ∧ canS ps bs d b up = fr bs (mvS d b up) ∧ mvS d b up = d.set b (plS d b up).toNat ∧ isSt ps (d.set b (plS d b up).toNat)) := by
  have h := hd.2 b hb
  have e : pl d b = d.getD b 0 := rfl
  have key : mvS d b up = d.set b (if up then d.getD b 0 + 1 else d.getD b 0 - 1) := rfl
  cases up
  · have ep : plS d b false = ((d.getD b 0 : Nat) : Int) - 1 := by unfold plS byI; rw [e]; simp; omega
    rw [ep]
    by_cases h1 : 1 ≤ d.getD b 0
    · right
      have ex : (((d.getD b 0 : Nat) : Int) - 1).toNat = d.getD b 0 - 1 := by omega
      refine ⟨by omega, by omega, ?_, by rw [key, ex]; simp, ?_⟩
      · unfold canS; rw [if_neg (by simp), decide_eq_true h1]; simp
      · rw [ex]
        refine ⟨by rw [List.length_set]; exact hd.1, fun i hi => ?_⟩
        have := mv_getD d b false i (by rw [hd.1]; exact hb)
        unfold mvS at this
        simp only [Bool.false_eq_true, if_false] at this
        rw [this]
        split
        · rename_i e2; subst e2; omega
        · exact hd.2 i hi
    · left
      refine ⟨?_, by omega⟩
      unfold canS; rw [if_neg (by simp), decide_eq_false h1]; simp
  · have ep : plS d b true = ((d.getD b 0 : Nat) : Int) + 1 := by unfold plS byI; rw [e]; simp
    rw [ep]
    by_cases h1 : d.getD b 0 + 1 < ps.getD b 1
    · right
      have ex : (((d.getD b 0 : Nat) : Int) + 1).toNat = d.getD b 0 + 1 := by omega
      refine ⟨by omega, by omega, ?_, by rw [key, ex]; simp, ?_⟩
      · unfold canS; rw [if_pos (by simp), decide_eq_true h1]; simp
      · rw [ex]
        refine ⟨by rw [List.length_set]; exact hd.1, fun i hi => ?_⟩
        have := mv_getD d b true i (by rw [hd.1]; exact hb)
        unfold mvS at this
        simp only [if_true] at this
        rw [this]
        split
        · rename_i e2; subst e2; exact h1
        · exact hd.2 i hi
    · left
      refine ⟨?_, by omega⟩
      unfold canS; rw [if_pos (by simp), decide_eq_false h1]; simp
end Go.Proofs.Ytcfeaaakfjilgaa
