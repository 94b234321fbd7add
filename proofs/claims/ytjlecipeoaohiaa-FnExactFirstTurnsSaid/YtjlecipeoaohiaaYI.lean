/- FirstTurns: states as values compared; the states on the way. -/
import Derived.Test.YtjlecipeoaohiaaYH
import Derived.DeepKeys
namespace Go.Proofs.Ytjlecipeoaohiaa
set_option linter.unusedSimpArgs false
set_option linter.unusedVariables false
open Go Go.RowKit RM Go.Maps Go.WideMaps Go.ChangeMaps
set_option maxRecDepth 100000 in
theorem eq_six {p s : Nat} {d e : List Nat} (hd : stOk p s d) (he : stOk p s e) (h1 : 1 ≤ s) (h5 : s ≤ 9) (h6 : p ≤ 6) (w : World) : (Op.equalIn 9999 62 (bsV (dF d)) (bsV (dF e))).run Try.prog w = .ok (decide (d = e)) w := by
  have hf : ∀ f : Nat → Int, (bsV f).formed Try.prog 62 = true := fun f => by
    have hc : Try.prog.cellsOf 62 = 6 := by kernel_rfl
    simp [Value.formed, Try.underlying62, hc]
  obtain ⟨r, hr, hiff⟩ := run_equalIn_deep (P := Try.prog) 9991 8 62 (by kernel_rfl) w 2 2 (bsV (dF d)) (bsV (dF e)) _ _ (hf _) (hf _) (litsX 0 _ (dF_small hd h1 h5)) (litsX 0 _ (dF_small he h1 h5))
  have hr' : (Op.equalIn 9999 62 (bsV (dF d)) (bsV (dF e))).run Try.prog w = .ok r w := hr
  rw [hr']
  have : r = decide (d = e) := by
    cases r with
    | true =>
      have h := hiff.1 rfl
      simp at h
      have : d = e := dF_ext hd he h6 (fun i hi => by
        match i, hi with
        | 0, _ => exact h.1
        | 1, _ => exact h.2.1
        | 2, _ => exact h.2.2.1
        | 3, _ => exact h.2.2.2.1
        | 4, _ => exact h.2.2.2.2.1
        | 5, _ => exact h.2.2.2.2.2)
      simp [this]
    | false =>
      have : d ≠ e := fun h => by
        have := hiff.2 (by rw [h])
        cases this
      simp [this]
  rw [this]
/-- the states on the first way -/
def stT (s : Nat) (rs : List ByteArray) (p : Nat) (F : List Nat → Option Nat) (d : List Nat) : Nat → List Nat
  | 0 => d
  | i + 1 => tuD (stT s rs p F d i) (nkT s rs p F (stT s rs p F d i)).1 (nkT s rs p F (stT s rs p F d i)).2
/-- the turns on it -/
def anT (s : Nat) (rs : List ByteArray) (p : Nat) (F : List Nat → Option Nat) (d : List Nat) (n : Nat) : List (List Int) := (List.range n).map fun i => tnI (nkT s rs p F (stT s rs p F d i))
theorem anT_len (s : Nat) (rs : List ByteArray) (p : Nat) (F : List Nat → Option Nat) (d : List Nat) (n : Nat) : (anT s rs p F d n).length = n := by simp [anT]
theorem anT_succ (s : Nat) (rs : List ByteArray) (p : Nat) (F : List Nat → Option Nat) (d : List Nat) (n : Nat) : anT s rs p F d (n + 1) = anT s rs p F d n ++ [tnI (nkT s rs p F (stT s rs p F d n))] := by
  unfold anT; rw [List.range_succ, List.map_append]; rfl
theorem ssum_anT (s : Nat) (rs : List ByteArray) (p : Nat) (F : List Nat → Option Nat) (d : List Nat) (n : Nat) : ssum (anT s rs p F d n) = 2 * n := by
  unfold anT
  have := ssum_tnI ((List.range n).map fun i => nkT s rs p F (stT s rs p F d i))
  rw [List.map_map] at this
  rw [show ((fun i => tnI (nkT s rs p F (stT s rs p F d i))) : Nat → List Int) = tnI ∘ fun i => nkT s rs p F (stT s rs p F d i) from rfl, this]
  simp
theorem stT_ok {p s : Nat} {rs : List ByteArray} (hG : GX p s rs) {e d : List Nat} (he : stOk p s e) (hd : stOk p s d) {L : Nat} (hL : (fin 1 (nbX p s rs) (allX p s) e).far d = some L) :
    ∀ i, i ≤ L → stOk p s (stT s rs p (fin 1 (nbX p s rs) (allX p s) e).far d i) ∧ (fin 1 (nbX p s rs) (allX p s) e).far (stT s rs p (fin 1 (nbX p s rs) (allX p s) e).far d i) = some (L - i) := by
  intro i
  induction i with
  | zero => intro _; exact ⟨hd, hL⟩
  | succ i ih =>
    intro h
    obtain ⟨h1, h2⟩ := ih (by omega)
    rw [show L - i = (L - (i + 1)) + 1 by omega] at h2
    obtain ⟨j, hj, hjk, hfj, -⟩ := nkT_spec hG he h1 h2
    rw [hjk] at hfj
    refine ⟨?_, hfj⟩
    show stOk p s (tuD _ _ _)
    rw [← hjk]
    exact (tK_ok h1 (List.getElem_mem hj)).2
theorem stT_end {p s : Nat} {rs : List ByteArray} (hG : GX p s rs) {e d : List Nat} (he : stOk p s e) (hd : stOk p s d) {L : Nat} (hL : (fin 1 (nbX p s rs) (allX p s) e).far d = some L) (i : Nat) (hi : i ≤ L) :
    (stT s rs p (fin 1 (nbX p s rs) (allX p s) e).far d i ≠ e) ↔ i < L := by
  have h := (stT_ok hG he hd hL i hi).2
  have hO := hG.univ.fin_ok 1 e
  constructor
  · intro hne
    apply Nat.lt_of_not_le
    intro hle
    rw [show L - i = 0 by omega] at h
    exact hne (hO.only _ h)
  · intro hlt he2
    rw [he2, hO.zero] at h
    have := Option.some.inj h
    omega
end Go.Proofs.Ytjlecipeoaohiaa
