/- The program's search by turns. -/
import Derived.Test.YtjlecipeoaohiaaXM
import Derived.Test.YtjlecipeoaohiaaXT
import Derived.Test.YtjlecipeoaohiaaXU
import Derived.Test.YtjlecipeoaohiaaXV
import Derived.Test.YtjlecipeoaohiaaBase0
import Derived.Test.YtjlecipeoaohiaaX8
import Derived.RegionTactic
import Derived.BigRegion
import Derived.BigQuiet
import Derived.Deep.DeepCutAuto
import Derived.Deep.LoopGhost
import Derived.Deep.RegionHeld3
namespace Go.Proofs.Ytjlecipeoaohiaa
set_option linter.unusedSimpArgs false
set_option linter.unusedVariables false
open Go Go.RowKit RM Go.Maps Go.WideMaps Go.ChangeMaps
theorem lawX : Keyed Try.prog 64 := Keyed.of_law (deep_law (m := 4) (by decide) (by kernel_rfl) (by kernel_rfl) (by kernel_rfl))
theorem arrX : ArrKey Try.prog 62 3 6 := ⟨Try.underlying62, by kernel_rfl, by kernel_rfl, by kernel_rfl⟩
/-- a state as the key of a map -/
def kX (f : Nat → Int) : Lit := .string (keyBytes [.int .i64 (f 0), .int .i64 (f 1), .int .i64 (f 2), .int .i64 (f 3), .int .i64 (f 4), .int .i64 (f 5)])
theorem wf_smallX (n : Int) (h0 : 0 ≤ n) (h : n ≤ 1000000) : (Lit.int .i64 n).wf = true := by
  show (decide (IntKind.i64.min ≤ n) && decide (n ≤ IntKind.i64.max)) = true
  rw [Bool.and_eq_true, decide_eq_true_eq, decide_eq_true_eq]
  show (-9223372036854775808 : Int) ≤ n ∧ n ≤ 9223372036854775807
  omega
set_option maxRecDepth 100000 in
theorem litsX (m : Nat) (f : Nat → Int) (h : ∀ i, 0 ≤ f i ∧ f i ≤ 9) : Try.prog.keyLits (m + 2) 62 [.int .i64 (f 0), .int .i64 (f 1), .int .i64 (f 2), .int .i64 (f 3), .int .i64 (f 4), .int .i64 (f 5)] = some [.int .i64 (f 0), .int .i64 (f 1), .int .i64 (f 2), .int .i64 (f 3), .int .i64 (f 4), .int .i64 (f 5)] := by
  have w := fun i => wf_smallX (f i) (h i).1 (by have := (h i).2; omega)
  have he : Try.prog.underlying 3 = some (.int .i64) := Try.underlying3
  have w0 := w 0
  have w1 := w 1
  have w2 := w 2
  have w3 := w 3
  have w4 := w 4
  have w5 := w 5
  rw [show m + 2 = (m + 1) + 1 from rfl]
  unfold Program.keyLits
  simp only [arrX.hu]
  rw [if_pos (by rw [arrX.size]; rfl), show List.range 6 = [0, 1, 2, 3, 4, 5] from rfl]
  simp only [List.mapM_cons, List.mapM_nil]
  simp [arrX.one, Program.keyLits, he, w0, w1, w2, w3, w4, w5]
set_option maxRecDepth 100000 in
theorem keyX (f : Nat → Int) (h : ∀ i, 0 ≤ f i ∧ f i ≤ 9) : keyOf Try.prog 64 (bsV f) = some (kX f) := by
  have hkt : Try.prog.keyType 64 = true := by kernel_rfl
  obtain ⟨m, hm⟩ : ∃ m, Try.prog.types.size = m + 2 := by
    have h0 : decide (1 < Try.prog.types.size) = true := by kernel_rfl
    have h1 := of_decide_eq_true h0
    exact ⟨Try.prog.types.size - 2, by omega⟩
  have hc : Try.prog.cellsOf 64 = 6 := by kernel_rfl
  have hl := litsX m f h
  unfold kX
  unfold keyOf
  simp only [Try.underlying64]
  rw [if_pos (by simp [hkt, Value.formed, Try.underlying64, hc]), hm]
  unfold Program.keyLits
  simp only [Try.underlying64, Value.cells]
  rw [if_pos (by rw [hc]; exact ⟨rfl, by kernel_rfl⟩)]
  simp only [List.mapM_cons, List.mapM_nil]
  have e : List.take (Try.prog.cellsOf 62) (List.drop 0 [Value.int IntKind.i64 (f 0), Value.int IntKind.i64 (f 1), Value.int IntKind.i64 (f 2), Value.int IntKind.i64 (f 3), Value.int IntKind.i64 (f 4), Value.int IntKind.i64 (f 5)]) = [Value.int IntKind.i64 (f 0), Value.int IntKind.i64 (f 1), Value.int IntKind.i64 (f 2), Value.int IntKind.i64 (f 3), Value.int IntKind.i64 (f 4), Value.int IntKind.i64 (f 5)] := by rw [arrX.size]; rfl
  rw [e, hl]
  rfl
theorem dF_small {p s : Nat} {d : List Nat} (h : stOk p s d) (hs1 : 1 ≤ s) (hs : s ≤ 9) (i : Nat) : 0 ≤ dF d i ∧ dF d i ≤ 9 := by
  have := stOk_getD h hs1 i
  show 0 ≤ ((d.getD i 0 : Nat) : Int) ∧ ((d.getD i 0 : Nat) : Int) ≤ 9
  omega
theorem dF_ext {p s : Nat} {d e : List Nat} (hd : stOk p s d) (he : stOk p s e) (h6 : p ≤ 6) (h : ∀ i, i < 6 → dF d i = dF e i) : d = e := by
  apply List.ext_getElem
  · rw [hd.1, he.1]
  · intro i h1 h2
    have := h i (by rw [hd.1] at h1; omega)
    have e1 : ((d.getD i 0 : Nat) : Int) = ((e.getD i 0 : Nat) : Int) := this
    rw [getD_at d i 0 h1, getD_at e i 0 h2] at e1
    exact Int.ofNat.inj e1
/-- states of boxes of p parts and s sides as keys -/
def ksX (p s : Nat) (h1 : 1 ≤ s) (h5 : s ≤ 9) (h6 : p ≤ 6) : KS (List Nat) where
  t := 64
  ok := stOk p s
  v d := bsV (dF d)
  l d := kX (dF d)
  law := lawX
  key d hd := keyX (dF d) (dF_small hd h1 h5)
  inj d e hd he h := by
    have h1' := lawX.inj (keyX (dF d) (dF_small hd h1 h5)) (by rw [h]; exact keyX (dF e) (dF_small he h1 h5))
    injection h1' with h1'
    simp at h1'
    obtain ⟨a0, a1, a2, a3, a4, a5⟩ := h1'
    refine dF_ext hd he h6 (fun i hi => ?_)
    match i, hi with
    | 0, _ => exact a0
    | 1, _ => exact a1
    | 2, _ => exact a2
    | 3, _ => exact a3
    | 4, _ => exact a4
    | 5, _ => exact a5
  lit _ := trivial
abbrev GX.ks {p s : Nat} {rs : List ByteArray} (h : GX p s rs) : KS (List Nat) := ksX p s (by have := h.s2; omega) (by have := h.s5; omega) h.p6
theorem humX : Try.prog.underlying 77 = some (.map 64 3) := Try.underlying77
/-- states as elements of a row -/
def bsE : Elt (Nat → Int) where
  e := 64
  n := 6
  bytes := 48
  z := .agg #[.int .i64 0, .int .i64 0, .int .i64 0, .int .i64 0, .int .i64 0, .int .i64 0]
  d := fun _ => 0
  cells f := [.int .i64 (f 0), .int .i64 (f 1), .int .i64 (f 2), .int .i64 (f 3), .int .i64 (f 4), .int .i64 (f 5)]
  len _ := rfl
  one x u hu := by simp at hu; rcases hu with rfl | rfl | rfl | rfl | rfl | rfl <;> rfl
  pos := by decide
  zs := rfl
  info := by kernel_rfl
  small := by decide
end Go.Proofs.Ytjlecipeoaohiaa
