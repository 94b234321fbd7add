/- Levels of a search, and a state that is visited in part: the pure part of what chapter 4 has (not beside it). -/
import Derived.Test.YtjlecipeoaohiaaG1
namespace Go.Proofs.Ytjlecipeoaohiaa.RM
section
variable {S : Type} [DecidableEq S]
structure SB (M : Nat) (U : List S) (st : Sr S) : Prop where
  nd : st.q.Nodup
  mem : ∀ t, t ∈ st.q ↔ st.far t ≠ none
  sub : ∀ t ∈ st.q, t ∈ U
  le : ∀ t, st.way t ≤ M
  z : ∀ t, st.far t = none → st.way t = 0
theorem sb_one (M : Nat) (hM : 1 ≤ M) (U : List S) (s : S) (h : s ∈ U) : SB M U (Sr.one s) where
  nd := by simp [Sr.one]
  mem t := by simp [Sr.one]
  sub t ht := by simp [Sr.one] at ht; rw [ht]; exact h
  le t := by simp only [Sr.one]; split <;> omega
  z t ht := by simp only [Sr.one] at ht ⊢; split at ht <;> simp_all
theorem sb_add {M n w : Nat} {U : List S} {st : Sr S} (h : SB M U st) {t : S} (ht : t ∈ U) : SB M U (st.add M n w t) := by
  unfold Sr.add
  split
  · rename_i h0
    have hn : t ∉ st.q := fun e => (h.mem t).1 e h0
    refine ⟨?_, fun u => ?_, fun u hu => ?_, fun u => ?_, fun u hu => ?_⟩
    · show (st.q ++ [t]).Nodup
      rw [List.nodup_append]
      exact ⟨h.nd, by simp, fun a ha b hb => by simp at hb; subst hb; exact fun e => hn (e ▸ ha)⟩
    · show u ∈ st.q ++ [t] ↔ (if u = t then some n else st.far u) ≠ none
      rw [List.mem_append, List.mem_singleton]
      by_cases e : u = t
      · rw [if_pos e]; simp [e]
      · rw [if_neg e, h.mem]; simp [e]
    · have hu : u ∈ st.q ++ [t] := hu
      rcases List.mem_append.1 hu with a | a
      · exact h.sub u a
      · simp at a; rw [a]; exact ht
    · show (if u = t then min (st.way t + w) M else st.way u) ≤ M
      split
      · exact Nat.min_le_right _ _
      · exact h.le u
    · have hu : (if u = t then some n else st.far u) = none := hu
      show (if u = t then min (st.way t + w) M else st.way u) = 0
      split at hu
      · cases hu
      · rename_i e; rw [if_neg e]; exact h.z u hu
  · rename_i m h0
    split
    · refine ⟨h.nd, h.mem, h.sub, fun u => ?_, fun u hu => ?_⟩
      · show (if u = t then min (st.way t + w) M else st.way u) ≤ M
        split
        · exact Nat.min_le_right _ _
        · exact h.le u
      · have hu : st.far u = none := hu
        show (if u = t then min (st.way t + w) M else st.way u) = 0
        rw [if_neg (fun e => by rw [e, h0] at hu; cases hu)]; exact h.z u hu
    · exact h
theorem sb_part {M n : Nat} {U : List S} {st : Sr S} (h : SB M U st) (s : S) (l : List S) (hl : ∀ t ∈ l, t ∈ U) : SB M U (st.part M n s l) := by
  induction l using revRec with
  | nil => exact h
  | append_singleton l t ih => rw [Sr.part_snoc]; exact sb_add (ih (fun u hu => hl u (List.mem_append_left _ hu))) (hl t (by simp))
theorem sb_run {M : Nat} (hM : 1 ≤ M) {nb : S → List S} {U : List S} (hU : Univ nb U) {s0 : S} (h0 : s0 ∈ U) (k : Nat) : SB M U (run M nb s0 k) := by
  induction k with
  | zero => exact sb_one M hM U s0 h0
  | succ k ih =>
    cases e : (run M nb s0 k).q[k]? with
    | none => rw [run_none e]; exact ih
    | some s =>
      rw [run_some e]
      exact sb_part ih s _ (hU.cl s (ih.sub s (List.mem_of_getElem? e)))
theorem dst_le {M : Nat} {nb : S → List S} {s0 : S} (k : Nat) : ∀ (j : Nat) (t : S), (run M nb s0 k).q[j]? = some t → (run M nb s0 k).dst t ≤ j := by
  have hO := run_ok M nb s0 k
  intro j
  induction j using Nat.strongRecOn with
  | _ j ih =>
    intro t ht
    by_cases e : t = s0
    · subst e; unfold Sr.dst; rw [hO.zero]; simp
    · obtain ⟨i, u, _, _, h3, h4, _⟩ := hO.par t (List.mem_of_getElem? ht) e
      have hij : i < j := Nat.lt_of_not_le fun hle => by
        have := hO.sorted j i t u hle ht h3; omega
      have := ih i hij u h3
      omega
/-- a level: what is found and not visited yet, all of it as far -/
structure Lev (M : Nat) (nb : S → List S) (s0 : S) (k n : Nat) (L : List S) : Prop where
  eq : L = (run M nb s0 k).q.drop k
  far : ∀ u ∈ L, (run M nb s0 k).dst u + 1 = n
theorem lev_zero (M : Nat) (nb : S → List S) (s0 : S) : Lev M nb s0 0 1 [s0] where
  eq := rfl
  far u hu := by
    simp at hu; subst hu
    show ((if u = u then some 0 else none : Option Nat).getD 0) + 1 = 1
    rw [if_pos rfl]; rfl
section
variable {M : Nat} {nb : S → List S} {s0 : S} {k n : Nat} {L : List S}
theorem Lev.get (h : Lev M nb s0 k n L) {i : Nat} {u : S} (hu : L[i]? = some u) : (run M nb s0 (k + i)).q[k + i]? = some u ∧ (run M nb s0 (k + i)).dst u + 1 = n := by
  have h1 : (run M nb s0 k).q[k + i]? = some u := by rw [h.eq, List.getElem?_drop] at hu; exact hu
  have hx := ext_run M nb s0 (show k ≤ k + i by omega)
  refine ⟨hx.get h1, ?_⟩
  rw [← h.far u (List.mem_of_getElem? hu)]
  have := hx.far u _ ((run_ok M nb s0 k).dst (List.mem_of_getElem? h1))
  unfold Sr.dst at *; rw [this]; rfl
theorem Lev.len (h : Lev M nb s0 k n L) (hL : L ≠ []) : (run M nb s0 k).q.length = k + L.length := by
  have := congrArg List.length h.eq
  rw [List.length_drop] at this
  have h2 := List.length_pos_iff.2 hL
  omega
theorem Lev.next (h : Lev M nb s0 k n L) (hL : L ≠ []) : Lev M nb s0 (k + L.length) (n + 1) ((run M nb s0 (k + L.length)).q.drop (k + L.length)) where
  eq := rfl
  far t ht := by
    have hlen := h.len hL
    have hO := run_ok M nb s0 (k + L.length)
    have hO0 := run_ok M nb s0 k
    have hx := ext_run M nb s0 (show k ≤ k + L.length by omega)
    obtain ⟨j, hj⟩ := List.getElem?_of_mem ht
    rw [List.getElem?_drop] at hj
    have hnin : t ∉ (run M nb s0 k).q := fun hm => by
      obtain ⟨i, hi⟩ := List.getElem?_of_mem hm
      have hi' := hx.get hi
      have hl := (List.getElem?_eq_some_iff.1 hi).1
      have hl2 := (List.getElem?_eq_some_iff.1 hj).1
      have := (List.getElem_inj (h₀ := (List.getElem?_eq_some_iff.1 hi').1) (h₁ := hl2) hO.nd).1 (by rw [(List.getElem?_eq_some_iff.1 hi').2, (List.getElem?_eq_some_iff.1 hj).2])
      omega
    have hne : t ≠ s0 := fun e => hnin (by rw [e]; exact (hO0.mem s0).2 (by rw [hO0.zero]; simp))
    obtain ⟨i, u, h1, h2, h3, h4, h5⟩ := hO.par t (List.mem_of_getElem? hj) hne
    have hik : i < k + L.length := Nat.lt_of_le_of_ne h1 fun e => by have := h2 e; cases this
    have hu0 : (run M nb s0 k).q[i]? = some u := by
      obtain ⟨r, hr⟩ := hx.q
      rw [← hr, List.getElem?_append_left (by omega)] at h3; exact h3
    by_cases hi : i < k
    · exact absurd (hO0.cl i u hi hu0 t h5).1 hnin
    · have hm : L[i - k]? = some u := by rw [h.eq, List.getElem?_drop, show k + (i - k) = i by omega]; exact hu0
      have := h.far u (List.mem_of_getElem? hm)
      have hd : (run M nb s0 (k + L.length)).dst u = (run M nb s0 k).dst u := by
        have := hx.far u _ (hO0.dst (List.mem_of_getElem? hu0))
        unfold Sr.dst at *; rw [this]; rfl
      omega
theorem Lev.n_le (h : Lev M nb s0 k n L) {U : List S} (hU : Univ nb U) (h0 : s0 ∈ U) (hL : L ≠ []) : n ≤ U.length := by
  obtain ⟨u, hu⟩ : ∃ u, L[0]? = some u := by
    cases L with
    | nil => exact absurd rfl hL
    | cons a l => exact ⟨a, rfl⟩
  have h1 : (run M nb s0 k).q[k + 0]? = some u := by rw [h.eq, List.getElem?_drop] at hu; exact hu
  have h2 := dst_le k (k + 0) u h1
  have h3 := h.far u (List.mem_of_getElem? hu)
  have h4 := (List.getElem?_eq_some_iff.1 h1).1
  have h5 := hU.len h0 M k
  omega
/-- a state that is visited in part -/
def half (M : Nat) (nb : S → List S) (s0 : S) (n k : Nat) (s : S) (j : Nat) : Sr S := (run M nb s0 k).part M n s ((nb s).take j)
theorem half_zero (s : S) : half M nb s0 n k s 0 = run M nb s0 k := rfl
theorem half_succ (s : S) (j : Nat) (t : S) (hj : (nb s)[j]? = some t) : half M nb s0 n k s (j + 1) = (half M nb s0 n k s j).add M n ((half M nb s0 n k s j).way s) t := by
  unfold half
  rw [List.take_add_one, hj]
  exact Sr.part_snoc _ _ _ _ _ _
theorem half_all {s : S} (hs : (run M nb s0 k).q[k]? = some s) (hn : (run M nb s0 k).dst s + 1 = n) (j : Nat) (hj : (nb s).length ≤ j) : half M nb s0 n k s j = run M nb s0 (k + 1) := by
  unfold half
  rw [List.take_of_length_le hj, run_some hs, Sr.visit, hn]
theorem half_ext {s : S} (j : Nat) : Ext (run M nb s0 k) (half M nb s0 n k s j) := ext_part _
theorem half_sb (hM : 1 ≤ M) {U : List S} (hU : Univ nb U) (h0 : s0 ∈ U) {s : S} (hs : s ∈ U) (j : Nat) : SB M U (half M nb s0 n k s j) :=
  sb_part (sb_run hM hU h0 k) s _ fun t ht => hU.cl s hs t (List.mem_of_mem_take ht)
end
theorem drop_snoc {α : Type} (q : List α) (t : α) (n : Nat) (h : n ≤ q.length) : (q ++ [t]).drop n = q.drop n ++ [t] := by rw [List.drop_append_of_le_length h]
theorem add_none {M n w : Nat} {st : Sr S} {t : S} (h : st.far t = none) : (st.add M n w t).q = st.q ++ [t] := by unfold Sr.add; rw [h]
theorem add_some {M n w m : Nat} {st : Sr S} {t : S} (h : st.far t = some m) : (st.add M n w t).q = st.q ∧ (st.add M n w t).far = st.far := by
  rcases Sr.add_q (M := M) (n := n) (w := w) (st := st) (t := t) with ⟨h0, -⟩ | ⟨m, -, h1, h2⟩
  · rw [h] at h0; cases h0
  · exact ⟨h1, h2⟩
theorem add_far (M n w : Nat) (st : Sr S) (t : S) (h : st.far t = none) : (st.add M n w t).far = fun u => if u = t then some n else st.far u := by unfold Sr.add; rw [h]
end
end Go.Proofs.Ytjlecipeoaohiaa.RM
