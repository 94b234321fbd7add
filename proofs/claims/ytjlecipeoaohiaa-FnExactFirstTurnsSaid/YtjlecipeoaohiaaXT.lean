/- All states of boxes, their numbers, and the turns between them: plain mathematics. -/
import Derived.Test.YtjlecipeoaohiaaXL
import Derived.Test.YtjlecipeoaohiaaBase0
namespace Go.Proofs.Ytjlecipeoaohiaa
open Go Go.RowKit RM
/-- the number of a state, and the state with a number -/
def nX (s : Nat) (d : List Nat) : Nat := d.foldl (fun n x => n * s + x) 0
def gX (s : Nat) : Nat → Nat → List Nat
  | 0, _ => []
  | p + 1, n => gX s p (n / s) ++ [n % s]
theorem nX_snoc (s : Nat) (d : List Nat) (x : Nat) : nX s (d ++ [x]) = nX s d * s + x := by simp [nX]
theorem gX_len (s : Nat) : ∀ p n, (gX s p n).length = p := by
  intro p
  induction p with
  | zero => intro n; rfl
  | succ p ih => intro n; simp [gX, ih]
theorem gX_lt {s : Nat} (hs : 1 ≤ s) : ∀ p n, ∀ x ∈ gX s p n, x < s := by
  intro p
  induction p with
  | zero => intro n x hx; simp [gX] at hx
  | succ p ih =>
    intro n x hx
    simp only [gX, List.mem_append, List.mem_singleton] at hx
    rcases hx with hx | rfl
    · exact ih _ x hx
    · exact Nat.mod_lt _ hs
theorem gX_ok {s : Nat} (hs : 1 ≤ s) (p n : Nat) : stOk p s (gX s p n) := ⟨gX_len s p n, fun i h => gX_lt hs p n _ (List.getElem_mem h)⟩
theorem nX_lt {s : Nat} : ∀ (d : List Nat), (∀ x ∈ d, x < s) → nX s d < s ^ d.length := by
  intro d
  induction d using revRec with
  | nil => intro _; simp [nX]
  | append_singleton d x ih =>
    intro h
    have h1 := ih (fun y hy => h y (List.mem_append_left _ hy))
    have h2 := h x (by simp)
    rw [nX_snoc, List.length_append, List.length_singleton, Nat.pow_succ]
    have : (nX s d + 1) * s ≤ s ^ d.length * s := Nat.mul_le_mul_right _ h1
    rw [Nat.add_mul, Nat.one_mul] at this
    omega
theorem nX_gX {s : Nat} (hs : 1 ≤ s) : ∀ p n, n < s ^ p → nX s (gX s p n) = n := by
  intro p
  induction p with
  | zero => intro n h; simp at h; subst h; rfl
  | succ p ih =>
    intro n h
    rw [Nat.pow_succ] at h
    show nX s (gX s p (n / s) ++ [n % s]) = n
    rw [nX_snoc, ih _ (Nat.div_lt_of_lt_mul (by rw [Nat.mul_comm]; exact h)), Nat.mul_comm]; exact Nat.div_add_mod _ _
theorem gX_nX {s : Nat} : ∀ (d : List Nat), (∀ x ∈ d, x < s) → gX s d.length (nX s d) = d := by
  intro d
  induction d using revRec with
  | nil => intro _; rfl
  | append_singleton d x ih =>
    intro h
    have h1 := ih (fun y hy => h y (List.mem_append_left _ hy))
    have h2 := h x (by simp)
    rw [nX_snoc, List.length_append, List.length_singleton]
    show gX s d.length ((nX s d * s + x) / s) ++ [(nX s d * s + x) % s] = _
    have e1 : (nX s d * s + x) / s = nX s d := by
      rw [Nat.mul_comm, Nat.mul_add_div (by omega), Nat.div_eq_of_lt h2, Nat.add_zero]
    have e2 : (nX s d * s + x) % s = x := by
      rw [Nat.mul_comm, Nat.mul_add_mod]; exact Nat.mod_eq_of_lt h2
    rw [e1, e2, h1]
theorem stOk_mem {p s : Nat} {d : List Nat} (h : stOk p s d) : ∀ x ∈ d, x < s := fun x hx => by
  obtain ⟨i, hi, rfl⟩ := List.getElem_of_mem hx
  exact h.2 i hi
theorem nX_st {p s : Nat} {d : List Nat} (h : stOk p s d) : nX s d < s ^ p := by
  have := nX_lt d (stOk_mem h); rwa [h.1] at this
theorem gX_st {p s : Nat} {d : List Nat} (h : stOk p s d) : gX s p (nX s d) = d := by
  have := gX_nX d (stOk_mem h); rwa [h.1] at this
/-- all states, in order -/
def allX (p s : Nat) : List (List Nat) := (List.range (s ^ p)).map (gX s p)
theorem mem_X {p s : Nat} (hs : 1 ≤ s) {d : List Nat} : d ∈ allX p s ↔ stOk p s d := by
  unfold allX
  rw [List.mem_map]
  constructor
  · rintro ⟨n, -, rfl⟩; exact gX_ok hs p n
  · intro h; exact ⟨nX s d, List.mem_range.2 (nX_st h), gX_st h⟩
theorem X_len (p s : Nat) : (allX p s).length = s ^ p := by simp [allX]
/-- the states behind the turns of one -/
def nbX (p s : Nat) (rs : List ByteArray) (d : List Nat) : List (List Nat) := (tK s rs d (2 * p)).map fun m => tuD d m.1 m.2
theorem tK_mem' (s : Nat) (rs : List ByteArray) (d : List Nat) (k : Nat) (up : Bool) (n : Nat) : (k, up) ∈ tK s rs d n ↔ (2 * k + (if up then 0 else 1) < n ∧ tuB s rs d k up = true) := by
  induction n with
  | zero => simp [tK]
  | succ n ih =>
    unfold tK
    rw [List.mem_append, ih]
    by_cases e : 2 * k + (if up then 0 else 1) = n
    · have e1 : n / 2 = k := by cases up <;> simp at e <;> omega
      have e2 : (n % 2 == 0) = up := by
        cases up
        · simp at e; rw [beq_eq_false_iff_ne]; omega
        · simp at e; rw [beq_iff_eq]; omega
      rw [e1, e2]
      cases h : tuB s rs d k up
      · simp
      · simp; omega
    · have hne : (k, up) ≠ (n / 2, n % 2 == 0) := by
        intro h
        rw [Prod.mk.injEq] at h
        obtain ⟨h1, h2⟩ := h
        apply e
        cases up
        · have : ¬ n % 2 = 0 := by intro h3; rw [h3] at h2; simp at h2
          simp; omega
        · have : n % 2 = 0 := by simpa using h2.symm
          simp; omega
      have hn : (k, up) ∉ (if tuB s rs d (n / 2) (n % 2 == 0) then [(n / 2, n % 2 == 0)] else []) := by
        split
        · simpa using hne
        · simp
      constructor
      · rintro (⟨h1, h2⟩ | h)
        · exact ⟨by omega, h2⟩
        · exact absurd h hn
      · rintro ⟨h1, h2⟩
        exact Or.inl ⟨by omega, h2⟩
theorem mem_nbX {p s : Nat} {rs : List ByteArray} {d t : List Nat} : t ∈ nbX p s rs d ↔ ∃ k up, k < p ∧ tuB s rs d k up = true ∧ t = tuD d k up := by
  unfold nbX
  rw [List.mem_map]
  constructor
  · rintro ⟨⟨k, up⟩, h, rfl⟩
    obtain ⟨h1, h2⟩ := (tK_mem' s rs d k up _).1 h
    exact ⟨k, up, by omega, h2, rfl⟩
  · rintro ⟨k, up, h1, h2, rfl⟩
    exact ⟨(k, up), (tK_mem' s rs d k up _).2 ⟨by cases up <;> simp <;> omega, h2⟩, rfl⟩
theorem tuB_v {s : Nat} {rs : List ByteArray} {d : List Nat} {k : Nat} {up : Bool} (h : tuB s rs d k up = true) : vX s d k up = true := by
  unfold tuB at h; rw [Bool.and_eq_true] at h; exact h.1
theorem fitX_set (r : ByteArray) (d : List Nat) (k x : Nat) (h : r.data.toList.getD k 0 = 63) : fitX r (d.set k x) = fitX r d := by
  unfold fitX
  rw [Bool.eq_iff_iff, List.all_eq_true, List.all_eq_true]
  have key : ∀ i, (r.data.toList.getD i 0 == 63 || (r.data.toList.getD i 0).toNat == 48 + (d.set k x).getD i 0) = (r.data.toList.getD i 0 == 63 || (r.data.toList.getD i 0).toNat == 48 + d.getD i 0) := fun i => by
    by_cases e : i = k
    · subst e; rw [h]; rfl
    · have : (d.set k x).getD i 0 = d.getD i 0 := by
        rw [List.getD_eq_getElem?_getD, List.getD_eq_getElem?_getD, List.getElem?_set_ne (fun e2 => e e2.symm)]
      rw [this]
  constructor <;> intro g i hi
  · rw [← key]; exact g i hi
  · rw [key]; exact g i hi
theorem rule_at {p s : Nat} {rs : List ByteArray} (hall : ∀ j (hj : j < rs.length), ruleOk p s (j / (s - 1)) rs[j] = true) (hlen : rs.length = p * (s - 1)) {k lo : Nat} (hk : k < p) (hlo : lo < s - 1) :
    (rs.getD (k * (s - 1) + lo) ⟨#[]⟩).data.toList.getD k 0 = 63 := by
  have h1 : k * (s - 1) + lo < rs.length := by
    rw [hlen]
    calc k * (s - 1) + lo < k * (s - 1) + (s - 1) := by omega
      _ = (k + 1) * (s - 1) := by rw [Nat.add_mul, Nat.one_mul]
      _ ≤ p * (s - 1) := Nat.mul_le_mul_right _ hk
  have h2 := hall _ h1
  have e : (k * (s - 1) + lo) / (s - 1) = k := by
    rw [Nat.mul_comm, Nat.mul_add_div (by omega), Nat.div_eq_of_lt hlo, Nat.add_zero]
  rw [e, ruleOk_iff] at h2
  rw [getD_at rs _ _ h1]; exact h2.2.1
theorem tuD_get {d : List Nat} {k : Nat} (h : k < d.length) (up : Bool) : (tuD d k up).getD k 0 = if up then d.getD k 0 + 1 else d.getD k 0 - 1 := by
  unfold tuD
  rw [List.getD_eq_getElem?_getD, List.getElem?_set_self h]; rfl
theorem tuD_back {d : List Nat} {k : Nat} (h : k < d.length) {s : Nat} {up : Bool} (hv : vX s d k up = true) : tuD (tuD d k up) k (!up) = d := by
  have e := tuD_get h up
  show (tuD d k up).set k (if (!up) = true then (tuD d k up).getD k 0 + 1 else (tuD d k up).getD k 0 - 1) = d
  rw [e]
  show (d.set k _).set k _ = d
  rw [List.set_set]
  unfold vX at hv
  have e2 : (if (!up) = true then (if up = true then d.getD k 0 + 1 else d.getD k 0 - 1) + 1 else (if up = true then d.getD k 0 + 1 else d.getD k 0 - 1) - 1) = d.getD k 0 := by
    cases up
    · simp at hv ⊢; omega
    · simp
  rw [e2, getD_at d k 0 h, List.set_getElem_self]
theorem tuB_back {p s : Nat} {rs : List ByteArray} (hall : ∀ j (hj : j < rs.length), ruleOk p s (j / (s - 1)) rs[j] = true) (hlen : rs.length = p * (s - 1)) (hs : 2 ≤ s) {d : List Nat} (hd : stOk p s d) {k : Nat} (hk : k < p) {up : Bool} (h : tuB s rs d k up = true) : tuB s rs (tuD d k up) k (!up) = true := by
  have hkl : k < d.length := by rw [hd.1]; exact hk
  have hv := tuB_v h
  have e := tuD_get hkl up
  have hlo := loX_lt hd hs hv
  have hl : loX (tuD d k up) k (!up) = loX d k up := by
    unfold loX
    rw [e]
    cases up
    · simp
    · simp
  have hg := stOk_getD hd (by omega) k
  unfold tuB at h ⊢
  rw [Bool.and_eq_true] at h ⊢
  refine ⟨?_, ?_⟩
  · unfold vX
    rw [e]
    unfold vX at hv
    generalize d.getD k 0 = v at *
    cases up
    · simp at hv ⊢; omega
    · simp
  · rw [hl]
    unfold tuD
    rw [fitX_set _ _ _ _ (rule_at hall hlen hk (by omega))]
    exact h.2
theorem univX {p s : Nat} {rs : List ByteArray} (hall : ∀ j (hj : j < rs.length), ruleOk p s (j / (s - 1)) rs[j] = true) (hlen : rs.length = p * (s - 1)) (hs : 2 ≤ s) : Univ (nbX p s rs) (allX p s) where
  cl d hd t ht := by
    rw [mem_X (by omega)] at hd ⊢
    obtain ⟨k, up, hk, h, rfl⟩ := mem_nbX.1 ht
    exact tuD_ok hd hk (tuB_v h)
  sym d hd t ht := by
    rw [mem_X (by omega)] at hd
    obtain ⟨k, up, hk, h, rfl⟩ := mem_nbX.1 ht
    exact mem_nbX.2 ⟨k, !up, hk, tuB_back hall hlen hs hd hk h, (tuD_back (by rw [hd.1]; exact hk) (tuB_v h)).symm⟩
theorem tK_len2 (p s : Nat) (rs : List ByteArray) (d : List Nat) : (nbX p s rs d).length ≤ 2 * p := by
  unfold nbX; rw [List.length_map]; exact tK_len s rs d _
end Go.Proofs.Ytjlecipeoaohiaa
