/-
  Searches in breadth, over any states with a list of neighbours each: how far, in how many ways, in what order. Nothing of any program.
-/
namespace Go.Proofs.Ytjlecipeoaohiaa.RM
/-- induction over a list from its end -/
theorem revRec {α : Type} {P : List α → Prop} (nil : P []) (append_singleton : ∀ l a, P l → P (l ++ [a])) (l : List α) : P l := by
  have h : ∀ r : List α, P r.reverse := by
    intro r
    induction r with
    | nil => exact nil
    | cons a r ih => rw [List.reverse_cons]; exact append_singleton _ _ ih
  have := h l.reverse
  rwa [List.reverse_reverse] at this
section Found
variable {S : Type}
/-- what a search has found: how far each state is, in how many ways, and in what order they were found -/
structure Sr (S : Type) where
  far : S → Option Nat
  way : S → Nat
  q : List S
def Sr.dst (st : Sr S) (t : S) : Nat := (st.far t).getD 0
/-- what lasts -/
structure Ext (a b : Sr S) : Prop where
  far : ∀ t m, a.far t = some m → b.far t = some m
  q : a.q <+: b.q
theorem Ext.refl (a : Sr S) : Ext a a := ⟨fun _ _ h => h, List.prefix_refl _⟩
theorem Ext.trans {a b c : Sr S} (h : Ext a b) (k : Ext b c) : Ext a c := ⟨fun t m e => k.far t m (h.far t m e), h.q.trans k.q⟩
theorem Ext.get {a b : Sr S} (h : Ext a b) {i : Nat} {u : S} (e : a.q[i]? = some u) : b.q[i]? = some u := by
  obtain ⟨r, hr⟩ := h.q
  obtain ⟨hl, _⟩ := List.getElem?_eq_some_iff.1 e
  rw [← hr, List.getElem?_append_left hl]; exact e
/-- what holds of a search in which k states have been visited, and of the next one the neighbours l -/
structure Ok (nb : S → List S) (s0 : S) (k : Nat) (l : List S) (st : Sr S) : Prop where
  nd : st.q.Nodup
  mem : ∀ t, t ∈ st.q ↔ st.far t ≠ none
  zero : st.far s0 = some 0
  only : ∀ t, st.far t = some 0 → t = s0
  sorted : ∀ (i j : Nat) (u v : S), i ≤ j → st.q[i]? = some u → st.q[j]? = some v → st.dst u ≤ st.dst v
  near : ∀ u v, st.q[k]? = some u → v ∈ st.q → st.dst v ≤ st.dst u + 1
  par : ∀ t, t ∈ st.q → t ≠ s0 → ∃ (i : Nat) (u : S), i ≤ k ∧ (i = k → t ∈ l) ∧ st.q[i]? = some u ∧ st.dst t = st.dst u + 1 ∧ t ∈ nb u
  cl : ∀ (i : Nat) (u : S), i < k → st.q[i]? = some u → ∀ t ∈ nb u, t ∈ st.q ∧ st.dst t ≤ st.dst u + 1
  clp : ∀ u, st.q[k]? = some u → ∀ t ∈ l, t ∈ st.q ∧ st.dst t ≤ st.dst u + 1

theorem Ok.dst {nb : S → List S} {s0 : S} {k : Nat} {l : List S} {st : Sr S} (h : Ok nb s0 k l st) {t : S} (ht : t ∈ st.q) : st.far t = some (st.dst t) := by
  have := (h.mem t).1 ht
  unfold Sr.dst
  cases e : st.far t with
  | none => exact absurd e this
  | some m => rfl

end Found
section Search
variable {S : Type} [DecidableEq S]

def Sr.one (s : S) : Sr S := ⟨fun t => if t = s then some 0 else none, fun t => if t = s then 1 else 0, [s]⟩
/-- w ways of n moves to t are added -/
def Sr.add (M n w : Nat) (st : Sr S) (t : S) : Sr S :=
  match st.far t with
  | none => ⟨fun u => if u = t then some n else st.far u, fun u => if u = t then min (st.way t + w) M else st.way u, st.q ++ [t]⟩
  | some m => if m = n then ⟨st.far, fun u => if u = t then min (st.way t + w) M else st.way u, st.q⟩ else st
def Sr.part (M n : Nat) (s : S) (l : List S) (st : Sr S) : Sr S := l.foldl (fun a t => a.add M n (a.way s) t) st
def Sr.visit (M : Nat) (nb : S → List S) (st : Sr S) (s : S) : Sr S := st.part M (st.dst s + 1) s (nb s)
def run (M : Nat) (nb : S → List S) (s0 : S) : Nat → Sr S
  | 0 => Sr.one s0
  | k + 1 => match (run M nb s0 k).q[k]? with
    | none => run M nb s0 k
    | some s => (run M nb s0 k).visit M nb s

theorem Sr.part_nil (M n : Nat) (s : S) (st : Sr S) : st.part M n s [] = st := rfl
theorem Sr.part_snoc (M n : Nat) (s : S) (l : List S) (t : S) (st : Sr S) : st.part M n s (l ++ [t]) = (st.part M n s l).add M n ((st.part M n s l).way s) t := by
  unfold Sr.part; rw [List.foldl_append]; rfl

/-- what one state added leaves as it is -/
theorem Sr.add_far {M n w : Nat} {st : Sr S} {t u : S} {m : Nat} (h : st.far u = some m) : (st.add M n w t).far u = some m := by
  unfold Sr.add
  split
  · rename_i h0
    show (if u = t then some n else st.far u) = some m
    rw [if_neg (fun e => by rw [e, h0] at h; cases h)]; exact h
  · split
    · exact h
    · exact h
theorem Sr.add_q {M n w : Nat} {st : Sr S} {t : S} : (st.far t = none ∧ (st.add M n w t).q = st.q ++ [t] ∧ (st.add M n w t).far t = some n ∧ ∀ u, u ≠ t → (st.add M n w t).far u = st.far u) ∨ (∃ m, st.far t = some m ∧ (st.add M n w t).q = st.q ∧ (st.add M n w t).far = st.far) := by
  unfold Sr.add
  split
  · rename_i h0
    left; refine ⟨h0, rfl, ?_, fun u hu => ?_⟩
    · show (if t = t then some n else _) = _; rw [if_pos rfl]
    · show (if u = t then some n else _) = _; rw [if_neg hu]
  · rename_i m h0
    right; refine ⟨m, h0, ?_⟩
    split <;> exact ⟨rfl, rfl⟩
theorem Sr.add_way {M n w : Nat} {st : Sr S} {t u : S} (h : ∃ m, st.far u = some m ∧ m ≠ n) : (st.add M n w t).way u = st.way u := by
  obtain ⟨m, h, hn⟩ := h
  unfold Sr.add
  split
  · rename_i h0
    show (if u = t then _ else st.way u) = _
    rw [if_neg (fun e => by rw [e, h0] at h; cases h)]
  · rename_i m' h0
    split
    · rename_i e
      show (if u = t then _ else st.way u) = _
      rw [if_neg (fun e2 => by rw [e2, h0] at h; cases h; exact hn e)]
    · rfl
/-- the ways behind: to a state that is so far, or now is found -/
theorem Sr.add_ways {M n w : Nat} {st : Sr S} {t u : S} : (st.add M n w t).way u = if u = t ∧ (st.add M n w t).far t = some n then min (st.way t + w) M else st.way u := by
  unfold Sr.add
  split
  · show (if u = t then _ else _) = if u = t ∧ (if t = t then some n else _) = some n then _ else _
    rw [if_pos (rfl : t = t)]; simp
  · rename_i m h0
    split
    · rename_i e
      show (if u = t then _ else _) = if u = t ∧ st.far t = some n then _ else _
      rw [h0, e]; simp
    · rename_i e
      rw [h0, if_neg]
      rintro ⟨-, e2⟩; exact e (Option.some.inj e2)

theorem ext_add {M n w : Nat} {st : Sr S} {t : S} : Ext st (st.add M n w t) := by
  refine ⟨fun u m h => Sr.add_far h, ?_⟩
  rcases Sr.add_q (M := M) (n := n) (w := w) (st := st) (t := t) with ⟨-, h, -⟩ | ⟨m, -, h, -⟩
  · rw [h]; exact List.prefix_append _ _
  · rw [h]; exact List.prefix_refl _
theorem ext_part {M n : Nat} {s : S} {st : Sr S} (l : List S) : Ext st (st.part M n s l) := by
  induction l using revRec with
  | nil => exact Ext.refl _
  | append_singleton l t ih => rw [Sr.part_snoc]; exact ih.trans ext_add
theorem ext_step (M : Nat) (nb : S → List S) (s0 : S) (k : Nat) : Ext (run M nb s0 k) (run M nb s0 (k + 1)) := by
  show Ext _ (match (run M nb s0 k).q[k]? with | none => _ | some s => _)
  cases (run M nb s0 k).q[k]? with
  | none => exact Ext.refl _
  | some s => exact ext_part _
theorem ext_run (M : Nat) (nb : S → List S) (s0 : S) {j k : Nat} (h : j ≤ k) : Ext (run M nb s0 j) (run M nb s0 k) := by
  induction k with
  | zero => obtain rfl : j = 0 := by omega
            exact Ext.refl _
  | succ k ih =>
    by_cases e : j = k + 1
    · subst e; exact Ext.refl _
    · exact (ih (by omega)).trans (ext_step M nb s0 k)

theorem ok_one (nb : S → List S) (s0 : S) : Ok nb s0 0 [] (Sr.one s0) where
  nd := by simp [Sr.one]
  mem t := by simp [Sr.one]
  zero := by simp [Sr.one]
  only t h := by simp only [Sr.one] at h; split at h <;> simp_all
  sorted i j u v _ hi hj := by
    match i, j with
    | 0, 0 => rw [hi] at hj; cases hj; exact Nat.le_refl _
    | _, j + 1 => simp [Sr.one] at hj
    | i + 1, 0 => simp [Sr.one] at hi
  near u v hu hv := by simp [Sr.one] at hu hv; subst hu; subst hv; omega
  par t ht hne := by simp [Sr.one] at ht; exact absurd ht hne
  cl i u hi := by omega
  clp u _ t ht := by cases ht

theorem Ok.add {nb : S → List S} {s0 : S} {k : Nat} {l : List S} {st : Sr S} (h : Ok nb s0 k l st) {s t : S} (hs : st.q[k]? = some s) (ht : t ∈ nb s) (M w : Nat) :
    Ok nb s0 k (l ++ [t]) (st.add M (st.dst s + 1) w t) ∧ (st.add M (st.dst s + 1) w t).q[k]? = some s ∧ (st.add M (st.dst s + 1) w t).dst s = st.dst s := by
  have hE : Ext st (st.add M (st.dst s + 1) w t) := ext_add
  have hsm : s ∈ st.q := List.mem_of_getElem? hs
  have hd : ∀ u, u ∈ st.q → (st.add M (st.dst s + 1) w t).dst u = st.dst u := fun u hu => by
    have := hE.far u _ (h.dst hu)
    unfold Sr.dst at *; rw [this]; rfl
  refine ⟨?_, hE.get hs, hd s hsm⟩
  rcases Sr.add_q (M := M) (n := st.dst s + 1) (w := w) (st := st) (t := t) with ⟨h0, hq, hf, ho⟩ | ⟨m, h0, hq, hf⟩
  · have htn : t ∉ st.q := fun e => (h.mem t).1 e h0
    have hdt : (st.add M (st.dst s + 1) w t).dst t = st.dst s + 1 := by unfold Sr.dst at *; rw [hf]; rfl
    have hne : t ≠ s0 := fun e => by rw [e, h.zero] at h0; cases h0
    have hmem : ∀ v, v ∈ (st.add M (st.dst s + 1) w t).q ↔ v ∈ st.q ∨ v = t := fun v => by rw [hq]; simp
    have hget : ∀ i u, (st.add M (st.dst s + 1) w t).q[i]? = some u → (st.q[i]? = some u ∧ u ∈ st.q) ∨ (u = t ∧ i = st.q.length) := fun i u e => by
      rw [hq] at e
      by_cases hi : i < st.q.length
      · rw [List.getElem?_append_left hi] at e; exact .inl ⟨e, List.mem_of_getElem? e⟩
      · rw [List.getElem?_append_right (by omega)] at e
        right
        cases hj : i - st.q.length with
        | zero => rw [hj] at e; simp at e; exact ⟨e.symm, by omega⟩
        | succ j => rw [hj] at e; simp at e
    have hkl : k < st.q.length := (List.getElem?_eq_some_iff.1 hs).1
    refine ⟨?_, fun v => ?_, ?_, fun v hv => ?_, fun i j u v hij hi hj => ?_, fun u v hu hv => ?_, fun v hv hn => ?_, fun i u hi hu v hv => ?_, fun u hu v hv => ?_⟩
    · rw [hq, List.nodup_append]
      refine ⟨h.nd, by simp, fun a ha b hb => ?_⟩
      simp at hb; subst hb; exact fun e => htn (e ▸ ha)
    · rw [hmem]
      by_cases e : v = t
      · subst e; rw [hf]; simp
      · rw [ho v e, h.mem]; simp [e]
    · rw [ho s0 (Ne.symm hne)]; exact h.zero
    · by_cases e : v = t
      · subst e; rw [hf] at hv; simp at hv
      · rw [ho v e] at hv; exact h.only v hv
    · rcases hget i u hi with ⟨a, a'⟩ | ⟨rfl, a⟩
      · rcases hget j v hj with ⟨b, b'⟩ | ⟨rfl, b⟩
        · rw [hd u a', hd v b']; exact h.sorted i j u v hij a b
        · rw [hd u a', hdt]; exact h.near s u hs a'
      · rcases hget j v hj with ⟨b, b'⟩ | ⟨rfl, b⟩
        · have := (List.getElem?_eq_some_iff.1 b).1; omega
        · exact Nat.le_refl _
    · rcases hget k u hu with ⟨a, a'⟩ | ⟨_, a⟩
      · rw [hs] at a; cases a
        rw [hd s hsm]
        rcases (hmem v).1 hv with b | rfl
        · rw [hd v b]; exact h.near s v hs b
        · omega
      · omega
    · rcases (hmem v).1 hv with b | rfl
      · obtain ⟨i, u, h1, h2, h3, h4, h5⟩ := h.par v b hn
        exact ⟨i, u, h1, fun e => List.mem_append_left _ (h2 e), hE.get h3, by rw [hd v b, hd u (List.mem_of_getElem? h3)]; exact h4, h5⟩
      · exact ⟨k, s, Nat.le_refl _, fun _ => by simp, hE.get hs, by rw [hd s hsm]; exact hdt, ht⟩
    · rcases hget i u hu with ⟨a, a'⟩ | ⟨_, a⟩
      · obtain ⟨c1, c2⟩ := h.cl i u hi a v hv
        exact ⟨(hmem v).2 (.inl c1), by rw [hd v c1, hd u a']; exact c2⟩
      · omega
    · rcases hget k u hu with ⟨a, a'⟩ | ⟨_, a⟩
      · rw [hs] at a; cases a
        rw [hd s hsm]
        rcases List.mem_append.1 hv with b | b
        · obtain ⟨c1, c2⟩ := h.clp s hs v b
          exact ⟨(hmem v).2 (.inl c1), by rw [hd v c1]; exact c2⟩
        · simp at b; subst b
          exact ⟨(hmem v).2 (.inr rfl), by omega⟩
      · omega
  · have hdd : ∀ u, (st.add M (st.dst s + 1) w t).dst u = st.dst u := fun u => by unfold Sr.dst at *; rw [hf]
    have htm : t ∈ st.q := (h.mem t).2 (by rw [h0]; simp)
    refine ⟨by rw [hq]; exact h.nd, fun v => by rw [hq, hf]; exact h.mem v, by rw [hf]; exact h.zero, fun v hv => h.only v (by rw [hf] at hv; exact hv), fun i j u v hij hi hj => ?_, fun u v hu hv => ?_, fun v hv hn => ?_, fun i u hi hu v hv => ?_, fun u hu v hv => ?_⟩
    · rw [hq] at hi hj; rw [hdd, hdd]; exact h.sorted i j u v hij hi hj
    · rw [hq] at hu hv; rw [hdd, hdd]; exact h.near u v hu hv
    · rw [hq] at hv
      obtain ⟨i, u, h1, h2, h3, h4, h5⟩ := h.par v hv hn
      exact ⟨i, u, h1, fun e => List.mem_append_left _ (h2 e), by rw [hq]; exact h3, by rw [hdd, hdd]; exact h4, h5⟩
    · rw [hq] at hu ⊢; rw [hdd, hdd]; exact h.cl i u hi hu v hv
    · rw [hq] at hu ⊢; rw [hdd, hdd]
      rw [hs] at hu; cases hu
      rcases List.mem_append.1 hv with b | b
      · exact h.clp s hs v b
      · simp at b; subst b
        exact ⟨htm, h.near s v hs htm⟩

theorem Ok.part {nb : S → List S} {s0 : S} {k : Nat} {st : Sr S} (h : Ok nb s0 k [] st) {s : S} (hs : st.q[k]? = some s) (M : Nat) (l : List S) (hl : ∀ t ∈ l, t ∈ nb s) :
    Ok nb s0 k l (st.part M (st.dst s + 1) s l) ∧ (st.part M (st.dst s + 1) s l).q[k]? = some s ∧ (st.part M (st.dst s + 1) s l).dst s = st.dst s := by
  induction l using revRec with
  | nil => exact ⟨h, hs, rfl⟩
  | append_singleton l t ih =>
    obtain ⟨i1, i2, i3⟩ := ih (fun u hu => hl u (List.mem_append_left _ hu))
    rw [Sr.part_snoc]
    have := i1.add i2 (hl t (by simp)) M ((st.part M (st.dst s + 1) s l).way s)
    rw [i3] at this; exact this
theorem Ok.next {nb : S → List S} {s0 : S} {k : Nat} {st : Sr S} {s : S} (h : Ok nb s0 k (nb s) st) (hs : st.q[k]? = some s) : Ok nb s0 (k + 1) [] st where
  nd := h.nd
  mem := h.mem
  zero := h.zero
  only := h.only
  sorted := h.sorted
  near u v hu hv := by
    have := h.sorted k (k + 1) s u (by omega) hs hu
    have := h.near s v hs hv
    omega
  par t ht hn := by
    obtain ⟨i, u, h1, h2, h3⟩ := h.par t ht hn
    exact ⟨i, u, by omega, fun e => by omega, h3⟩
  cl i u hi hu t ht := by
    by_cases e : i = k
    · subst e; rw [hs] at hu; cases hu; exact h.clp s hs t ht
    · exact h.cl i u (by omega) hu t ht
  clp u _ t ht := by cases ht
theorem run_some {M : Nat} {nb : S → List S} {s0 s : S} {k : Nat} (h : (run M nb s0 k).q[k]? = some s) : run M nb s0 (k + 1) = (run M nb s0 k).visit M nb s := by
  show (match (run M nb s0 k).q[k]? with | none => _ | some s => _) = _
  rw [h]
theorem run_none {M : Nat} {nb : S → List S} {s0 : S} {k : Nat} (h : (run M nb s0 k).q[k]? = none) : run M nb s0 (k + 1) = run M nb s0 k := by
  show (match (run M nb s0 k).q[k]? with | none => _ | some s => _) = _
  rw [h]
theorem run_ok (M : Nat) (nb : S → List S) (s0 : S) (k : Nat) : Ok nb s0 k [] (run M nb s0 k) := by
  induction k with
  | zero => exact ok_one nb s0
  | succ k ih =>
    cases h : (run M nb s0 k).q[k]? with
    | none =>
      rw [run_none h]
      have hl : (run M nb s0 k).q.length ≤ k := List.getElem?_eq_none_iff.1 h
      refine ⟨ih.nd, ih.mem, ih.zero, ih.only, ih.sorted, fun u v hu _ => ?_, fun t ht hn => ?_, fun i u hi hu => ?_, fun u _ t ht => by cases ht⟩
      · rw [List.getElem?_eq_none (by omega)] at hu; cases hu
      · obtain ⟨i, u, h1, h2, h3⟩ := ih.par t ht hn
        exact ⟨i, u, by omega, fun e => by omega, h3⟩
      · by_cases e : i = k
        · subst e; rw [h] at hu; cases hu
        · exact ih.cl i u (by omega) hu
    | some s =>
      rw [run_some h]
      obtain ⟨a, b, c⟩ := ih.part h M (nb s) (fun _ h => h)
      exact Ok.next a b
theorem run_stay {M : Nat} {nb : S → List S} {s0 : S} {k : Nat} (h : (run M nb s0 k).q[k]? = none) : ∀ j, k ≤ j → run M nb s0 j = run M nb s0 k := by
  intro j hj
  induction j with
  | zero => obtain rfl : k = 0 := by omega
            rfl
  | succ j ih =>
    by_cases e : k = j + 1
    · subst e; rfl
    · have i := ih (by omega)
      rw [← i]
      refine run_none ?_
      rw [i]
      have := List.getElem?_eq_none_iff.1 h
      exact List.getElem?_eq_none (by omega)

/-- all states, and the neighbours of each among them -/
structure Univ (nb : S → List S) (U : List S) : Prop where
  cl : ∀ s ∈ U, ∀ t ∈ nb s, t ∈ U
  sym : ∀ s ∈ U, ∀ t ∈ nb s, s ∈ nb t
theorem nodup_sub_len {U : List S} : ∀ {l : List S}, l.Nodup → (∀ t ∈ l, t ∈ U) → l.length ≤ U.length := by
  intro l
  induction l generalizing U with
  | nil => intro _ _; simp
  | cons a l ih =>
    intro hn hs
    have ha := hs a (by simp)
    rw [List.nodup_cons] at hn
    have := ih (U := U.erase a) hn.2 (fun t ht => (List.mem_erase_of_ne (fun e => hn.1 (by rw [← e]; exact ht))).2 (hs t (by simp [ht])))
    rw [List.length_erase_of_mem ha] at this
    have := List.length_pos_of_mem ha
    simp; omega
theorem Univ.sub {nb : S → List S} {U : List S} (h : Univ nb U) {s0 : S} (h0 : s0 ∈ U) (M k : Nat) : ∀ t ∈ (run M nb s0 k).q, t ∈ U := by
  have hO := run_ok M nb s0 k
  have key : ∀ n t, t ∈ (run M nb s0 k).q → (run M nb s0 k).dst t = n → t ∈ U := by
    intro n
    induction n with
    | zero => intro t ht hd; exact (hO.only t (by rw [hO.dst ht, hd])) ▸ h0
    | succ n ih =>
      intro t ht hd
      by_cases e : t = s0
      · subst e; exact h0
      · obtain ⟨i, u, _, _, h3, h4, h5⟩ := hO.par t ht e
        exact h.cl u (ih u (List.mem_of_getElem? h3) (by omega)) t h5
  intro t ht; exact key _ t ht rfl
theorem Univ.len {nb : S → List S} {U : List S} (h : Univ nb U) {s0 : S} (h0 : s0 ∈ U) (M k : Nat) : (run M nb s0 k).q.length ≤ U.length := nodup_sub_len (run_ok M nb s0 k).nd (h.sub h0 M k)
/-- what a search that visits all of them finds -/
def fin (M : Nat) (nb : S → List S) (U : List S) (s0 : S) : Sr S := run M nb s0 U.length
theorem Univ.fin_none {nb : S → List S} {U : List S} (h : Univ nb U) {s0 : S} (h0 : s0 ∈ U) (M : Nat) : (run M nb s0 U.length).q[U.length]? = none := List.getElem?_eq_none (h.len h0 M _)
theorem Univ.fin_at {nb : S → List S} {U : List S} (h : Univ nb U) {s0 : S} (h0 : s0 ∈ U) {M k : Nat} (hk : (run M nb s0 k).q[k]? = none) : run M nb s0 k = fin M nb U s0 := by
  unfold fin
  by_cases e : k ≤ U.length
  · exact (run_stay hk _ e).symm
  · exact run_stay (h.fin_none h0 M) k (by omega)
theorem Univ.fin_ext {nb : S → List S} {U : List S} (h : Univ nb U) {s0 : S} (h0 : s0 ∈ U) (M k : Nat) : Ext (run M nb s0 k) (fin M nb U s0) := by
  by_cases e : k ≤ U.length
  · exact ext_run M nb s0 e
  · rw [show run M nb s0 k = fin M nb U s0 from run_stay (h.fin_none h0 M) k (by omega)]; exact Ext.refl _
theorem part_way {M n : Nat} {s : S} {st : Sr S} (l : List S) {u : S} (h : ∃ m, st.far u = some m ∧ m ≠ n) : (st.part M n s l).way u = st.way u := by
  induction l using revRec with
  | nil => rfl
  | append_singleton l t ih =>
    rw [Sr.part_snoc, Sr.add_way, ih]
    obtain ⟨m, h1, h2⟩ := h
    exact ⟨m, (ext_part l).far u m h1, h2⟩
/-- a state that is visited next has got all its ways -/
theorem way_fixed {M : Nat} {nb : S → List S} {s0 e : S} {k : Nat} (h : (run M nb s0 k).q[k]? = some e) : ∀ j, k ≤ j → (run M nb s0 j).way e = (run M nb s0 k).way e := by
  intro j hj
  induction j with
  | zero => obtain rfl : k = 0 := by omega
            rfl
  | succ j ih =>
    by_cases e1 : k = j + 1
    · subst e1; rfl
    · rw [← ih (by omega)]
      cases hq : (run M nb s0 j).q[j]? with
      | none => rw [run_none hq]
      | some s =>
        rw [run_some hq]
        have hx := ext_run M nb s0 (show k ≤ j by omega)
        have hO := run_ok M nb s0 j
        have he := hx.get h
        refine part_way _ ⟨_, hO.dst (List.mem_of_getElem? he), ?_⟩
        have := hO.sorted k j e s (by omega) he hq
        omega
theorem Univ.way_fin {nb : S → List S} {U : List S} (h : Univ nb U) {s0 : S} (h0 : s0 ∈ U) {M k : Nat} {e : S} (hk : (run M nb s0 k).q[k]? = some e) : (fin M nb U s0).way e = (run M nb s0 k).way e := by
  unfold fin
  by_cases e1 : k ≤ U.length
  · exact way_fixed hk _ e1
  · have : run M nb s0 k = run M nb s0 U.length := run_stay (h.fin_none h0 M) k (by omega)
    rw [this]
theorem Univ.far_fin {nb : S → List S} {U : List S} (h : Univ nb U) {s0 : S} (h0 : s0 ∈ U) {M k : Nat} {e : S} (hk : (run M nb s0 k).q[k]? = some e) : (fin M nb U s0).far e = (run M nb s0 k).far e := by
  have hO := run_ok M nb s0 k
  have a := hO.dst (List.mem_of_getElem? hk)
  rw [a]; exact (h.fin_ext h0 M k).far e _ a
theorem Univ.fin_ok {nb : S → List S} {U : List S} (_h : Univ nb U) (M : Nat) (s0 : S) : Ok nb s0 U.length [] (fin M nb U s0) := run_ok M nb s0 U.length
/-- from a state that is found, not the first, a move leads nearer -/
theorem Univ.nearer {nb : S → List S} {U : List S} (h : Univ nb U) {s0 : S} (h0 : s0 ∈ U) {M : Nat} {t : S} {d : Nat} (ht : (fin M nb U s0).far t = some (d + 1)) : ∃ u ∈ nb t, (fin M nb U s0).far u = some d := by
  have hO := h.fin_ok M s0
  have hm : t ∈ (fin M nb U s0).q := (hO.mem t).2 (by rw [ht]; simp)
  have hne : t ≠ s0 := fun e => by rw [e, hO.zero] at ht; cases ht
  obtain ⟨i, u, _, _, h3, h4, h5⟩ := hO.par t hm hne
  have hu := List.mem_of_getElem? h3
  refine ⟨u, h.sym u (h.sub h0 M _ u hu) t h5, ?_⟩
  have hd : (fin M nb U s0).dst t = d + 1 := by unfold Sr.dst; rw [ht]; rfl
  rw [hO.dst hu]; congr 1; omega
/-- where a search stopped, it knows all nearer states; it never finds one that is too near -/
theorem Univ.near_iff {nb : S → List S} {U : List S} (h : Univ nb U) {s0 : S} (h0 : s0 ∈ U) {M k : Nat} {e : S} (hk : (run M nb s0 k).q[k]? = some e) {a t : S} {d : Nat} (ha : (run M nb s0 k).far a = some (d + 1)) (hd : d + 1 ≤ (run M nb s0 k).dst e) (ht : t ∈ nb a) :
    (∃ x, (run M nb s0 k).far t = some x ∧ x < d + 1) ↔ (fin M nb U s0).far t = some d := by
  have hX := h.fin_ext h0 M k
  have hF := h.fin_ok M s0
  have hO := run_ok M nb s0 k
  have hfa := hX.far a _ ha
  have hda : (fin M nb U s0).dst a = d + 1 := by unfold Sr.dst; rw [hfa]; rfl
  have haF : a ∈ (fin M nb U s0).q := (hF.mem a).2 (by rw [hfa]; simp)
  constructor
  · rintro ⟨x, hx, hlt⟩
    have hft := hX.far t _ hx
    have htF : t ∈ (fin M nb U s0).q := (hF.mem t).2 (by rw [hft]; simp)
    obtain ⟨i, hi⟩ := List.getElem?_of_mem htF
    have hil := (List.getElem?_eq_some_iff.1 hi).1
    have hiU := h.len h0 M U.length
    have := (hF.cl i t (by unfold fin at hil; omega) hi a (h.sym a (h.sub h0 M _ a haF) t ht)).2
    have hdt : (fin M nb U s0).dst t = x := by unfold Sr.dst; rw [hft]; rfl
    rw [hft]; congr 1; omega
  · intro hft
    refine ⟨d, ?_, by omega⟩
    have htF : t ∈ (fin M nb U s0).q := (hF.mem t).2 (by rw [hft]; simp)
    obtain ⟨i, hi⟩ := List.getElem?_of_mem htF
    have hdt : (fin M nb U s0).dst t = d := by unfold Sr.dst; rw [hft]; rfl
    have heq := hX.get hk
    have hde : (fin M nb U s0).dst e = (run M nb s0 k).dst e := by unfold Sr.dst; rw [h.far_fin h0 hk]
    have hik : i < k := by
      apply Nat.lt_of_not_le
      intro hle
      have := hF.sorted k i e t hle heq hi
      omega
    obtain ⟨r, hr⟩ := hX.q
    have hkl := (List.getElem?_eq_some_iff.1 hk).1
    rw [← hr, List.getElem?_append_left (by omega)] at hi
    have htO := List.mem_of_getElem? hi
    have h1 := hO.dst htO
    have h2 := hX.far t _ h1
    rw [hft] at h2
    rw [h1]; exact congrArg some (Option.some.inj h2).symm

/-- the ways, when the search has been done before -/
def ways2p (M : Nat) (F : S → Option Nat) (s : S) (n : Nat) (l : List S) (w : S → Nat) : S → Nat :=
  l.foldl (fun w t => if F t = some n then (fun u => if u = t then min (w t + w s) M else w u) else w) w
def ways2 (M : Nat) (nb : S → List S) (F : Sr S) (s0 : S) : Nat → S → Nat
  | 0 => fun t => if t = s0 then 1 else 0
  | k + 1 => match F.q[k]? with
    | none => ways2 M nb F s0 k
    | some s => ways2p M F.far s (F.dst s + 1) (nb s) (ways2 M nb F s0 k)
theorem ways2p_snoc (M : Nat) (F : S → Option Nat) (s : S) (n : Nat) (l : List S) (t : S) (w : S → Nat) :
    ways2p M F s n (l ++ [t]) w = (if F t = some n then (fun u => if u = t then min (ways2p M F s n l w t + ways2p M F s n l w s) M else ways2p M F s n l w u) else ways2p M F s n l w) := by
  unfold ways2p; rw [List.foldl_append]; rfl
theorem ways2_part {M n : Nat} {F : S → Option Nat} {s : S} : ∀ (l : List S) {st : Sr S} (_ : ∀ t m, (st.part M n s l).far t = some m → F t = some m) (_ : ∀ t ∈ l, (st.part M n s l).far t ≠ none), (st.part M n s l).way = ways2p M F s n l st.way := by
  intro l
  induction l using revRec with
  | nil => intro st _ _; rfl
  | append_singleton l t ih =>
    intro st hX hm
    have hE : Ext (st.part M n s l) (st.part M n s (l ++ [t])) := by rw [Sr.part_snoc]; exact ext_add
    have i := ih (st := st) (fun u m h => hX u m (hE.far u m h)) (fun u hu e => by
      -- a neighbour that was tried has been found
      have key : ∀ (l : List S) (st : Sr S), ∀ u ∈ l, (st.part M n s l).far u ≠ none := by
        intro l
        induction l using revRec with
        | nil => intro _ u hu; cases hu
        | append_singleton l t ih2 =>
          intro st u hu
          rw [Sr.part_snoc]
          have fr : ∀ v, (st.part M n s l).far v ≠ none → ((st.part M n s l).add M n ((st.part M n s l).way s) t).far v ≠ none := fun v hv => by
            cases e : (st.part M n s l).far v with
            | none => exact absurd e hv
            | some m => rw [Sr.add_far e]; simp
          rcases List.mem_append.1 hu with b | b
          · exact fr u (ih2 st u b)
          · simp at b; subst b
            rcases Sr.add_q (M := M) (n := n) (w := (st.part M n s l).way s) (st := st.part M n s l) (t := u) with ⟨_, _, h, _⟩ | ⟨m, h, _, h2⟩
            · rw [h]; simp
            · rw [h2, h]; simp
      exact key l st u hu e)
    rw [ways2p_snoc, ← i]
    funext u
    rw [Sr.part_snoc, Sr.add_ways]
    rw [Sr.part_snoc] at hX hm
    cases e : ((st.part M n s l).add M n ((st.part M n s l).way s) t).far t with
    | none => exact absurd e (hm t (by simp))
    | some m =>
      have := hX t m e
      rw [this]
      by_cases h1 : m = n
      · subst h1; by_cases h2 : u = t <;> simp [h2]
      · rw [if_neg (fun h => h1 (Option.some.inj h.2)), if_neg (fun h => h1 (Option.some.inj h))]
theorem Univ.ways2_run {nb : S → List S} {U : List S} (h : Univ nb U) {s0 : S} (h0 : s0 ∈ U) (M k : Nat) : ways2 M nb (fin M nb U s0) s0 k = (run M nb s0 k).way := by
  induction k with
  | zero => rfl
  | succ k ih =>
    have hX := h.fin_ext h0 M k
    show (match (fin M nb U s0).q[k]? with | none => _ | some s => _) = _
    cases hq : (run M nb s0 k).q[k]? with
    | none =>
      rw [run_none hq]
      have hn : (fin M nb U s0).q[k]? = none := by rw [← h.fin_at h0 hq]; exact hq
      rw [hn]; exact ih
    | some s =>
      rw [hX.get hq, run_some hq]; simp only []
      rw [ih]
      have hO := run_ok M nb s0 k
      have hd : (fin M nb U s0).dst s = (run M nb s0 k).dst s := by unfold Sr.dst; rw [h.far_fin h0 hq]
      rw [hd]
      have hX1 := h.fin_ext h0 M (k + 1)
      rw [run_some hq] at hX1
      unfold Sr.visit
      refine (ways2_part (nb s) (fun t m ht => hX1.far t m ht) (fun t ht => ?_)).symm
      have hp := hO.part hq M (nb s) (fun _ h => h)
      exact (hp.1.mem t).1 (hp.1.clp s hp.2.1 t ht).1
end Search
end Go.Proofs.Ytjlecipeoaohiaa.RM
