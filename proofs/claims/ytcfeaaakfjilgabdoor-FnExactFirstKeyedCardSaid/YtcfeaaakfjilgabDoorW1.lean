/- Searches by keys: plain mathematics. -/
import Derived.Test.YtcfeaaakfjilgabDoorG1
import Derived.Test.YtcfeaaakfjilgabDoorV2
namespace Go.Proofs.YtcfeaaakfjilgabDoor
set_option linter.unusedSimpArgs false
set_option linter.unusedVariables false
open RM
/-- the states behind the moves from one, by rings that increase -/
def nbK (n : Nat) (fk : Nat → Nat → Bool) (x : Nat) : List Nat := (List.range n).filterMap fun k => if fk k x then some (x ^^^ 2 ^ k) else none
theorem mem_nbK {n : Nat} {fk : Nat → Nat → Bool} {x t : Nat} : t ∈ nbK n fk x ↔ ∃ k, k < n ∧ fk k x = true ∧ t = x ^^^ 2 ^ k := by
  unfold nbK
  rw [List.mem_filterMap]
  constructor
  · rintro ⟨k, hk, h⟩
    split at h
    · rename_i hf; exact ⟨k, List.mem_range.1 hk, hf, (Option.some.inj h).symm⟩
    · cases h
  · rintro ⟨k, hk, hf, rfl⟩
    exact ⟨k, List.mem_range.2 hk, by rw [if_pos hf]⟩
theorem xor_twice (x k : Nat) : (x ^^^ 2 ^ k) ^^^ 2 ^ k = x := by rw [Nat.xor_assoc, Nat.xor_self, Nat.xor_zero]
theorem xor_lt' {x n k : Nat} (hx : x < 2 ^ n) (hk : k < n) : x ^^^ 2 ^ k < 2 ^ n := Nat.xor_lt_two_pow hx (Nat.pow_lt_pow_right (by decide) hk)
/-- a key tells nothing of its own ring -/
structure Keyd (n : Nat) (fk : Nat → Nat → Bool) : Prop where
  own : ∀ k, k < n → ∀ x, fk k (x ^^^ 2 ^ k) = fk k x
theorem Keyd.univ {n : Nat} {fk : Nat → Nat → Bool} (h : Keyd n fk) : Univ (nbK n fk) (List.range (2 ^ n)) where
  cl s hs t ht := by
    obtain ⟨k, hk, _, rfl⟩ := mem_nbK.1 ht
    exact List.mem_range.2 (xor_lt' (List.mem_range.1 hs) hk)
  sym s _ t ht := by
    obtain ⟨k, hk, hf, rfl⟩ := mem_nbK.1 ht
    exact mem_nbK.2 ⟨k, hk, by rw [h.own k hk]; exact hf, (xor_twice s k).symm⟩
/-- how many moves lead to a state, as few as there can be -/
def kD (n : Nat) (fk : Nat → Nat → Bool) (x t : Nat) : Option Nat := (fin 1 (nbK n fk) (List.range (2 ^ n)) x).far t
/-- what is known of these numbers -/
structure Dst (n : Nat) (fk : Nat → Nat → Bool) (x : Nat) (D : Nat → Option Nat) : Prop where
  zero : D x = some 0
  only : ∀ t, D t = some 0 → t = x
  next : ∀ u m, D u = some m → ∀ k, k < n → fk k u = true → ∃ m', D (u ^^^ 2 ^ k) = some m' ∧ m' ≤ m + 1
  prev : ∀ t m, D t = some (m + 1) → ∃ k, k < n ∧ fk k (t ^^^ 2 ^ k) = true ∧ D (t ^^^ 2 ^ k) = some m
  lt : ∀ t m, D t = some m → t < 2 ^ n ∧ m < 2 ^ n
theorem Keyd.dst {n : Nat} {fk : Nat → Nat → Bool} (h : Keyd n fk) {x : Nat} (hx : x < 2 ^ n) : Dst n fk x (kD n fk x) := by
  have hU := h.univ
  have h0 : x ∈ List.range (2 ^ n) := List.mem_range.2 hx
  have hO := hU.fin_ok 1 x
  have mem : ∀ t m, kD n fk x t = some m → t ∈ (fin 1 (nbK n fk) (List.range (2 ^ n)) x).q := fun t m e => (hO.mem t).2 (by
    show kD n fk x t ≠ none
    rw [e]; simp)
  have dst : ∀ t m, kD n fk x t = some m → (fin 1 (nbK n fk) (List.range (2 ^ n)) x).dst t = m := fun t m e => by
    show (kD n fk x t).getD 0 = m
    rw [e]; rfl
  have prev : ∀ t m, kD n fk x t = some (m + 1) → ∃ k, k < n ∧ fk k (t ^^^ 2 ^ k) = true ∧ kD n fk x (t ^^^ 2 ^ k) = some m := fun t m e => by
    obtain ⟨u, hu, hd⟩ := hU.nearer h0 (M := 1) (t := t) (d := m) e
    obtain ⟨k, hk, hf, rfl⟩ := mem_nbK.1 hu
    exact ⟨k, hk, by rw [h.own k hk]; exact hf, hd⟩
  have lt1 : ∀ t m, kD n fk x t = some m → t < 2 ^ n := fun t m e => List.mem_range.1 (hU.sub h0 1 _ t (mem t m e))
  have chain : ∀ m t, kD n fk x t = some m → ∃ l : List Nat, l.Nodup ∧ l.length = m + 1 ∧ ∀ y ∈ l, ∃ j, j ≤ m ∧ kD n fk x y = some j := by
    intro m
    induction m with
    | zero => intro t e; exact ⟨[t], by simp, rfl, fun y hy => ⟨0, Nat.le_refl _, by simp at hy; subst hy; exact e⟩⟩
    | succ m ih =>
      intro t e
      obtain ⟨k, hk, _, hd⟩ := prev t m e
      obtain ⟨l, l1, l2, l3⟩ := ih _ hd
      refine ⟨t :: l, List.nodup_cons.2 ⟨fun ht => ?_, l1⟩, by simp [l2], fun y hy => ?_⟩
      · obtain ⟨j, hj, e2⟩ := l3 t ht
        rw [e] at e2; have := Option.some.inj e2; omega
      · rcases List.mem_cons.1 hy with rfl | hy
        · exact ⟨m + 1, Nat.le_refl _, e⟩
        · obtain ⟨j, hj, e2⟩ := l3 y hy; exact ⟨j, by omega, e2⟩
  refine ⟨hO.zero, hO.only, fun u m e k hk hf => ?_, prev, fun t m e => ⟨lt1 t m e, ?_⟩⟩
  · have hm := mem u m e
    obtain ⟨i, hi⟩ := List.getElem?_of_mem hm
    have hil := (List.getElem?_eq_some_iff.1 hi).1
    have hlen := hU.len h0 1 (List.range (2 ^ n)).length
    obtain ⟨c1, c2⟩ := hO.cl i u (by unfold fin at hil; omega) hi (u ^^^ 2 ^ k) (mem_nbK.2 ⟨k, hk, hf, rfl⟩)
    have hd := hO.dst c1
    exact ⟨_, hd, by rw [dst u m e] at c2; exact c2⟩
  · obtain ⟨l, l1, l2, l3⟩ := chain m t e
    have := nodup_sub_len (U := List.range (2 ^ n)) l1 (fun y hy => by
      obtain ⟨j, _, e2⟩ := l3 y hy
      exact List.mem_range.2 (lt1 y j e2))
    rw [List.length_range] at this; omega
/-- whether the ring k can be moved, by the keys -/
def fkS (ks : List ByteArray) (k x : Nat) : Bool := fitN (ks.getD k ⟨#[]⟩).data.toList x
theorem fkS_at (ks : List ByteArray) (k x : Nat) (h : k < ks.length) : fkS ks k x = fitN ks[k].data.toList x := by unfold fkS; rw [getD_at ks k _ h]
theorem keys_keyd (ks : List ByteArray) (h : goodK ks = true) : Keyd ks.length (fkS ks) := by
  refine ⟨fun k hk x => ?_⟩
  rw [fkS_at ks k _ hk, fkS_at ks k _ hk]
  have hkk := (keyOk_iff _ _ _).1 (goodK_at ks h k hk)
  have hlen : ks[k].data.toList.length = ks.length := by rw [← hkk.1]; exact Array.length_toList
  have hb : (tolX ks[k].data.toList).testBit k = false := by
    rw [tol_bit _ k (by omega)]
    have := hkk.2.1
    rw [getD_at _ k _ (by omega)] at this
    rw [this]; rfl
  unfold fitN
  have e : (x ^^^ 2 ^ k) &&& tolX ks[k].data.toList = x &&& tolX ks[k].data.toList := by
    apply Nat.eq_of_testBit_eq
    intro i
    rw [Nat.testBit_and, Nat.testBit_and, Nat.testBit_xor, Nat.testBit_two_pow]
    by_cases hi : k = i
    · subst hi; rw [hb]; simp
    · simp [hi]
  rw [e]
/-- what the program knows of the states when so many levels are done, and T tells which states of the next level it knows -/
structure RowOk (N : Nat) (D : Nat → Option Nat) (L : Nat) (T : Nat → Bool) (R : List (Nat × Nat)) : Prop where
  len : R.length = N
  yes : ∀ s (h : s < R.length), ((∃ m, m ≤ L ∧ D s = some m) ∨ T s = true) → R[s].1 = (D s).getD 0 ∧ 1 ≤ R[s].2 ∧ R[s].2 ≤ 9223372036854775808
  no : ∀ s (h : s < R.length), ¬ ((∃ m, m ≤ L ∧ D s = some m) ∨ T s = true) → R[s] = (0, 0)
  next : ∀ s, T s = true → D s = some (L + 1)
/-- one move of a state of the level: to a state that is not known yet -/
theorem RowOk.new {n N L x u k : Nat} {fk : Nat → Nat → Bool} {D : Nat → Option Nat} {T : Nat → Bool} {R : List (Nat × Nat)} (h : RowOk N D L T R) (hD : Dst n fk x D) (hu : D u = some L) (hk : k < n) (hf : fk k u = true)
    (hs : u ^^^ 2 ^ k < R.length) (h0 : R[u ^^^ 2 ^ k].2 = 0) (b : Nat) (hb1 : 1 ≤ b) (hb2 : b ≤ 9223372036854775808) :
    R[u ^^^ 2 ^ k] = (0, 0) ∧ RowOk N D L (fun s => T s || s == u ^^^ 2 ^ k) (R.set (u ^^^ 2 ^ k) (L + 1, b)) := by
  obtain ⟨m', hm, hml⟩ := hD.next u L hu k hk hf
  generalize u ^^^ 2 ^ k = t at *
  have hno : ¬ ((∃ m, m ≤ L ∧ D t = some m) ∨ T t = true) := fun hh => by have := (h.yes t hs hh).2.1; omega
  have hmL : m' = L + 1 := by
    apply Nat.le_antisymm hml
    apply Nat.le_of_not_lt
    intro hlt
    exact hno (.inl ⟨m', by omega, hm⟩)
  subst hmL
  refine ⟨h.no t hs hno, by rw [List.length_set]; exact h.len, fun s hl hh => ?_, fun s hl hh => ?_, fun s hh => ?_⟩
  · rw [List.length_set] at hl
    rw [List.getElem_set]
    by_cases e : t = s
    · subst e; rw [if_pos rfl, hm]; exact ⟨rfl, hb1, hb2⟩
    · rw [if_neg e]
      refine h.yes s hl ?_
      rcases hh with hh | hh
      · exact .inl hh
      · right
        simp only [Bool.or_eq_true, beq_iff_eq] at hh
        rcases hh with hh | hh
        · exact hh
        · exact absurd hh.symm e
  · rw [List.length_set] at hl
    rw [List.getElem_set]
    by_cases e : t = s
    · subst e; exact absurd (.inr (by simp)) hh
    · rw [if_neg e]
      refine h.no s hl (fun h2 => hh ?_)
      rcases h2 with h2 | h2
      · exact .inl h2
      · right; simp [h2]
  · simp only [Bool.or_eq_true, beq_iff_eq] at hh
    rcases hh with hh | hh
    · exact h.next s hh
    · subst hh; exact hm
/-- .. to a state that is known -/
theorem RowOk.old {n N L x u k : Nat} {fk : Nat → Nat → Bool} {D : Nat → Option Nat} {T : Nat → Bool} {R : List (Nat × Nat)} (h : RowOk N D L T R) (hD : Dst n fk x D) (hu : D u = some L) (hk : k < n) (hf : fk k u = true)
    (hs : u ^^^ 2 ^ k < R.length) (h0 : R[u ^^^ 2 ^ k].2 ≠ 0) (b : Nat) :
    1 ≤ R[u ^^^ 2 ^ k].2 ∧ R[u ^^^ 2 ^ k].2 ≤ 9223372036854775808 ∧ (R[u ^^^ 2 ^ k].1 = L + 1 → T (u ^^^ 2 ^ k) = true ∧ RowOk N D L T (R.set (u ^^^ 2 ^ k) (L + 1, R[u ^^^ 2 ^ k].2 + min b (9223372036854775808 - R[u ^^^ 2 ^ k].2)))) ∧ (T (u ^^^ 2 ^ k) = true ∨ ∃ m, m ≤ L ∧ D (u ^^^ 2 ^ k) = some m) := by
  generalize u ^^^ 2 ^ k = t at *
  have hy : (∃ m, m ≤ L ∧ D t = some m) ∨ T t = true := Classical.byContradiction fun hh => h0 (by rw [h.no t hs hh])
  obtain ⟨y1, y2, y3⟩ := h.yes t hs hy
  refine ⟨y2, y3, fun e1 => ?_, hy.symm⟩
  have hT : T t = true := by
    rcases hy with ⟨m, hm, e⟩ | hy
    · rw [e] at y1
      have : R[t].1 = m := y1
      omega
    · exact hy
  refine ⟨hT, by rw [List.length_set]; exact h.len, fun s hl hh => ?_, fun s hl hh => ?_, h.next⟩
  · rw [List.length_set] at hl
    rw [List.getElem_set]
    by_cases e : t = s
    · subst e
      rw [if_pos rfl, h.next t hT]
      refine ⟨rfl, ?_, ?_⟩
      · show 1 ≤ R[t].2 + _; omega
      · show R[t].2 + _ ≤ _
        have := Nat.min_le_right b (9223372036854775808 - R[t].2)
        omega
    · rw [if_neg e]; exact h.yes s hl hh
  · rw [List.length_set] at hl
    rw [List.getElem_set]
    by_cases e : t = s
    · subst e; exact absurd hy hh
    · rw [if_neg e]; exact h.no s hl hh
/-- the first row -/
theorem RowOk.one {n x N : Nat} {fk : Nat → Nat → Bool} {D : Nat → Option Nat} (hD : Dst n fk x D) (hN : N = 2 ^ n) : RowOk N D 0 (fun _ => false) ((List.replicate N (0, 0)).set x (0, 1)) := by
  refine ⟨by simp, fun s hl hh => ?_, fun s hl hh => ?_, fun s h => by cases h⟩
  · rcases hh with ⟨m, hm, e⟩ | hh
    · obtain rfl : m = 0 := by omega
      obtain rfl := hD.only s e
      rw [List.getElem_set, if_pos rfl, e]
      exact ⟨rfl, by simp, by simp⟩
    · cases hh
  · rw [List.getElem_set]
    by_cases e : x = s
    · subst e; exact absurd (.inl ⟨0, Nat.le_refl _, hD.zero⟩) hh
    · rw [if_neg e]; simp
/-- a level is done, and the next one is not empty -/
theorem RowOk.up {N L : Nat} {D : Nat → Option Nat} {T : Nat → Bool} {R : List (Nat × Nat)} (h : RowOk N D L T R) (hT : ∀ s, T s = true ↔ D s = some (L + 1)) : RowOk N D (L + 1) (fun _ => false) R := by
  have key : ∀ s, ((∃ m, m ≤ L + 1 ∧ D s = some m) ∨ (fun _ => false : Nat → Bool) s = true) ↔ ((∃ m, m ≤ L ∧ D s = some m) ∨ T s = true) := fun s => by
    rw [hT]
    constructor
    · rintro (⟨m, hm, e⟩ | h)
      · by_cases e1 : m = L + 1
        · subst e1; exact .inr e
        · exact .inl ⟨m, by omega, e⟩
      · cases h
    · rintro (⟨m, hm, e⟩ | e)
      · exact .inl ⟨m, by omega, e⟩
      · exact .inl ⟨_, Nat.le_refl _, e⟩
  exact ⟨h.len, fun s hl hh => h.yes s hl ((key s).1 hh), fun s hl hh => h.no s hl (fun h2 => hh ((key s).2 h2)), fun s h => by cases h⟩
/-- no state of the next level: all that are reached are known -/
theorem RowOk.done {n N L x : Nat} {fk : Nat → Nat → Bool} {D : Nat → Option Nat} {T : Nat → Bool} {R : List (Nat × Nat)} (h : RowOk N D L T R) (hD : Dst n fk x D) (hT : ∀ s, D s ≠ some (L + 1)) (h2 : ∀ s, T s = false) :
    ∀ s (hl : s < R.length), (∀ m, D s = some m → R[s].1 = m ∧ 1 ≤ R[s].2 ∧ R[s].2 ≤ 9223372036854775808) ∧ (D s = none → R[s] = (0, 0)) := by
  have hno : ∀ j s, D s ≠ some (L + 1 + j) := by
    intro j
    induction j with
    | zero => exact hT
    | succ j ih =>
      intro s e
      obtain ⟨k, _, _, hd⟩ := hD.prev s (L + 1 + j) e
      exact ih _ hd
  intro s hl
  refine ⟨fun m e => ?_, fun e => h.no s hl ?_⟩
  · have hm : m ≤ L := by
      apply Nat.le_of_not_lt
      intro hlt
      exact hno (m - (L + 1)) s (by rw [e]; congr 1; omega)
    have := h.yes s hl (.inl ⟨m, hm, e⟩)
    rw [e] at this; exact this
  · rintro (⟨m, _, e2⟩ | e2)
    · rw [e] at e2; cases e2
    · rw [h2 s] at e2; cases e2
end Go.Proofs.YtcfeaaakfjilgabDoor
