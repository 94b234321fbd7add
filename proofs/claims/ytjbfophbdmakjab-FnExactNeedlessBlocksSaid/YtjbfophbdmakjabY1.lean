/- Needless blocks: plain mathematics; bolts without a block, by the model. -/
import Derived.Test.YtjbfophbdmakjabE4
namespace Go.Proofs.Ytjbfophbdmakjab
open Go Go.RowKit RM
/-- the blocks but the one with an index, among the first -/
def woK (bs : List Blk) (k : Int) : Nat → List Blk
  | 0 => []
  | j + 1 => woK bs k j ++ (if (j : Int) = k then [] else (bs[j]?).toList)
theorem woK_at (bs : List Blk) (k : Int) (j : Nat) (hj : j < bs.length) (h : (j : Int) = k) : woK bs k (j + 1) = woK bs k j := by rw [woK, if_pos h, List.append_nil]
theorem woK_ne (bs : List Blk) (k : Int) (j : Nat) (hj : j < bs.length) (h : (j : Int) ≠ k) : woK bs k (j + 1) = woK bs k j ++ [bs[j]] := by rw [woK, if_neg h, List.getElem?_eq_getElem hj]; rfl
theorem woK_len (bs : List Blk) (k : Int) (j : Nat) : (woK bs k j).length ≤ j := by
  induction j with
  | zero => simp [woK]
  | succ j ih =>
    rw [woK, List.length_append]
    split
    · simp; omega
    · have : (bs[j]?).toList.length ≤ 1 := by cases bs[j]? <;> simp
      omega
theorem woK_none (bs : List Blk) (k : Int) (h : k < 0 ∨ (bs.length : Int) ≤ k) : woK bs k bs.length = bs := by
  have key : ∀ j, j ≤ bs.length → woK bs k j = bs.take j := by
    intro j
    induction j with
    | zero => intro _; simp [woK]
    | succ j ih =>
      intro hj
      rw [woK_ne bs k j (by omega) (by omega), ih (by omega), List.take_succ_eq_append_getElem (by omega)]
  rw [key _ (Nat.le_refl _), List.take_length]
theorem woK_some (bs : List Blk) (k : Nat) (h : k < bs.length) : woK bs (k : Int) bs.length = bs.take k ++ bs.drop (k + 1) := by
  have key : ∀ j, j ≤ bs.length → woK bs (k : Int) j = (bs.take k ++ bs.drop (k + 1)).take (if j ≤ k then j else j - 1) := by
    intro j
    induction j with
    | zero => intro _; simp [woK]
    | succ j ih =>
      intro hj
      by_cases h1 : (j : Int) = (k : Int)
      · have h2 : j = k := by omega
        rw [woK_at bs _ j (by omega) h1, ih (by omega)]
        subst h2
        rw [if_pos (Nat.le_refl _), if_neg (by omega)]; rfl
      · rw [woK_ne bs _ j (by omega) h1, ih (by omega)]
        by_cases h2 : j < k
        · rw [if_pos (by omega), if_pos (by omega), List.take_append_of_le_length (by simp; omega), List.take_append_of_le_length (by simp; omega), List.take_take, List.take_take, Nat.min_eq_left (by omega), Nat.min_eq_left (by omega), List.take_succ_eq_append_getElem (by omega)]
        · rw [if_neg (by omega), if_neg (by omega)]
          have e : j + 1 - 1 = (j - 1) + 1 := by omega
          rw [e, List.take_succ_eq_append_getElem (by simp; omega)]
          congr 1
          rw [List.getElem_append_right (by simp; omega), List.getElem_drop]
          congr 1
          have : (bs.take k).length = k := by simp; omega
          congr 1
          omega
  rw [key _ (Nat.le_refl _), if_neg (by omega), List.take_of_length_le (by simp; omega)]
theorem woK_mem (bs : List Blk) (k : Int) (j : Nat) (b : Blk) (h : b ∈ woK bs k j) : b ∈ bs := by
  induction j with
  | zero => simp [woK] at h
  | succ j ih =>
    rw [woK] at h
    rcases List.mem_append.1 h with h | h
    · exact ih h
    · split at h
      · simp at h
      · rw [Option.mem_toList] at h
        exact List.mem_of_getElem? h
theorem gb_wo {ps : List Nat} {bs : List Blk} (h : GB ps bs) (k : Int) : GB ps (woK bs k bs.length) :=
  ⟨h.l1, h.l6, h.p, h.n, Nat.le_trans (woK_len bs k bs.length) h.b, fun b hb => h.k b (woK_mem bs k _ b hb)⟩
/-- whether a block forbids a state that no other block forbids -/
def lone (bs : List Blk) (k : Nat) (d : List Nat) : Bool := agn bs d == [(k : Int)]
theorem ag_iff (bs : List Blk) (d : List Nat) : ∀ n, n ≤ bs.length → ∀ k : Nat, (agK bs d n = [(k : Int)] ↔ k < n ∧ (∀ j (h : j < bs.length), j < n → (hit bs[j] d = true ↔ j = k))) ∧ (agK bs d n = [] ↔ ∀ j (h : j < bs.length), j < n → hit bs[j] d = false) := by
  intro n
  induction n with
  | zero => intro _ k; exact ⟨⟨fun h => by simp [agK] at h, fun h => absurd h.1 (by omega)⟩, ⟨fun _ j _ h => by omega, fun _ => rfl⟩⟩
  | succ n ih =>
    intro hn k
    have hl : n < bs.length := by omega
    obtain ⟨i1, i2⟩ := ih (by omega) k
    cases hh : hit bs[n] d with
    | false =>
      rw [agK_miss bs d n hl hh]
      refine ⟨i1.trans ⟨fun ⟨a, b⟩ => ⟨by omega, fun j hj hjn => ?_⟩, fun ⟨a, b⟩ => ?_⟩, i2.trans ⟨fun a j hj hjn => ?_, fun a j hj hjn => a j hj (by omega)⟩⟩
      · by_cases e : j = n
        · subst e; rw [hh]; exact ⟨fun h => (Bool.noConfusion h), fun h => by omega⟩
        · exact b j hj (by omega)
      · have hkn : k ≠ n := fun e => by subst e; have := (b k hl (by omega)).2 rfl; rw [hh] at this; cases this
        exact ⟨by omega, fun j hj hjn => b j hj (by omega)⟩
      · by_cases e : j = n
        · subst e; exact hh
        · exact a j hj (by omega)
    | true =>
      rw [agK_hit bs d n hl hh]
      refine ⟨⟨fun h => ?_, fun ⟨a, b⟩ => ?_⟩, ⟨fun h => by simp at h, fun h => by have := h n hl (by omega); rw [hh] at this; cases this⟩⟩
      · have h0 : agK bs d n = [] := by
          have := congrArg List.length h
          rw [List.length_append] at this
          exact List.length_eq_zero_iff.1 (by simpa using this)
        rw [h0] at h
        have h8 : (n : Int) = (k : Int) := by simpa using h
        have hnk : n = k := by omega
        subst hnk
        refine ⟨by omega, fun j hj hjn => ?_⟩
        by_cases e : j = n
        · subst e; simp [hh]
        · rw [i2.1 h0 j hj (by omega)]; exact ⟨fun h => (Bool.noConfusion h), fun h => absurd h e⟩
      · have hnk : n = k := (b n hl (by omega)).1 hh
        subst hnk
        have h0 : agK bs d n = [] := i2.2 fun j hj hjn => by
          rw [← Bool.not_eq_true]; intro h
          have := (b j hj (by omega)).1 h; omega
        rw [h0]; rfl
theorem mem_wo (bs : List Blk) (k : Nat) (hk : k < bs.length) (d : List Nat) : fr (woK bs (k : Int) bs.length) d = true ↔ ∀ j (h : j < bs.length), j ≠ k → hit bs[j] d = false := by
  rw [woK_some bs k hk]
  unfold fr
  rw [List.all_append, Bool.and_eq_true, List.all_eq_true, List.all_eq_true]
  constructor
  · rintro ⟨h1, h2⟩ j hj hne
    by_cases hlt : j < k
    · have hm : bs[j] ∈ bs.take k := by
        rw [List.mem_take_iff_getElem]; exact ⟨j, by omega, rfl⟩
      simpa using h1 _ hm
    · have hm : bs[j] ∈ bs.drop (k + 1) := by
        rw [List.mem_drop_iff_getElem]; exact ⟨j - (k + 1), by omega, by congr 1; omega⟩
      simpa using h2 _ hm
  · intro h
    refine ⟨fun x hx => ?_, fun x hx => ?_⟩
    · obtain ⟨j, hj, rfl⟩ := List.mem_take_iff_getElem.1 hx
      simpa using h j (by omega) (by omega)
    · obtain ⟨j, hj, rfl⟩ := List.mem_drop_iff_getElem.1 hx
      simpa using h (k + 1 + j) (by omega) (by omega)
theorem lone_iff (bs : List Blk) (k : Nat) (hk : k < bs.length) (d : List Nat) : lone bs k d = true ↔ fr (woK bs (k : Int) bs.length) d = true ∧ fr bs d = false := by
  unfold lone agn
  rw [beq_iff_eq, (ag_iff bs d bs.length (Nat.le_refl _) k).1, mem_wo bs k hk]
  have hfr : fr bs d = false ↔ ∃ j, ∃ h : j < bs.length, hit bs[j] d = true := by
    rw [← Bool.not_eq_true]
    unfold fr
    rw [List.all_eq_true]
    constructor
    · intro h
      apply Classical.byContradiction
      intro h2
      apply h
      intro x hx
      obtain ⟨j, hj, rfl⟩ := List.getElem_of_mem hx
      cases hh : hit bs[j] d
      · rfl
      · exact absurd ⟨j, hj, hh⟩ h2
    · rintro ⟨j, hj, h⟩ h2
      have := h2 _ (List.getElem_mem hj)
      rw [h] at this; cases this
  rw [hfr]
  constructor
  · rintro ⟨_, h⟩
    refine ⟨fun j hj hne => ?_, k, hk, (h k hk hk).2 rfl⟩
    rw [← Bool.not_eq_true]; intro h2
    exact hne ((h j hj hj).1 h2)
  · rintro ⟨h1, j, hj, h2⟩
    have e : j = k := Classical.byContradiction fun e => by rw [h1 j hj e] at h2; cases h2
    subst e
    refine ⟨hj, fun i hi _ => ⟨fun h => Classical.byContradiction fun e => (by rw [h1 i hi e] at h; cases h), fun e => (by subst e; exact h2)⟩⟩
theorem fr_wo (bs : List Blk) (k : Nat) (hk : k < bs.length) (d : List Nat) (h : fr bs d = true) : fr (woK bs (k : Int) bs.length) d = true := by
  rw [mem_wo bs k hk]
  intro j hj _
  unfold fr at h
  have := List.all_eq_true.1 h _ (List.getElem_mem hj)
  simpa using this
theorem filter_len_eq {α : Type} (p q : α → Bool) (h : ∀ x, p x = true → q x = true) : ∀ l : List α, (l.filter p).length ≤ (l.filter q).length ∧ ((l.filter q).length = (l.filter p).length ↔ ∀ x ∈ l, q x = true → p x = true) := by
  intro l
  induction l with
  | nil => simp
  | cons a l ih =>
    obtain ⟨i1, i2⟩ := ih
    cases hp : p a with
    | true =>
      have hq := h a hp
      rw [List.filter_cons_of_pos hp, List.filter_cons_of_pos hq]
      refine ⟨by simp; omega, ?_⟩
      simp only [List.length_cons, List.forall_mem_cons]
      rw [Nat.add_right_cancel_iff, i2]
      exact ⟨fun h => ⟨fun _ => hp, h⟩, fun h => h.2⟩
    | false =>
      rw [List.filter_cons_of_neg (by simp [hp])]
      cases hq : q a with
      | true =>
        rw [List.filter_cons_of_pos hq]
        refine ⟨by simp; omega, ?_⟩
        simp only [List.length_cons, List.forall_mem_cons]
        exact ⟨fun h => by omega, fun h => by have := h.1 hq; rw [hp] at this; cases this⟩
      | false =>
        rw [List.filter_cons_of_neg (by simp [hq])]
        refine ⟨i1, ?_⟩
        simp only [List.forall_mem_cons]
        rw [i2]
        exact ⟨fun h => ⟨fun h2 => (by rw [hq] at h2; cases h2), h⟩, fun h => h.2⟩
/-- a block is needless: no state is forbidden by it alone -/
theorem needless_iff (ps : List Nat) (bs : List Blk) (k : Nat) (hk : k < bs.length) : (allU ps (woK bs (k : Int) bs.length)).length = (allU ps bs).length ↔ (al ps ps.length).any (lone bs k) = false := by
  unfold allU
  rw [(filter_len_eq (fr bs) (fr (woK bs (k : Int) bs.length)) (fun d h => fr_wo bs k hk d h) (al ps ps.length)).2, List.any_eq_false]
  constructor
  · intro h d hd hl
    obtain ⟨h1, h2⟩ := (lone_iff bs k hk d).1 hl
    rw [h d hd h1] at h2; cases h2
  · intro h d hd h1
    cases h2 : fr bs d with
    | true => rfl
    | false => exact absurd ((lone_iff bs k hk d).2 ⟨h1, h2⟩) (h d hd)
end Go.Proofs.Ytjbfophbdmakjab
