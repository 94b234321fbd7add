/- The first of texts, and the farthest states: plain mathematics. -/
import Derived.Test.YtcfeaaakfjilgabDoorW1
import Derived.Test.YtcfeaaakfjilgabDoorH
import Derived.Lib.MinMaxS
namespace Go.Proofs.YtcfeaaakfjilgabDoor
set_option linter.unusedSimpArgs false
set_option linter.unusedVariables false
open Go Go.RowKit RM
/-- one text stands before another -/
def bl (a b : ByteArray) : Bool := Op.bytesLess a.toList b.toList
theorem lL_irr : ∀ x, Op.bytesLess x x = false
  | [] => rfl
  | a :: x => by rw [Op.bytesLess, lL_irr x]; simp
theorem lL_trans : ∀ x y z, Op.bytesLess x y = true → Op.bytesLess y z = true → Op.bytesLess x z = true := by
  intro x
  induction x with
  | nil =>
    intro y z h1 h2
    cases z with
    | nil => cases y <;> simp [Op.bytesLess] at h2
    | cons c z => rfl
  | cons a x ih =>
    intro y z h1 h2
    cases y with
    | nil => simp [Op.bytesLess] at h1
    | cons b y =>
      cases z with
      | nil => simp [Op.bytesLess] at h2
      | cons c z =>
        simp only [Op.bytesLess, Bool.or_eq_true, Bool.and_eq_true, decide_eq_true_eq, beq_iff_eq] at *
        rcases h1 with h1 | ⟨rfl, h1⟩
        · rcases h2 with h2 | ⟨rfl, h2⟩
          · exact .inl (UInt8.lt_trans h1 h2)
          · exact .inl h1
        · rcases h2 with h2 | ⟨rfl, h2⟩
          · exact .inl h2
          · exact .inr ⟨rfl, ih y z h1 h2⟩
theorem lL_anti : ∀ x y, Op.bytesLess x y = false → Op.bytesLess y x = false → x = y := by
  intro x
  induction x with
  | nil => intro y h1 h2; cases y with
    | nil => rfl
    | cons b y => simp [Op.bytesLess] at h1
  | cons a x ih =>
    intro y h1 h2
    cases y with
    | nil => simp [Op.bytesLess] at h2
    | cons b y =>
      simp only [Op.bytesLess, Bool.or_eq_false_iff, Bool.and_eq_false_iff, decide_eq_false_iff_not, beq_eq_false_iff_ne] at *
      have e : a = b := by
        apply UInt8.toNat_inj.1
        have a1 := h1.1
        have a2 := h2.1
        rw [UInt8.lt_iff_toNat_lt] at a1 a2
        omega
      subst e
      rw [ih y (h1.2.resolve_left (fun h => h rfl)) (h2.2.resolve_left (fun h => h rfl))]
theorem bl_irr (a : ByteArray) : bl a a = false := lL_irr _
theorem bl_trans {a b c : ByteArray} (h1 : bl a b = true) (h2 : bl b c = true) : bl a c = true := lL_trans _ _ _ h1 h2
theorem bl_anti {a b : ByteArray} (h1 : bl a b = false) (h2 : bl b a = false) : a = b := by
  have e := lL_anti _ _ h1 h2
  rw [ByteArray.toList_eq, ByteArray.toList_eq] at e
  exact ByteArray.ext (Array.toList_inj.1 e)
/-- not before one that is not before a third -/
theorem bl_le {a b c : ByteArray} (h1 : bl b a = false) (h2 : bl c b = false) : bl c a = false := by
  cases h : bl c a with
  | false => rfl
  | true =>
    cases h3 : bl a b with
    | false => rw [bl_anti h1 h3, h] at h2; cases h2
    | true => rw [bl_trans h h3] at h2; cases h2
theorem minS_eq (x y : ByteArray) : Lib.minS x y = if bl y x then y else x := by
  unfold Lib.minS
  cases h : bl y x with
  | true =>
    rw [if_pos (show (true : Bool) = true from rfl), if_neg]
    rintro (h2 | h2)
    · have h3 : bl x y = true := by
        unfold bl
        rw [bytesLess_eq, ByteArray.toList_eq, ByteArray.toList_eq]
        exact decide_eq_true h2
      have := bl_trans h h3
      rw [bl_irr] at this; cases this
    · have e : x = y := ByteArray.ext (Array.toList_inj.1 h2)
      rw [e, bl_irr] at h; cases h
  | false =>
    rw [if_neg (show ¬ ((false : Bool) = true) by simp)]
    split
    · rfl
    · rename_i hn
      have h3 : bl x y = false := by
        unfold bl
        rw [bytesLess_eq, ByteArray.toList_eq, ByteArray.toList_eq]
        exact decide_eq_false (fun h => hn (.inl h))
      exact (bl_anti h h3)
theorem fold_min : ∀ (r : List ByteArray) (a : ByteArray), (r.foldl Lib.minS a = a ∨ r.foldl Lib.minS a ∈ r) ∧ bl a (r.foldl Lib.minS a) = false ∧ ∀ z ∈ r, bl z (r.foldl Lib.minS a) = false := by
  intro r
  induction r with
  | nil => intro a; exact ⟨.inl rfl, bl_irr a, fun z h => by cases h⟩
  | cons b r ih =>
    intro a
    obtain ⟨i1, i2, i3⟩ := ih (Lib.minS a b)
    show (r.foldl Lib.minS (Lib.minS a b) = a ∨ r.foldl Lib.minS (Lib.minS a b) ∈ b :: r) ∧ bl a (r.foldl Lib.minS (Lib.minS a b)) = false ∧ ∀ z ∈ b :: r, bl z (r.foldl Lib.minS (Lib.minS a b)) = false
    rw [minS_eq] at i1 i2 i3 ⊢
    cases h : bl b a with
    | true =>
      rw [h, if_pos rfl] at i1 i2 i3
      rw [if_pos rfl]
      refine ⟨?_, ?_, fun z hz => ?_⟩
      · rcases i1 with i1 | i1
        · rw [i1]; exact .inr (List.mem_cons_self ..)
        · exact .inr (List.mem_cons_of_mem _ i1)
      · refine bl_le i2 ?_
        cases h2 : bl a b with
        | false => rfl
        | true => have := bl_trans h h2; rw [bl_irr] at this; cases this
      · rcases List.mem_cons.1 hz with rfl | hz
        · exact i2
        · exact i3 z hz
    | false =>
      rw [h, if_neg (show ¬ ((false : Bool) = true) by simp)] at i1 i2 i3
      rw [if_neg (show ¬ ((false : Bool) = true) by simp)]
      refine ⟨?_, i2, fun z hz => ?_⟩
      · rcases i1 with i1 | i1
        · exact .inl i1
        · exact .inr (List.mem_cons_of_mem _ i1)
      · rcases List.mem_cons.1 hz with rfl | hz
        · exact bl_le i2 h
        · exact i3 z hz
theorem minOf_spec (zs : List ByteArray) (h : zs ≠ []) : Lib.minOfS zs ∈ zs ∧ ∀ z ∈ zs, bl z (Lib.minOfS zs) = false := by
  cases zs with
  | nil => exact absurd rfl h
  | cons a r =>
    obtain ⟨i1, i2, i3⟩ := fold_min (a :: r) a
    unfold Lib.minOfS
    refine ⟨?_, i3⟩
    rcases i1 with i1 | i1
    · show (a :: r).foldl Lib.minS a ∈ _
      rw [i1]; exact List.mem_cons_self ..
    · exact i1
/-- the most moves, and the first text of the states that need so many -/
structure Best (n : Nat) (D : Nat → Option Nat) (M : Nat) (t : ByteArray) : Prop where
  top : ∀ x d, D x = some d → d ≤ M
  at_ : ∃ x, x < 2 ^ n ∧ D x = some M ∧ t = ST n x
  le : ∀ x, x < 2 ^ n → D x = some M → bl (ST n x) t = false
theorem Best.uniq {n M M' : Nat} {D : Nat → Option Nat} {t t' : ByteArray} (h : Best n D M t) (h' : Best n D M' t') : M = M' ∧ t = t' := by
  obtain ⟨x, hx, hd, rfl⟩ := h.at_
  obtain ⟨x', hx', hd', rfl⟩ := h'.at_
  have e : M = M' := Nat.le_antisymm (h'.top _ _ hd) (h.top _ _ hd')
  subst e
  exact ⟨rfl, bl_anti (h'.le x hx hd) (h.le x' hx' hd')⟩
/-- the same of the first numbers alone -/
structure BestTo (n : Nat) (D : Nat → Option Nat) (k M : Nat) (t : ByteArray) : Prop where
  top : ∀ y, y < k → ∀ d, D (gray y) = some d → d ≤ M
  at_ : ∃ x, x < 2 ^ n ∧ D x = some M ∧ t = ST n x
  le : ∀ y, y < k → D (gray y) = some M → bl (ST n (gray y)) t = false
theorem BestTo.zero {n x : Nat} {D : Nat → Option Nat} (hx : x < 2 ^ n) (h : D x = some 0) : BestTo n D 0 0 (ST n x) :=
  ⟨fun y hy => by omega, ⟨x, hx, h, rfl⟩, fun y hy => by omega⟩
theorem BestTo.more {n k M d : Nat} {D : Nat → Option Nat} {t : ByteArray} (h : BestTo n D k M t) (hk : k < 2 ^ n) (hd : D (gray k) = some d) (hlt : M < d) : BestTo n D (k + 1) d (ST n (gray k)) := by
  refine ⟨fun y hy d' e => ?_, ⟨gray k, gray_lt n k hk, hd, rfl⟩, fun y hy e => ?_⟩
  · by_cases hyk : y = k
    · subst hyk; rw [hd] at e; have := Option.some.inj e; omega
    · have := h.top y (by omega) d' e; omega
  · by_cases hyk : y = k
    · subst hyk; exact bl_irr _
    · have := h.top y (by omega) d e; omega
theorem BestTo.first {n k M : Nat} {D : Nat → Option Nat} {t : ByteArray} (h : BestTo n D k M t) (hk : k < 2 ^ n) (hd : D (gray k) = some M) (hb : bl (ST n (gray k)) t = true) : BestTo n D (k + 1) M (ST n (gray k)) := by
  refine ⟨fun y hy d' e => ?_, ⟨gray k, gray_lt n k hk, hd, rfl⟩, fun y hy e => ?_⟩
  · by_cases hyk : y = k
    · subst hyk; rw [hd] at e; have := Option.some.inj e; omega
    · exact h.top y (by omega) d' e
  · by_cases hyk : y = k
    · subst hyk; exact bl_irr _
    · have h1 := h.le y (by omega) e
      cases h2 : bl (ST n (gray y)) (ST n (gray k)) with
      | false => rfl
      | true => rw [bl_trans h2 hb] at h1; cases h1
theorem BestTo.keep {n k M : Nat} {D : Nat → Option Nat} {t : ByteArray} (h : BestTo n D k M t) (h1 : ∀ d, D (gray k) = some d → d < M ∨ (d = M ∧ bl (ST n (gray k)) t = false)) : BestTo n D (k + 1) M t := by
  refine ⟨fun y hy d' e => ?_, h.at_, fun y hy e => ?_⟩
  · by_cases hyk : y = k
    · subst hyk; have := h1 d' e; omega
    · exact h.top y (by omega) d' e
  · by_cases hyk : y = k
    · subst hyk
      rcases h1 M e with h | ⟨_, h⟩
      · omega
      · exact h
    · exact h.le y (by omega) e
theorem BestTo.done {n M : Nat} {D : Nat → Option Nat} {t : ByteArray} (h : BestTo n D (2 ^ n) M t) (hlt : ∀ x d, D x = some d → x < 2 ^ n) : Best n D M t := by
  refine ⟨fun x d e => ?_, h.at_, fun x hx e => ?_⟩
  · refine h.top (num x) (num_lt n x (hlt x d e)) d ?_
    rw [gray_num]; exact e
  · have := h.le (num x) (num_lt n x hx) (by rw [gray_num]; exact e)
    rwa [gray_num] at this
theorem best_ex {n x : Nat} {fk : Nat → Nat → Bool} {D : Nat → Option Nat} (hD : Dst n fk x D) : ∃ M t, Best n D M t := by
  have key : ∀ k, k ≤ 2 ^ n → ∃ M t, BestTo n D k M t := by
    intro k
    induction k with
    | zero => intro _; exact ⟨0, _, BestTo.zero (hD.lt _ _ hD.zero).1 hD.zero⟩
    | succ k ih =>
      intro hk
      obtain ⟨M, t, h⟩ := ih (by omega)
      cases hd : D (gray k) with
      | none => exact ⟨M, t, h.keep (fun d e => by rw [hd] at e; cases e)⟩
      | some d =>
        by_cases h1 : M < d
        · exact ⟨d, _, h.more (by omega) hd h1⟩
        · by_cases h2 : d = M
          · subst h2
            cases hb : bl (ST n (gray k)) t with
            | true => exact ⟨d, _, h.first (by omega) hd hb⟩
            | false => exact ⟨d, t, h.keep (fun d' e => by rw [hd] at e; have := Option.some.inj e; exact .inr ⟨by omega, hb⟩)⟩
          · exact ⟨M, t, h.keep (fun d' e => by rw [hd] at e; have := Option.some.inj e; exact .inl (by omega))⟩
  obtain ⟨M, t, h⟩ := key (2 ^ n) (Nat.le_refl _)
  exact ⟨M, t, h.done (fun x d e => (hD.lt x d e).1)⟩
end Go.Proofs.YtcfeaaakfjilgabDoor
