/- Parts of states, by any search that is symmetric: plain mathematics. -/
import Derived.Test.YtcfeaaakfjilgabW8
namespace Go.Proofs.Ytcfeaaakfjilgab
set_option linter.unusedSimpArgs false
set_option linter.unusedVariables false
open RM
/-- one state is reached from another -/
def rch (D : Nat → Nat → Option Nat) (x y : Nat) : Prop := (D x y).isSome = true
/-- the numbers are those of an equivalence on the first N -/
structure Eqv (N : Nat) (D : Nat → Nat → Option Nat) : Prop where
  refl : ∀ x, x < N → rch D x x
  symm : ∀ x y, x < N → y < N → rch D x y → rch D y x
  trans : ∀ x y z, x < N → y < N → z < N → rch D x y → rch D y z → rch D x z
  lt : ∀ x y, x < N → rch D x y → y < N
/-- states of which none is reached from another one -/
structure Apart (N : Nat) (D : Nat → Nat → Option Nat) (l : List Nat) : Prop where
  lt : ∀ x ∈ l, x < N
  ne : l.Pairwise fun x y => ¬ rch D x y
theorem Apart.nil (N : Nat) (D : Nat → Nat → Option Nat) : Apart N D [] := ⟨fun x h => absurd h (List.not_mem_nil), List.Pairwise.nil⟩
theorem Apart.snoc {N : Nat} {D : Nat → Nat → Option Nat} {l : List Nat} (h : Apart N D l) {x : Nat} (hx : x < N) (hn : ∀ y ∈ l, ¬ rch D y x) : Apart N D (l ++ [x]) := by
  refine ⟨fun y hy => ?_, List.pairwise_append.2 ⟨h.ne, List.pairwise_singleton _ _, fun a ha b hb => ?_⟩⟩
  · rcases List.mem_append.1 hy with hy | hy
    · exact h.lt y hy
    · rw [List.mem_singleton.1 hy]; exact hx
  · rw [List.mem_singleton.1 hb]; exact hn a ha
theorem nodup_map_on {α β : Type} (f : α → β) : ∀ l : List α, l.Nodup → (∀ a ∈ l, ∀ b ∈ l, f a = f b → a = b) → (l.map f).Nodup := by
  intro l
  induction l with
  | nil => intro _ _; exact List.nodup_nil
  | cons a l ih =>
    intro hn hi
    rw [List.nodup_cons] at hn
    rw [List.map_cons, List.nodup_cons]
    refine ⟨fun hm => ?_, ih hn.2 (fun x hx y hy => hi x (List.mem_cons_of_mem _ hx) y (List.mem_cons_of_mem _ hy))⟩
    obtain ⟨b, hb, e⟩ := List.mem_map.1 hm
    have := hi b (List.mem_cons_of_mem _ hb) a (List.mem_cons_self ..) e
    subst this
    exact hn.1 hb
theorem Apart.le {N : Nat} {D : Nat → Nat → Option Nat} (hE : Eqv N D) {l l' : List Nat} (h : Apart N D l) (h' : Apart N D l') (hc : ∀ x, x < N → ∃ y ∈ l', rch D y x) : l.length ≤ l'.length := by
  have hc2 : ∀ x, x ∈ l → ∃ y, y ∈ l' ∧ rch D y x := fun x hx => by
    obtain ⟨y, hy, hr⟩ := hc x (h.lt x hx); exact ⟨y, hy, hr⟩
  obtain ⟨f, hf⟩ : ∃ f : Nat → Nat, ∀ x, x ∈ l → f x ∈ l' ∧ rch D (f x) x := by
    refine ⟨fun x => if hx : x ∈ l then Classical.choose (hc2 x hx) else 0, fun x hx => ?_⟩
    show (if hx : x ∈ l then Classical.choose (hc2 x hx) else 0) ∈ l' ∧ rch D (if hx : x ∈ l then Classical.choose (hc2 x hx) else 0) x
    rw [dif_pos hx]
    exact Classical.choose_spec (hc2 x hx)
  have hne : l.Nodup := h.ne.imp_of_mem (fun {a b} ha _ hr e => hr (by subst e; exact hE.refl a (h.lt a ha)))
  have hpw : ∀ a ∈ l, ∀ b ∈ l, a ≠ b → ¬ rch D a b := by
    intro a ha b hb hab
    have key : ∀ m : List Nat, (∀ x ∈ m, x < N) → m.Pairwise (fun x y => ¬ rch D x y) → ∀ a ∈ m, ∀ b ∈ m, a ≠ b → ¬ rch D a b := by
      intro m
      induction m with
      | nil => intro _ _ a ha; cases ha
      | cons c m ih =>
        intro hl hp a ha b hb hab
        rw [List.pairwise_cons] at hp
        rcases List.mem_cons.1 ha with e1 | ha2
        · rcases List.mem_cons.1 hb with e2 | hb2
          · exact absurd (e1.trans e2.symm) hab
          · rw [e1]; exact hp.1 b hb2
        · rcases List.mem_cons.1 hb with e2 | hb2
          · exact fun hr => hp.1 a ha2 (by rw [← e2]; exact hE.symm a b (hl a ha) (hl b hb) hr)
          · exact ih (fun x hx => hl x (List.mem_cons_of_mem _ hx)) hp.2 a ha2 b hb2 hab
    exact key l h.lt h.ne a ha b hb hab
  have hinj : ∀ a ∈ l, ∀ b ∈ l, f a = f b → a = b := by
    intro a ha b hb e
    apply Classical.byContradiction
    intro hab
    obtain ⟨m1, r1⟩ := hf a ha
    obtain ⟨m2, r2⟩ := hf b hb
    rw [e] at m1 r1
    have hfb := h'.lt _ m2
    exact hpw a ha b hb hab (hE.trans a (f b) b (h.lt a ha) hfb (h.lt b hb) (hE.symm _ _ hfb (h.lt a ha) r1) r2)
  have hmap : (l.map f).Nodup := nodup_map_on f l hne hinj
  have := nodup_sub_len (U := l') hmap (fun y hy => by
    obtain ⟨x, hx, rfl⟩ := List.mem_map.1 hy
    exact (hf x hx).1)
  rwa [List.length_map] at this
/-- there are so many parts -/
def Parts (N : Nat) (D : Nat → Nat → Option Nat) (c : Nat) : Prop := ∃ l, Apart N D l ∧ (∀ x, x < N → ∃ y ∈ l, rch D y x) ∧ l.length = c
theorem Parts.uniq {N c c' : Nat} {D : Nat → Nat → Option Nat} (hE : Eqv N D) (h : Parts N D c) (h' : Parts N D c') : c = c' := by
  obtain ⟨l, h1, h2, rfl⟩ := h
  obtain ⟨l', h1', h2', rfl⟩ := h'
  exact Nat.le_antisymm (h1.le hE h1' h2') (h1'.le hE h1 h2)
/-- searches by keys are such -/
theorem Keyd.far_trans {n : Nat} {fk : Nat → Nat → Bool} (h : Keyd n fk) {x : Nat} (hx : x < 2 ^ n) : ∀ m y, kD n fk x y = some m → ∀ z, (kD n fk y z).isSome = true → (kD n fk x z).isSome = true := by
  have hD := h.dst hx
  intro m
  induction m with
  | zero => intro y e z hz; rw [hD.only y e] at hz; exact hz
  | succ m ih =>
    intro y e z hz
    obtain ⟨k, hk, hf, hd⟩ := hD.prev y m e
    refine ih _ hd z ?_
    cases hy : kD n fk y z with
    | none => rw [hy] at hz; cases hz
    | some c =>
      have hylt := (hD.lt _ _ e).1
      obtain ⟨m', e', _⟩ := h.step hylt hk (by rw [← h.own k hk]; exact hf) c z hy
      rw [e']; rfl
theorem Keyd.eqv {n : Nat} {fk : Nat → Nat → Bool} (h : Keyd n fk) : Eqv (2 ^ n) (kD n fk) where
  refl x hx := by unfold rch; rw [(h.dst hx).zero]; rfl
  symm x y hx hy hr := by unfold rch at *; rw [← h.sym hx hy]; exact hr
  trans x y z hx hy hz h1 h2 := by
    unfold rch at *
    cases e : kD n fk x y with
    | none => rw [e] at h1; cases h1
    | some m => exact h.far_trans hx m y e z h2
  lt x y hx hr := by
    unfold rch at hr
    cases e : kD n fk x y with
    | none => rw [e] at hr; cases hr
    | some m => exact ((h.dst hx).lt _ _ e).1
end Go.Proofs.Ytcfeaaakfjilgab
