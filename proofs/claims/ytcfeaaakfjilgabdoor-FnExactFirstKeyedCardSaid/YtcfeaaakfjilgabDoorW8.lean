/- As many moves lead back. -/
import Derived.Test.YtcfeaaakfjilgabDoorW1
namespace Go.Proofs.YtcfeaaakfjilgabDoor
open RM
theorem Keyd.step {n : Nat} {fk : Nat → Nat → Bool} (h : Keyd n fk) {x k : Nat} (hx : x < 2 ^ n) (hk : k < n) (hf : fk k x = true) : ∀ m t, kD n fk x t = some m → ∃ m', kD n fk (x ^^^ 2 ^ k) t = some m' ∧ m' ≤ m + 1 := by
  have hD := h.dst hx
  have hD' := h.dst (xor_lt' hx hk)
  intro m
  induction m with
  | zero =>
    intro t e
    rw [hD.only t e]
    obtain ⟨m', e', hm⟩ := hD'.next _ _ hD'.zero k hk (by rw [h.own k hk]; exact hf)
    rw [xor_twice] at e'
    exact ⟨m', e', hm⟩
  | succ m ih =>
    intro t e
    obtain ⟨j, hj, hfj, hd⟩ := hD.prev t m e
    obtain ⟨m1, e1, h1⟩ := ih _ hd
    obtain ⟨m2, e2, h2⟩ := hD'.next _ _ e1 j hj hfj
    rw [xor_twice] at e2
    exact ⟨m2, e2, by omega⟩
theorem Keyd.back {n : Nat} {fk : Nat → Nat → Bool} (h : Keyd n fk) {x : Nat} (hx : x < 2 ^ n) : ∀ m t, kD n fk x t = some m → ∃ m', kD n fk t x = some m' ∧ m' ≤ m := by
  have hD := h.dst hx
  intro m
  induction m with
  | zero =>
    intro t e
    rw [hD.only t e]
    exact ⟨0, hD.zero, Nat.le_refl _⟩
  | succ m ih =>
    intro t e
    obtain ⟨j, hj, hfj, hd⟩ := hD.prev t m e
    obtain ⟨m1, e1, h1⟩ := ih _ hd
    have ht : t ^^^ 2 ^ j < 2 ^ n := (hD.lt _ _ hd).1
    obtain ⟨m2, e2, h2⟩ := h.step ht hj hfj _ _ e1
    rw [xor_twice] at e2
    exact ⟨m2, e2, by omega⟩
theorem Keyd.sym {n : Nat} {fk : Nat → Nat → Bool} (h : Keyd n fk) {x t : Nat} (hx : x < 2 ^ n) (ht : t < 2 ^ n) : kD n fk x t = kD n fk t x := by
  cases ha : kD n fk x t with
  | none =>
    cases hb : kD n fk t x with
    | none => rfl
    | some m => obtain ⟨m', e, _⟩ := h.back ht m x hb; rw [ha] at e; cases e
  | some m =>
    obtain ⟨m1, e1, h1⟩ := h.back hx m t ha
    obtain ⟨m2, e2, h2⟩ := h.back ht m1 x e1
    rw [ha] at e2
    have := Option.some.inj e2
    rw [e1]; congr 1; omega
end Go.Proofs.YtcfeaaakfjilgabDoor
