/- Jumps back to a label, by a number that a state of the search bears. -/
import Derived.Test.YtcfeaaakfjilgabDoorH
import Derived.ScopeJumps
namespace Go.Proofs.YtcfeaaakfjilgabDoor
set_option linter.unusedSimpArgs false
set_option linter.unusedVariables false
open Go Go.RowKit
theorem jump_mono {P : Program} {c : Code} {l : Nat} {J J' : Act → World → Prop} {Q : Exit → Act → World → Prop} {a : Act} {w : World} (hJ : ∀ a w, J a w → J' a w) (h : c.wp P (Exit.jump l J Q) a w) : c.wp P (Exit.jump l J' Q) a w := by
  intro b k cs
  obtain ⟨e, a₁, w₁, hq, harr⟩ := h b k cs
  refine ⟨e, a₁, w₁, ?_, harr⟩
  cases e with
  | goto l' => exact ⟨hq.1, hJ _ _ hq.2⟩
  | _ => exact hq
theorem least_ex (p : Nat → Prop) (h : ∃ k, p k) : ∃ k, p k ∧ ∀ j, p j → k ≤ j := by
  obtain ⟨k, hk⟩ := h
  induction k using Nat.strongRecOn with
  | _ k ih =>
    by_cases h : ∃ j, j < k ∧ p j
    · obtain ⟨j, hj, hp⟩ := h; exact ih j hj hp
    · exact ⟨k, hk, fun j hj => Nat.le_of_not_lt fun hlt => h ⟨j, hlt, hj⟩⟩
theorem wp_scope_ix {P : Program} {a : Act} {w : World} {Q : Exit → Act → World → Prop} {c rest : Code} (l : Nat) (J : Nat → Act → World → Prop) (hf : findLabel c l = some rest)
    (first : c.wp P (Exit.jump l (fun a w => ∃ k, J k a w) Q) a w)
    (pass : ∀ k a w, J k a w → rest.wp P (Exit.jump l (fun a' w' => ∃ k', k' < k ∧ J k' a' w') Q) a w) : (Code.scope c).wp P Q a w := by
  have hex : ∀ x : Act × World, ∃ m : Nat, (∃ k, J k x.1 x.2) → J m x.1 x.2 ∧ ∀ j, J j x.1 x.2 → m ≤ j := fun x => by
    by_cases h : ∃ k, J k x.1 x.2
    · obtain ⟨m, h1, h2⟩ := least_ex _ h
      exact ⟨m, fun _ => ⟨h1, h2⟩⟩
    · exact ⟨0, fun h2 => absurd h2 h⟩
  obtain ⟨μ, hμ⟩ := Classical.axiomOfChoice hex
  refine wp_scope_jumps l (fun a w => ∃ k, J k a w) (fun a w => μ (a, w)) hf first (fun a w hJ => ?_)
  obtain ⟨h1, h2⟩ := hμ (a, w) hJ
  refine jump_mono (fun a' w' ⟨k', hlt, hk'⟩ => ⟨⟨k', hk'⟩, ?_⟩) (pass (μ (a, w)) a w h1)
  exact Nat.lt_of_le_of_lt ((hμ (a', w') ⟨k', hk'⟩).2 k' hk') hlt
/-- the label's own step is none -/
theorem wp_scope_ix0 {P : Program} {a : Act} {w : World} {Q : Exit → Act → World → Prop} {c rest : Code} (l : Nat) (J : Nat → Act → World → Prop) (hf : findLabel c l = some (Code.skip.seq rest))
    (first : (∀ k a w, J k a w → rest.wp P (Exit.jump l (fun a' w' => ∃ k', k' < k ∧ J k' a' w') Q) a w) → c.wp P (Exit.jump l (fun a w => ∃ k, J k a w) Q) a w)
    (pass : ∀ k a w, J k a w → rest.wp P (Exit.jump l (fun a' w' => ∃ k', k' < k ∧ J k' a' w') Q) a w) : (Code.scope c).wp P Q a w :=
  wp_scope_ix l J hf (first pass) fun k a w h => wp_seq (wp_skip (pass k a w h))
end Go.Proofs.YtcfeaaakfjilgabDoor
