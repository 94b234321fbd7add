/- The greatest number of moves, on both sides: LongestByKeys. -/
import Derived.Test.YtcfeaaakfjilgabDoorW4
import Derived.Test.YtcfeaaakfjilgabDoorW7
namespace Go.Proofs.YtcfeaaakfjilgabDoor
set_option linter.unusedSimpArgs false
set_option linter.unusedVariables false
open Go Go.RowKit RM
def fmax (l : List Nat) : Nat := l.foldl max 0
theorem fmax_snoc (l : List Nat) (a : Nat) : fmax (l ++ [a]) = max (fmax l) a := by simp [fmax]
theorem fmax_le (l : List Nat) : ∀ a ∈ l, a ≤ fmax l := by
  induction l using revRec with
  | nil => intro a h; cases h
  | append_singleton l b ih =>
    intro a h
    rw [fmax_snoc]
    rcases List.mem_append.1 h with h | h
    · have := ih a h; omega
    · have := List.mem_singleton.1 h; omega
theorem fmax_at (l : List Nat) : fmax l = 0 ∨ fmax l ∈ l := by
  induction l using revRec with
  | nil => exact .inl rfl
  | append_singleton l b ih =>
    rw [fmax_snoc]
    by_cases h : b ≤ fmax l
    · rw [Nat.max_eq_left h]
      rcases ih with ih | ih
      · exact .inl ih
      · exact .inr (List.mem_append_left _ ih)
    · rw [Nat.max_eq_right (by omega)]; exact .inr (by simp)
/-- the greatest of the numbers from the states of a set -/
structure Sup (n : Nat) (D : Nat → Nat → Option Nat) (P : Nat → Prop) (M : Nat) : Prop where
  le : ∀ x t d, x < 2 ^ n → P x → D x t = some d → d ≤ M
  at_ : M = 0 ∨ ∃ x t, x < 2 ^ n ∧ D x t = some M
theorem Sup.row {n m M A : Nat} {D : Nat → Nat → Option Nat} {P P' : Nat → Prop} (h : Sup n D P M) (hm : m < 2 ^ n) (hP : ∀ x, P' x → P x ∨ x = m) (h1 : ∀ t d, D m t = some d → d ≤ A) (h2 : A = 0 ∨ ∃ t, D m t = some A) : Sup n D P' (max M A) := by
  refine ⟨fun x t d hx hp e => ?_, ?_⟩
  · rcases hP x hp with hp | rfl
    · have := h.le x t d hx hp e; omega
    · have := h1 t d e; omega
  · by_cases hc : A ≤ M
    · rw [Nat.max_eq_left hc]; exact h.at_
    · rw [Nat.max_eq_right (by omega)]
      rcases h2 with h2 | ⟨t, h2⟩
      · exact .inl h2
      · exact .inr ⟨m, t, hm, h2⟩
theorem Sup.uniq {n M M' : Nat} {D : Nat → Nat → Option Nat} {P P' : Nat → Prop} (h : Sup n D P M) (h' : Sup n D P' M') (hP : ∀ x, x < 2 ^ n → P x) (hP' : ∀ x, x < 2 ^ n → P' x) : M = M' := by
  apply Nat.le_antisymm
  · rcases h.at_ with e | ⟨x, t, hx, e⟩
    · omega
    · exact h'.le x t M hx (hP' x hx) e
  · rcases h'.at_ with e | ⟨x, t, hx, e⟩
    · omega
    · exact h.le x t M' hx (hP x hx) e
theorem sup_zero {n : Nat} {D : Nat → Nat → Option Nat} {P : Nat → Prop} (h : ∀ x, ¬ P x) : Sup n D P 0 := ⟨fun x _ _ _ hp _ => absurd hp (h x), .inl rfl⟩
theorem fI_max (M : Nat) (o : Option Nat) : max (M : Int) (fI o) = ((max M (o.getD 0) : Nat) : Int) := by
  cases o with
  | none => show max (M : Int) (-1) = ((max M 0 : Nat) : Int); omega
  | some d => show max (M : Int) (d : Int) = ((max M d : Nat) : Int); omega
theorem kw_rd {w w' : World} {B : Nat} {v : Value} {R : List (Nat × Nat)} (h : OwnG kwE w B v R) : ∃ p c, v = .slice p R.length c ∧ ∀ w', Below w.heap.size w w' → ∀ k (hk : k < R.length), ∃ g, p = some ⟨g, 0, none⟩ ∧ w'.cell? ⟨g, k * 2, none⟩ = some (.int .i64 ((R[k].1 : Nat) : Int)) ∧ w'.cell? ⟨g, k * 2 + 1, none⟩ = some (.int .u64 ((R[k].2 : Nat) : Int)) := by
  obtain ⟨p, c, rfl, _, hr⟩ := h.rd
  refine ⟨p, c, rfl, fun w' hb k hk => ?_⟩
  obtain ⟨g, rfl, _, hc⟩ := (hr.below hb) (fun e => by rw [e] at hk; cases hk)
  exact ⟨g, rfl, hc k hk 0 (by decide), hc k hk 1 (by decide)⟩
set_option maxHeartbeats 1000000 in
theorem mostMoves_any (u : Value) (B N : Nat) (R : List (Nat × Nat)) (w : World) (h : OwnG kwE w B u R) (hN : R.length = N) (hN2 : N ≤ 1024) :
    Calls Tryd.prog 42 #[u] w fun e w' => e = .returned (.int .i64 ((fmax (R.map (·.1)) : Nat) : Int)) ∧ Below w.heap.size w w' := by
  obtain ⟨p, c, rfl, hc⟩ := kw_rd (w' := w) h
  replace hc := Lib.hid hc
  obtain ⟨F, hF⟩ : ∃ F : Nat → Nat, F = fun k => fmax ((R.take k).map (·.1)) := ⟨_, rfl⟩
  have hFs : Hid (∀ k (hk : k < R.length), F (k + 1) = max (F k) R[k].1) := Lib.hid (fun k hk => by
    rw [hF]
    show fmax ((R.take (k + 1)).map (·.1)) = max (fmax ((R.take k).map (·.1))) R[k].1
    rw [List.take_succ_eq_append_getElem hk, List.map_append, List.map_cons, List.map_nil, fmax_snoc])
  have hF0 : F 0 = 0 := by rw [hF]; rfl
  have hFN : fmax (R.map (·.1)) = F N := by rw [hF]; show _ = fmax ((R.take N).map (·.1)); rw [← hN, List.take_length]
  rw [hFN, hN]
  replace hN := Lib.hid hN
  clear hF hFN h
  go_enter Tryd.func42, Tryd.ntmps42
  go_wp2_with fail
  go_loopw [3, 8] (fun m i wr => ∃ k : Nat, k ≤ N ∧ i = .int .i64 k ∧ m = .int .i64 ((F k : Nat) : Int) ∧ Hid (Below w.heap.size w wr)) (fun _ i _ => N - (intOf i).toNat)
  case atStart => exact ⟨0, Nat.zero_le _, rfl, by rw [hF0]; rfl, Lib.hid (Below.refl _ _)⟩
  case round =>
    obtain ⟨k, hk, rfl, rfl, hb⟩ := hrel
    rename World => wA
    by_cases hlt : k < N
    · have hkx : k < R.length := by rw [hN.out]; exact hlt
      obtain ⟨g, rfl, c0, c1⟩ := hc.out wA hb.out k hkx
      have hS := Lib.hid (hFs.out k hkx)
      generalize R[k].1 = y at *
      generalize R[k].2 = y2 at *
      have hmx : max ((F k : Nat) : Int) (y : Int) = ((max (F k) y : Nat) : Int) := by omega
      have hb5 := Lib.hid (bt1 hb.out (ba1 wA (.cells #[.int .i64 (y : Int), .int .u64 (y2 : Int)] 64)))
      go_wp2_with fail
      go_roundw
      case rel => exact ⟨k + 1, by omega, by go_num, by rw [hS.out], hb5⟩
      all_goals (simp [intOf] <;> omega)
    · obtain rfl : k = N := by omega
      go_wp2_with fail
      go_ret; exact ⟨rfl, hb.out⟩
theorem sup_ex {n : Nat} {D : Nat → Nat → Option Nat} (hlt : ∀ x t d, x < 2 ^ n → D x t = some d → t < 2 ^ n) : ∀ k, k ≤ 2 ^ n → ∃ M, Sup n D (fun x => x < k) M := by
  intro k
  induction k with
  | zero => intro _; exact ⟨0, sup_zero (fun x h => by omega)⟩
  | succ k ih =>
    intro hk
    obtain ⟨M, hM⟩ := ih (by omega)
    refine ⟨_, hM.row (m := k) (by omega) (fun x hx => by omega) (A := fmax ((List.range (2 ^ n)).map fun t => (D k t).getD 0)) (fun t d e => ?_) ?_⟩
    · exact fmax_le _ _ (List.mem_map.2 ⟨t, List.mem_range.2 (hlt k t d (by omega) e), by rw [e]; rfl⟩)
    · rcases fmax_at ((List.range (2 ^ n)).map fun t => (D k t).getD 0) with e | e
      · exact .inl e
      · obtain ⟨t, _, e2⟩ := List.mem_map.1 e
        cases hd : D k t with
        | none => left; rw [← e2, hd]; rfl
        | some d => right; exact ⟨t, by rw [hd, ← e2, hd]; rfl⟩
end Go.Proofs.YtcfeaaakfjilgabDoor
