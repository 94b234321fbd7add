/- In how many ways so few slides lead from one state to another one: by the model. -/
import Derived.Test.YtcfeaaakfjilgaaSM
import Derived.Deep.OwnRows
import Derived.BigQuiet
namespace Go.Proofs.Ytcfeaaakfjilgaa
set_option linter.unusedSimpArgs false
set_option linter.unusedVariables false
open Go Go.RowKit RM
section
variable {S : Type} [DecidableEq S]
theorem ways2p_le (M : Nat) (F : S → Option Nat) (s : S) (n : Nat) (l : List S) (w : S → Nat) (h : ∀ u, w u ≤ M) : ∀ u, ways2p M F s n l w u ≤ M := by
  induction l using revRec with
  | nil => exact h
  | append_singleton l t ih =>
    intro u
    rw [ways2p_snoc]
    split
    · show (if u = t then _ else _) ≤ M
      split
      · exact Nat.min_le_right _ _
      · exact ih u
    · exact ih u
theorem ways2_le (M : Nat) (hM : 1 ≤ M) (nb : S → List S) (F : Sr S) (s0 : S) (k : Nat) : ∀ u, ways2 M nb F s0 k u ≤ M := by
  induction k with
  | zero => intro u; show (if u = s0 then 1 else 0) ≤ M; split <;> omega
  | succ k ih =>
    have e : ways2 M nb F s0 (k + 1) = (match F.q[k]? with | none => ways2 M nb F s0 k | some s => ways2p M F.far s (F.dst s + 1) (nb s) (ways2 M nb F s0 k)) := rfl
    rw [e]
    cases F.q[k]? with
    | none => exact ih
    | some s => exact ways2p_le _ _ _ _ _ _ ih
theorem ways2_some {M : Nat} {nb : S → List S} {F : Sr S} {s0 s : S} {k : Nat} (h : F.q[k]? = some s) : ways2 M nb F s0 (k + 1) = ways2p M F.far s (F.dst s + 1) (nb s) (ways2 M nb F s0 k) := by
  show (match F.q[k]? with | none => ways2 M nb F s0 k | some s => ways2p M F.far s (F.dst s + 1) (nb s) (ways2 M nb F s0 k)) = _
  rw [h]
/-- behind the whole queue all ways are known -/
theorem ways2_end {nb : S → List S} {U : List S} (h : Univ nb U) {s0 : S} (h0 : s0 ∈ U) (M k : Nat) (hk : (fin M nb U s0).q.length ≤ k) : ways2 M nb (fin M nb U s0) s0 k = (fin M nb U s0).way := by
  rw [h.ways2_run h0 M k, h.fin_at h0 (M := M) (k := k)]
  refine List.getElem?_eq_none (Nat.le_trans ?_ hk)
  exact (h.fin_ext h0 M k).q.length_le
end
/-- a number of each state, by its number -/
def wS (ps : List Nat) (f : List Nat → Nat) : List Int := (List.range (pr ps ps.length)).map fun y => ((f (dg ps ps.length y) : Nat) : Int)
theorem wS_len (ps : List Nat) (f : List Nat → Nat) : (wS ps f).length = pr ps ps.length := by simp [wS]
theorem wS_get {ps t : List Nat} (ht : isSt ps t) (f : List Nat → Nat) (h : nm ps t ps.length < (wS ps f).length) : (wS ps f)[nm ps t ps.length] = ((f t : Nat) : Int) := by
  simp [wS, dg_st_nm ht]
theorem wS_set {ps t : List Nat} {bs : List Blk} (hG : GB ps bs) (ht : isSt ps t) (f g : List Nat → Nat) (d : Nat) (h : g t = d) (ho : ∀ u, u ≠ t → g u = f u) : (wS ps f).set (nm ps t ps.length) (d : Int) = wS ps g := by
  apply List.ext_getElem
  · simp [wS]
  · intro i h1 h2
    rw [List.getElem_set]
    rw [wS_len] at h2
    split
    · rename_i e; subst e
      simp only [wS, List.getElem_map, List.getElem_range]
      rw [dg_st_nm ht, h]
    · rename_i e
      simp only [wS, List.getElem_map, List.getElem_range]
      rw [ho _ (fun e2 => e (by rw [← e2]; exact (nm_dg hG _ _ h2)))]
theorem wS_zero (ps : List Nat) : (List.replicate (pr ps ps.length) 0 : List Int) = wS ps (fun _ => 0) := by
  apply List.ext_getElem
  · simp [wS]
  · intro i h1 h2; simp [wS]
theorem wS_one {ps t : List Nat} {bs : List Blk} (hG : GB ps bs) (ht : isSt ps t) (M : Nat) (nb : List Nat → List (List Nat)) (F : Sr (List Nat)) : (List.replicate (pr ps ps.length) 0 : List Int).set (nm ps t ps.length) 1 = wS ps (ways2 M nb F t 0) := by
  rw [wS_zero]
  exact wS_set hG ht _ _ 1 (by simp [ways2]) (fun u hu => by simp [ways2, hu])
/-- what the model's second search holds in memory -/
structure TW (B : Nat) (w0 w : World) (N gm gw : Nat) (q : Value) (Q : List ByteArray) (M W : List Int) : Prop where
  mv : OwnI w B (.slice (some ⟨gm, 0, none⟩) N N) M
  wy : OwnI w B (.slice (some ⟨gw, 0, none⟩) N N) W
  qu : OwnT w B q Q
  ne : gm ≠ gw
  bel : Below B w0 w
  le : B ≤ w.heap.size
section
variable {B : Nat} {w0 w w' : World} {N gm gw : Nat} {q : Value} {Q : List ByteArray} {M W : List Int}
theorem TW.below (h : TW B w0 w N gm gw q Q M W) (hb : Below w.heap.size w w') : TW B w0 w' N gm gw q Q M W :=
  ⟨h.mv.below hb, h.wy.below hb, h.qu.below hb, h.ne, h.bel.trans (hb.mono h.le), Nat.le_trans h.le hb.size⟩
theorem TW.store (h : TW B w0 w N gm gw q Q M W) (hW : W.length = N) (k : Nat) (y : Int) : TW B w0 (w.setCell ⟨gw, k, none⟩ (.int .i64 y)) N gm gw q Q M (W.set k y) := by
  obtain ⟨hs, hg⟩ := h.wy.stored hW k y
  have hm := (h.wy.lt gw rfl)
  exact ⟨h.mv.kept hg (.inr fun e => h.ne (Option.some.inj e)), hs, h.qu.kept hg (own_ne_kind h.qu h.wy (by decide)), h.ne, h.bel.setCell hm.1 _, by simpa using h.le⟩
end
theorem least_any (a b : Nat) (w : World) (ha : a ≤ 4000000000000000) (hb : b ≤ 4000000000000000) : Calls Try.prog 58 #[.int .i64 a, .int .i64 b] w fun e w' => e = .returned (.int .i64 ((min a b : Nat) : Int)) ∧ w = w' := by
  by_cases h : a < b
  · rw [Nat.min_eq_left (Nat.le_of_lt h)]
    clear ha hb
    go_enter Try.func58, Try.ntmps58
    go_wp2_with fail
    go_ret; exact ⟨rfl, rfl⟩
  · rw [Nat.min_eq_right (Nat.le_of_not_lt h)]
    clear ha hb
    go_enter Try.func58, Try.ntmps58
    go_wp2_with fail
    go_ret; exact ⟨rfl, rfl⟩
end Go.Proofs.Ytcfeaaakfjilgaa
