/- Chapter 2: the rank in the order by swaps: both. -/
import Derived.Test.YtbgdhiieeegnjacQ5
namespace Go.Proofs.Ytbgdhiieeegnjac
open Go Go.RowKit RM

theorem iRankS2_any (v : Value) (xs : List Int) (B : Nat) (w : World) (hn : xs.length ≤ 1048576) (h : OwnI w B v xs) :
    Calls Try.prog 27 #[v] w fun e w' => QB0 w (swR xs) (swB xs) e w' := by
  rcases h.form with ⟨rfl, rfl⟩ | ⟨g, cap, rfl, _, _, hc, _, _⟩
  · obtain ⟨e1, e2⟩ := sw_len (l := []) (by simp)
    rw [e1, e2]
    exact iRankS2_len _ 0 _ w (by omega) (by omega)
  · by_cases hl : xs.length < 1 ∨ 10 < xs.length
    · obtain ⟨e1, e2⟩ := sw_len hl
      rw [e1, e2]
      exact iRankS2_len _ _ _ w hl hn
    · cases hp : perB xs
      · obtain ⟨e1, e2⟩ := sw_no hp
        rw [e1, e2]
        exact iRankS2_no xs g cap _ w (by omega) (by omega) (Lib.hid rfl) (Lib.hid hp) (Lib.hid hc)
      · obtain ⟨e1, e2⟩ := sw_yes (by omega) (by omega) hp
        rw [e1, e2]
        exact iRankS2_yes xs g cap _ w (by omega) (by omega) (Lib.hid rfl) (Lib.hid hp) (Lib.hid hc)

theorem sRankS2_any (v : Value) (xs : List Int) (B : Nat) (w : World) (hn : xs.length ≤ 1048576) (h : OwnI w B v xs) :
    Calls Try.prog 26 #[v] w fun e w' => QB0 w (swR xs) (swB xs) e w' := by
  have hcp : ∀ g n cap, v = .slice (some ⟨g, 0, none⟩) n cap → xs.length ≤ cap ∧ cap ≤ 9223372036854775807 := by
    intro g n cap e
    rcases h.2 with ⟨h1, _⟩ | ⟨g', cap', cur, h1, _, _, hn', hcm, _, _⟩
    · rw [e] at h1; cases h1
    · rw [e] at h1; cases h1; unfold maxLen at hcm; exact ⟨hn', by omega⟩
  rcases h.form with ⟨rfl, rfl⟩ | ⟨g, cap, rfl, _, _, hc, _, _⟩
  · obtain ⟨e1, e2⟩ := sw_len (l := []) (by simp)
    rw [e1, e2]
    exact sRankS2_len _ 0 _ w (by omega) (by omega)
  · by_cases hl : xs.length < 1 ∨ 10 < xs.length
    · obtain ⟨e1, e2⟩ := sw_len hl
      rw [e1, e2]
      exact sRankS2_len _ _ _ w hl hn
    · obtain ⟨c1, c2⟩ := hcp _ _ _ rfl
      cases hb : allBd 0 ((xs.length : Int) - 1) xs
      · have hp : perB xs = false := by
          cases e : perB xs
          · rfl
          · exfalso
            have hr := per_range e
            have : allBd 0 ((xs.length : Int) - 1) xs = true := by
              unfold allBd bdB
              rw [List.all_eq_true]
              intro x hx
              have := hr x hx
              simp; omega
            rw [hb] at this; cases this
        obtain ⟨e1, e2⟩ := sw_no hp
        rw [e1, e2]
        exact sRankS2_all xs g cap _ w (by omega) (by omega) (Lib.hid rfl) (Lib.hid hb) (Lib.hid hc)
      · exact sRankS2_in xs g cap _ w (by omega) (by omega) c1 c2 (Lib.hid rfl) (Lib.hid hb) (Lib.hid hc) _ _
          (Lib.hid fun hp => ⟨(sw_no hp).2, (sw_no hp).1⟩) (Lib.hid fun hp => ⟨(sw_yes (by omega) (by omega) hp).2, (sw_yes (by omega) (by omega) hp).1⟩)
end Go.Proofs.Ytbgdhiieeegnjac
