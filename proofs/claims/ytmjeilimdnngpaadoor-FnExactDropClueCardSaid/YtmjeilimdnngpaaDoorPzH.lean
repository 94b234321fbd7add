/- Numbers of solutions, solutions and the first one, both sides. -/
import Derived.Test.YtmjeilimdnngpaaDoorPzG
namespace Go.Proofs.YtmjeilimdnngpaaDoor
open Go Go.RowKit RM
theorem count_any (R : Int) (cs : List Clu) (v : Value) (w : World) (h : RdZ w v R cs) (hT : TabOk w) :
    Calls Tryd.prog 42 #[v] w fun e w' => e = .returned (.int .i64 (solG R cs).length) ∧ Below w.heap.size w w' := by
  obtain ⟨p, c, rfl, hm, hr⟩ := h.form
  have hS := Lib.hid (solve_any R cs _ (w.alloc (puzO R (.slice p cs.length c))) (h.below (ba1 w _)) (hT.below (ba1 w _)))
  generalize goodZ R cs = G at *
  generalize cs.length = m at *
  have hl := solG_len R cs
  generalize solG R cs = L at *
  clear h hm hr hT
  go_enter Tryd.func42, Tryd.ntmps42
  go_wp2_with fail
  refine hS.out.mono ?_; rintro e w3 ⟨v', rfl, ho3, hb3⟩
  obtain ⟨pv, cv, rfl⟩ := ho3.sl
  rw [brX_len]
  replace hb3 := Lib.hid (bt1 (ba1 w _) hb3)
  go_wp2_with fail
  go_ret; exact ⟨rfl, hb3.out⟩


/-- the first of some solutions, as a text -/
def firstZ (n : Nat) : List Nat → ByteArray
  | [] => ⟨#[]⟩
  | x :: _ => ST n x

theorem solZ_lt (n : Nat) (cs : List Clu) : ∀ x ∈ solZ n cs, x < 2 ^ n := by
  intro x hx
  unfold solZ at hx
  have := (List.mem_filter.1 hx).1
  obtain ⟨q, hq, rfl⟩ := List.mem_map.1 this
  exact gray_lt n q (List.mem_range.1 hq)
theorem solG_lt (R : Int) (cs : List Clu) : ∀ x ∈ solG R cs, x < 128 := by
  rcases goodZ_cases R cs with h | ⟨n, rfl, h1, h7, hl, ho⟩
  · rw [solG_no h]; intro x hx; cases hx
  · have hg : goodZ n cs = true := by rw [← goodZ_eq n cs h1 h7 hl]; exact ho
    rw [solG_yes hg]
    intro x hx
    have := solZ_lt n cs x hx
    have := pow7 h7
    omega

end Go.Proofs.YtmjeilimdnngpaaDoor
