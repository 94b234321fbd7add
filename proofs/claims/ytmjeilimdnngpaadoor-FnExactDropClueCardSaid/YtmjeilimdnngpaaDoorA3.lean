/- The functions of chapter 1 that take two states, both ways. -/
import Derived.Test.YtmjeilimdnngpaaDoorA2
import Derived.Deep.RegionHeld3
import Derived.BigRegion
namespace Go.Proofs.YtmjeilimdnngpaaDoor
open Go Go.RowKit RM

def CellsOf (w : World) (b n x : Nat) : Prop := w.cell? ⟨b, 0, none⟩ = some (.int .i64 (ctz x)) ∧ w.cell? ⟨b, 1, none⟩ = some (.bool (onB x)) ∧ w.cell? ⟨b, 2, none⟩ = some (.int .i64 n) ∧ w.cell? ⟨b, 3, none⟩ = some (.int .u64 x)

theorem keepB {A B : Prop} {N : Nat} {w a b : World} (k : Below a.heap.size a b) (h : A ∧ B ∧ N + 2 ≤ a.heap.size ∧ Below N w a) : Below N w b := h.2.2.2.trans (k.mono (by omega))
theorem keepL {A B : Prop} {N : Nat} {w a b : World} (_ : Below a.heap.size a b) (h : A ∧ B ∧ N + 2 ≤ a.heap.size ∧ Below N w a) : N < a.heap.size ∧ N + 1 < a.heap.size := ⟨by omega, by omega⟩
set_option maxHeartbeats 1000000 in
set_option maxRecDepth 100000 in
theorem apart_any0 (n x y : Nat) (w : World) (hx : x < 1048576) (hy : y < 1048576) (hX : num x < 1048576) (hY : num y < 1048576) :
    Calls Tryd.prog 79 #[(.agg #[.int .i64 ((ctz (x) : Nat) : Int), .bool (onB (x)), .int .i64 ((n : Nat) : Int), .int .u64 ((x : Nat) : Int)]), (.agg #[.int .i64 ((ctz (y) : Nat) : Int), .bool (onB (y)), .int .i64 ((n : Nat) : Int), .int .u64 ((y : Nat) : Int)])] w fun e w' => e = .returned (.int .i64 (max (num x : Int) (num y) - min (num x : Int) (num y))) ∧ Below w.heap.size w w' := by
  go_enter Tryd.func79, Tryd.ntmps79
  go_wp2_with fail
  obtain ⟨W, hW⟩ : ∃ W, W = (w.alloc (.cells #[.int .i64 (ctz x), .bool (onB x), .int .i64 n, .int .u64 x] 77)).alloc (.cells #[.int .i64 (ctz y), .bool (onB y), .int .i64 n, .int .u64 y] 77) := ⟨_, rfl⟩
  have hb : Below w.heap.size w W := by subst hW; exact bt (ba _ _) (ba _ _)
  have hs : W.heap.size = w.heap.size + 2 := by subst hW; simp
  have c0 : CellsOf W w.heap.size n x := by subst hW; simp [CellsOf]
  have c1 : CellsOf W (w.heap.size + 1) n y := by subst hW; simp [CellsOf]
  obtain ⟨p0, p1, p2, p3⟩ := c0
  obtain ⟨q0, q1, q2, q3⟩ := c1
  rw [← hW]
  clear hW
  go_region_held3 (fun w' => (w'.cell? ⟨w.heap.size, 0, none⟩ = some (.int .i64 (ctz x)) ∧ w'.cell? ⟨w.heap.size, 1, none⟩ = some (.bool (onB x)) ∧ w'.cell? ⟨w.heap.size, 2, none⟩ = some (.int .i64 n) ∧ w'.cell? ⟨w.heap.size, 3, none⟩ = some (.int .u64 x)) ∧ (w'.cell? ⟨w.heap.size + 1, 0, none⟩ = some (.int .i64 (ctz y)) ∧ w'.cell? ⟨w.heap.size + 1, 1, none⟩ = some (.bool (onB y)) ∧ w'.cell? ⟨w.heap.size + 1, 2, none⟩ = some (.int .i64 n) ∧ w'.cell? ⟨w.heap.size + 1, 3, none⟩ = some (.int .u64 y)) ∧ w.heap.size + 2 ≤ w'.heap.size ∧ Below w.heap.size w w') ((refine ⟨⟨?_, ?_, ?_, ?_⟩, ⟨?_, ?_, ?_, ?_⟩, ?_, ?_⟩ <;> first | assumption | go_keep | omega | exact hb.drew))
    (first | (go_at_call 78; refine (number_any _ _ _ ?_).mono ?_; (first | exact hx | exact hy); rintro e w' ⟨rfl, hb2⟩; obtain ⟨hc, hf⟩ := bcell hb2; have hz := hb2.size; have hbn := keepB hb2 (by assumption); obtain ⟨hl0, hl1⟩ := keepL hb2 (by assumption)))
  all_goals
    go_wp2_with fail
    go_ret
    refine ⟨ret_int ?_, by assumption⟩
    rw [IntKind.wrap_i64]; omega

theorem apart_any (n x y : Nat) (w : World) (hx : x < 1048576) (hy : y < 1048576) :
    Calls Tryd.prog 79 #[(.agg #[.int .i64 ((ctz (x) : Nat) : Int), .bool (onB (x)), .int .i64 ((n : Nat) : Int), .int .u64 ((x : Nat) : Int)]), (.agg #[.int .i64 ((ctz (y) : Nat) : Int), .bool (onB (y)), .int .i64 ((n : Nat) : Int), .int .u64 ((y : Nat) : Int)])] w fun e w' => e = .returned (.int .i64 (max (num x : Int) (num y) - min (num x : Int) (num y))) ∧ Below w.heap.size w w' :=
  apart_any0 n x y w hx hy (num_lt 20 x hx) (num_lt 20 y hy)




theorem barOf_all (s : ByteArray) (hs : s.size ≤ maxLen) : ∃ n x ok, ok = goodB s.data.toList ∧ (ok = true → n = s.size) ∧ ∀ w, TabOk w → Calls Tryd.prog 75 #[.string s] w fun e w' => e = .returned (.tuple #[(.agg #[.int .i64 ((ctz (x) : Nat) : Int), .bool (onB (x)), .int .i64 ((n : Nat) : Int), .int .u64 ((x : Nat) : Int)]), .bool ok]) ∧ Below w.heap.size w w' := by
  rcases text_cases s with h | ⟨n, x, h1, h2, h3, rfl⟩
  · exact ⟨0, 0, false, h.symm, (fun e => by cases e), fun w _ => by have := barOf_bad s w hs h; rw [bz] at this; exact this⟩
  · exact ⟨n, x, true, (good_ST n x h1 h2).symm, (fun _ => (ST_size n x).symm), fun w hw => barOf_ST n x w h1 h2 h3 hw⟩




/-- how far two states are from each other -/
def apartN (x y : Nat) : Int := max (num x : Int) (num y) - min (num x : Int) (num y)





/-- the number in the middle -/
def midN (x y : Nat) : Nat := ((num x : Int) + ((num y : Int) - (num x : Int)).tdiv 2).toNat
theorem mid_lt (n x y : Nat) (hx : x < 2 ^ n) (hy : y < 2 ^ n) : midN x y < 2 ^ n ∧ ((midN x y : Nat) : Int) = (num x : Int) + ((num y : Int) - (num x : Int)).tdiv 2 := by
  have hX := num_lt n x hx
  have hY := num_lt n y hy
  unfold midN
  have h : ((num y : Int) - (num x : Int)).tdiv 2 = if 0 ≤ (num y : Int) - (num x : Int) then ((num y : Int) - (num x : Int)) / 2 else -(((num x : Int) - (num y : Int)) / 2) := by
    split
    · rw [Int.tdiv_eq_ediv_of_nonneg (by assumption)]
    · have e : (num y : Int) - (num x : Int) = -((num x : Int) - (num y : Int)) := by omega
      rw [e, Int.neg_tdiv, Int.tdiv_eq_ediv_of_nonneg (by omega)]
  rw [h]
  split <;> omega
end Go.Proofs.YtmjeilimdnngpaaDoor
