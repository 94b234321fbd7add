/- A slide made, by the program. -/
import Derived.Test.YtcfeaaakfjilgaaJ3
namespace Go.Proofs.Ytcfeaaakfjilgaa
open Go Go.RowKit RM
theorem pl_set (d : List Nat) (B x o : Nat) (h : B < d.length) : pl (d.set B x) o = if o = B then x else pl d o := by
  unfold pl
  simp only [List.getD]
  by_cases e : o = B
  · subst e; rw [List.getElem?_set_self h, if_pos rfl]; rfl
  · rw [List.getElem?_set_ne (Ne.symm e), if_neg e]
theorem arc_at (d : List Nat) (B x : Nat) (hB : B < d.length) (h6 : B < 6) : (#[.int .i64 ((pl (d) 0 : Nat) : Int), .int .i64 ((pl (d) 1 : Nat) : Int), .int .i64 ((pl (d) 2 : Nat) : Int), .int .i64 ((pl (d) 3 : Nat) : Int), .int .i64 ((pl (d) 4 : Nat) : Int), .int .i64 ((pl (d) 5 : Nat) : Int)] : Array Value).setIfInBounds B (.int .i64 (x : Int)) = #[.int .i64 ((pl ((d.set B x)) 0 : Nat) : Int), .int .i64 ((pl ((d.set B x)) 1 : Nat) : Int), .int .i64 ((pl ((d.set B x)) 2 : Nat) : Int), .int .i64 ((pl ((d.set B x)) 3 : Nat) : Int), .int .i64 ((pl ((d.set B x)) 4 : Nat) : Int), .int .i64 ((pl ((d.set B x)) 5 : Nat) : Int)] := by
  have h := fun o => pl_set d B x o hB
  simp only [h]
  generalize pl d 0 = a0
  generalize pl d 1 = a1
  generalize pl d 2 = a2
  generalize pl d 3 = a3
  generalize pl d 4 = a4
  generalize pl d 5 = a5
  clear h hB
  match B, h6 with
  | 0, _ => simp
  | 1, _ => simp
  | 2, _ => simp
  | 3, _ => simp
  | 4, _ => simp
  | 5, _ => simp
set_option maxRecDepth 100000 in
set_option maxHeartbeats 1000000 in
theorem slid_any (d : List Nat) (B x : Nat) (y : Int) (w : World) (hB : B < d.length) (h6 : B < 6) (hx : ((pl d B : Nat) : Int) + y = (x : Int)) (hx9 : x ≤ 9) :
    Calls Try.prog 54 #[(.agg #[.int .i64 ((pl (d) 0 : Nat) : Int), .int .i64 ((pl (d) 1 : Nat) : Int), .int .i64 ((pl (d) 2 : Nat) : Int), .int .i64 ((pl (d) 3 : Nat) : Int), .int .i64 ((pl (d) 4 : Nat) : Int), .int .i64 ((pl (d) 5 : Nat) : Int)]), .agg #[.int .i64 B, .int .i64 y]] w fun e w' => e = .returned (.agg #[.int .i64 ((pl ((d.set B x)) 0 : Nat) : Int), .int .i64 ((pl ((d.set B x)) 1 : Nat) : Int), .int .i64 ((pl ((d.set B x)) 2 : Nat) : Int), .int .i64 ((pl ((d.set B x)) 3 : Nat) : Int), .int .i64 ((pl ((d.set B x)) 4 : Nat) : Int), .int .i64 ((pl ((d.set B x)) 5 : Nat) : Int)]) ∧ Below w.heap.size w w' := by
  have ew : IntKind.i64.wrap (((pl d B : Nat) : Int) + y) = (x : Int) := by rw [hx, IntKind.wrap_i64]; omega
  have hset := Lib.hid (arc_at d B x hB h6)
  obtain ⟨w2, hw2⟩ : ∃ w2, Hid (w2 = ((w.alloc (.cells #[.int .i64 ((pl (d) 0 : Nat) : Int), .int .i64 ((pl (d) 1 : Nat) : Int), .int .i64 ((pl (d) 2 : Nat) : Int), .int .i64 ((pl (d) 3 : Nat) : Int), .int .i64 ((pl (d) 4 : Nat) : Int), .int .i64 ((pl (d) 5 : Nat) : Int)] 68)).alloc (.cells #[.int .i64 (B : Int), .int .i64 y] 79)).alloc (.cells #[.int .i64 0, .int .i64 0, .int .i64 0, .int .i64 0, .int .i64 0, .int .i64 0] 68)) := ⟨_, Lib.hid rfl⟩
  have hb2 : Hid (Below w.heap.size w w2) := Lib.hid (by rw [hw2.out]; exact ((ba1 w _).alloc (by simp) _).alloc (by simp; omega) _)
  have A := Lib.hid (show w2.heap[w.heap.size]? = some (.cells #[.int .i64 ((pl (d) 0 : Nat) : Int), .int .i64 ((pl (d) 1 : Nat) : Int), .int .i64 ((pl (d) 2 : Nat) : Int), .int .i64 ((pl (d) 3 : Nat) : Int), .int .i64 ((pl (d) 4 : Nat) : Int), .int .i64 ((pl (d) 5 : Nat) : Int)] 68) by rw [hw2.out]; exact hb_old _ (hb_old _ (hb_new _ _)))
  have M := Lib.hid (show w2.heap[w.heap.size + 1]? = some (.cells #[.int .i64 (B : Int), .int .i64 y] 79) by rw [hw2.out]; exact hb_old _ (hb_new' _ _ _ (by simp)))
  have R := Lib.hid (show w2.heap[w.heap.size + 1 + 1]? = some (.cells #[.int .i64 0, .int .i64 0, .int .i64 0, .int .i64 0, .int .i64 0, .int .i64 0] 68) by rw [hw2.out]; exact hb_new' _ _ _ (by simp))
  have m0 : w2.cell? ⟨w.heap.size + 1, 0, none⟩ = some (.int .i64 (B : Int)) := hb_cell M.out 0
  have m1 : w2.cell? ⟨w.heap.size + 1, 1, none⟩ = some (.int .i64 y) := hb_cell M.out 1
  have aB := arc_cell A.out B h6
  have za := hb_frozen A.out
  have iB : (B : Int) < 6 := by omega
  have iB0 : (0 : Int) ≤ (B : Int) := by omega
  have hl2 : w.heap.size < w2.heap.size := hb_lt A.out
  clear hx hB
  generalize pl d B = z at ew aB
  go_enter Try.func54, Try.ntmps54
  go_wp2_with fail
  rw [← hw2.out]
  go_region_with fail
  all_goals
    obtain ⟨w5, hw5⟩ : ∃ w5, Hid (w5 = (w2.setCell ⟨w.heap.size, B, none⟩ (.int .i64 (x : Int))).drew) := ⟨_, Lib.hid rfl⟩
    have A5 := Lib.hid (show w5.heap[w.heap.size]? = some (.cells #[.int .i64 ((pl ((d.set B x)) 0 : Nat) : Int), .int .i64 ((pl ((d.set B x)) 1 : Nat) : Int), .int .i64 ((pl ((d.set B x)) 2 : Nat) : Int), .int .i64 ((pl ((d.set B x)) 3 : Nat) : Int), .int .i64 ((pl ((d.set B x)) 4 : Nat) : Int), .int .i64 ((pl ((d.set B x)) 5 : Nat) : Int)] 68) by rw [hw5.out, ← hset.out]; exact hb_set A.out _)
    have R5 := Lib.hid (show w5.heap[w.heap.size + 1 + 1]? = some (.cells #[.int .i64 0, .int .i64 0, .int .i64 0, .int .i64 0, .int .i64 0, .int .i64 0] 68) by rw [hw5.out]; exact (hb_ne _ (by omega)).trans R.out)
    have hb5 := Lib.hid (show Below w.heap.size w w5 by rw [hw5.out]; exact (hb2.out.setCell (Nat.le_refl _) _).drew)
    rw [← hw5.out]
    have ca := hb_cell A5.out
    have cr := hb_cell R5.out
    have zr := hb_frozen R5.out
    have lr := hb_lt R5.out
    obtain ⟨w6, hw6⟩ : ∃ w6, Hid (w6 = ((((((w5.setCell ⟨w.heap.size + 1 + 1, 0, none⟩ (.int .i64 ((pl (d.set B x) 0 : Nat) : Int))).setCell ⟨w.heap.size + 1 + 1, 1, none⟩ (.int .i64 ((pl (d.set B x) 1 : Nat) : Int))).setCell ⟨w.heap.size + 1 + 1, 2, none⟩ (.int .i64 ((pl (d.set B x) 2 : Nat) : Int))).setCell ⟨w.heap.size + 1 + 1, 3, none⟩ (.int .i64 ((pl (d.set B x) 3 : Nat) : Int))).setCell ⟨w.heap.size + 1 + 1, 4, none⟩ (.int .i64 ((pl (d.set B x) 4 : Nat) : Int))).setCell ⟨w.heap.size + 1 + 1, 5, none⟩ (.int .i64 ((pl (d.set B x) 5 : Nat) : Int)))) := ⟨_, Lib.hid rfl⟩
    have Z6 := Lib.hid (show w6.heap[w.heap.size + 1 + 1]? = some (.cells #[.int .i64 ((pl ((d.set B x)) 0 : Nat) : Int), .int .i64 ((pl ((d.set B x)) 1 : Nat) : Int), .int .i64 ((pl ((d.set B x)) 2 : Nat) : Int), .int .i64 ((pl ((d.set B x)) 3 : Nat) : Int), .int .i64 ((pl ((d.set B x)) 4 : Nat) : Int), .int .i64 ((pl ((d.set B x)) 5 : Nat) : Int)] 68) by rw [hw6.out]; exact six_at R5.out _ _ _ _ _ _)
    have hb6 := Lib.hid (show Below w.heap.size w w6 by rw [hw6.out]; exact six_below hb5.out (by omega) _ _ _ _ _ _)
    go_wp2_with fail
    rw [← hw6.out]
    refine bodyPost_ret (v := (.agg #[.int .i64 ((pl ((d.set B x)) 0 : Nat) : Int), .int .i64 ((pl ((d.set B x)) 1 : Nat) : Int), .int .i64 ((pl ((d.set B x)) 2 : Nat) : Int), .int .i64 ((pl ((d.set B x)) 3 : Nat) : Int), .int .i64 ((pl ((d.set B x)) 4 : Nat) : Int), .int .i64 ((pl ((d.set B x)) 5 : Nat) : Int)])) ?_ rfl ⟨rfl, hb6.out⟩
    have c := hb_cell Z6.out
    have l := hb_lt Z6.out
    simp [results, Try.results54, go_sem, c, l]
end Go.Proofs.Ytcfeaaakfjilgaa
