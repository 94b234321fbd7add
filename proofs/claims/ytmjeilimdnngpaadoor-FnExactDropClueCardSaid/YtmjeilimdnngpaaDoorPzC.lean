/- One clue after the other, by the program: a clue that is none panics. -/
import Derived.Test.YtmjeilimdnngpaaDoorPzB
import Derived.Recover
import Derived.Defers
namespace Go.Proofs.YtmjeilimdnngpaaDoor
open Go Go.RowKit RM
theorem TabOk.grown {w w' : World} {g : Nat} (h : TabOk w) (hg : w.grownBy w' (some g)) (hne : g ≠ 3) : TabOk w' := fun j hj => by
  have h1 := h j hj
  have hl : 3 < w.heap.size := World.block_lt_of_cell? _ _ h1
  have h2 := hg.block _ hl (fun e => hne (Option.some.inj e).symm)
  rw [← h1]
  simp only [World.cell?]
  rw [h2]
/-- what stays while the rows of bars are written -/
def KpC (gc : Nat) (k a b : Int) (W : World) : Prop := W.heap[gc]? = some (cluO k a b) ∧ TabOk W
theorem KpC.grown {gc g : Nat} {k a b : Int} {W W' : World} (h : KpC gc k a b W) (hg : W.grownBy W' (some g)) (h1 : g ≠ gc) (h2 : g ≠ 3) : KpC gc k a b W' :=
  ⟨(hg.block gc (hb_lt h.1) (fun e => h1 (Option.some.inj e).symm)).trans h.1, h.2.grown hg h2⟩
theorem siftBy_bad (n : Nat) (k a b : Int) (v : Value) (w : World) (h1 : 1 ≤ n) (h7 : n ≤ 7) (h : cluOk n ⟨k, a, b⟩ = false) :
    Calls Tryd.prog 89 #[.agg #[.int .i64 k, .int .i64 a, .int .i64 b], .int .i64 n, v] w fun e w' => e = .panicked [{ v := .iface 44 (.agg #[.int .i64 k, .int .i64 a, .int .i64 b]), recovered := false }] ∧ Below w.heap.size w w' := by
  have hO := Lib.hid fun w => isOf_any n k a b w h1 h7
  rw [h] at hO
  obtain ⟨w2, hw2⟩ : ∃ w2, Hid (w2 = w.alloc (cluO k a b)) := ⟨_, Lib.hid rfl⟩
  have hb2 : Hid (Below w.heap.size w w2) := Lib.hid (by rw [hw2.out]; exact ba1 w _)
  have C2 := Lib.hid (show w2.heap[w.heap.size]? = some (cluO k a b) by rw [hw2.out]; exact hb_new _ _)
  have c0 : w2.cell? ⟨w.heap.size, 0, none⟩ = some (.int .i64 k) := hb_cell C2.out 0
  have c1 : w2.cell? ⟨w.heap.size, 1, none⟩ = some (.int .i64 a) := hb_cell C2.out 1
  have c2 : w2.cell? ⟨w.heap.size, 2, none⟩ = some (.int .i64 b) := hb_cell C2.out 2
  clear h
  go_enter Tryd.func89, Tryd.ntmps89
  go_upto_region 1 with fail
  rw [← hw2.out]
  go_wp2_with fail
  refine (hO.out _).mono ?_; rintro e w3 ⟨rfl, hb3⟩
  have C3 := Lib.hid (hb_below hb3 (hb_lt C2.out) C2.out)
  replace hb3 := Lib.hid (bt1 hb2.out hb3)
  clear c0 c1 c2
  have c0 : w3.cell? ⟨w.heap.size, 0, none⟩ = some (.int .i64 k) := hb_cell C3.out 0
  have c1 : w3.cell? ⟨w.heap.size, 1, none⟩ = some (.int .i64 a) := hb_cell C3.out 1
  have c2 : w3.cell? ⟨w.heap.size, 2, none⟩ = some (.int .i64 b) := hb_cell C3.out 2
  go_wp2_with fail
  exact ⟨rfl, rfl, hb3.out⟩

theorem siftBy_ok (n B : Nat) (k a b : Int) (v : Value) (xs : List Nat) (w : World) (h1 : 1 ≤ n) (h7 : n ≤ 7) (h : cluOk n ⟨k, a, b⟩ = true) (hx : ∀ x ∈ xs, x < 2 ^ n) (hl : xs.length ≤ 200) (hT : TabOk w) (hB : 3 < B) (ho : OwnG brE w B v (brX n xs)) :
    Calls Tryd.prog 89 #[.agg #[.int .i64 k, .int .i64 a, .int .i64 b], .int .i64 n, v] w fun e w' => ∃ v', e = .returned v' ∧ OwnG brE w' B v' (brX n (xs.filter fun x => fitZ n x ⟨k, a, b⟩)) ∧ (v'.ownBlock = v.ownBlock) ∧ w.grownBy w' v.ownBlock := by
  have hmf : ∀ (fn : Fn) (first cap : Array Value) (w : World), (Instr.makeFunc fn first cap).run Tryd.prog w = .ok (.func fn first cap) w := fun _ _ _ _ => rfl
  have hO := Lib.hid fun w => isOf_any n k a b w h1 h7
  rw [h] at hO
  obtain ⟨w2, hw2⟩ : ∃ w2, Hid (w2 = w.alloc (cluO k a b)) := ⟨_, Lib.hid rfl⟩
  have hb2 : Hid (Below w.heap.size w w2) := Lib.hid (by rw [hw2.out]; exact ba1 w _)
  have C2 := Lib.hid (show w2.heap[w.heap.size]? = some (cluO k a b) by rw [hw2.out]; exact hb_new _ _)
  have c0 : w2.cell? ⟨w.heap.size, 0, none⟩ = some (.int .i64 k) := hb_cell C2.out 0
  have c1 : w2.cell? ⟨w.heap.size, 1, none⟩ = some (.int .i64 a) := hb_cell C2.out 1
  have c2 : w2.cell? ⟨w.heap.size, 2, none⟩ = some (.int .i64 b) := hb_cell C2.out 2
  have hD : Hid (∀ w3, Below w.heap.size w w3 → w3.heap[w.heap.size]? = some (cluO k a b) → Calls Tryd.prog 104 #[v, sfV w.heap.size] w3 fun e w' => ∃ v', e = .returned v' ∧ OwnG brE w' B v' (brX n (xs.filter fun x => fitZ n x ⟨k, a, b⟩)) ∧ (v'.ownBlock = v.ownBlock) ∧ w3.grownBy w' v.ownBlock) := Lib.hid (by
    intro w3 hb3 hc3
    have ho3 := ho.below hb3
    have hT3 := hT.below hb3
    rcases ho3.form with ⟨rfl, e⟩ | ⟨g, cap, rfl, hBg, hgl, _⟩
    · have e0 : xs = [] := by
        have := congrArg List.length e
        rw [brX_len] at this
        exact List.length_eq_zero_iff.1 this
      refine (del_nil none 0 w.heap.size w3).mono ?_
      rintro e w' ⟨rfl, rfl⟩
      refine ⟨_, rfl, ?_, rfl, World.grownBy.refl _ _⟩
      rw [e0] at ho3 ⊢
      exact ho3
    · have hgw := (ho.lt g rfl).2
      refine (del_any n g (brX n xs).length cap w.heap.size B xs (fun x => fitZ n x ⟨k, a, b⟩) (KpC w.heap.size k a b) w3 (brX_len n xs).symm (by rw [brX_len]; exact hl) ho3 ⟨hc3, hT3⟩ (fun W W' hK hg => hK.grown hg (by omega) (by omega)) (fun x hxm W hK => siftC_any n x w.heap.size k a b W h1 h7 (hx x hxm) hK.2 h hK.1)).mono ?_
      rintro e w' ⟨m, rfl, hm, -, hg⟩
      exact ⟨_, rfl, hm, rfl, hg⟩)
  clear h hx hT ho hl
  go_enter Tryd.func89, Tryd.ntmps89
  go_upto_region 1 with fail
  rw [← hw2.out]
  go_wp2_with fail
  refine (hO.out _).mono ?_; rintro e w3 ⟨rfl, hb3⟩
  have C3 := Lib.hid (hb_below hb3 (hb_lt C2.out) C2.out)
  replace hb3 := Lib.hid (bt1 hb2.out hb3)
  clear c0 c1 c2
  go_wp2_with fail
  refine (hD.out _ hb3.out C3.out).mono ?_; rintro e w4 ⟨v', rfl, ho4, hv4, hg4⟩
  replace ho4 := Lib.hid ho4
  replace hv4 := Lib.hid hv4
  replace hg4 := Lib.hid ((grown_any hb3.out _).trans hg4)
  go_wp2_with fail
  go_ret; exact ⟨_, rfl, ho4.out, hv4.out, hg4.out⟩

end Go.Proofs.YtmjeilimdnngpaaDoor
