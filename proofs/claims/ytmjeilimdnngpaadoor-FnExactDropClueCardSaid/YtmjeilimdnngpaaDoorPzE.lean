/- The door, the program: what is sifted by all clues. -/
import Derived.Test.YtmjeilimdnngpaaDoorPzD
namespace Go.Proofs.YtmjeilimdnngpaaDoor
open Go Go.RowKit RM
/-- what a call of the door makes first -/
structure SiW (R : Int) (u lv : Value) (ok : Bool) (w w2 : World) : Prop where
  b : Below w.heap.size w w2
  P : w2.heap[w.heap.size]? = some (puzO R u)
  L : w2.heap[w.heap.size + 1]? = some (.cells #[lv] 88)
  K : w2.heap[w.heap.size + 1 + 1]? = some (.cells #[.bool ok] 4)
theorem siW (R : Int) (u : Value) (w : World) : SiW R u (.slice none 0 0) false w (((w.alloc (puzO R u)).alloc (.cells #[.slice none 0 0] 88)).alloc (.cells #[.bool false] 4)) :=
  ⟨((ba1 w _).alloc (by simp) _).alloc (by simp; omega) _, hb_old _ (hb_old _ (hb_new _ _)), hb_old _ (hb_new' _ _ _ (by simp)), hb_new' _ _ _ (by simp)⟩
theorem SiW.below {R : Int} {u lv : Value} {ok : Bool} {w w2 w3 : World} (h : SiW R u lv ok w w2) (hb : Below w2.heap.size w2 w3) : SiW R u lv ok w w3 :=
  ⟨bt1 h.b hb, hb_below hb (hb_lt h.P) h.P, hb_below hb (hb_lt h.L) h.L, hb_below hb (hb_lt h.K) h.K⟩
/-- the call that is deferred -/
abbrev dfr (gl gk : Nat) : Deferred := { target := .fn (.func 88) #[.pointer (some ⟨gl, 0, none⟩), .pointer (some ⟨gk, 0, none⟩)], args := #[] }

theorem door_ret {tmps : Array Value} {Q : Ending → World → Prop} (gl gk : Nat) (W : World) (lv : Value) (ok : Bool) (h4 : tmps[4]? = some (.pointer (some ⟨gl, 0, none⟩))) (h5 : tmps[5]? = some (.pointer (some ⟨gk, 0, none⟩)))
    (hl : W.cell? ⟨gl, 0, none⟩ = some lv) (hk : W.cell? ⟨gk, 0, none⟩ = some (.bool ok)) (hQ : Q (.returned (.tuple #[lv, .bool ok])) (W.alloc (cluO 0 0 0))) :
    Leaves Tryd.prog Tryd.f68 tmps Q [dfr gl gk] .returning W := by
  refine leaves_cons (f := 88) (args := #[.pointer (some ⟨gl, 0, none⟩), .pointer (some ⟨gk, 0, none⟩)]) (by simp) (by simp [go_sem]) ?_
  refine (catch_none gl gk W).mono ?_
  rintro e u' w3 ⟨rfl, rfl, rfl⟩
  have e1 : (W.alloc (cluO 0 0 0)).cell? ⟨gl, 0, none⟩ = some lv := by rw [(ba1 W _).cell (p := ⟨gl, 0, none⟩) (World.block_lt_of_cell? _ _ hl)]; exact hl
  have e2 : (W.alloc (cluO 0 0 0)).cell? ⟨gk, 0, none⟩ = some (.bool ok) := by rw [(ba1 W _).cell (p := ⟨gk, 0, none⟩) (World.block_lt_of_cell? _ _ hk)]; exact hk
  generalize W.alloc (cluO 0 0 0) = V at *
  simp [Leaves, settle, results, Tryd.results68, go_sem, h4, h5, e1, e2]
  exact hQ

theorem door_panic {tmps : Array Value} {Q : Ending → World → Prop} (gl gk : Nat) (W : World) (lv : Value) (ok : Bool) (k a b : Int) (h4 : tmps[4]? = some (.pointer (some ⟨gl, 0, none⟩))) (h5 : tmps[5]? = some (.pointer (some ⟨gk, 0, none⟩)))
    (hl : W.cell? ⟨gl, 0, none⟩ = some lv) (hk : W.cell? ⟨gk, 0, none⟩ = some (.bool ok)) (fl : W.frozen? ⟨gl, 0, none⟩ = false) (fk : W.frozen? ⟨gk, 0, none⟩ = false) (hne : ¬ gl = gk) (hQ : Q (.returned (.tuple #[.slice none 0 0, .bool false])) (((W.alloc (cluO k a b)).setCell ⟨gl, 0, none⟩ (.slice none 0 0)).setCell ⟨gk, 0, none⟩ (.bool false))) :
    Leaves Tryd.prog Tryd.f68 tmps Q [dfr gl gk] (.panicking [{ v := .iface 44 (.agg #[.int .i64 k, .int .i64 a, .int .i64 b]), recovered := false }]) W := by
  refine leaves_cons (f := 88) (args := #[.pointer (some ⟨gl, 0, none⟩), .pointer (some ⟨gk, 0, none⟩)]) (by simp) (by simp [go_sem]) ?_
  have l1 : gl < W.heap.size := World.block_lt_of_cell? _ _ hl
  have l2 : gk < W.heap.size := World.block_lt_of_cell? _ _ hk
  refine (catch_clue gl gk k a b lv ok [] W hl hk fl fk hne l1 l2).mono ?_
  rintro e u' w3 ⟨rfl, rfl, rfl⟩
  have eL : (W.alloc (cluO k a b)).cell? ⟨gl, 0, none⟩ = some lv := by rw [(ba1 W _).cell (p := ⟨gl, 0, none⟩) l1]; exact hl
  have eK : (W.alloc (cluO k a b)).cell? ⟨gk, 0, none⟩ = some (.bool ok) := by rw [(ba1 W _).cell (p := ⟨gk, 0, none⟩) l2]; exact hk
  generalize W.alloc (cluO k a b) = V at *
  have hn2 : ¬ gk = gl := fun e => hne e.symm
  simp [Leaves, settle, results, Tryd.results68, go_sem, h4, h5, eL, eK, hne, hn2]
  exact hQ

theorem sift_no (R : Int) (u v : Value) (w : World) (h : inB R 1 7 = false) :
    Calls Tryd.prog 68 #[.agg #[.int .i64 R, u], v] w fun e w' => e = .returned (.tuple #[.slice none 0 0, .bool false]) ∧ Below w.heap.size w w' := by
  have hmf : ∀ (fn : Fn) (first cap : Array Value) (w : World), (Instr.makeFunc fn first cap).run Tryd.prog w = .ok (.func fn first cap) w := fun _ _ _ _ => rfl
  have hI := Lib.hid fun w => isHid_any R w
  rw [h] at hI
  obtain ⟨w2, hw2⟩ : ∃ w2, Hid (w2 = ((w.alloc (puzO R u)).alloc (.cells #[.slice none 0 0] 88)).alloc (.cells #[.bool false] 4)) := ⟨_, Lib.hid rfl⟩
  have hW := Lib.hid (show SiW R u (.slice none 0 0) false w w2 by rw [hw2.out]; exact siW R u w)
  have p0 : w2.cell? ⟨w.heap.size, 0, none⟩ = some (.int .i64 R) := hb_cell hW.out.P 0
  have l0 : w2.cell? ⟨w.heap.size + 1, 0, none⟩ = some (.slice none 0 0) := hb_cell hW.out.L 0
  have k0 : w2.cell? ⟨w.heap.size + 1 + 1, 0, none⟩ = some (.bool false) := hb_cell hW.out.K 0
  have fl := hb_frozen hW.out.L
  have fk := hb_frozen hW.out.K
  have lk := hb_lt hW.out.K
  have ll := hb_lt hW.out.L
  have hne : ¬ w.heap.size + 1 = w.heap.size + 1 + 1 := by omega
  clear h
  go_enter_defers Tryd.func68, Tryd.ntmps68
  go_upto_region 1 with fail
  rw [← hw2.out]
  go_wp2_with fail
  refine (hI.out _).mono ?_; rintro e w' ⟨rfl, rfl⟩
  go_wp2_with fail
  refine door_ret (w.heap.size + 1) (w.heap.size + 1 + 1) _ (.slice none 0 0) false rfl rfl ?_ ?_ ⟨rfl, ?_⟩
  · simp [go_sem, l0, k0, hne]
  · simp [go_sem, l0, k0, hne]
  · have h0 := hW.out.b
    repeat (first | (with_reducible exact h0) | (with_reducible refine bt1 ?_ (ba1 _ _)) | (with_reducible refine Below.setCell ?_ ?_ _; rotate_left; (first | (show w.heap.size ≤ w.heap.size + 1 + 1; omega) | (show w.heap.size ≤ w.heap.size + 1; omega))))

end Go.Proofs.YtmjeilimdnngpaaDoor
