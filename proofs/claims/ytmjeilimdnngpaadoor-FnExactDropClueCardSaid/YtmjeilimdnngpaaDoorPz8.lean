/- Whether a bar fits a clue, hidden bars of a text and of a number of rings, by the program. -/
import Derived.Test.YtmjeilimdnngpaaDoorPz7
import Derived.Test.YtmjeilimdnngpaaDoorPz4
namespace Go.Proofs.YtmjeilimdnngpaaDoor
open Go Go.RowKit RM
theorem fitZ_eq (n x : Nat) (k a b : Int) (h : cluOk n ⟨k, a, b⟩ = true) : fitZ n x ⟨k, a, b⟩ = ((cluOf n x k a).k == k && ((cluOf n x k a).a == a && (cluOf n x k a).b == b)) := by
  have h1 := fitZ_of n x k a b h
  cases hf : fitZ n x ⟨k, a, b⟩ with
  | true => rw [h1.1 hf]; simp
  | false =>
    symm
    rw [Bool.eq_false_iff]
    intro e
    rw [Bool.and_eq_true, Bool.and_eq_true, beq_iff_eq, beq_iff_eq, beq_iff_eq] at e
    have : fitZ n x ⟨k, a, b⟩ = true := h1.2 (by
      obtain ⟨e1, e2, e3⟩ := e
      generalize cluOf n x k a = c at *
      obtain ⟨c1, c2, c3⟩ := c
      simp at e1 e2 e3
      rw [e1, e2, e3])
    rw [hf] at this
    cases this
/-- a bar and a clue in memory -/
abbrev BC (n x g f N : Nat) (k a b : Int) (v : World) : Prop := (v.cell? ⟨g, 0, none⟩ = some (.int .i64 (ctz x)) ∧ v.cell? ⟨g, 1, none⟩ = some (.bool (onB x)) ∧ v.cell? ⟨g, 2, none⟩ = some (.int .i64 n) ∧ v.cell? ⟨g, 3, none⟩ = some (.int .u64 x)) ∧
  (v.cell? ⟨f, 0, none⟩ = some (.int .i64 k) ∧ v.cell? ⟨f, 1, none⟩ = some (.int .i64 a) ∧ v.cell? ⟨f, 2, none⟩ = some (.int .i64 b)) ∧ N ≤ v.heap.size
theorem BC.keep {n x g f N : Nat} {k a b : Int} {u v : World} (hg : g < N) (hf : f < N) (hb : Below u.heap.size u v) (h : BC n x g f N k a b u) : BC n x g f N k a b v := by
  obtain ⟨⟨a0, a1, a2, a3⟩, ⟨b0, b1, b2⟩, hN⟩ := h
  have e : ∀ q o, q < N → v.cell? ⟨q, o, none⟩ = u.cell? ⟨q, o, none⟩ := fun q o hq => hb.cell (p := ⟨q, o, none⟩) (by show q < _; omega)
  exact ⟨⟨by rw [e _ _ hg]; exact a0, by rw [e _ _ hg]; exact a1, by rw [e _ _ hg]; exact a2, by rw [e _ _ hg]; exact a3⟩, ⟨by rw [e _ _ hf]; exact b0, by rw [e _ _ hf]; exact b1, by rw [e _ _ hf]; exact b2⟩, Nat.le_trans hN hb.size⟩
theorem BC.drew {n x g f N : Nat} {k a b : Int} {u : World} (h : BC n x g f N k a b u) : BC n x g f N k a b u.drew := h
set_option maxHeartbeats 1000000 in
theorem fits_any (n x : Nat) (k a b : Int) (w : World) (h1 : 1 ≤ n) (h7 : n ≤ 7) (hx : x < 2 ^ n) (hT : TabOk w) (h : cluOk n ⟨k, a, b⟩ = true) :
    Calls Tryd.prog 106 #[(.agg #[.int .i64 ((ctz (x) : Nat) : Int), .bool (onB (x)), .int .i64 ((n : Nat) : Int), .int .u64 ((x : Nat) : Int)]), .agg #[.int .i64 k, .int .i64 a, .int .i64 b]] w fun e w' => e = .returned (.bool (fitZ n x ⟨k, a, b⟩)) ∧ Below w.heap.size w w' := by
  have hC := Lib.hid fun w hw => clue_any n x k a w h1 h7 hx hw (cluOk_a n k a b h)
  have hF := Lib.hid (fitZ_eq n x k a b h)
  generalize fitZ n x ⟨k, a, b⟩ = R at *
  obtain ⟨e1, e2, e3, hce⟩ : ∃ e1 e2 e3, cluOf n x k a = ⟨e1, e2, e3⟩ := ⟨_, _, _, rfl⟩
  rw [hce] at hF hC
  have hC : Hid (∀ w, TabOk w → Calls Tryd.prog 60 #[(.agg #[.int .i64 ((ctz (x) : Nat) : Int), .bool (onB (x)), .int .i64 ((n : Nat) : Int), .int .u64 ((x : Nat) : Int)]), .int .i64 k, .int .i64 a] w fun e w' => e = .returned (.agg #[.int .i64 e1, .int .i64 e2, .int .i64 e3]) ∧ Below w.heap.size w w') := hC
  have hF : Hid (R = (e1 == k && (e2 == a && e3 == b))) := hF
  clear hce h hx
  have q1 := eqg_cl
  have q2 := fun W => eq_cl W e1 e2 e3 k a b
  obtain ⟨w2, hw2⟩ : ∃ w2, Hid (w2 = (w.alloc (barO n x)).alloc (cluO k a b)) := ⟨_, Lib.hid rfl⟩
  have hb2 : Hid (Below w.heap.size w w2) := Lib.hid (by rw [hw2.out]; exact (ba1 w _).alloc (by simp) _)
  have B2 := Lib.hid (show w2.heap[w.heap.size]? = some (barO n x) by rw [hw2.out]; exact hb_old _ (hb_new _ _))
  have C2 := Lib.hid (show w2.heap[w.heap.size + 1]? = some (cluO k a b) by rw [hw2.out]; exact hb_new' _ _ _ (by simp))
  have hT2 : Hid (TabOk w2.drew) := Lib.hid ((hT.below hb2.out).below (Below.refl _ _).drew)
  have hB0 : Hid (Below w.heap.size w w2.drew) := Lib.hid hb2.out.drew
  have lb := hb_lt B2.out
  have lc := hb_lt C2.out
  have hS0 : BC n x w.heap.size (w.heap.size + 1) w2.heap.size k a b w2 := ⟨⟨hb_cell B2.out 0, hb_cell B2.out 1, hb_cell B2.out 2, hb_cell B2.out 3⟩, ⟨hb_cell C2.out 0, hb_cell C2.out 1, hb_cell C2.out 2⟩, Nat.le_refl _⟩
  clear hT
  go_enter Tryd.func106, Tryd.ntmps106
  go_wp2_with fail
  rw [← hw2.out]
  go_region_held3 (fun v => BC n x w.heap.size (w.heap.size + 1) w2.heap.size k a b v) (first | assumption | exact BC.drew (by assumption) | (refine ⟨⟨?_, ?_, ?_, ?_⟩, ⟨?_, ?_, ?_⟩, ?_⟩ <;> first | assumption | go_keep | omega))
    (first | (go_at_call 60; with_reducible refine (hC.out _ hT2.out).mono ?_; rintro e w' ⟨rfl, hb9⟩; have hbn := BC.keep (n := n) (x := x) (g := w.heap.size) (f := w.heap.size + 1) (N := w2.heap.size) (k := k) (a := a) (b := b) (by omega) (by omega) hb9 (by assumption); have hB1 := Lib.hid (bt1 hB0.out hb9)))
  all_goals
    clear hS0 hbn
    go_wp2_with fail
    go_ret; exact ⟨ret_bool hF.out.symm, hB1.out⟩

theorem hidBar_bad (s : ByteArray) (w : World) (hs : s.size ≤ maxLen) (h : goodB s.data.toList = false) (hT : TabOk w) :
    Calls Tryd.prog 57 #[.string s] w fun e w' => e = .returned (.tuple #[(.agg #[.int .i64 ((ctz (0) : Nat) : Int), .bool (onB (0)), .int .i64 ((0 : Nat) : Int), .int .u64 ((0 : Nat) : Int)]), .bool false]) ∧ Below w.heap.size w w' := by
  rw [← bz]
  have hB := Lib.hid fun w => barOf_bad s w hs h
  obtain ⟨w2, hw2⟩ : ∃ w2, Hid (w2 = w.alloc (.cells #[.int .i64 0, .bool false, .int .i64 0, .int .u64 0] 77)) := ⟨_, Lib.hid rfl⟩
  have hb2 : Hid (Below w.heap.size w w2) := Lib.hid (by rw [hw2.out]; exact ba1 w _)
  have R2 := Lib.hid (show w2.heap[w.heap.size]? = some (.cells #[.int .i64 0, .bool false, .int .i64 0, .int .u64 0] 77) by rw [hw2.out]; exact hb_new _ _)
  clear h hs
  go_enter Tryd.func57, Tryd.ntmps57
  go_wp2_with fail
  rw [← hw2.out]
  refine (hB.out _).mono ?_; rintro e w3 ⟨rfl, hb3⟩
  have R3 := Lib.hid (hb_below hb3 (hb_lt R2.out) R2.out)
  replace hb3 := Lib.hid (bt1 hb2.out hb3)
  have r0 : w3.cell? ⟨w.heap.size, 0, none⟩ = some (.int .i64 0) := hb_cell R3.out 0
  have r1 : w3.cell? ⟨w.heap.size, 1, none⟩ = some (.bool false) := hb_cell R3.out 1
  have r2 : w3.cell? ⟨w.heap.size, 2, none⟩ = some (.int .i64 0) := hb_cell R3.out 2
  have r3 : w3.cell? ⟨w.heap.size, 3, none⟩ = some (.int .u64 0) := hb_cell R3.out 3
  have zr := hb_frozen R3.out
  have lr := hb_lt R3.out
  go_wp2_with fail
  refine bodyPost_ret (v := .tuple #[.agg #[.int .i64 0, .bool false, .int .i64 0, .int .u64 0], .bool false]) ?_ rfl ⟨rfl, ?_⟩
  · simp [results, Tryd.results57, go_sem, lr, r0, r1, r2, r3]
  · have h0 := hb3.out
    have h1 := bt1 h0 (ba1 w3 (.cells #[.int .i64 0, .bool false, .int .i64 0, .int .u64 0] 77))
    repeat (first | (with_reducible exact h0) | (with_reducible exact h1) | (with_reducible refine bt1 ?_ (ba1 _ _)) | (with_reducible refine Below.setCell ?_ ?_ _; rotate_left; (show w.heap.size ≤ w.heap.size; omega)))

theorem hidBar_long (n x : Nat) (w : World) (h1 : 1 ≤ n) (hn : n ≤ 20) (hx : x < 2 ^ n) (h8 : 7 < n) (hT : TabOk w) :
    Calls Tryd.prog 57 #[.string (ST n x)] w fun e w' => e = .returned (.tuple #[(.agg #[.int .i64 ((ctz (0) : Nat) : Int), .bool (onB (0)), .int .i64 ((0 : Nat) : Int), .int .u64 ((0 : Nat) : Int)]), .bool false]) ∧ Below w.heap.size w w' := by
  rw [← bz]
  have hB := Lib.hid fun w hw => barOf_ST n x w h1 hn hx hw
  have hI := Lib.hid fun w => isHid_any n w
  rw [show inB (n : Int) 1 7 = false by unfold inB; simp; omega] at hI
  generalize ST n x = s at *
  obtain ⟨w2, hw2⟩ : ∃ w2, Hid (w2 = w.alloc (.cells #[.int .i64 0, .bool false, .int .i64 0, .int .u64 0] 77)) := ⟨_, Lib.hid rfl⟩
  have hb2 : Hid (Below w.heap.size w w2) := Lib.hid (by rw [hw2.out]; exact ba1 w _)
  have R2 := Lib.hid (show w2.heap[w.heap.size]? = some (.cells #[.int .i64 0, .bool false, .int .i64 0, .int .u64 0] 77) by rw [hw2.out]; exact hb_new _ _)
  have hT2 := Lib.hid (hT.below hb2.out)
  clear hx hT
  go_enter Tryd.func57, Tryd.ntmps57
  go_wp2_with fail
  rw [← hw2.out]
  refine (hB.out _ hT2.out).mono ?_; rintro e w3 ⟨rfl, hb3⟩
  have R3 := Lib.hid (hb_below hb3 (hb_lt R2.out) R2.out)
  replace hb3 := Lib.hid (bt1 hb2.out hb3)
  have r0 : w3.cell? ⟨w.heap.size, 0, none⟩ = some (.int .i64 0) := hb_cell R3.out 0
  have r1 : w3.cell? ⟨w.heap.size, 1, none⟩ = some (.bool false) := hb_cell R3.out 1
  have r2 : w3.cell? ⟨w.heap.size, 2, none⟩ = some (.int .i64 0) := hb_cell R3.out 2
  have r3 : w3.cell? ⟨w.heap.size, 3, none⟩ = some (.int .u64 0) := hb_cell R3.out 3
  have zr := hb_frozen R3.out
  have lr := hb_lt R3.out
  have lne : ¬ w.heap.size = w3.heap.size := by omega
  go_wp2_with fail
  refine (hI.out _).mono ?_; rintro e w4 ⟨rfl, rfl⟩
  go_wp2_with fail
  refine bodyPost_ret (v := .tuple #[.agg #[.int .i64 0, .bool false, .int .i64 0, .int .u64 0], .bool false]) ?_ rfl ⟨rfl, ?_⟩
  · simp [results, Tryd.results57, go_sem, lr, r0, r1, r2, r3]
  · have h0 := hb3.out
    have h1 := bt1 h0 (ba1 w3 (barO n x))
    repeat (first | (with_reducible exact h0) | (with_reducible exact h1) | (with_reducible refine bt1 ?_ (ba1 _ _)) | (with_reducible refine Below.setCell ?_ ?_ _; rotate_left; (show w.heap.size ≤ w.heap.size; omega)))

theorem hidBar_yes (n x : Nat) (w : World) (h1 : 1 ≤ n) (h7 : n ≤ 7) (hx : x < 2 ^ n) (hT : TabOk w) :
    Calls Tryd.prog 57 #[.string (ST n x)] w fun e w' => e = .returned (.tuple #[(.agg #[.int .i64 ((ctz (x) : Nat) : Int), .bool (onB (x)), .int .i64 ((n : Nat) : Int), .int .u64 ((x : Nat) : Int)]), .bool true]) ∧ Below w.heap.size w w' := by
  have hB := Lib.hid fun w hw => barOf_ST n x w h1 (by omega) hx hw
  have hI := Lib.hid fun w => isHid_any n w
  rw [show inB (n : Int) 1 7 = true from inB_of (by omega) (by omega)] at hI
  generalize ST n x = s at *
  obtain ⟨w2, hw2⟩ : ∃ w2, Hid (w2 = w.alloc (.cells #[.int .i64 0, .bool false, .int .i64 0, .int .u64 0] 77)) := ⟨_, Lib.hid rfl⟩
  have hb2 : Hid (Below w.heap.size w w2) := Lib.hid (by rw [hw2.out]; exact ba1 w _)
  have R2 := Lib.hid (show w2.heap[w.heap.size]? = some (.cells #[.int .i64 0, .bool false, .int .i64 0, .int .u64 0] 77) by rw [hw2.out]; exact hb_new _ _)
  have hT2 := Lib.hid (hT.below hb2.out)
  clear hx hT
  go_enter Tryd.func57, Tryd.ntmps57
  go_wp2_with fail
  rw [← hw2.out]
  refine (hB.out _ hT2.out).mono ?_; rintro e w3 ⟨rfl, hb3⟩
  have R3 := Lib.hid (hb_below hb3 (hb_lt R2.out) R2.out)
  replace hb3 := Lib.hid (bt1 hb2.out hb3)
  have r0 : w3.cell? ⟨w.heap.size, 0, none⟩ = some (.int .i64 0) := hb_cell R3.out 0
  have r1 : w3.cell? ⟨w.heap.size, 1, none⟩ = some (.bool false) := hb_cell R3.out 1
  have r2 : w3.cell? ⟨w.heap.size, 2, none⟩ = some (.int .i64 0) := hb_cell R3.out 2
  have r3 : w3.cell? ⟨w.heap.size, 3, none⟩ = some (.int .u64 0) := hb_cell R3.out 3
  have zr := hb_frozen R3.out
  have lr := hb_lt R3.out
  have lne : ¬ w.heap.size = w3.heap.size := by omega
  go_wp2_with fail
  refine (hI.out _).mono ?_; rintro e w4 ⟨rfl, rfl⟩
  go_wp2_with fail
  refine bodyPost_ret (v := .tuple #[(.agg #[.int .i64 ((ctz (x) : Nat) : Int), .bool (onB (x)), .int .i64 ((n : Nat) : Int), .int .u64 ((x : Nat) : Int)]), .bool true]) ?_ rfl ⟨rfl, ?_⟩
  · simp [results, Tryd.results57, go_sem, lr, r0, r1, r2, r3]
  · have h0 := hb3.out
    have h1 := bt1 h0 (ba1 w3 (barO n x))
    repeat (first | (with_reducible exact h0) | (with_reducible exact h1) | (with_reducible refine bt1 ?_ (ba1 _ _)) | (with_reducible refine Below.setCell ?_ ?_ _; rotate_left; (show w.heap.size ≤ w.heap.size; omega)))

end Go.Proofs.YtmjeilimdnngpaaDoor
