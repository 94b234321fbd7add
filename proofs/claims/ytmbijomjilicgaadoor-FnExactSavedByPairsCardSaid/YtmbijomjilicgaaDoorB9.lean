/- What is saved; the moves that clear a bar; how many states need so many moves: both ways. -/
import Derived.Test.YtmbijomjilicgaaDoorB8
import Derived.Deep.RegionHeld3
namespace Go.Proofs.YtmbijomjilicgaaDoor
open Go Go.RowKit RM

theorem keepA {A B : Prop} {N : Nat} {w a : World} {o : Obj} (h : A ∧ B ∧ N ≤ a.heap.size ∧ Below N w a) : Below N w (a.alloc o) := h.2.2.2.alloc h.2.2.1 o
theorem keepZ {A B : Prop} {N : Nat} {w a : World} {o : Obj} (h : A ∧ B ∧ N ≤ a.heap.size ∧ Below N w a) : N ≤ (a.alloc o).heap.size := by simp; have := h.2.2.1; omega
theorem keepE4 {A B D : Prop} {N : Nat} {w v : World} (h : A ∧ B ∧ D ∧ Below N w v) : Below N w v := h.2.2.2
theorem keepN {A B D : Prop} {N : Nat} {v : World} (h : A ∧ B ∧ N ≤ v.heap.size ∧ D) : N ≤ v.heap.size := h.2.2.1
theorem keep4 {a1 : Nat} {a b : World} {v0 v1 v2 v3 : Value} (h1 : a1 < a.heap.size) (k : Below a.heap.size a b) (h : a.cell? ⟨a1, 0, none⟩ = some v0 ∧ a.cell? ⟨a1, 1, none⟩ = some v1 ∧ a.cell? ⟨a1, 2, none⟩ = some v2 ∧ a.cell? ⟨a1, 3, none⟩ = some v3) :
    b.cell? ⟨a1, 0, none⟩ = some v0 ∧ b.cell? ⟨a1, 1, none⟩ = some v1 ∧ b.cell? ⟨a1, 2, none⟩ = some v2 ∧ b.cell? ⟨a1, 3, none⟩ = some v3 := by
  refine ⟨?_, ?_, ?_, ?_⟩
  · rw [k.cell (p := ⟨a1, 0, none⟩) h1]; exact h.1
  · rw [k.cell (p := ⟨a1, 1, none⟩) h1]; exact h.2.1
  · rw [k.cell (p := ⟨a1, 2, none⟩) h1]; exact h.2.2.1
  · rw [k.cell (p := ⟨a1, 3, none⟩) h1]; exact h.2.2.2
theorem keep8 {a1 a2 N : Nat} {w a b : World} {v0 v1 v2 v3 x0 x1 x2 x3 : Value} (h1 : a1 < N) (h2 : a2 < N) (k : Below a.heap.size a b)
    (h : (a.cell? ⟨a1, 0, none⟩ = some v0 ∧ a.cell? ⟨a1, 1, none⟩ = some v1 ∧ a.cell? ⟨a1, 2, none⟩ = some v2 ∧ a.cell? ⟨a1, 3, none⟩ = some v3) ∧ (a.cell? ⟨a2, 0, none⟩ = some x0 ∧ a.cell? ⟨a2, 1, none⟩ = some x1 ∧ a.cell? ⟨a2, 2, none⟩ = some x2 ∧ a.cell? ⟨a2, 3, none⟩ = some x3) ∧ N ≤ a.heap.size ∧ Below N w a) :
    (b.cell? ⟨a1, 0, none⟩ = some v0 ∧ b.cell? ⟨a1, 1, none⟩ = some v1 ∧ b.cell? ⟨a1, 2, none⟩ = some v2 ∧ b.cell? ⟨a1, 3, none⟩ = some v3) ∧ (b.cell? ⟨a2, 0, none⟩ = some x0 ∧ b.cell? ⟨a2, 1, none⟩ = some x1 ∧ b.cell? ⟨a2, 2, none⟩ = some x2 ∧ b.cell? ⟨a2, 3, none⟩ = some x3) ∧ N ≤ b.heap.size ∧ Below N w b :=
  ⟨keep4 (Nat.lt_of_lt_of_le h1 h.2.2.1) k h.1, keep4 (Nat.lt_of_lt_of_le h2 h.2.2.1) k h.2.1, Nat.le_trans h.2.2.1 k.size, h.2.2.2.trans (k.mono h.2.2.1)⟩
/-- a stronger condition serves from here on -/
theorem wpAnyH_stronger {P : Program} {md : Region.Mode} {ops : Array Oper} {Q : Exit → Act → World → Prop} {S S' : World → Prop} (h : ∀ w, S' w → S w) : ∀ (fuel : Nat) (listed : Array Bool) (a : Act) (w : World), wpAnyH P md ops Q S' fuel listed a w → wpAnyH P md ops Q S fuel listed a w
  | 0, _, _, _, H => H
  | fuel + 1, _, _, _, H => ⟨H.1, fun i hi => wpOp_mono (fun a' w' h' => ⟨h _ h'.1, wpAnyH_stronger h fuel _ a' w' h'.2⟩) (H.2 i hi)⟩
set_option maxRecDepth 100000 in
set_option maxHeartbeats 4000000 in
theorem iSavedByPairs_core (a b : ByteArray) (n x y N : Nat) (R A : Int) (ms : List Int) (w : World) (hT : TabOk w) (hml : ms.length = N) (hyN : y < N) (hA0 : 0 ≤ A) (hA1 : A ≤ 4096) (hR0 : 0 ≤ R) (hR1 : R ≤ 4096) (hR : Hid (∀ h : y < ms.length, ms[y] = R))
    (hA : Hid (∀ w, TabOk w → Calls Tryd.prog 39 #[.string a, .string b] w fun e w' => e = .returned (.tuple #[(.agg #[.int .i64 ((ctz (x) : Nat) : Int), .bool (onB (x)), .int .i64 ((n : Nat) : Int), .int .u64 ((x : Nat) : Int)]), (.agg #[.int .i64 ((ctz (y) : Nat) : Int), .bool (onB (y)), .int .i64 ((n : Nat) : Int), .int .u64 ((y : Nat) : Int)]), .bool true]) ∧ Below w.heap.size w w'))
    (hN : Hid (∀ w, Calls Tryd.prog 49 #[(.agg #[.int .i64 ((ctz (x) : Nat) : Int), .bool (onB (x)), .int .i64 ((n : Nat) : Int), .int .u64 ((x : Nat) : Int)]), (.agg #[.int .i64 ((ctz (y) : Nat) : Int), .bool (onB (y)), .int .i64 ((n : Nat) : Int), .int .u64 ((y : Nat) : Int)])] w fun e w' => e = .returned (.int .i64 A) ∧ Below w.heap.size w w'))
    (hS : Hid (∀ w, TabOk w → Calls Tryd.prog 40 #[(.agg #[.int .i64 ((ctz (x) : Nat) : Int), .bool (onB (x)), .int .i64 ((n : Nat) : Int), .int .u64 ((x : Nat) : Int)])] w fun e w' => ∃ gm gw, e = .returned (.agg #[.int .i64 n, .slice (some ⟨gm, 0, none⟩) N N, .slice (some ⟨gw, 0, none⟩) N N]) ∧ OwnI w' w.heap.size (.slice (some ⟨gm, 0, none⟩) N N) ms ∧ Below w.heap.size w w')) :
    Calls Tryd.prog 26 #[.string a, .string b] w fun e w' => AnsI w (A - R) true e w' := by
  have hT := Lib.hid hT
  have hfd := tfield1
  have hwr : IntKind.i64.wrap (A - R) = A - R := by rw [IntKind.wrap_i64]; omega
  go_enter Tryd.func26, Tryd.ntmps26
  go_wp2_with fail
  refine (hA.out _ hT.out).mono ?_; rintro e w1 ⟨rfl, hb⟩
  have hT1 := Lib.hid (hT.out.below hb)
  have hb := Lib.hid hb
  go_upto_region 4 with fail
  obtain ⟨W, hW⟩ : ∃ W, W = (w1.alloc (barO n x)).alloc (barO n y) := ⟨_, rfl⟩
  have gx : W.heap[w1.heap.size]? = some (barO n x) := by rw [hW]; exact (Below.heap_alloc _ _ _ (by simp)).trans (alloc_at _ _)
  have gy : W.heap[w1.heap.size + 1]? = some (barO n y) := by rw [hW]; exact alloc_at' _ _ _ (by simp)
  have hWb := Lib.hid (show Below w.heap.size w W by rw [hW]; exact bt (bt hb.out (ba _ _)) (ba _ _))
  have hWT := Lib.hid (show TabOk W by rw [hW]; exact (hT1.out.alloc _).alloc _)
  rw [← hW]
  have m1 := lt_of_block gx
  have m2 := lt_of_block gy
  obtain ⟨⟨p0, p1, p2, p3⟩, _⟩ := bar_cells gx
  obtain ⟨⟨q0, q1, q2, q3⟩, _⟩ := bar_cells gy
  clear gx gy hW
  refine wp_region_held_drew (S := (fun v => (v.cell? ⟨w1.heap.size, 0, none⟩ = some (.int .i64 (ctz x)) ∧ v.cell? ⟨w1.heap.size, 1, none⟩ = some (.bool (onB x)) ∧ v.cell? ⟨w1.heap.size, 2, none⟩ = some (.int .i64 n) ∧ v.cell? ⟨w1.heap.size, 3, none⟩ = some (.int .u64 x)) ∧ (v.cell? ⟨w1.heap.size + 1, 0, none⟩ = some (.int .i64 (ctz y)) ∧ v.cell? ⟨w1.heap.size + 1, 1, none⟩ = some (.bool (onB y)) ∧ v.cell? ⟨w1.heap.size + 1, 2, none⟩ = some (.int .i64 n) ∧ v.cell? ⟨w1.heap.size + 1, 3, none⟩ = some (.int .u64 y)) ∧ W.heap.size ≤ v.heap.size ∧ Below W.heap.size W v)) (by kernel_rfl) ?_ (fun hHeld => ?_)
  · refine ⟨⟨?_, ?_, ?_, ?_⟩, ⟨?_, ?_, ?_, ?_⟩, ?_, ?_⟩ <;> first | assumption | go_keep | exact Nat.le_refl _ | exact (Below.refl _ _).drew
  refine wpAnyH_take (i := 0) (oi := _) (v := ?_) rfl (by kernel_rfl) (by kernel_rfl) (by kernel_rfl) (fun _ _ _ h => h) (Or.inl ⟨by rfl, ?_⟩) (by assumption) ?_
  rotate_left
  · intro w hSw; (try dsimp only at hSw); go_simp; (try with_reducible rfl)
  (try simp only [Act.put, List.setIfInBounds_toArray, List.set_cons_zero, List.set_cons_succ])
  refine wpAnyH_take (i := 1) (oi := _) (v := ?_) rfl (by kernel_rfl) (by kernel_rfl) (by kernel_rfl) (fun _ _ _ h => h) (Or.inl ⟨by rfl, ?_⟩) (by assumption) ?_
  rotate_left
  · intro w hSw; (try dsimp only at hSw); go_simp; (try with_reducible rfl)
  (try simp only [Act.put, List.setIfInBounds_toArray, List.set_cons_zero, List.set_cons_succ])
  refine wpAnyH_take (i := 3) (oi := _) (v := ?_) rfl (by kernel_rfl) (by kernel_rfl) (by kernel_rfl) (fun _ _ _ h => h) (Or.inl ⟨by rfl, ?_⟩) (by assumption) ?_
  rotate_left
  · intro w hSw; (try dsimp only at hSw); go_simp; (try with_reducible rfl)
  (try simp only [Act.put, List.setIfInBounds_toArray, List.set_cons_zero, List.set_cons_succ])
  refine wpAnyH_take (i := 6) (oi := _) (v := ?_) rfl (by kernel_rfl) (by kernel_rfl) (by kernel_rfl) (fun _ _ _ h => h) (Or.inl ⟨by rfl, ?_⟩) (by assumption) ?_
  rotate_left
  · intro w hSw; (try dsimp only at hSw); go_simp; (try with_reducible rfl)
  (try simp only [Act.put, List.setIfInBounds_toArray, List.set_cons_zero, List.set_cons_succ])
  refine wpAnyH_take (i := 7) (oi := _) (v := ?_) rfl (by kernel_rfl) (by kernel_rfl) (by kernel_rfl) (fun _ _ _ h => h) (Or.inl ⟨by rfl, ?_⟩) (by assumption) ?_
  rotate_left
  · intro w hSw; (try dsimp only at hSw); go_simp; (try with_reducible rfl)
  (try simp only [Act.put, List.setIfInBounds_toArray, List.set_cons_zero, List.set_cons_succ])
  refine wpAnyH_ready (rs := [2]) (by kernel_rfl) (by simp) ?_
  refine AllReadyH.cons (o := _) rfl (fun K hK => ?_) AllReadyH.nil
  go_simp
  refine (hN.out _).mono ?_; rintro e w5 ⟨rfl, hbm⟩
  refine hK.out _ _ ?_ (fun hHeld => ?_)
  · exact keep8 m1 m2 hbm hHeld
  clear hK
  (try simp only [Act.put, List.setIfInBounds_toArray, List.set_cons_zero, List.set_cons_succ])
  refine wpAnyH_ready (rs := [4]) (by kernel_rfl) (by simp) ?_
  refine AllReadyH.cons (o := _) rfl (fun K hK => ?_) AllReadyH.nil
  go_simp
  refine (hS.out _ (hWT.out.below hHeld.2.2.2)).mono ?_; rintro e w6 ⟨gm, gw, rfl, ho, hbt⟩
  have e0 := (ho.cell hml y (by rw [hml]; exact hyN)).1
  rw [hR.out] at e0
  have hh6 := keep8 m1 m2 hbt hHeld
  refine hK.out _ _ hh6 (fun _ => ?_)
  clear hK ho
  refine wpAnyH_stronger (S' := (fun v => ((v.cell? ⟨w1.heap.size, 0, none⟩ = some (.int .i64 (ctz x)) ∧ v.cell? ⟨w1.heap.size, 1, none⟩ = some (.bool (onB x)) ∧ v.cell? ⟨w1.heap.size, 2, none⟩ = some (.int .i64 n) ∧ v.cell? ⟨w1.heap.size, 3, none⟩ = some (.int .u64 x)) ∧ (v.cell? ⟨w1.heap.size + 1, 0, none⟩ = some (.int .i64 (ctz y)) ∧ v.cell? ⟨w1.heap.size + 1, 1, none⟩ = some (.bool (onB y)) ∧ v.cell? ⟨w1.heap.size + 1, 2, none⟩ = some (.int .i64 n) ∧ v.cell? ⟨w1.heap.size + 1, 3, none⟩ = some (.int .u64 y)) ∧ W.heap.size ≤ v.heap.size ∧ Below W.heap.size W v) ∧ v.cell? ⟨gm, y, none⟩ = some (.int .i64 R))) (fun v h => h.1) _ _ _ _ ?_
  have hHeld6 : (fun v => ((v.cell? ⟨w1.heap.size, 0, none⟩ = some (.int .i64 (ctz x)) ∧ v.cell? ⟨w1.heap.size, 1, none⟩ = some (.bool (onB x)) ∧ v.cell? ⟨w1.heap.size, 2, none⟩ = some (.int .i64 n) ∧ v.cell? ⟨w1.heap.size, 3, none⟩ = some (.int .u64 x)) ∧ (v.cell? ⟨w1.heap.size + 1, 0, none⟩ = some (.int .i64 (ctz y)) ∧ v.cell? ⟨w1.heap.size + 1, 1, none⟩ = some (.bool (onB y)) ∧ v.cell? ⟨w1.heap.size + 1, 2, none⟩ = some (.int .i64 n) ∧ v.cell? ⟨w1.heap.size + 1, 3, none⟩ = some (.int .u64 y)) ∧ W.heap.size ≤ v.heap.size ∧ Below W.heap.size W v) ∧ v.cell? ⟨gm, y, none⟩ = some (.int .i64 R)) w6 := ⟨hh6, e0⟩
  (try simp only [Act.put, List.setIfInBounds_toArray, List.set_cons_zero, List.set_cons_succ])
  refine wpAnyH_take (i := 5) (oi := _) (v := ?_) rfl (by kernel_rfl) (by kernel_rfl) (by kernel_rfl) (fun _ _ _ h => h) (Or.inl ⟨by rfl, ?_⟩) (by assumption) ?_
  rotate_left
  · intro w hSw; (try dsimp only at hSw); go_simp; (try with_reducible rfl)
  (try simp only [Act.put, List.setIfInBounds_toArray, List.set_cons_zero, List.set_cons_succ])
  refine wpAnyH_take (i := 8) (oi := _) (v := ?_) rfl (by kernel_rfl) (by kernel_rfl) (by kernel_rfl) (fun _ _ _ h => h) (Or.inl ⟨by rfl, ?_⟩) (by assumption) ?_
  rotate_left
  · intro w hSw; (try dsimp only at hSw); go_simp; (try with_reducible rfl)
  (try simp only [Act.put, List.setIfInBounds_toArray, List.set_cons_zero, List.set_cons_succ])
  refine wpAnyH_take (i := 9) (oi := _) (v := ?_) rfl (by kernel_rfl) (by kernel_rfl) (by kernel_rfl) (fun _ _ _ h => h) (Or.inl ⟨by rfl, ?_⟩) (by assumption) ?_
  rotate_left
  · intro w hSw; (try dsimp only at hSw); go_simp; (try with_reducible rfl)
  (try simp only [Act.put, List.setIfInBounds_toArray, List.set_cons_zero, List.set_cons_succ])
  refine wpAnyH_take (i := 10) (oi := _) (v := ?_) rfl (by kernel_rfl) (by kernel_rfl) (by kernel_rfl) (fun _ _ _ h => h) (Or.inl ⟨by rfl, ?_⟩) (by assumption) ?_
  rotate_left
  · intro w hSw; (try dsimp only at hSw); go_simp; (try with_reducible rfl)
  (try simp only [Act.put, List.setIfInBounds_toArray, List.set_cons_zero, List.set_cons_succ])
  refine wpAnyH_take (i := 11) (oi := _) (v := ?_) rfl (by kernel_rfl) (by kernel_rfl) (by kernel_rfl) (fun _ _ _ h => h) (Or.inl ⟨by rfl, ?_⟩) (by assumption) ?_
  rotate_left
  · intro w hSw; (try dsimp only at hSw); go_simp; (try with_reducible rfl)
  (try simp only [Act.put, List.setIfInBounds_toArray, List.set_cons_zero, List.set_cons_succ])
  refine wpAnyH_take (i := 12) (oi := _) (v := ?_) rfl (by kernel_rfl) (by kernel_rfl) (by kernel_rfl) (fun _ _ _ h => h) (Or.inl ⟨by rfl, ?_⟩) (by assumption) ?_
  rotate_left
  · intro w hSw; (try dsimp only at hSw); go_simp; (try with_reducible rfl)
  (try simp only [Act.put, List.setIfInBounds_toArray, List.set_cons_zero, List.set_cons_succ])
  refine wpAnyH_done (by kernel_rfl) ?_ _
  go_wp2_with fail
  go_ret2
  exact ⟨rfl, hWb.out.trans (hh6.2.2.2.mono hWb.out.size)⟩
theorem iSavedByPairs_no (a b : ByteArray) (w : World) (hT : TabOk w)
    (hA : Hid (∀ w, TabOk w → Calls Tryd.prog 39 #[.string a, .string b] w fun e w' => e = .returned (.tuple #[(.agg #[.int .i64 ((ctz (0) : Nat) : Int), .bool (onB (0)), .int .i64 ((0 : Nat) : Int), .int .u64 ((0 : Nat) : Int)]), (.agg #[.int .i64 ((ctz (0) : Nat) : Int), .bool (onB (0)), .int .i64 ((0 : Nat) : Int), .int .u64 ((0 : Nat) : Int)]), .bool false]) ∧ Below w.heap.size w w')) :
    Calls Tryd.prog 26 #[.string a, .string b] w fun e w' => AnsI w 0 false e w' := by
  have hT := Lib.hid hT
  go_enter Tryd.func26, Tryd.ntmps26
  go_wp2_with fail
  refine (hA.out _ hT.out).mono ?_; rintro e w1 ⟨rfl, hb⟩
  have hb := Lib.hid hb
  go_wp2_with fail
  go_ret2
  exact ⟨rfl, bt (bt hb.out (ba _ _)) (ba _ _)⟩
theorem iSavedByPairs_ST (n x y : Nat) (w : World) (h2 : 2 ≤ n) (hn : n ≤ 12) (hx : x < 2 ^ n) (hy : y < 2 ^ n) (hT : TabOk w) :
    Calls Tryd.prog 26 #[.string (ST n x), .string (ST n y)] w fun e w' => AnsI w (apartN x y - dS x y) true e w' := by
  have hq : 2 ^ n ≤ 2 ^ 12 := Nat.pow_le_pow_right (by omega) hn
  have hX := num_lt n x hx
  have hY := num_lt n y hy
  have hd := dd_le hX hY
  exact iSavedByPairs_core _ _ n x y (2 ^ n) (dS x y) (apartN x y) (sdL n x) w hT (sdL_len n x) hy (by unfold apartN; omega) (by unfold apartN; omega) (by unfold dS; omega) (by unfold dS; omega) (Lib.hid fun h => sdL_get n x y h) (Lib.hid fun w hw => tp_ST n x y w h2 hn hx hy hw) (Lib.hid fun w => apart_any n x y w (by omega) (by omega)) (Lib.hid fun w hw => sm_any n x w h2 hn hx hw)
theorem iSavedByPairs_bad (a b : ByteArray) (w : World) (ha : a.size ≤ maxLen) (hb : b.size ≤ maxLen) (h : twoP a b = false) (hT : TabOk w) :
    Calls Tryd.prog 26 #[.string a, .string b] w fun e w' => AnsI w 0 false e w' :=
  iSavedByPairs_no a b w hT (Lib.hid fun w hw => tp_bad a b w ha hb h hw)
theorem sSavedByPairs_core (a b : ByteArray) (X Y N : Nat) (R : Int) (ms : List Int) (w : World) (hN4 : N ≤ 4096) (hml : ms.length = N) (hX : X < N) (hY : Y < N) (hR0 : 0 ≤ R) (hR1 : R ≤ 4096) (hR : Hid (∀ h : X < ms.length, ms[X] = R))
    (hG : Hid (∀ w, Calls Tryd.prog 36 #[.string a, .string b] w fun e w' => e = .returned (.bool true) ∧ w = w'))
    (hN : Hid (∀ w, Calls Tryd.prog 38 #[.string a] w fun e w' => e = .returned (.int .i64 (X : Int)) ∧ w = w'))
    (hN2 : Hid (∀ w, Calls Tryd.prog 38 #[.string b] w fun e w' => e = .returned (.int .i64 (Y : Int)) ∧ w = w'))
    (hS : Hid (∀ w, Calls Tryd.prog 37 #[.string b] w fun e w' => ∃ gm gw, e = .returned (.tuple #[.slice (some ⟨gm, 0, none⟩) N N, .slice (some ⟨gw, 0, none⟩) N N]) ∧ OwnI w' w.heap.size (.slice (some ⟨gm, 0, none⟩) N N) ms ∧ Below w.heap.size w w')) :
    Calls Tryd.prog 25 #[.string a, .string b] w fun e w' => AnsI w (max ((X : Int) - Y) (-((X : Int) - Y)) - R) true e w' := by
  have hAb := Lib.hid fun w => l1Abs_any ((X : Int) - Y) w (by omega) (by omega)
  obtain ⟨A, hA⟩ : ∃ A, Hid (A = max ((X : Int) - Y) (-((X : Int) - Y))) := ⟨_, Lib.hid rfl⟩
  have hA0 : 0 ≤ A ∧ A ≤ 4096 := by have := hA.out; omega
  rw [← hA.out] at hAb
  rw [← hA.out]
  obtain ⟨hA0, hA1⟩ := hA0
  go_enter Tryd.func25, Tryd.ntmps25
  go_wp2_with fail
  refine (hG.out _).mono ?_; rintro e w1 ⟨rfl, rfl⟩
  go_wp2_with fail
  refine (hS.out _).mono ?_; rintro e w2 ⟨gm, gw, rfl, ho, hb2⟩
  obtain ⟨e0, _⟩ := ho.cell hml X (by rw [hml]; exact hX)
  rw [hR.out] at e0
  clear ho
  have hb2 := Lib.hid hb2
  go_wp2_with fail
  refine (hN.out _).mono ?_; rintro e w3 ⟨rfl, rfl⟩
  go_wp2_with fail
  refine (hN2.out _).mono ?_; rintro e w3 ⟨rfl, rfl⟩
  go_wp2_with fail
  refine (hAb.out _).mono ?_; rintro e w3 ⟨rfl, rfl⟩
  go_wp2_with fail
  refine (hN.out _).mono ?_; rintro e w3 ⟨rfl, rfl⟩
  go_wp2_with fail
  go_ret2
  exact ⟨rfl, hb2.out⟩
theorem sSavedByPairs_no (a b : ByteArray) (w : World) (hG : Hid (∀ w, Calls Tryd.prog 36 #[.string a, .string b] w fun e w' => e = .returned (.bool false) ∧ w = w')) :
    Calls Tryd.prog 25 #[.string a, .string b] w fun e w' => AnsI w 0 false e w' := by
  go_enter Tryd.func25, Tryd.ntmps25
  go_wp2_with fail
  refine (hG.out _).mono ?_; rintro e w1 ⟨rfl, rfl⟩
  go_wp2_with fail
  go_ret2
  exact ⟨rfl, Below.refl _ _⟩
theorem sSavedByPairs_ST (n x y : Nat) (w : World) (h2 : 2 ≤ n) (hn : n ≤ 12) (hx : x < 2 ^ n) (hy : y < 2 ^ n) :
    Calls Tryd.prog 25 #[.string (ST n x), .string (ST n y)] w fun e w' => AnsI w (apartN x y - dS x y) true e w' := by
  have hq : 2 ^ n ≤ 2 ^ 12 := Nat.pow_le_pow_right (by omega) hn
  have hX := num_lt n x hx
  have hY := num_lt n y hy
  have hd := dd_le hX hY
  have := sSavedByPairs_core (ST n x) (ST n y) (num x) (num y) (2 ^ n) (dS x y) (fdL n y) w (by omega) (fdL_len n y) hX hY (by unfold dS; omega) (by unfold dS; omega) (Lib.hid fun h => by rw [fdL_get, dd_comm]) (Lib.hid fun w => tt_yes n x y w h2 hn) (Lib.hid fun w => riNumber_ST n x w (by omega) hx) (Lib.hid fun w => riNumber_ST n y w (by omega) hy) (Lib.hid fun w => fm_any n y w h2 hn hy)
  rw [show apartN x y = max ((num x : Int) - num y) (-((num x : Int) - num y)) from by unfold apartN; omega]; exact this
theorem sSavedByPairs_bad (a b : ByteArray) (w : World) (ha : a.size ≤ maxLen) (hb : b.size ≤ maxLen) (h : twoP a b = false) :
    Calls Tryd.prog 25 #[.string a, .string b] w fun e w' => AnsI w 0 false e w' :=
  sSavedByPairs_no a b w (Lib.hid fun w => tt_no a b w ha hb h)
end Go.Proofs.YtmbijomjilicgaaDoor
