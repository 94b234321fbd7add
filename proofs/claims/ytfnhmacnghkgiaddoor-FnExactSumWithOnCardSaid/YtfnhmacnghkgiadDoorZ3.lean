/- Chapter 7: means of walks, both ways. -/
import Derived.Test.YtfnhmacnghkgiadDoorZ1
import Derived.Test.YtfnhmacnghkgiadDoorA3
import Derived.Test.YtfnhmacnghkgiadDoorInts
import Derived.Test.YtfnhmacnghkgiadDoorG3
import Derived.Test.YtfnhmacnghkgiadDoorV0
import Derived.Deep.DeepCutAuto
namespace Go.Proofs.YtfnhmacnghkgiadDoor
open Go Go.RowKit RM

/-- the object that holds a bar -/
abbrev barO (n x : Nat) : Obj := .cells #[.int .i64 (ctz x), .bool (onB x), .int .i64 n, .int .u64 x] 40
theorem bar_cells {w : World} {g n x : Nat} (h : w.heap[g]? = some (barO n x)) : CellsOf w g n x ∧ ∀ o, w.frozen? ⟨g, o, none⟩ = false := by
  refine ⟨?_, ?_⟩
  · simp [CellsOf, World.cell?, h, barO]
  · intro o; simp [World.frozen?, h, barO]
/-- the answers with two numbers -/
def AnsI2 (w : World) (r s : Int) (ok : Bool) (e : Ending) (w' : World) : Prop := e = .returned (.tuple #[.int .i64 r, .int .i64 s, .bool ok]) ∧ Below w.heap.size w w'

theorem sq_small (a : Nat) (h : a < 1048576) : (a : Int) * a < 1099511627776 ∧ 0 ≤ (a : Int) * a := by
  have h1 : a * a ≤ 1048575 * 1048575 := Nat.mul_le_mul (by omega) (by omega)
  have e : (a : Int) * a = ((a * a : Nat) : Int) := by simp
  rw [e]; omega
theorem waMean_any (n X Y : Nat) (w : World) (hn : n ≤ 20) (hX : X < 2 ^ n) (hY : Y < 2 ^ n) :
    Calls Tryd.prog 25 #[.int .i64 X, .int .i64 Y, .int .i64 ((2 ^ n - 1 : Nat) : Int)] w fun e w' => e = .returned (.int .i64 (meanN n X Y)) ∧ w = w' := by
  have hp := Nat.pow_le_pow_right (n := 2) (by omega) hn
  have sX := sq_small X (by omega)
  have sY := sq_small Y (by omega)
  obtain ⟨L, hL⟩ : ∃ L, L = 2 ^ n - 1 := ⟨_, rfl⟩
  have sA := sq_small (L - X) (by omega)
  have sB := sq_small (L - Y) (by omega)
  rw [show ((L - X : Nat) : Int) = (L : Int) - X from by omega] at sA
  rw [show ((L - Y : Nat) : Int) = (L : Int) - Y from by omega] at sB
  unfold meanN
  rw [← hL]
  have hXL : X ≤ L := by omega
  have hYL : Y ≤ L := by omega
  have hL2 : L < 1048576 := by omega
  clear hL hp hX hY
  by_cases h : Y < X
  · rw [if_pos h]
    have hc : decide ((X : Int) ≤ (Y : Int)) = false := by simp; omega
    go_enter Tryd.func25, Tryd.ntmps25
    go_wp2_with fail
    go_ret; exact ⟨ret_int (by go_num), rfl⟩
  · rw [if_neg h]
    have hc : decide ((X : Int) ≤ (Y : Int)) = true := by simp; omega
    go_enter Tryd.func25, Tryd.ntmps25
    go_wp2_with fail
    go_ret; exact ⟨ret_int (by go_num), rfl⟩

theorem square_any (a : Int) (w : World) (h : a * a < 1099511627776) (h0 : 0 ≤ a * a) : Calls Tryd.prog 48 #[.int .i64 a] w fun e w' => e = .returned (.int .i64 (a * a)) ∧ w = w' := by
  go_enter Tryd.func48, Tryd.ntmps48
  go_wp2_with fail
  go_ret; exact ⟨rfl, rfl⟩

theorem kp4 {a1 : Nat} {a b : World} {v0 v1 v2 v3 : Value} (h1 : a1 < a.heap.size) (k : Below a.heap.size a b) (h : a.cell? ⟨a1, 0, none⟩ = some v0 ∧ a.cell? ⟨a1, 1, none⟩ = some v1 ∧ a.cell? ⟨a1, 2, none⟩ = some v2 ∧ a.cell? ⟨a1, 3, none⟩ = some v3) :
    b.cell? ⟨a1, 0, none⟩ = some v0 ∧ b.cell? ⟨a1, 1, none⟩ = some v1 ∧ b.cell? ⟨a1, 2, none⟩ = some v2 ∧ b.cell? ⟨a1, 3, none⟩ = some v3 := by
  refine ⟨?_, ?_, ?_, ?_⟩
  · rw [k.cell (p := ⟨a1, 0, none⟩) h1]; exact h.1
  · rw [k.cell (p := ⟨a1, 1, none⟩) h1]; exact h.2.1
  · rw [k.cell (p := ⟨a1, 2, none⟩) h1]; exact h.2.2.1
  · rw [k.cell (p := ⟨a1, 3, none⟩) h1]; exact h.2.2.2
theorem kp12 {a1 a2 a3 N B : Nat} {w a b : World} {v0 v1 v2 v3 x0 x1 x2 x3 y0 y1 y2 y3 : Value} (h1 : a1 < N) (h2 : a2 < N) (h3 : a3 < N) (hB : B ≤ N) (k : Below a.heap.size a b)
    (h : (a.cell? ⟨a1, 0, none⟩ = some v0 ∧ a.cell? ⟨a1, 1, none⟩ = some v1 ∧ a.cell? ⟨a1, 2, none⟩ = some v2 ∧ a.cell? ⟨a1, 3, none⟩ = some v3) ∧ (a.cell? ⟨a2, 0, none⟩ = some x0 ∧ a.cell? ⟨a2, 1, none⟩ = some x1 ∧ a.cell? ⟨a2, 2, none⟩ = some x2 ∧ a.cell? ⟨a2, 3, none⟩ = some x3) ∧ (a.cell? ⟨a3, 0, none⟩ = some y0 ∧ a.cell? ⟨a3, 1, none⟩ = some y1 ∧ a.cell? ⟨a3, 2, none⟩ = some y2 ∧ a.cell? ⟨a3, 3, none⟩ = some y3) ∧ N ≤ a.heap.size ∧ Below B w a) :
    (b.cell? ⟨a1, 0, none⟩ = some v0 ∧ b.cell? ⟨a1, 1, none⟩ = some v1 ∧ b.cell? ⟨a1, 2, none⟩ = some v2 ∧ b.cell? ⟨a1, 3, none⟩ = some v3) ∧ (b.cell? ⟨a2, 0, none⟩ = some x0 ∧ b.cell? ⟨a2, 1, none⟩ = some x1 ∧ b.cell? ⟨a2, 2, none⟩ = some x2 ∧ b.cell? ⟨a2, 3, none⟩ = some x3) ∧ (b.cell? ⟨a3, 0, none⟩ = some y0 ∧ b.cell? ⟨a3, 1, none⟩ = some y1 ∧ b.cell? ⟨a3, 2, none⟩ = some y2 ∧ b.cell? ⟨a3, 3, none⟩ = some y3) ∧ N ≤ b.heap.size ∧ Below B w b :=
  ⟨kp4 (Nat.lt_of_lt_of_le h1 h.2.2.2.1) k h.1, kp4 (Nat.lt_of_lt_of_le h2 h.2.2.2.1) k h.2.1, kp4 (Nat.lt_of_lt_of_le h3 h.2.2.2.1) k h.2.2.1, Nat.le_trans h.2.2.2.1 k.size, h.2.2.2.2.trans (k.mono (Nat.le_trans hB h.2.2.2.1))⟩
theorem kpE {A B C D : Prop} {N : Nat} {w v : World} (h : A ∧ B ∧ C ∧ D ∧ Below N w v) : Below N w v := h.2.2.2.2
/-- three bars in memory -/
abbrev B3 (n x y z a b c N B : Nat) (W w' : World) : Prop := (w'.cell? ⟨a, 0, none⟩ = some (.int .i64 (ctz x)) ∧ w'.cell? ⟨a, 1, none⟩ = some (.bool (onB x)) ∧ w'.cell? ⟨a, 2, none⟩ = some (.int .i64 n) ∧ w'.cell? ⟨a, 3, none⟩ = some (.int .u64 x)) ∧ (w'.cell? ⟨b, 0, none⟩ = some (.int .i64 (ctz y)) ∧ w'.cell? ⟨b, 1, none⟩ = some (.bool (onB y)) ∧ w'.cell? ⟨b, 2, none⟩ = some (.int .i64 n) ∧ w'.cell? ⟨b, 3, none⟩ = some (.int .u64 y)) ∧ (w'.cell? ⟨c, 0, none⟩ = some (.int .i64 (ctz z)) ∧ w'.cell? ⟨c, 1, none⟩ = some (.bool (onB z)) ∧ w'.cell? ⟨c, 2, none⟩ = some (.int .i64 n) ∧ w'.cell? ⟨c, 3, none⟩ = some (.int .u64 z)) ∧ N ≤ w'.heap.size ∧ Below B W w'
theorem b3_store {n x y z a b c N B E : Nat} {W v : World} (h : B3 n x y z a b c N B W v) (hac : ¬ a = c) (hbc : ¬ b = c) (hc : c < N) (hB : B ≤ c) (hf : ∀ o, v.frozen? ⟨c, o, none⟩ = false) :
    B3 n x y E a b c N B W ((((v.setCell ⟨c, 0, none⟩ (.int .i64 (ctz E))).setCell ⟨c, 1, none⟩ (.bool (onB E))).setCell ⟨c, 2, none⟩ (.int .i64 n)).setCell ⟨c, 3, none⟩ (.int .u64 E)) := by
  obtain ⟨⟨p0, p1, p2, p3⟩, ⟨q0, q1, q2, q3⟩, ⟨r0, r1, r2, r3⟩, hN, hBl⟩ := h
  refine ⟨⟨?_, ?_, ?_, ?_⟩, ⟨?_, ?_, ?_, ?_⟩, ⟨?_, ?_, ?_, ?_⟩, ?h1, ?h2⟩
  case h2 => refine Below.setCell (Below.setCell (Below.setCell (Below.setCell hBl ?_ _) ?_ _) ?_ _) ?_ _ <;> exact hB
  case h1 => simpa using hN
  all_goals simp [go_sem, *]
set_option maxRecDepth 100000 in
set_option maxHeartbeats 4000000 in
theorem meanMoves_core (n x y Z E G M : Nat) (num : Nat → Int) (D : Nat → Nat → Int) (R : Int) (w : World) (hT : TabOk w) (c : Bool) (hc : decide (num y < num x) = c)
    (hx : x < M) (hy : y < M) (hz : Z < M) (he : E < M) (hR : Hid ((if c then D E y * D E y - D E x * D E x else D Z y * D Z y - D Z x * D Z x) = R))
    (hs : Hid (∀ z t, z < M → t < M → D z t * D z t < 1099511627776 ∧ 0 ≤ D z t * D z t))
    (hN : Hid (∀ w x, x < M → Calls Tryd.prog 42 #[(.agg #[.int .i64 ((ctz (x) : Nat) : Int), .bool (onB (x)), .int .i64 ((n : Nat) : Int), .int .u64 ((x : Nat) : Int)])] w fun e w' => e = .returned (.int .i64 (num x)) ∧ Below w.heap.size w w'))
    (hZ : Hid (∀ w, TabOk w → Calls Tryd.prog 46 #[.int .i64 n, .int .i64 0] w fun e w' => e = .returned (.agg #[.int .i64 ((ctz (Z) : Nat) : Int), .bool (onB (Z)), .int .i64 ((n : Nat) : Int), .int .u64 ((Z : Nat) : Int)]) ∧ Below w.heap.size w w'))
    (hA : Hid (∀ w z t, z < M → t < M → Calls Tryd.prog 49 #[(.agg #[.int .i64 ((ctz (z) : Nat) : Int), .bool (onB (z)), .int .i64 ((n : Nat) : Int), .int .u64 ((z : Nat) : Int)]), (.agg #[.int .i64 ((ctz (t) : Nat) : Int), .bool (onB (t)), .int .i64 ((n : Nat) : Int), .int .u64 ((t : Nat) : Int)])] w fun e w' => e = .returned (.int .i64 (D z t)) ∧ Below w.heap.size w w'))
    (hG : Hid (∀ w, Calls Tryd.prog 47 #[.int .i64 n] w fun e w' => e = .returned (.int .i64 (G : Int)) ∧ w = w'))
    (hEn : Hid (∀ w, TabOk w → Calls Tryd.prog 46 #[.int .i64 n, .int .i64 G] w fun e w' => e = .returned (.agg #[.int .i64 ((ctz (E) : Nat) : Int), .bool (onB (E)), .int .i64 ((n : Nat) : Int), .int .u64 ((E : Nat) : Int)]) ∧ Below w.heap.size w w')) :
    Calls Tryd.prog 28 #[(.agg #[.int .i64 ((ctz (x) : Nat) : Int), .bool (onB (x)), .int .i64 ((n : Nat) : Int), .int .u64 ((x : Nat) : Int)]), (.agg #[.int .i64 ((ctz (y) : Nat) : Int), .bool (onB (y)), .int .i64 ((n : Nat) : Int), .int .u64 ((y : Nat) : Int)])] w fun e w' => e = .returned (.int .i64 R) ∧ Below w.heap.size w w' := by
  have hT := Lib.hid hT
  go_enter Tryd.func28, Tryd.ntmps28
  go_wp2_with fail
  refine (hZ.out _ ?_).mono ?_
  · repeat (first | exact hT.out | apply TabOk.alloc | apply TabOk.drew | apply TabOk.drewN)
  rintro e w1 ⟨rfl, hb1⟩
  have hs1 := hb1.size
  simp only [World.size_alloc] at hs1
  have hT1 := Lib.hid (TabOk.below (w := (w.alloc _).alloc _) (by repeat (first | exact hT.out | apply TabOk.alloc | apply TabOk.drew | apply TabOk.drewN)) hb1)
  have k0 : w1.heap[w.heap.size]? = some (barO n x) := (hb1.block w.heap.size (by simp; omega)).trans (hb_old _ (hb_new _ _))
  have k1 : w1.heap[w.heap.size + 1]? = some (barO n y) := (hb1.block (w.heap.size + 1) (by simp)).trans (hb_new' _ _ _ (by simp))
  have hbw := Lib.hid (show Below w.heap.size w w1 from bt1 (bt1 (ba1 w _) (ba1 _ _)) hb1)
  clear hb1
  have k0 := Lib.hid k0
  have k1 := Lib.hid k1
  go_upto_region 2 with fail
  obtain ⟨W, hW⟩ : ∃ W, W = w1.alloc (.cells #[.int .i64 (ctz Z), .bool (onB Z), .int .i64 n, .int .u64 Z] 40) := ⟨_, rfl⟩
  rw [← hW]
  have hWz : W.heap.size = w1.heap.size + 1 := by rw [hW]; simp
  have hWT := Lib.hid (show TabOk W by rw [hW]; exact hT1.out.alloc _)
  have hWb := Lib.hid (show Below w.heap.size w W by rw [hW]; exact bt1 hbw.out (ba1 _ _))
  obtain ⟨⟨p0, p1, p2, p3⟩, fp⟩ := bar_cells (show W.heap[w.heap.size]? = some (barO n x) by rw [hW]; exact hb_old _ k0.out)
  obtain ⟨⟨q0, q1, q2, q3⟩, fq⟩ := bar_cells (show W.heap[w.heap.size + 1]? = some (barO n y) by rw [hW]; exact hb_old _ k1.out)
  obtain ⟨⟨r0, r1, r2, r3⟩, fr⟩ := bar_cells (show W.heap[w1.heap.size]? = some (barO n Z) by rw [hW]; exact hb_new _ _)
  have l0 : w.heap.size < W.heap.size := by omega
  have l1 : w.heap.size + 1 < W.heap.size := by omega
  have l2 : w1.heap.size < W.heap.size := by omega
  clear hW fp fq
  have hrf : Below W.heap.size W W := Below.refl _ _
  have hlw : w.heap.size ≤ W.heap.size := by omega
  go_region_held3 (fun w' => B3 n x y Z w.heap.size (w.heap.size + 1) w1.heap.size W.heap.size W.heap.size W w') (first | assumption | (refine ⟨⟨?_, ?_, ?_, ?_⟩, ⟨?_, ?_, ?_, ?_⟩, ⟨?_, ?_, ?_, ?_⟩, ?_, ?_⟩ <;> first | assumption | exact hrf.drew | go_keep | omega))
    (first | (go_at_call 42; refine (hN.out _ _ ?_).mono ?_; (first | exact hx | exact hy); rintro e w' ⟨rfl, hb2⟩; have hbn := kp12 l0 l1 l2 (Nat.le_refl _) hb2 (by assumption)))
  rename_i w0 hb0 hbn0 hH
  clear hb2 hbn hbn0 hb0 p0 p1 p2 p3 q0 q1 q2 q3 r0 r1 r2 r3 hN hrf
  clear w0
  obtain ⟨⟨p0, p1, p2, p3⟩, ⟨q0, q1, q2, q3⟩, ⟨r0, r1, r2, r3⟩, hN, hBl⟩ := hH
  cases c
  · replace hR : Hid (D Z y * D Z y - D Z x * D Z x = R) := Lib.hid (by have := hR.out; simpa using this)
    have sy := hs.out Z y hz hy
    have sx := hs.out Z x hz hx
    go_wp2_with fail
    go_region_held3 (fun v => B3 n x y Z w.heap.size (w.heap.size + 1) w1.heap.size W.heap.size W.heap.size W v) (first | assumption | (refine ⟨⟨?_, ?_, ?_, ?_⟩, ⟨?_, ?_, ?_, ?_⟩, ⟨?_, ?_, ?_, ?_⟩, ?_, ?_⟩ <;> first | assumption | (refine Below.drew ?_; assumption) | go_keep | omega))
      (first
        | (go_at_call 49; refine (hA.out _ _ _ ?_ ?_).mono ?_; (with_reducible assumption); (with_reducible assumption); rintro e w' ⟨rfl, hb2⟩; have hbn := kp12 l0 l1 l2 (Nat.le_refl _) hb2 (by assumption))
        | (go_at_call 48; refine (square_any (D Z y) _ ?_ ?_).mono ?_; (exact sy.1); (exact sy.2); rintro e w' ⟨rfl, rfl⟩)
        | (go_at_call 48; refine (square_any (D Z x) _ ?_ ?_).mono ?_; (exact sx.1); (exact sx.2); rintro e w' ⟨rfl, rfl⟩))
    all_goals
      go_wp2_with fail
      go_ret
      rename_i hBf
      exact ⟨ret_int (by rw [IntKind.wrap_i64]; have := hR.out; omega), bt1 hWb.out (kpE hBf)⟩
  · replace hR : Hid (D E y * D E y - D E x * D E x = R) := Lib.hid (by have := hR.out; simpa using this)
    have sy := hs.out E y he hy
    have sx := hs.out E x he hx
    rename_i v0
    have hw1 : w.heap.size + 1 < w1.heap.size := by omega
    have hvT := Lib.hid (show TabOk w' from hWT.out.below hBl)
    have fr' : ∀ o, w'.frozen? ⟨w1.heap.size, o, none⟩ = false := fun o => by rw [hBl.frozen (p := ⟨w1.heap.size, o, none⟩) l2]; exact fr o
    have n2 : w.heap.size ≠ w1.heap.size := by omega
    have n3 : w.heap.size + 1 ≠ w1.heap.size := by omega
    have l9 : w.heap.size ≤ w1.heap.size := by omega
    go_upto_region 3 with fail
    go_cut [] (fun wx => B3 n x y E w.heap.size (w.heap.size + 1) w1.heap.size W.heap.size w.heap.size W wx)
    case first =>
      go_region_with (first
        | (go_at_call 47; refine (hG.out _).mono ?_; rintro e w9 ⟨rfl, rfl⟩)
        | (go_at_call 46; refine (hEn.out _ ?_).mono ?_; (repeat (first | exact hvT.out | apply TabOk.alloc | apply TabOk.drew | apply TabOk.drewN)); rintro e w9 ⟨rfl, hb5⟩; obtain ⟨hc5, hf5⟩ := bcell hb5; have hf6 : ∀ o, w9.frozen? ⟨w1.heap.size, o, none⟩ = false := (fun o => by rw [hf5 _ _ (by simp; omega)]; simp [go_sem, fr']); have hr0 : w9.cell? ⟨w1.heap.size, 0, none⟩ = some (.int .i64 (ctz Z)) := (by rw [hc5 _ _ (by simp; omega)]; simp [go_sem, r0]); have hr1 : w9.cell? ⟨w1.heap.size, 1, none⟩ = some (.bool (onB Z)) := (by rw [hc5 _ _ (by simp; omega)]; simp [go_sem, r1]); have hr2 : w9.cell? ⟨w1.heap.size, 2, none⟩ = some (.int .i64 n) := (by rw [hc5 _ _ (by simp; omega)]; simp [go_sem, r2]); have hr3 : w9.cell? ⟨w1.heap.size, 3, none⟩ = some (.int .u64 Z) := (by rw [hc5 _ _ (by simp; omega)]; simp [go_sem, r3]); have hl9 : w1.heap.size < w9.heap.size := (by have := hb5.size; simp at this; omega)))
      all_goals
        go_wp2_with fail
        go_meet
        exact b3_store (z := Z) (kp12 l0 l1 l2 hlw hb5 ⟨⟨p0, p1, p2, p3⟩, ⟨q0, q1, q2, q3⟩, ⟨r0, r1, r2, r3⟩, hN, (hBl.mono hlw).drew⟩) n2 n3 l2 l9 hf6
    case rest =>
      obtain ⟨⟨p0, p1, p2, p3⟩, ⟨q0, q1, q2, q3⟩, ⟨r0, r1, r2, r3⟩, hN, hBl⟩ := hcut
      go_upto_region 4 with fail
      go_region_held3 (fun v => B3 n x y E w.heap.size (w.heap.size + 1) w1.heap.size W.heap.size w.heap.size W v) (first | assumption | (refine ⟨⟨?_, ?_, ?_, ?_⟩, ⟨?_, ?_, ?_, ?_⟩, ⟨?_, ?_, ?_, ?_⟩, ?_, ?_⟩ <;> first | assumption | (refine Below.drew ?_; assumption) | go_keep | omega))
        (first
          | (go_at_call 49; refine (hA.out _ _ _ ?_ ?_).mono ?_; (with_reducible assumption); (with_reducible assumption); rintro e w' ⟨rfl, hb2⟩; have hbn := kp12 l0 l1 l2 hlw hb2 (by assumption))
          | (go_at_call 48; refine (square_any (D E y) _ ?_ ?_).mono ?_; (exact sy.1); (exact sy.2); rintro e w' ⟨rfl, rfl⟩)
          | (go_at_call 48; refine (square_any (D E x) _ ?_ ?_).mono ?_; (exact sx.1); (exact sx.2); rintro e w' ⟨rfl, rfl⟩))
      all_goals
        go_wp2_with fail
        go_ret
        rename_i hBf
        exact ⟨ret_int (by rw [IntKind.wrap_i64]; have := hR.out; omega), hWb.out.trans (kpE hBf)⟩

theorem meanMoves_any (n x y : Nat) (w : World) (hn : n ≤ 20) (hx : x < 2 ^ n) (hy : y < 2 ^ n) (hT : TabOk w) :
    Calls Tryd.prog 28 #[(.agg #[.int .i64 ((ctz (x) : Nat) : Int), .bool (onB (x)), .int .i64 ((n : Nat) : Int), .int .u64 ((x : Nat) : Int)]), (.agg #[.int .i64 ((ctz (y) : Nat) : Int), .bool (onB (y)), .int .i64 ((n : Nat) : Int), .int .u64 ((y : Nat) : Int)])] w fun e w' => e = .returned (.int .i64 (meanN n (num x) (num y))) ∧ Below w.heap.size w w' := by
  have hp := pow20 hn
  have h1 := pow_pos1 n
  have nx := num_lt n x hx
  have ny := num_lt n y hy
  refine meanMoves_core n x y 0 (gray (2 ^ n - 1)) (2 ^ n - 1) 1048576 (fun x => (num x : Int)) (fun z t => max (num z : Int) (num t) - min (num z : Int) (num t)) _ w hT (decide ((num y : Int) < num x)) rfl (by omega) (by omega) (by omega) (gray_lt 20 _ (by omega)) (Lib.hid ?_) (Lib.hid ?_) (Lib.hid fun w x hx => number_any n x w hx) (Lib.hid fun w hT => ?_) (Lib.hid fun w z t hz ht => apart_any n z t w hz ht) (Lib.hid fun w => greatest_any n w hn) (Lib.hid fun w hT => barOfNumber_any n _ w hn (by omega) hT)
  · unfold meanN
    rw [num_gray, num_zero]
    by_cases h : num y < num x
    · rw [if_pos (by simpa using h), if_pos h]
      rw [show max ((2 ^ n - 1 : Nat) : Int) (num y) - min ((2 ^ n - 1 : Nat) : Int) (num y) = ((2 ^ n - 1 : Nat) : Int) - num y from by omega, show max ((2 ^ n - 1 : Nat) : Int) (num x) - min ((2 ^ n - 1 : Nat) : Int) (num x) = ((2 ^ n - 1 : Nat) : Int) - num x from by omega]
    · rw [if_neg (by simpa using h), if_neg h]
      rw [show max ((0 : Nat) : Int) (num y) - min ((0 : Nat) : Int) (num y) = num y from by omega, show max ((0 : Nat) : Int) (num x) - min ((0 : Nat) : Int) (num x) = num x from by omega]
  · intro z t hz ht
    have a := num_lt 20 z hz
    have b := num_lt 20 t ht
    have e : max (num z : Int) (num t) - min (num z : Int) (num t) = ((distN (num z) (num t) : Nat) : Int) := (dist_int _ _).symm
    show (max (num z : Int) (num t) - min (num z : Int) (num t)) * _ < _ ∧ 0 ≤ (max (num z : Int) (num t) - min (num z : Int) (num t)) * _
    rw [e]
    exact sq_small _ (dist_lt a b)
  · have := barOfNumber_any n 0 w hn (by omega) hT
    rw [gray_zero] at this; exact this
end Go.Proofs.YtfnhmacnghkgiadDoor
