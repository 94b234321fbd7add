/- Keys and two states, by the program. -/
import Derived.Test.YtcfeaaakfjilgabDoorV10
import Derived.BigRegion
namespace Go.Proofs.YtcfeaaakfjilgabDoor
set_option linter.unusedSimpArgs false
set_option linter.unusedVariables false
open Go Go.RowKit RM
theorem bt2k {w a b : World} (h : Below w.heap.size w a) (k : Below a.heap.size a b) : Below w.heap.size w b := bt1 h k
set_option maxHeartbeats 1000000 in
theorem twoK_yes (v : Value) (ks : List ByteArray) (n x y : Nat) (w : World) (hz : ∀ s ∈ ks, s.size ≤ maxLen) (h : RdT w v ks) (hT : TabOk w) (h1 : 1 ≤ n) (h2 : n ≤ 10) (hx : x < 2 ^ n) (hy : y < 2 ^ n) (hn : ks.length = n) (hG : goodK ks = true) :
    Calls Tryd.prog 34 #[v, .string (ST n x), .string (ST n y)] w fun e w' => ∃ u, e = .returned (.tuple #[u, (.agg #[.int .i64 ((ctz (x) : Nat) : Int), .bool (onB (x)), .int .i64 ((n : Nat) : Int), .int .u64 ((x : Nat) : Int)]), (.agg #[.int .i64 ((ctz (y) : Nat) : Int), .bool (onB (y)), .int .i64 ((n : Nat) : Int), .int .u64 ((y : Nat) : Int)]), .bool true]) ∧ OwnG keyE w' w.heap.size u (ks.map kp) ∧ Below w.heap.size w w' := by
  have hA := Lib.hid (fun w (hT : TabOk w) (h : RdT w v ks) => keyedBar_yes v ks n x w hz h hT h1 h2 hx hn hG)
  have hB := Lib.hid (fun w (hT : TabOk w) (h : RdT w v ks) => keyedBar_yes v ks n y w hz h hT h1 h2 hy hn hG)
  replace hT := Lib.hid hT
  replace h := Lib.hid h
  generalize ks.map kp = KL at *
  generalize ST n x = a at *
  generalize ST n y = b at *
  clear hx hy hG hn hz
  obtain ⟨w0, hw0⟩ : ∃ w0, Hid (w0 = (w.alloc (.cells #[.int .i64 0, .bool false, .int .i64 0, .int .u64 0] 58)).alloc (.cells #[.int .i64 0, .bool false, .int .i64 0, .int .u64 0] 58)) := ⟨_, Lib.hid rfl⟩
  have hs0 : Hid (w0.heap.size = w.heap.size + 2) := Lib.hid (by rw [hw0.out]; simp)
  have hb0 := Lib.hid (show Below w.heap.size w w0 by rw [hw0.out]; exact bt1 (ba1 w _) (ba1 _ _))
  have R0 := Lib.hid (show w0.heap[w.heap.size]? = some (.cells #[.int .i64 0, .bool false, .int .i64 0, .int .u64 0] 58) by rw [hw0.out]; exact hb_old _ (hb_new w _))
  have S0 := Lib.hid (show w0.heap[w.heap.size + 1]? = some (.cells #[.int .i64 0, .bool false, .int .i64 0, .int .u64 0] 58) by rw [hw0.out]; exact hb_new' _ _ _ (by simp))
  have hA0 := Lib.hid (hA.out w0 (hT.out.below hb0.out) (h.out.below hb0.out))
  go_enter Tryd.func34, Tryd.ntmps34
  go_wp2_with fail
  rw [← hw0.out]
  refine hA0.out.mono ?_; rintro e w1 ⟨u1, rfl, ho1, hb1⟩
  have R1 := Lib.hid (hb_below hb1 (hb_lt R0.out) R0.out)
  have S1 := Lib.hid (hb_below hb1 (hb_lt S0.out) S0.out)
  have hs1 := hb1.size
  replace hb1 := Lib.hid (bt1 hb0.out hb1)
  obtain ⟨w2, hw2⟩ : ∃ w2, Hid (w2 = w1.alloc (.cells #[.int .i64 ((ctz x : Nat) : Int), .bool (onB x), .int .i64 (n : Int), .int .u64 (x : Int)] 58)) := ⟨_, Lib.hid rfl⟩
  have hb2 := Lib.hid (show Below w1.heap.size w1 w2 by rw [hw2.out]; exact ba1 _ _)
  have R2 := Lib.hid (hb_below hb2.out (hb_lt R1.out) R1.out)
  have S2 := Lib.hid (hb_below hb2.out (hb_lt S1.out) S1.out)
  have X2 := Lib.hid (show w2.heap[w1.heap.size]? = some (.cells #[.int .i64 ((ctz x : Nat) : Int), .bool (onB x), .int .i64 (n : Int), .int .u64 (x : Int)] 58) by rw [hw2.out]; exact hb_new _ _)
  have ho2 := Lib.hid (ho1.below hb2.out)
  have hb02 := Lib.hid (bt1 hb1.out hb2.out)
  have hB2 := Lib.hid (hB.out w2 (hT.out.below hb02.out) (h.out.below hb02.out))
  have hl12 := hb_lt X2.out
  clear ho1
  go_wp2_with fail
  rw [← hw2.out]
  refine hB2.out.mono ?_; rintro e w3 ⟨u2, rfl, -, hb3⟩
  have R3 := Lib.hid (hb_below hb3 (hb_lt R2.out) R2.out)
  have S3 := Lib.hid (hb_below hb3 (hb_lt S2.out) S2.out)
  have X3 := Lib.hid (hb_below hb3 (hb_lt X2.out) X2.out)
  have ho3 := Lib.hid (ho2.out.below hb3)
  have hl23 := hb3.size
  replace hb3 := Lib.hid (bt1 hb02.out hb3)
  obtain ⟨w4, hw4⟩ : ∃ w4, Hid (w4 = w3.alloc (.cells #[.int .i64 ((ctz y : Nat) : Int), .bool (onB y), .int .i64 (n : Int), .int .u64 (y : Int)] 58)) := ⟨_, Lib.hid rfl⟩
  have hb4 := Lib.hid (show Below w3.heap.size w3 w4 by rw [hw4.out]; exact ba1 _ _)
  have R4 := Lib.hid (hb_below hb4.out (hb_lt R3.out) R3.out)
  have S4 := Lib.hid (hb_below hb4.out (hb_lt S3.out) S3.out)
  have X4 := Lib.hid (hb_below hb4.out (hb_lt X3.out) X3.out)
  have Y4 := Lib.hid (show w4.heap[w3.heap.size]? = some (.cells #[.int .i64 ((ctz y : Nat) : Int), .bool (onB y), .int .i64 (n : Int), .int .u64 (y : Int)] 58) by rw [hw4.out]; exact hb_new _ _)
  have ho4 := Lib.hid (ho3.out.below hb4.out)
  have hb04 := Lib.hid (bt1 hb3.out hb4.out)
  have x0 : w4.cell? ⟨w1.heap.size, 0, none⟩ = some (.int .i64 ((ctz x : Nat) : Int)) := hb_cell X4.out 0
  have x1 : w4.cell? ⟨w1.heap.size, 1, none⟩ = some (.bool (onB x)) := hb_cell X4.out 1
  have x2 : w4.cell? ⟨w1.heap.size, 2, none⟩ = some (.int .i64 (n : Int)) := hb_cell X4.out 2
  have x3 : w4.cell? ⟨w1.heap.size, 3, none⟩ = some (.int .u64 (x : Int)) := hb_cell X4.out 3
  have y0 : w4.cell? ⟨w3.heap.size, 0, none⟩ = some (.int .i64 ((ctz y : Nat) : Int)) := hb_cell Y4.out 0
  have y1 : w4.cell? ⟨w3.heap.size, 1, none⟩ = some (.bool (onB y)) := hb_cell Y4.out 1
  have y2 : w4.cell? ⟨w3.heap.size, 2, none⟩ = some (.int .i64 (n : Int)) := hb_cell Y4.out 2
  have y3 : w4.cell? ⟨w3.heap.size, 3, none⟩ = some (.int .u64 (y : Int)) := hb_cell Y4.out 3
  have zr := hb_frozen R4.out
  have zs := hb_frozen S4.out
  have lR := hb_lt R4.out
  have lS := hb_lt S4.out
  have lX := hb_lt X4.out
  have lY := hb_lt Y4.out
  have r0 : w4.cell? ⟨w.heap.size, 0, none⟩ = some (.int .i64 0) := hb_cell R4.out 0
  have r1 : w4.cell? ⟨w.heap.size, 1, none⟩ = some (.bool false) := hb_cell R4.out 1
  have r2 : w4.cell? ⟨w.heap.size, 2, none⟩ = some (.int .i64 0) := hb_cell R4.out 2
  have r3 : w4.cell? ⟨w.heap.size, 3, none⟩ = some (.int .u64 0) := hb_cell R4.out 3
  have s0 : w4.cell? ⟨w.heap.size + 1, 0, none⟩ = some (.int .i64 0) := hb_cell S4.out 0
  have s1 : w4.cell? ⟨w.heap.size + 1, 1, none⟩ = some (.bool false) := hb_cell S4.out 1
  have s2 : w4.cell? ⟨w.heap.size + 1, 2, none⟩ = some (.int .i64 0) := hb_cell S4.out 2
  have s3 : w4.cell? ⟨w.heap.size + 1, 3, none⟩ = some (.int .u64 0) := hb_cell S4.out 3
  have hs0' := hs0.out
  have d1 : ¬ w1.heap.size = w.heap.size := by omega
  have d2 : ¬ w1.heap.size = w.heap.size + 1 := by omega
  have d3 : ¬ w3.heap.size = w.heap.size := by omega
  have d4 : ¬ w3.heap.size = w.heap.size + 1 := by omega
  go_wp2_with fail
  rw [← hw4.out]
  go_region
  go_wp2_with fail
  refine bodyPost_ret (v := .tuple #[u1, (.agg #[.int .i64 ((ctz (x) : Nat) : Int), .bool (onB (x)), .int .i64 ((n : Nat) : Int), .int .u64 ((x : Nat) : Int)]), (.agg #[.int .i64 ((ctz (y) : Nat) : Int), .bool (onB (y)), .int .i64 ((n : Nat) : Int), .int .u64 ((y : Nat) : Int)]), .bool true]) ?_ rfl ⟨_, rfl, ?_, ?_⟩
  · simp [results, Tryd.results34, go_sem, lR, lS, r0, r1, r2, r3, s0, s1, s2, s3]
  · have k : ∀ (W : World) (a : Addr) (u : Value), OwnG keyE W w0.heap.size u1 KL → a.block < w0.heap.size → OwnG keyE (W.setCell a u) w0.heap.size u1 KL := fun W a u h ha => ownsRow_setCell_below h ha u
    have l0 : w.heap.size < w0.heap.size := by omega
    have l1 : w.heap.size + 1 < w0.heap.size := by omega
    exact ((k _ _ _ (k _ _ _ (k _ _ _ (k _ _ _ (k _ _ _ (k _ _ _ (k _ _ _ (k _ _ _ ho4.out l0) l0) l0) l0) l1) l1) l1) l1).below (Below.refl _ _).drew).mono (Nat.le_of_lt l0)
  · exact ((((((((hb04.out.setCell (Nat.le_refl _) _).setCell (Nat.le_refl _) _).setCell (Nat.le_refl _) _).setCell (Nat.le_refl _) _).setCell (Nat.le_succ _) _).setCell (Nat.le_succ _) _).setCell (Nat.le_succ _) _).setCell (Nat.le_succ _) _).drew
theorem keyedBar_all (v : Value) (ks : List ByteArray) (s : ByteArray) (hz : ∀ s ∈ ks, s.size ≤ maxLen) (hs : s.size ≤ maxLen) : ∃ n x : Nat, ∀ w, TabOk w → RdT w v ks →
    Calls Tryd.prog 41 #[v, .string s] w fun e w' => ∃ u, e = .returned (.tuple #[u, (.agg #[.int .i64 ((ctz (x) : Nat) : Int), .bool (onB (x)), .int .i64 ((n : Nat) : Int), .int .u64 ((x : Nat) : Int)]), .bool (askK ks s)]) ∧ Below w.heap.size w w' := by
  rcases key_cases ks s with ha | ⟨n, x, h1, h2, hx, hn, hG, rfl, ha⟩
  · refine ⟨0, 0, fun w hT h => (keyedBar_no v ks s w hz hs h hT ha).mono ?_⟩
    rintro e w' ⟨rfl, hb⟩
    exact ⟨_, by rw [ha], hb⟩
  · refine ⟨n, x, fun w hT h => (keyedBar_yes v ks n x w hz h hT h1 h2 hx hn hG).mono ?_⟩
    rintro e w' ⟨u, rfl, _, hb⟩
    exact ⟨u, by rw [ha], hb⟩
set_option maxHeartbeats 1000000 in
theorem twoK_no (v : Value) (ks : List ByteArray) (a b : ByteArray) (w : World) (hz : ∀ s ∈ ks, s.size ≤ maxLen) (ha : a.size ≤ maxLen) (hb9 : b.size ≤ maxLen) (h : RdT w v ks) (hT : TabOk w) (hno : (askK ks a && askK ks b) = false) :
    Calls Tryd.prog 34 #[v, .string a, .string b] w fun e w' => e = .returned (.tuple #[.slice none 0 0, (.agg #[.int .i64 ((ctz (0) : Nat) : Int), .bool (onB (0)), .int .i64 ((0 : Nat) : Int), .int .u64 ((0 : Nat) : Int)]), (.agg #[.int .i64 ((ctz (0) : Nat) : Int), .bool (onB (0)), .int .i64 ((0 : Nat) : Int), .int .u64 ((0 : Nat) : Int)]), .bool false]) ∧ Below w.heap.size w w' := by
  obtain ⟨n, x, hA⟩ := keyedBar_all v ks a hz ha
  obtain ⟨m, y, hB⟩ := keyedBar_all v ks b hz hb9
  replace hA := Lib.hid hA
  replace hB := Lib.hid hB
  have hcs : askK ks a = false ∨ (askK ks a = true ∧ askK ks b = false) := by
    cases h1 : askK ks a with
    | false => left; rfl
    | true => right; rw [h1, Bool.true_and] at hno; exact ⟨rfl, hno⟩
  rw [← bz0]
  replace hT := Lib.hid hT
  replace h := Lib.hid h
  generalize askK ks a = oa at *
  generalize askK ks b = ob at *
  clear hno hz ha hb9
  obtain ⟨w0, hw0⟩ : ∃ w0, Hid (w0 = (w.alloc (.cells #[.int .i64 0, .bool false, .int .i64 0, .int .u64 0] 58)).alloc (.cells #[.int .i64 0, .bool false, .int .i64 0, .int .u64 0] 58)) := ⟨_, Lib.hid rfl⟩
  have hs0 : Hid (w0.heap.size = w.heap.size + 2) := Lib.hid (by rw [hw0.out]; simp)
  have hb0 := Lib.hid (show Below w.heap.size w w0 by rw [hw0.out]; exact bt1 (ba1 w _) (ba1 _ _))
  have R0 := Lib.hid (show w0.heap[w.heap.size]? = some (.cells #[.int .i64 0, .bool false, .int .i64 0, .int .u64 0] 58) by rw [hw0.out]; exact hb_old _ (hb_new w _))
  have S0 := Lib.hid (show w0.heap[w.heap.size + 1]? = some (.cells #[.int .i64 0, .bool false, .int .i64 0, .int .u64 0] 58) by rw [hw0.out]; exact hb_new' _ _ _ (by simp))
  have hA0 := Lib.hid (hA.out w0 (hT.out.below hb0.out) (h.out.below hb0.out))
  go_enter Tryd.func34, Tryd.ntmps34
  go_wp2_with fail
  rw [← hw0.out]
  refine hA0.out.mono ?_; rintro e w1 ⟨u1, rfl, hb1⟩
  have R1 := Lib.hid (hb_below hb1 (hb_lt R0.out) R0.out)
  have S1 := Lib.hid (hb_below hb1 (hb_lt S0.out) S0.out)
  have hs1 := hb1.size
  replace hb1 := Lib.hid (bt1 hb0.out hb1)
  obtain ⟨w2, hw2⟩ : ∃ w2, Hid (w2 = w1.alloc (.cells #[.int .i64 ((ctz x : Nat) : Int), .bool (onB x), .int .i64 (n : Int), .int .u64 (x : Int)] 58)) := ⟨_, Lib.hid rfl⟩
  have hb2 := Lib.hid (show Below w1.heap.size w1 w2 by rw [hw2.out]; exact ba1 _ _)
  have R2 := Lib.hid (hb_below hb2.out (hb_lt R1.out) R1.out)
  have S2 := Lib.hid (hb_below hb2.out (hb_lt S1.out) S1.out)
  have X2 := Lib.hid (show w2.heap[w1.heap.size]? = some (.cells #[.int .i64 ((ctz x : Nat) : Int), .bool (onB x), .int .i64 (n : Int), .int .u64 (x : Int)] 58) by rw [hw2.out]; exact hb_new _ _)
  have hb02 := Lib.hid (bt1 hb1.out hb2.out)
  have hB2 := Lib.hid (hB.out w2 (hT.out.below hb02.out) (h.out.below hb02.out))
  have hl12 := hb_lt X2.out
  go_wp2_with fail
  rw [← hw2.out]
  refine hB2.out.mono ?_; rintro e w3 ⟨u2, rfl, hb3⟩
  have R3 := Lib.hid (hb_below hb3 (hb_lt R2.out) R2.out)
  have S3 := Lib.hid (hb_below hb3 (hb_lt S2.out) S2.out)
  have X3 := Lib.hid (hb_below hb3 (hb_lt X2.out) X2.out)
  have hl23 := hb3.size
  replace hb3 := Lib.hid (bt1 hb02.out hb3)
  have zr := hb_frozen R3.out
  have zs := hb_frozen S3.out
  have lR := hb_lt R3.out
  have lS := hb_lt S3.out
  have mR : ¬ w.heap.size = w3.heap.size := by omega
  have mS : ¬ w.heap.size + 1 = w3.heap.size := by omega
  have r0 : w3.cell? ⟨w.heap.size, 0, none⟩ = some (.int .i64 0) := hb_cell R3.out 0
  have r1 : w3.cell? ⟨w.heap.size, 1, none⟩ = some (.bool false) := hb_cell R3.out 1
  have r2 : w3.cell? ⟨w.heap.size, 2, none⟩ = some (.int .i64 0) := hb_cell R3.out 2
  have r3 : w3.cell? ⟨w.heap.size, 3, none⟩ = some (.int .u64 0) := hb_cell R3.out 3
  have s0 : w3.cell? ⟨w.heap.size + 1, 0, none⟩ = some (.int .i64 0) := hb_cell S3.out 0
  have s1 : w3.cell? ⟨w.heap.size + 1, 1, none⟩ = some (.bool false) := hb_cell S3.out 1
  have s2 : w3.cell? ⟨w.heap.size + 1, 2, none⟩ = some (.int .i64 0) := hb_cell S3.out 2
  have s3 : w3.cell? ⟨w.heap.size + 1, 3, none⟩ = some (.int .u64 0) := hb_cell S3.out 3
  rcases hcs with rfl | ⟨rfl, rfl⟩
  all_goals
    go_wp2_with fail
    refine bodyPost_ret (v := .tuple #[.slice none 0 0, .agg #[.int .i64 0, .bool false, .int .i64 0, .int .u64 0], .agg #[.int .i64 0, .bool false, .int .i64 0, .int .u64 0], .bool false]) ?_ rfl ⟨rfl, ?_⟩
    · simp [results, Tryd.results34, go_sem, lR, lS, mR, mS, r0, r1, r2, r3, s0, s1, s2, s3]
    · first | exact (((((((((hb3.out.setCell (Nat.le_refl _) _).setCell (Nat.le_refl _) _).setCell (Nat.le_refl _) _).setCell (Nat.le_refl _) _).setCell (Nat.le_succ _) _).setCell (Nat.le_succ _) _).setCell (Nat.le_succ _) _).setCell (Nat.le_succ _) _).alloc (by have := hb3.out.size; simpa using this) _) | exact ((((((((hb3.out.alloc hb3.out.size _).setCell (Nat.le_refl _) _).setCell (Nat.le_refl _) _).setCell (Nat.le_refl _) _).setCell (Nat.le_refl _) _).setCell (Nat.le_succ _) _).setCell (Nat.le_succ _) _).setCell (Nat.le_succ _) _).setCell (Nat.le_succ _) _
end Go.Proofs.YtcfeaaakfjilgabDoor
