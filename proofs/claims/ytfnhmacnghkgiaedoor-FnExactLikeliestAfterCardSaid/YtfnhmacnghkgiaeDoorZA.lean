/- Chapter 7: two states of rings for walks; MeanOnAlong, both ways. -/
import Derived.Test.YtfnhmacnghkgiaeDoorZ2
import Derived.Test.YtfnhmacnghkgiaeDoorZ6
namespace Go.Proofs.YtfnhmacnghkgiaeDoor
open Go Go.RowKit RM
set_option maxHeartbeats 1000000 in
set_option maxRecDepth 100000 in
theorem twb_yes (a b : ByteArray) (n x y : Nat) (w : World) (hT : TabOk w)
    (hA : Hid (∀ w, TabOk w → Calls Tryd.prog 53 #[.string a, .string b] w fun e w' => e = .returned (.tuple #[(.agg #[.int .i64 ((ctz (x) : Nat) : Int), .bool (onB (x)), .int .i64 ((n : Nat) : Int), .int .u64 ((x : Nat) : Int)]), (.agg #[.int .i64 ((ctz (y) : Nat) : Int), .bool (onB (y)), .int .i64 ((n : Nat) : Int), .int .u64 ((y : Nat) : Int)]), .bool true]) ∧ Below w.heap.size w w'))
    (hI : Hid (∀ w, Calls Tryd.prog 51 #[.int .i64 n] w fun e w' => e = .returned (.bool true) ∧ w = w')) :
    Calls Tryd.prog 30 #[.string a, .string b] w fun e w' => e = .returned (.tuple #[(.agg #[.int .i64 ((ctz (x) : Nat) : Int), .bool (onB (x)), .int .i64 ((n : Nat) : Int), .int .u64 ((x : Nat) : Int)]), (.agg #[.int .i64 ((ctz (y) : Nat) : Int), .bool (onB (y)), .int .i64 ((n : Nat) : Int), .int .u64 ((y : Nat) : Int)]), .bool true]) ∧ Below w.heap.size w w' := by
  have hT := Lib.hid hT
  go_enter Tryd.func30, Tryd.ntmps30
  go_wp2_with fail
  refine (hA.out _ ?_).mono ?_
  · repeat (first | exact hT.out | apply TabOk.alloc | apply TabOk.drew | apply TabOk.drewN)
  rintro e w1 ⟨rfl, hb1⟩
  have hs1 := hb1.size
  simp only [World.size_alloc] at hs1
  have f0 : ∀ o, w1.cell? ⟨w.heap.size, o, none⟩ = _ := fun o => hb1.cell (p := ⟨w.heap.size, o, none⟩) (by simp; omega)
  have f1 : ∀ o, w1.cell? ⟨w.heap.size + 1, o, none⟩ = _ := fun o => hb1.cell (p := ⟨w.heap.size + 1, o, none⟩) (by simp)
  have g0 : ∀ o, w1.frozen? ⟨w.heap.size, o, none⟩ = _ := fun o => hb1.frozen (p := ⟨w.heap.size, o, none⟩) (by simp; omega)
  have g1 : ∀ o, w1.frozen? ⟨w.heap.size + 1, o, none⟩ = _ := fun o => hb1.frozen (p := ⟨w.heap.size + 1, o, none⟩) (by simp)
  have hb1 := Lib.hid hb1
  have l0 : w.heap.size < w1.heap.size := by omega
  have l1 : w.heap.size + 1 < w1.heap.size := by omega
  have m0 : ¬ w.heap.size = w1.heap.size := by omega
  have m1 : ¬ w.heap.size + 1 = w1.heap.size := by omega
  have m2 : ¬ w.heap.size = w1.heap.size + 1 := by omega
  have m3 : ¬ w.heap.size + 1 = w1.heap.size + 1 := by omega
  go_wp2_with fail
  refine (hI.out _).mono ?_; rintro e w' ⟨rfl, rfl⟩
  go_wp2_with fail
  go_region
  go_wp2_with fail
  all_goals
    refine bodyPost_ret (v := .tuple #[(.agg #[.int .i64 ((ctz (x) : Nat) : Int), .bool (onB (x)), .int .i64 ((n : Nat) : Int), .int .u64 ((x : Nat) : Int)]), (.agg #[.int .i64 ((ctz (y) : Nat) : Int), .bool (onB (y)), .int .i64 ((n : Nat) : Int), .int .u64 ((y : Nat) : Int)]), .bool true]) ?_ rfl ⟨rfl, ?_⟩
    · simp [results, Tryd.results30, go_sem, f0, f1, l0, l1]
    · have hB := Lib.hid (bt1 (bt1 (ba1 w _) (ba1 _ _)) hb1.out)
      refine Below.drew (Below.alloc (Below.alloc (Below.setCell (Below.setCell (Below.setCell (Below.setCell (Below.setCell (Below.setCell (Below.setCell (Below.setCell hB.out ?_ _) ?_ _) ?_ _) ?_ _) ?_ _) ?_ _) ?_ _) ?_ _) ?_ _) ?_ _)
      all_goals (simp <;> omega)
set_option maxHeartbeats 1000000 in
set_option maxRecDepth 100000 in
theorem twb_no (a b : ByteArray) (n x y : Nat) (ok : Bool) (w : World) (hT : TabOk w)
    (hA : Hid (∀ w, TabOk w → Calls Tryd.prog 53 #[.string a, .string b] w fun e w' => e = .returned (.tuple #[(.agg #[.int .i64 ((ctz (x) : Nat) : Int), .bool (onB (x)), .int .i64 ((n : Nat) : Int), .int .u64 ((x : Nat) : Int)]), (.agg #[.int .i64 ((ctz (y) : Nat) : Int), .bool (onB (y)), .int .i64 ((n : Nat) : Int), .int .u64 ((y : Nat) : Int)]), .bool ok]) ∧ Below w.heap.size w w'))
    (hI : Hid (ok = true → ∀ w, Calls Tryd.prog 51 #[.int .i64 n] w fun e w' => e = .returned (.bool false) ∧ w = w')) :
    Calls Tryd.prog 30 #[.string a, .string b] w fun e w' => e = .returned (.tuple #[(.agg #[.int .i64 ((ctz (0) : Nat) : Int), .bool (onB (0)), .int .i64 ((0 : Nat) : Int), .int .u64 ((0 : Nat) : Int)]), (.agg #[.int .i64 ((ctz (0) : Nat) : Int), .bool (onB (0)), .int .i64 ((0 : Nat) : Int), .int .u64 ((0 : Nat) : Int)]), .bool false]) ∧ Below w.heap.size w w' := by
  rw [← bz]
  have hT := Lib.hid hT
  cases ok
  case false =>
    go_enter Tryd.func30, Tryd.ntmps30
    go_wp2_with fail
    refine (hA.out _ ?_).mono ?_
    · repeat (first | exact hT.out | apply TabOk.alloc | apply TabOk.drew | apply TabOk.drewN)
    rintro e w1 ⟨rfl, hb1⟩
    have hs1 := hb1.size
    simp only [World.size_alloc] at hs1
    have f0 : ∀ o, w1.cell? ⟨w.heap.size, o, none⟩ = _ := fun o => hb1.cell (p := ⟨w.heap.size, o, none⟩) (by simp; omega)
    have f1 : ∀ o, w1.cell? ⟨w.heap.size + 1, o, none⟩ = _ := fun o => hb1.cell (p := ⟨w.heap.size + 1, o, none⟩) (by simp)
    have g0 : ∀ o, w1.frozen? ⟨w.heap.size, o, none⟩ = _ := fun o => hb1.frozen (p := ⟨w.heap.size, o, none⟩) (by simp; omega)
    have g1 : ∀ o, w1.frozen? ⟨w.heap.size + 1, o, none⟩ = _ := fun o => hb1.frozen (p := ⟨w.heap.size + 1, o, none⟩) (by simp)
    have hb1 := Lib.hid hb1
    have l0 : w.heap.size < w1.heap.size := by omega
    have l1 : w.heap.size + 1 < w1.heap.size := by omega
    have m0 : ¬ w.heap.size = w1.heap.size := by omega
    have m1 : ¬ w.heap.size + 1 = w1.heap.size := by omega
    have m2 : ¬ w.heap.size = w1.heap.size + 1 := by omega
    have m3 : ¬ w.heap.size + 1 = w1.heap.size + 1 := by omega
    go_wp2_with fail
    refine bodyPost_ret (v := .tuple #[.agg #[.int .i64 0, .bool false, .int .i64 0, .int .u64 0], .agg #[.int .i64 0, .bool false, .int .i64 0, .int .u64 0], .bool false]) ?_ rfl ⟨rfl, ?_⟩
    · simp [results, Tryd.results30, go_sem, f0, f1, l0, l1]
    · have hB := Lib.hid (bt1 (bt1 (ba1 w _) (ba1 _ _)) hb1.out)
      refine Below.alloc (Below.alloc (Below.setCell (Below.setCell (Below.setCell (Below.setCell (Below.setCell (Below.setCell (Below.setCell (Below.setCell hB.out ?_ _) ?_ _) ?_ _) ?_ _) ?_ _) ?_ _) ?_ _) ?_ _) ?_ _) ?_ _
      all_goals (simp <;> omega)
  case true =>
    go_enter Tryd.func30, Tryd.ntmps30
    go_wp2_with fail
    refine (hA.out _ ?_).mono ?_
    · repeat (first | exact hT.out | apply TabOk.alloc | apply TabOk.drew | apply TabOk.drewN)
    rintro e w1 ⟨rfl, hb1⟩
    have hs1 := hb1.size
    simp only [World.size_alloc] at hs1
    have f0 : ∀ o, w1.cell? ⟨w.heap.size, o, none⟩ = _ := fun o => hb1.cell (p := ⟨w.heap.size, o, none⟩) (by simp; omega)
    have f1 : ∀ o, w1.cell? ⟨w.heap.size + 1, o, none⟩ = _ := fun o => hb1.cell (p := ⟨w.heap.size + 1, o, none⟩) (by simp)
    have g0 : ∀ o, w1.frozen? ⟨w.heap.size, o, none⟩ = _ := fun o => hb1.frozen (p := ⟨w.heap.size, o, none⟩) (by simp; omega)
    have g1 : ∀ o, w1.frozen? ⟨w.heap.size + 1, o, none⟩ = _ := fun o => hb1.frozen (p := ⟨w.heap.size + 1, o, none⟩) (by simp)
    have hb1 := Lib.hid hb1
    have l0 : w.heap.size < w1.heap.size := by omega
    have l1 : w.heap.size + 1 < w1.heap.size := by omega
    have m0 : ¬ w.heap.size = w1.heap.size := by omega
    have m1 : ¬ w.heap.size + 1 = w1.heap.size := by omega
    have m2 : ¬ w.heap.size = w1.heap.size + 1 := by omega
    have m3 : ¬ w.heap.size + 1 = w1.heap.size + 1 := by omega
    go_wp2_with fail
    refine (hI.out (by first | rfl | trivial) _).mono ?_; rintro e w' ⟨rfl, rfl⟩
    go_wp2_with fail
    refine bodyPost_ret (v := .tuple #[.agg #[.int .i64 0, .bool false, .int .i64 0, .int .u64 0], .agg #[.int .i64 0, .bool false, .int .i64 0, .int .u64 0], .bool false]) ?_ rfl ⟨rfl, ?_⟩
    · simp [results, Tryd.results30, go_sem, f0, f1, l0, l1]
    · have hB := Lib.hid (bt1 (bt1 (ba1 w _) (ba1 _ _)) hb1.out)
      refine Below.alloc (Below.alloc (Below.setCell (Below.setCell (Below.setCell (Below.setCell (Below.setCell (Below.setCell (Below.setCell (Below.setCell hB.out ?_ _) ?_ _) ?_ _) ?_ _) ?_ _) ?_ _) ?_ _) ?_ _) ?_ _) ?_ _
      all_goals (simp <;> omega)
/-- two states of so few rings -/
def walkB (a b : ByteArray) : Bool := twoB a b && decide (a.size ≤ 12)
theorem walk_of (a b : ByteArray) (h : walkB a b = true) : ∃ n x y, 1 ≤ n ∧ n ≤ 12 ∧ x < 2 ^ n ∧ y < 2 ^ n ∧ a = ST n x ∧ b = ST n y := by
  unfold walkB at h
  simp at h
  obtain ⟨n, x, y, h1, h2, h3, h4, rfl, rfl⟩ := of_two a b h.1
  rw [ST_size] at h
  exact ⟨n, x, y, h1, h.2, h3, h4, rfl, rfl⟩
theorem twb_any (a b : ByteArray) (w : World) (ha : a.size ≤ maxLen) (hb : b.size ≤ maxLen) (h : walkB a b = false) (hT : TabOk w) :
    Calls Tryd.prog 30 #[.string a, .string b] w fun e w' => e = .returned (.tuple #[(.agg #[.int .i64 ((ctz (0) : Nat) : Int), .bool (onB (0)), .int .i64 ((0 : Nat) : Int), .int .u64 ((0 : Nat) : Int)]), (.agg #[.int .i64 ((ctz (0) : Nat) : Int), .bool (onB (0)), .int .i64 ((0 : Nat) : Int), .int .u64 ((0 : Nat) : Int)]), .bool false]) ∧ Below w.heap.size w w' := by
  cases h2 : twoB a b
  · exact twb_no a b 0 0 0 false w hT (Lib.hid fun w hw => two_no a b w ha hb h2 hw) (Lib.hid fun e => by cases e)
  · obtain ⟨n, x, y, k1, k2, k3, k4, rfl, rfl⟩ := of_two a b h2
    unfold walkB at h
    rw [h2, ST_size] at h
    simp at h
    exact twb_no _ _ n x y true w hT (Lib.hid fun w hw => two_yes n x y w k1 k2 k3 k4 hw) (Lib.hid fun _ w => isWalk_any n w false (by simp; omega))
theorem twb_ST (n x y : Nat) (w : World) (h1 : 1 ≤ n) (hn : n ≤ 12) (hx : x < 2 ^ n) (hy : y < 2 ^ n) (hT : TabOk w) :
    Calls Tryd.prog 30 #[.string (ST n x), .string (ST n y)] w fun e w' => e = .returned (.tuple #[(.agg #[.int .i64 ((ctz (x) : Nat) : Int), .bool (onB (x)), .int .i64 ((n : Nat) : Int), .int .u64 ((x : Nat) : Int)]), (.agg #[.int .i64 ((ctz (y) : Nat) : Int), .bool (onB (y)), .int .i64 ((n : Nat) : Int), .int .u64 ((y : Nat) : Int)]), .bool true]) ∧ Below w.heap.size w w' :=
  twb_yes _ _ n x y w hT (Lib.hid fun w hw => two_yes n x y w h1 (by omega) hx hy hw) (Lib.hid fun w => isWalk_any n w true (by simp; omega))
theorem iMA_no (a b : ByteArray) (w : World) (hT : TabOk w)
    (hA : Hid (∀ w, TabOk w → Calls Tryd.prog 30 #[.string a, .string b] w fun e w' => e = .returned (.tuple #[(.agg #[.int .i64 ((ctz (0) : Nat) : Int), .bool (onB (0)), .int .i64 ((0 : Nat) : Int), .int .u64 ((0 : Nat) : Int)]), (.agg #[.int .i64 ((ctz (0) : Nat) : Int), .bool (onB (0)), .int .i64 ((0 : Nat) : Int), .int .u64 ((0 : Nat) : Int)]), .bool false]) ∧ Below w.heap.size w w')) :
    Calls Tryd.prog 20 #[.string a, .string b] w fun e w' => AnsI2 w 0 0 false e w' := by
  have hT := Lib.hid hT
  go_enter Tryd.func20, Tryd.ntmps20
  go_wp2_with fail
  refine (hA.out _ hT.out).mono ?_; rintro e w1 ⟨rfl, hb⟩
  have hb := Lib.hid hb
  go_wp2_with fail
  refine bodyPost_ret (v := .tuple #[.int .i64 0, .int .i64 0, .bool false]) ?_ rfl ⟨rfl, bt (bt hb.out (ba _ _)) (ba _ _)⟩
  simp [results, Tryd.results20, go_sem]
set_option maxRecDepth 100000 in
set_option maxHeartbeats 4000000 in
theorem iMA_yes (a b : ByteArray) (n x y M lo hi K P Q : Nat) (num : Nat → Nat) (S : Nat → Nat) (w : World) (hT : TabOk w) (hx : x < M) (hy : y < M) (hM : M ≤ 4096) (hn : n ≤ 12)
    (hlo : min (num x : Int) (num y) = (lo : Int)) (hhi : max (num x : Int) (num y) = (hi : Int)) (hK : hi + 1 = lo + K) (hhM : hi < M) (h0 : Hid (S 0 = 0)) (hS : Hid (∀ k, k < K → S (k + 1) = S k + pop (gray (lo + k)))) (hSb : Hid (∀ k, k ≤ K → S k ≤ 100000))
    (hA : Hid (∀ w, TabOk w → Calls Tryd.prog 30 #[.string a, .string b] w fun e w' => e = .returned (.tuple #[(.agg #[.int .i64 ((ctz (x) : Nat) : Int), .bool (onB (x)), .int .i64 ((n : Nat) : Int), .int .u64 ((x : Nat) : Int)]), (.agg #[.int .i64 ((ctz (y) : Nat) : Int), .bool (onB (y)), .int .i64 ((n : Nat) : Int), .int .u64 ((y : Nat) : Int)]), .bool true]) ∧ Below w.heap.size w w'))
    (hN : Hid (∀ w x, x < M → Calls Tryd.prog 46 #[(.agg #[.int .i64 ((ctz (x) : Nat) : Int), .bool (onB (x)), .int .i64 ((n : Nat) : Int), .int .u64 ((x : Nat) : Int)])] w fun e w' => e = .returned (.int .i64 (num x : Nat)) ∧ Below w.heap.size w w'))
    (hB : Hid (∀ w m, m < M → TabOk w → Calls Tryd.prog 41 #[.int .i64 n, .int .i64 m] w fun e w' => e = .returned (.agg #[.int .i64 ((ctz (gray m) : Nat) : Int), .bool (onB (gray m)), .int .i64 ((n : Nat) : Int), .int .u64 ((gray m : Nat) : Int)]) ∧ Below w.heap.size w w'))
    (hC : Hid (∀ w m, m < M → Calls Tryd.prog 47 #[(.agg #[.int .i64 ((ctz (gray m) : Nat) : Int), .bool (onB (gray m)), .int .i64 ((n : Nat) : Int), .int .u64 ((gray m : Nat) : Int)])] w fun e w' => e = .returned (.int .i64 (pop (gray m) : Nat)) ∧ Below w.heap.size w w'))
    (hR : Hid (∀ w, Calls Tryd.prog 48 #[.int .i64 (S K : Nat), .int .i64 K] w fun e w' => e = .returned (RA P Q) ∧ Below w.heap.size w w')) :
    Calls Tryd.prog 20 #[.string a, .string b] w fun e w' => AnsI2 w P Q true e w' := by
  have hX := Lib.hid fun w => told_any P Q w
  have hT := Lib.hid hT
  go_enter Tryd.func20, Tryd.ntmps20
  go_wp2_with fail
  refine (hA.out _ hT.out).mono ?_; rintro e w1 ⟨rfl, hb⟩
  have hT1 := Lib.hid (hT.out.below hb)
  have hb := Lib.hid hb
  go_upto_region 4 with fail
  obtain ⟨W, hW⟩ : ∃ W, W = (w1.alloc (.cells #[.int .i64 (ctz x), .bool (onB x), .int .i64 n, .int .u64 x] 47)).alloc (.cells #[.int .i64 (ctz y), .bool (onB y), .int .i64 n, .int .u64 y] 47) := ⟨_, rfl⟩
  rw [← hW]
  have hWz : W.heap.size = w1.heap.size + 2 := by rw [hW]; simp
  have hWT := Lib.hid (show TabOk W by rw [hW]; repeat (first | exact hT1.out | apply TabOk.alloc))
  have hWb := Lib.hid (show Below w.heap.size w W by rw [hW]; exact bt1 (bt1 hb.out (ba1 _ _)) (ba1 _ _))
  have k0 := (show W.heap[w1.heap.size]? = some (barO n x) by rw [hW]; exact hb_old _ (hb_new _ _))
  have k1 := (show W.heap[w1.heap.size + 1]? = some (barO n y) by rw [hW]; exact hb_new' _ _ _ (by simp))
  clear hW
  obtain ⟨⟨p0, p1, p2, p3⟩, _⟩ := bar_cells k0
  obtain ⟨⟨q0, q1, q2, q3⟩, _⟩ := bar_cells k1
  have k0 := Lib.hid k0
  have l0 : w1.heap.size < W.heap.size := by omega
  have l1 : w1.heap.size + 1 < W.heap.size := by omega
  have hrf : Below W.heap.size W W := Below.refl _ _
  go_cut [10, 11] (fun t10 t11 wx => t10 = .int .i64 lo ∧ t11 = .int .i64 hi ∧ Below W.heap.size W wx)
  case first =>
    go_region_held3 (fun v => B3 n x y y w1.heap.size (w1.heap.size + 1) (w1.heap.size + 1) W.heap.size W.heap.size W v) (first | assumption | (refine ⟨⟨?_, ?_, ?_, ?_⟩, ⟨?_, ?_, ?_, ?_⟩, ⟨?_, ?_, ?_, ?_⟩, ?_, ?_⟩ <;> first | assumption | (refine Below.drew ?_; assumption) | go_keep | omega))
      (first | (go_at_call 46; refine (hN.out _ _ ?_).mono ?_; (with_reducible assumption); rintro e w' ⟨rfl, hb2⟩; have hbn := kp12 l0 l1 l1 (Nat.le_refl _) hb2 (by assumption)))
    all_goals
      go_wp2_with fail
      go_meet
      rename_i hBf
      exact ⟨by first | rfl | rw [hlo], by first | rfl | rw [hhi], kpE hBf⟩
  case rest =>
    obtain ⟨rfl, rfl, hbx⟩ := hcut
    clear p0 p1 p2 p3 q0 q1 q2 q3 hlo hhi hrf
    have hcW := Lib.hid (bt1 hWb.out hbx)
    have hcT := Lib.hid (hWT.out.below hbx)
    have kc := Lib.hid ((hbx.block _ l0).trans k0.out)
    have lc : w1.heap.size < wc.heap.size := Nat.lt_of_lt_of_le l0 hbx.size
    clear hbx
    go_wp2_with fail
    go_loopw [12, 13] (fun s m wr => ∃ k : Nat, k ≤ K ∧ s = .int .i64 (S k : Nat) ∧ m = .int .i64 ((lo : Int) + k) ∧ Hid (Below wc.heap.size wc wr)) (fun _ m _ => hi + 1 - (intOf m).toNat)
    case atStart => exact ⟨0, Nat.zero_le _, by rw [h0.out]; rfl, by first | rfl | (exact vi (by omega)), Lib.hid (Below.refl _ _)⟩
    case round =>
      obtain ⟨k, hk, rfl, rfl, hbr⟩ := hrel
      obtain ⟨⟨c0, c1, c2, c3⟩, _⟩ := bar_cells ((hbr.out.block _ lc).trans kc.out)
      by_cases hlt : k < K
      · have hs := hS.out k hlt
        have b1 := hSb.out k hk
        have b2 := hSb.out (k + 1) hlt
        have hBk := Lib.hid fun w hw => hB.out w (lo + k) (by omega) hw
        have hCk := Lib.hid fun w => hC.out w (lo + k) (by omega)
        rw [show ((lo + k : Nat) : Int) = (lo : Int) + k from by omega] at hBk
        generalize pop (gray (lo + k)) = z at *
        generalize gray (lo + k) = g at *
        generalize hT2 : S (k + 1) = t2 at *
        generalize S k = t1 at *
        replace hT2 := Lib.hid hT2
        have hs' : (t1 : Int) + (z : Int) = (t2 : Int) := by omega
        clear hs
        have hle : decide ((lo : Int) + (k : Int) ≤ (hi : Int)) = true := by simp; omega
        go_wp2_with fail
        refine (hBk.out _ (hcT.out.below hbr.out)).mono ?_; rintro e w2 ⟨rfl, hb2⟩
        replace hb2 := Lib.hid (bt1 hbr.out hb2)
        go_wp2_with fail
        refine (hCk.out _).mono ?_; rintro e w3 ⟨rfl, hb3⟩
        replace hb3 := Lib.hid (bt1 hb2.out hb3)
        go_wp2_with fail
        go_roundw
        case rel => exact ⟨k + 1, by omega, vi (by rw [hT2.out]), vi (by go_num), hb3⟩
        all_goals (simp [intOf] <;> omega)
      · obtain rfl : k = K := by omega
        have hle : decide ((lo : Int) + (k : Int) ≤ (hi : Int)) = false := by simp; omega
        have hKi : (hi : Int) - (lo : Int) + 1 = (k : Int) := by omega
        go_wp2_with fail
        refine (hR.out _).mono ?_; rintro e w2 ⟨rfl, hb2⟩
        have hb2 := Lib.hid hb2
        go_wp2_with fail
        refine (hX.out _).mono ?_; rintro e w3 ⟨rfl, hb3⟩
        have hb3 := Lib.hid hb3
        go_wp2_with fail
        refine bodyPost_ret (v := .tuple #[.int .i64 P, .int .i64 Q, .bool true]) ?_ rfl ⟨rfl, bt1 (bt1 (bt1 hcW.out hbr.out) hb2.out) hb3.out⟩
        simp [results, Tryd.results20, go_sem]
end Go.Proofs.YtfnhmacnghkgiaeDoor
