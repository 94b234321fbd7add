/- Chapter 7: ChanceAfter, both ways. -/
import Derived.Test.YtfnhmacnghkgiaeDoorZH
namespace Go.Proofs.YtfnhmacnghkgiaeDoor
open Go Go.RowKit RM
/-- what 'walks' lies as -/
abbrev wkO (n N lo m c g : Nat) : Obj := .cells #[.int .i64 n, .int .i64 N, .int .i64 lo, .slice (some ⟨g, 0, none⟩) m c] 57
theorem wk_cells {w : World} {b n N lo m c g : Nat} (h : w.heap[b]? = some (wkO n N lo m c g)) : w.cell? ⟨b, 0, none⟩ = some (.int .i64 n) ∧ w.cell? ⟨b, 1, none⟩ = some (.int .i64 N) ∧ w.cell? ⟨b, 2, none⟩ = some (.int .i64 lo) ∧ w.cell? ⟨b, 3, none⟩ = some (.slice (some ⟨g, 0, none⟩) m c) := by
  refine ⟨?_, ?_, ?_, ?_⟩ <;> simp [World.cell?, h]
theorem iCA_no (a b : ByteArray) (k : Int) (n x y : Nat) (ok : Bool) (w : World) (hT : TabOk w)
    (hA : Hid (∀ w, TabOk w → Calls Tryd.prog 30 #[.string a, .string b] w fun e w' => e = .returned (.tuple #[(.agg #[.int .i64 ((ctz (x) : Nat) : Int), .bool (onB (x)), .int .i64 ((n : Nat) : Int), .int .u64 ((x : Nat) : Int)]), (.agg #[.int .i64 ((ctz (y) : Nat) : Int), .bool (onB (y)), .int .i64 ((n : Nat) : Int), .int .u64 ((y : Nat) : Int)]), .bool ok]) ∧ Below w.heap.size w w'))
    (hL : Hid (ok = true → ∀ w, Calls Tryd.prog 31 #[.int .i64 k] w fun e w' => e = .returned (.bool false) ∧ w = w')) :
    Calls Tryd.prog 16 #[.string a, .string b, .int .i64 k] w fun e w' => AnsI2 w 0 0 false e w' := by
  have hT := Lib.hid hT
  cases ok
  · go_enter Tryd.func16, Tryd.ntmps16
    go_wp2_with fail
    refine (hA.out _ hT.out).mono ?_; rintro e w1 ⟨rfl, hb⟩
    have hb := Lib.hid hb
    go_wp2_with fail
    refine bodyPost_ret (v := .tuple #[.int .i64 0, .int .i64 0, .bool false]) ?_ rfl ⟨rfl, bt (bt hb.out (ba _ _)) (ba _ _)⟩
    simp [results, Tryd.results16, go_sem]
  · have hL2 := Lib.hid (hL.out rfl)
    go_enter Tryd.func16, Tryd.ntmps16
    go_wp2_with fail
    refine (hA.out _ hT.out).mono ?_; rintro e w1 ⟨rfl, hb⟩
    have hb := Lib.hid hb
    go_wp2_with fail
    refine (hL2.out _).mono ?_; rintro e w' ⟨rfl, rfl⟩
    go_wp2_with fail
    refine bodyPost_ret (v := .tuple #[.int .i64 0, .int .i64 0, .bool false]) ?_ rfl ⟨rfl, bt (bt hb.out (ba _ _)) (ba _ _)⟩
    simp [results, Tryd.results16, go_sem]
set_option maxRecDepth 100000 in
set_option maxHeartbeats 4000000 in
theorem iCA_yes (a b : ByteArray) (n x y N lo m R P Q : Nat) (f : Nat → Nat) (w : World) (hT : TabOk w) (hm0 : 0 < m) (hm : m ≤ 4096)
    (hA : Hid (∀ w, TabOk w → Calls Tryd.prog 30 #[.string a, .string b] w fun e w' => e = .returned (.tuple #[(.agg #[.int .i64 ((ctz (x) : Nat) : Int), .bool (onB (x)), .int .i64 ((n : Nat) : Int), .int .u64 ((x : Nat) : Int)]), (.agg #[.int .i64 ((ctz (y) : Nat) : Int), .bool (onB (y)), .int .i64 ((n : Nat) : Int), .int .u64 ((y : Nat) : Int)]), .bool true]) ∧ Below w.heap.size w w'))
    (hL : Hid (∀ w, Calls Tryd.prog 31 #[.int .i64 N] w fun e w' => e = .returned (.bool true) ∧ w = w'))
    (hF : Hid (∀ w, Calls Tryd.prog 32 #[(.agg #[.int .i64 ((ctz (x) : Nat) : Int), .bool (onB (x)), .int .i64 ((n : Nat) : Int), .int .u64 ((x : Nat) : Int)]), .int .i64 N, .int .i64 2] w fun e w' => ∃ v, e = .returned (WK n N lo v) ∧ OwnI w' w.heap.size v (fnR m f) ∧ Below w.heap.size w w'))
    (hC : Hid (∀ w B g c, OwnI w B (.slice (some ⟨g, 0, none⟩) m c) (fnR m f) → Calls Tryd.prog 33 #[WK n N lo (.slice (some ⟨g, 0, none⟩) m c), (.agg #[.int .i64 ((ctz (y) : Nat) : Int), .bool (onB (y)), .int .i64 ((n : Nat) : Int), .int .u64 ((y : Nat) : Int)])] w fun e w' => e = .returned (.int .i64 (R : Int)) ∧ Below w.heap.size w w'))
    (hH : Hid (∀ w g c, Calls Tryd.prog 36 #[WK n N lo (.slice (some ⟨g, 0, none⟩) m c), .int .i64 R] w fun e w' => e = .returned (RA P Q) ∧ Below w.heap.size w w')) :
    Calls Tryd.prog 16 #[.string a, .string b, .int .i64 N] w fun e w' => AnsI2 w P Q true e w' := by
  have hX := Lib.hid fun w => told_any P Q w
  have hT := Lib.hid hT
  go_enter Tryd.func16, Tryd.ntmps16
  go_wp2_with fail
  refine (hA.out _ hT.out).mono ?_; rintro e w1 ⟨rfl, hb⟩
  have hb := Lib.hid hb
  go_wp2_with fail
  refine (hL.out _).mono ?_; rintro e w' ⟨rfl, rfl⟩
  go_wp2_with fail
  refine (hF.out _).mono ?_; rintro e w2 ⟨v, rfl, ho, hb2⟩
  obtain ⟨g, c, rfl, _, _⟩ := own_some ho m (fnR_len m f) hm0
  have hz2 := hb2.size
  simp only [World.size_alloc] at hz2
  have k1 : w2.heap[w1.heap.size + 1]? = some (barO n y) := (hb2.block _ (by simp)).trans (hb_new' _ _ _ (by simp))
  have hbw := Lib.hid (show Below w.heap.size w w2 from bt1 (bt1 (bt1 hb.out (ba1 _ _)) (ba1 _ _)) hb2)
  clear hb2
  unfold WK
  go_upto_region 5 with fail
  obtain ⟨W, hW⟩ : ∃ W, W = w2.alloc (wkO n N lo m c g) := ⟨_, rfl⟩
  rw [← hW]
  have hWz : W.heap.size = w2.heap.size + 1 := by rw [hW]; simp
  have hWb := Lib.hid (show Below w.heap.size w W by rw [hW]; exact bt1 hbw.out (ba1 _ _))
  obtain ⟨⟨p0, p1, p2, p3⟩, _⟩ := bar_cells (show W.heap[w1.heap.size + 1]? = some (barO n y) by rw [hW]; exact hb_old _ k1)
  obtain ⟨q0, q1, q2, q3⟩ := wk_cells (show W.heap[w2.heap.size]? = some (wkO n N lo m c g) by rw [hW]; exact hb_new _ _)
  have hoW := Lib.hid (show OwnI W _ _ _ by rw [hW]; exact ho.below (ba1 _ _))
  clear hW ho k1
  have l0 : w1.heap.size + 1 < W.heap.size := by omega
  have l1 : w2.heap.size < W.heap.size := by omega
  have hrf : Below W.heap.size W W := Below.refl _ _
  unfold RA at *
  go_region_held3 (fun v => (v.cell? ⟨w1.heap.size + 1, 0, none⟩ = some (.int .i64 (ctz y)) ∧ v.cell? ⟨w1.heap.size + 1, 1, none⟩ = some (.bool (onB y)) ∧ v.cell? ⟨w1.heap.size + 1, 2, none⟩ = some (.int .i64 n) ∧ v.cell? ⟨w1.heap.size + 1, 3, none⟩ = some (.int .u64 y)) ∧ (v.cell? ⟨w2.heap.size, 0, none⟩ = some (.int .i64 n) ∧ v.cell? ⟨w2.heap.size, 1, none⟩ = some (.int .i64 N) ∧ v.cell? ⟨w2.heap.size, 2, none⟩ = some (.int .i64 lo) ∧ v.cell? ⟨w2.heap.size, 3, none⟩ = some (.slice (some ⟨g, 0, none⟩) m c)) ∧ (v.cell? ⟨w2.heap.size, 0, none⟩ = some (.int .i64 n) ∧ v.cell? ⟨w2.heap.size, 1, none⟩ = some (.int .i64 N) ∧ v.cell? ⟨w2.heap.size, 2, none⟩ = some (.int .i64 lo) ∧ v.cell? ⟨w2.heap.size, 3, none⟩ = some (.slice (some ⟨g, 0, none⟩) m c)) ∧ W.heap.size ≤ v.heap.size ∧ Below W.heap.size W v) (first | assumption | (refine ⟨⟨?_, ?_, ?_, ?_⟩, ⟨?_, ?_, ?_, ?_⟩, ⟨?_, ?_, ?_, ?_⟩, ?_, ?_⟩ <;> first | assumption | (refine Below.drew ?_; assumption) | go_keep | omega))
    (first
      | (go_at_call 33; refine (hC.out _ _ _ _ (hoW.out.below (kpE (by assumption)))).mono ?_; rintro e w' ⟨rfl, hb2⟩; have hbn := kp12 l0 l1 l1 (Nat.le_refl _) hb2 (by assumption))
      | (go_at_call 36; refine (hH.out _ _ _).mono ?_; rintro e w' ⟨rfl, hb2⟩; have hbn := kp12 l0 l1 l1 (Nat.le_refl _) hb2 (by assumption))
      | (go_at_call 37; refine (hX.out _).mono ?_; rintro e w' ⟨rfl, hb2⟩; have hbn := kp12 l0 l1 l1 (Nat.le_refl _) hb2 (by assumption)))
  all_goals
    go_wp2_with fail
    rename_i hBf
    refine bodyPost_ret (v := .tuple #[.int .i64 P, .int .i64 Q, .bool true]) ?_ rfl ⟨rfl, bt1 hWb.out (kpE hBf)⟩
    simp [results, Tryd.results16, go_sem]
theorem sCA_no (a b : ByteArray) (k : Int) (w : World) (hG : Hid (∀ w, Calls Tryd.prog 27 #[.string a, .string b, .int .i64 k] w fun e w' => e = .returned (.bool false) ∧ w = w')) :
    Calls Tryd.prog 15 #[.string a, .string b, .int .i64 k] w fun e w' => AnsI2 w 0 0 false e w' := by
  go_enter Tryd.func15, Tryd.ntmps15
  go_wp2_with fail
  refine (hG.out _).mono ?_; rintro e w' ⟨rfl, rfl⟩
  go_wp2_with fail
  refine bodyPost_ret (v := .tuple #[.int .i64 0, .int .i64 0, .bool false]) ?_ rfl ⟨rfl, Below.refl _ _⟩
  simp [results, Tryd.results15, go_sem]
set_option maxHeartbeats 2000000 in
theorem sCA_yes (a b : ByteArray) (N X Y L M P Q Z : Nat) (f : Nat → Nat) (w : World) (hY : Y < M) (hM : M ≤ 4096) (hN40 : N ≤ 40) (hZ : (2 : Int) ^ N = (Z : Int)) (hZ2 : Z ≤ 1099511627776) (hG : Hid (∀ w, Calls Tryd.prog 27 #[.string a, .string b, .int .i64 N] w fun e w' => e = .returned (.bool true) ∧ w = w'))
    (hN : Hid (∀ w, Calls Tryd.prog 28 #[.string a, .string b] w fun e w' => e = .returned (.tuple #[.int .i64 X, .int .i64 Y, .int .i64 L]) ∧ Below w.heap.size w w'))
    (hW : Hid (∀ w, Calls Tryd.prog 35 #[.int .i64 X, .int .i64 L, .int .i64 N] w fun e w' => ∃ v, e = .returned v ∧ OwnI w' w.heap.size v (fnR M f) ∧ Below w.heap.size w w'))
    (hL : Hid (∀ w, Calls Tryd.prog 34 #[.int .i64 (f Y : Nat), .int .i64 Z] w fun e w' => e = .returned (.tuple #[.int .i64 P, .int .i64 Q]) ∧ Below w.heap.size w w')) :
    Calls Tryd.prog 15 #[.string a, .string b, .int .i64 N] w fun e w' => AnsI2 w P Q true e w' := by
  have hfl := Lib.hid (fnR_len M)
  have hfg := Lib.hid (fnR_get M)
  have d1 : decide ((Y : Int) < (M : Int)) = true := by simp; omega
  have hwz : IntKind.i64.wrap (Z : Int) = (Z : Int) := wrap_sm _ (by omega) (by omega)
  go_enter Tryd.func15, Tryd.ntmps15
  go_wp2_with fail
  refine (hG.out _).mono ?_; rintro e w' ⟨rfl, rfl⟩
  go_wp2_with fail
  refine (hN.out _).mono ?_; rintro e w1 ⟨rfl, hb1⟩
  replace hb1 := Lib.hid hb1
  go_upto_region 4 with fail
  go_region_with (first
    | (go_at_call 35; refine (hW.out _).mono ?_; rintro e w2 ⟨v, rfl, ho, hb2⟩; obtain ⟨g, c, rfl, _, _⟩ := own_some ho M (hfl.out _) (by omega); obtain ⟨z0, _⟩ := ho.cell (hfl.out _) Y (by rw [hfl.out]; exact hY); rw [hfg.out] at z0; replace hb2 := Lib.hid hb2; clear ho)
    | (go_at_call 34; refine (hL.out _).mono ?_; rintro e w3 ⟨rfl, hb3⟩; replace hb3 := Lib.hid hb3))
  all_goals
    go_wp2_with fail
    refine bodyPost_ret (v := .tuple #[.int .i64 P, .int .i64 Q, .bool true]) ?_ rfl ⟨rfl, bt1 (bt1 hb1.out (bt1 (Below.drew (Below.refl _ _)) hb2.out)) hb3.out⟩
    simp [results, Tryd.results15, go_sem]
theorem pow40 (N : Nat) (h : N ≤ 40) : 1 ≤ 2 ^ N ∧ 2 ^ N ≤ 1099511627776 := ⟨Nat.two_pow_pos N, Nat.pow_le_pow_right (n := 2) (by omega) h⟩
theorem ChanceAfter_both (a b : ByteArray) (k : Int) (ha : a.size ≤ maxLen) (hb : b.size ≤ maxLen) (_ : (Lit.int .i64 k).wf = true) : ∃ (r s : Int) (ok : Bool),
    (∀ w, Calls Tryd.prog 15 #[.string a, .string b, .int .i64 k] w fun e w' => e = .returned (.tuple #[.int .i64 r, .int .i64 s, .bool ok]) ∧ Below w.heap.size w w') ∧
    (∀ w, TabOk w → Calls Tryd.prog 16 #[.string a, .string b, .int .i64 k] w fun e w' => e = .returned (.tuple #[.int .i64 r, .int .i64 s, .bool ok]) ∧ Below w.heap.size w w') := by
  have hsm := fun w => waSmall_any a b k w ha hb
  cases h : smB a b k
  · rw [h] at hsm
    refine ⟨0, 0, false, fun w => sCA_no a b k w (Lib.hid hsm), fun w hT => ?_⟩
    cases h2 : walkB a b
    · exact iCA_no a b k 0 0 0 false w hT (Lib.hid fun w hw => twb_any a b w ha hb h2 hw) (Lib.hid fun e => by cases e)
    · obtain ⟨n, x, y, h1, h2', h3, h4, rfl, rfl⟩ := walk_of a b h2
      unfold smB at h
      rw [h2, Bool.true_and] at h
      exact iCA_no _ _ k n x y true w hT (Lib.hid fun w hw => twb_ST n x y w h1 h2' h3 h4 hw) (Lib.hid fun _ w => isLen_any k w _ h)
  · rw [h] at hsm
    obtain ⟨n, x, y, N, h1, h2, h3, h4, h5, rfl, rfl, rfl⟩ := sm_cases a b k h
    have hp := Nat.pow_le_pow_right (n := 2) (by omega) h2
    have hp2 := Nat.pow_le_pow_right (n := 2) (by omega) h1
    have hX := num_lt n x h3
    have hY := num_lt n y h4
    have hwn := fun w => waNumbers_ST n x y w (by omega) h3 h4
    have hww := fun w => waChances_any (num x) (2 ^ n - 1) N w (by omega) (by omega) (by omega) h5
    have hwf := fun w => walksFrom_any n x N 2 w h1 h2 h3 h5 (by omega)
    have hlen := win_lt (2 ^ n - 1) (num x) N (by omega) (by omega)
    have hpick := win_pick (2 ^ n - 1) 2 (num x) N (num y) (by omega)
    have hbig := wk_le (2 ^ n - 1) 2 (num x) (by omega) (by omega) (by omega) N (num y)
    obtain ⟨hz1, hz2⟩ := pow40 N h5
    have hZ : (2 : Int) ^ N = ((2 ^ N : Nat) : Int) := by simp
    generalize 2 ^ N = Z at *
    refine ⟨((lowP (wk (2 ^ n - 1) 2 (num x) N (num y)) Z : Nat) : Int), ((lowQ (wk (2 ^ n - 1) 2 (num x) N (num y)) Z : Nat) : Int), true, fun w => sCA_yes _ _ N (num x) (num y) (2 ^ n - 1) (2 ^ n - 1 + 1) _ _ Z _ w (by omega) (by omega) h5 hZ hz2 (Lib.hid hsm) (Lib.hid hwn) (Lib.hid hww) (Lib.hid fun w => waLow_any _ _ w (by omega) (by omega) (by omega)), fun w hT => ?_⟩
    refine iCA_yes _ _ n x y N (loW (num x) N) _ (wk (2 ^ n - 1) 2 (num x) N (num y)) _ _ (fun i => wk (2 ^ n - 1) 2 (num x) N (loW (num x) N + i)) w hT (by omega) hlen (Lib.hid fun w hw => twb_ST n x y w h1 h2 h3 h4 hw) (Lib.hid fun w => isLen_any N w true (by simp; omega)) (Lib.hid hwf) (Lib.hid fun w B g c ho => ?_) (Lib.hid fun w g c => ?_)
    · exact countTo_core n N (loW (num x) N) _ c g B y (num y) _ _ w hlen (by unfold loW; omega) (by omega) ho (Lib.hid hpick) (Lib.hid fun w => number_any n y w (by omega))
    · exact chance_any n N (loW (num x) N) _ _ _ _ Z w h5 hZ hz2 (Lib.hid fun w => ratioOf_any _ _ w (by omega) (by omega) (by omega)) _ c g rfl
end Go.Proofs.YtfnhmacnghkgiaeDoor
