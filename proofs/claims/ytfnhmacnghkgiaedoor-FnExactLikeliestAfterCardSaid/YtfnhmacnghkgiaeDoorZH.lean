/- Chapter 7: WalksTo, both ways. -/
import Derived.Test.YtfnhmacnghkgiaeDoorZG
namespace Go.Proofs.YtfnhmacnghkgiaeDoor
open Go Go.RowKit RM
/-- two bars in memory -/
abbrev B2 (n x y a b N : Nat) (W v : World) : Prop := B3 n x y y a b b N N W v
theorem iWT_no (a b : ByteArray) (k : Int) (n x y : Nat) (ok : Bool) (w : World) (hT : TabOk w)
    (hA : Hid (∀ w, TabOk w → Calls Tryd.prog 30 #[.string a, .string b] w fun e w' => e = .returned (.tuple #[(.agg #[.int .i64 ((ctz (x) : Nat) : Int), .bool (onB (x)), .int .i64 ((n : Nat) : Int), .int .u64 ((x : Nat) : Int)]), (.agg #[.int .i64 ((ctz (y) : Nat) : Int), .bool (onB (y)), .int .i64 ((n : Nat) : Int), .int .u64 ((y : Nat) : Int)]), .bool ok]) ∧ Below w.heap.size w w'))
    (hL : Hid (ok = true → ∀ w, Calls Tryd.prog 31 #[.int .i64 k] w fun e w' => e = .returned (.bool false) ∧ w = w')) :
    Calls Tryd.prog 14 #[.string a, .string b, .int .i64 k] w fun e w' => AnsI w 0 false e w' := by
  have hT := Lib.hid hT
  cases ok
  · go_enter Tryd.func14, Tryd.ntmps14
    go_wp2_with fail
    refine (hA.out _ hT.out).mono ?_; rintro e w1 ⟨rfl, hb⟩
    have hb := Lib.hid hb
    go_wp2_with fail
    go_ret2
    exact ⟨rfl, bt (bt hb.out (ba _ _)) (ba _ _)⟩
  · have hL2 := Lib.hid (hL.out rfl)
    go_enter Tryd.func14, Tryd.ntmps14
    go_wp2_with fail
    refine (hA.out _ hT.out).mono ?_; rintro e w1 ⟨rfl, hb⟩
    have hb := Lib.hid hb
    go_wp2_with fail
    refine (hL2.out _).mono ?_; rintro e w' ⟨rfl, rfl⟩
    go_wp2_with fail
    go_ret2
    exact ⟨rfl, bt (bt hb.out (ba _ _)) (ba _ _)⟩
set_option maxRecDepth 100000 in
set_option maxHeartbeats 4000000 in
theorem iWT_yes (a b : ByteArray) (n x y N lo m R : Nat) (f : Nat → Nat) (w : World) (hT : TabOk w) (hm0 : 0 < m) (hm : m ≤ 4096)
    (hA : Hid (∀ w, TabOk w → Calls Tryd.prog 30 #[.string a, .string b] w fun e w' => e = .returned (.tuple #[(.agg #[.int .i64 ((ctz (x) : Nat) : Int), .bool (onB (x)), .int .i64 ((n : Nat) : Int), .int .u64 ((x : Nat) : Int)]), (.agg #[.int .i64 ((ctz (y) : Nat) : Int), .bool (onB (y)), .int .i64 ((n : Nat) : Int), .int .u64 ((y : Nat) : Int)]), .bool true]) ∧ Below w.heap.size w w'))
    (hL : Hid (∀ w, Calls Tryd.prog 31 #[.int .i64 N] w fun e w' => e = .returned (.bool true) ∧ w = w'))
    (hF : Hid (∀ w, Calls Tryd.prog 32 #[(.agg #[.int .i64 ((ctz (x) : Nat) : Int), .bool (onB (x)), .int .i64 ((n : Nat) : Int), .int .u64 ((x : Nat) : Int)]), .int .i64 N, .int .i64 1] w fun e w' => ∃ v, e = .returned (WK n N lo v) ∧ OwnI w' w.heap.size v (fnR m f) ∧ Below w.heap.size w w'))
    (hC : Hid (∀ w B g c, OwnI w B (.slice (some ⟨g, 0, none⟩) m c) (fnR m f) → Calls Tryd.prog 33 #[WK n N lo (.slice (some ⟨g, 0, none⟩) m c), (.agg #[.int .i64 ((ctz (y) : Nat) : Int), .bool (onB (y)), .int .i64 ((n : Nat) : Int), .int .u64 ((y : Nat) : Int)])] w fun e w' => e = .returned (.int .i64 (R : Int)) ∧ Below w.heap.size w w')) :
    Calls Tryd.prog 14 #[.string a, .string b, .int .i64 N] w fun e w' => AnsI w R true e w' := by
  have hT := Lib.hid hT
  go_enter Tryd.func14, Tryd.ntmps14
  go_wp2_with fail
  refine (hA.out _ hT.out).mono ?_; rintro e w1 ⟨rfl, hb⟩
  have hb := Lib.hid hb
  go_wp2_with fail
  refine (hL.out _).mono ?_; rintro e w' ⟨rfl, rfl⟩
  go_upto_region 4 with fail
  obtain ⟨W, hW⟩ : ∃ W, W = (w1.alloc (.cells #[.int .i64 (ctz x), .bool (onB x), .int .i64 n, .int .u64 x] 47)).alloc (.cells #[.int .i64 (ctz y), .bool (onB y), .int .i64 n, .int .u64 y] 47) := ⟨_, rfl⟩
  rw [← hW]
  have hWz : W.heap.size = w1.heap.size + 2 := by rw [hW]; simp
  have hWb := Lib.hid (show Below w.heap.size w W by rw [hW]; exact bt1 (bt1 hb.out (ba1 _ _)) (ba1 _ _))
  have k0 := (show W.heap[w1.heap.size]? = some (barO n x) by rw [hW]; exact hb_old _ (hb_new _ _))
  have k1 := (show W.heap[w1.heap.size + 1]? = some (barO n y) by rw [hW]; exact hb_new' _ _ _ (by simp))
  clear hW
  obtain ⟨⟨p0, p1, p2, p3⟩, _⟩ := bar_cells k0
  obtain ⟨⟨q0, q1, q2, q3⟩, _⟩ := bar_cells k1
  have l0 : w1.heap.size < W.heap.size := by omega
  have l1 : w1.heap.size + 1 < W.heap.size := by omega
  have hrf : Below W.heap.size W W := Below.refl _ _
  go_region_held3 (fun v => B2 n x y w1.heap.size (w1.heap.size + 1) W.heap.size W v) (first | assumption | (refine ⟨⟨?_, ?_, ?_, ?_⟩, ⟨?_, ?_, ?_, ?_⟩, ⟨?_, ?_, ?_, ?_⟩, ?_, ?_⟩ <;> first | assumption | (refine Below.drew ?_; assumption) | go_keep | omega))
    (first
      | (go_at_call 32; refine (hF.out _).mono ?_; rintro e w' ⟨v, rfl, ho, hb2⟩; obtain ⟨g, c, rfl, _, _⟩ := own_some ho m (fnR_len m f) hm0; have hbn := kp12 l0 l1 l1 (Nat.le_refl _) hb2 (by assumption))
      | (go_at_call 33; refine (hC.out _ _ _ _ ho).mono ?_; rintro e w' ⟨rfl, hb2⟩; have hbn := kp12 l0 l1 l1 (Nat.le_refl _) hb2 (by assumption)))
  all_goals
    go_wp2_with fail
    rename_i hBf
    go_ret2
    exact ⟨rfl, bt1 hWb.out (kpE hBf)⟩
theorem sWT_no (a b : ByteArray) (k : Int) (w : World) (hG : Hid (∀ w, Calls Tryd.prog 27 #[.string a, .string b, .int .i64 k] w fun e w' => e = .returned (.bool false) ∧ w = w')) :
    Calls Tryd.prog 13 #[.string a, .string b, .int .i64 k] w fun e w' => AnsI w 0 false e w' := by
  go_enter Tryd.func13, Tryd.ntmps13
  go_wp2_with fail
  refine (hG.out _).mono ?_; rintro e w' ⟨rfl, rfl⟩
  go_wp2_with fail
  go_ret2; exact ⟨rfl, Below.refl _ _⟩
theorem sWT_yes (a b : ByteArray) (N X Y L M : Nat) (f : Nat → Nat) (w : World) (hY : Y < M) (hM : M ≤ 4096) (hG : Hid (∀ w, Calls Tryd.prog 27 #[.string a, .string b, .int .i64 N] w fun e w' => e = .returned (.bool true) ∧ w = w'))
    (hN : Hid (∀ w, Calls Tryd.prog 28 #[.string a, .string b] w fun e w' => e = .returned (.tuple #[.int .i64 X, .int .i64 Y, .int .i64 L]) ∧ Below w.heap.size w w'))
    (hW : Hid (∀ w, Calls Tryd.prog 29 #[.int .i64 X, .int .i64 L, .int .i64 N] w fun e w' => ∃ v, e = .returned v ∧ OwnI w' w.heap.size v (fnR M f) ∧ Below w.heap.size w w')) :
    Calls Tryd.prog 13 #[.string a, .string b, .int .i64 N] w fun e w' => AnsI w (f Y : Nat) true e w' := by
  have hfl := Lib.hid (fnR_len M)
  have hfg := Lib.hid (fnR_get M)
  go_enter Tryd.func13, Tryd.ntmps13
  go_wp2_with fail
  refine (hG.out _).mono ?_; rintro e w' ⟨rfl, rfl⟩
  go_wp2_with fail
  refine (hN.out _).mono ?_; rintro e w1 ⟨rfl, hb1⟩
  replace hb1 := Lib.hid hb1
  go_wp2_with fail
  refine (hW.out _).mono ?_; rintro e w2 ⟨v, rfl, ho, hb2⟩
  obtain ⟨g, c, rfl, _, _⟩ := own_some ho M (hfl.out _) (by omega)
  obtain ⟨z0, _⟩ := ho.cell (hfl.out _) Y (by rw [hfl.out]; exact hY)
  rw [hfg.out] at z0
  have d1 : decide ((Y : Int) < (M : Int)) = true := by simp; omega
  replace hb2 := Lib.hid (bt1 hb1.out hb2)
  clear ho
  go_wp2_with fail
  go_ret2; exact ⟨rfl, hb2.out⟩
theorem sm_cases (a b : ByteArray) (k : Int) (h : smB a b k = true) : ∃ n x y N : Nat, 1 ≤ n ∧ n ≤ 12 ∧ x < 2 ^ n ∧ y < 2 ^ n ∧ N ≤ 40 ∧ a = ST n x ∧ b = ST n y ∧ k = (N : Int) := by
  unfold smB at h
  rw [Bool.and_eq_true] at h
  obtain ⟨n, x, y, h1, h2, h3, h4, rfl, rfl⟩ := walk_of a b h.1
  have h5 := h.2
  simp at h5
  exact ⟨n, x, y, k.toNat, h1, h2, h3, h4, by omega, rfl, rfl, by omega⟩
theorem win_pick (L d a N Y : Nat) (ha : a ≤ L) : (Y < loW a N ∨ loW a N + (hiW L a N - loW a N + 1) ≤ Y → wk L d a N Y = 0) ∧ (loW a N ≤ Y → Y < loW a N + (hiW L a N - loW a N + 1) → wk L d a N Y = wk L d a N (loW a N + (Y - loW a N))) := by
  refine ⟨fun h => wk_sup L d a ha N Y ?_, fun h1 h2 => by rw [show loW a N + (Y - loW a N) = Y from by omega]⟩
  unfold loW hiW at *
  omega
theorem WalksTo_both (a b : ByteArray) (k : Int) (ha : a.size ≤ maxLen) (hb : b.size ≤ maxLen) (_ : (Lit.int .i64 k).wf = true) : ∃ (r : Int) (ok : Bool),
    (∀ w, Calls Tryd.prog 13 #[.string a, .string b, .int .i64 k] w fun e w' => e = .returned (.tuple #[.int .i64 r, .bool ok]) ∧ Below w.heap.size w w') ∧
    (∀ w, TabOk w → Calls Tryd.prog 14 #[.string a, .string b, .int .i64 k] w fun e w' => e = .returned (.tuple #[.int .i64 r, .bool ok]) ∧ Below w.heap.size w w') := by
  have hsm := fun w => waSmall_any a b k w ha hb
  cases h : smB a b k
  · rw [h] at hsm
    refine ⟨0, false, fun w => sWT_no a b k w (Lib.hid hsm), fun w hT => ?_⟩
    cases h2 : walkB a b
    · exact iWT_no a b k 0 0 0 false w hT (Lib.hid fun w hw => twb_any a b w ha hb h2 hw) (Lib.hid fun e => by cases e)
    · obtain ⟨n, x, y, h1, h2', h3, h4, rfl, rfl⟩ := walk_of a b h2
      unfold smB at h
      rw [h2, Bool.true_and] at h
      exact iWT_no _ _ k n x y true w hT (Lib.hid fun w hw => twb_ST n x y w h1 h2' h3 h4 hw) (Lib.hid fun _ w => isLen_any k w _ h)
  · rw [h] at hsm
    obtain ⟨n, x, y, N, h1, h2, h3, h4, h5, rfl, rfl, rfl⟩ := sm_cases a b k h
    have hp := Nat.pow_le_pow_right (n := 2) (by omega) h2
    have hp2 := Nat.pow_le_pow_right (n := 2) (by omega) h1
    have hX := num_lt n x h3
    have hY := num_lt n y h4
    have hwn := fun w => waNumbers_ST n x y w (by omega) h3 h4
    have hww := fun w => waWalks_any (num x) (2 ^ n - 1) N w (by omega) (by omega) (by omega) h5
    have hwf := fun w => walksFrom_any n x N 1 w h1 h2 h3 h5 (by omega)
    have hlen := win_lt (2 ^ n - 1) (num x) N (by omega) (by omega)
    have hpick := win_pick (2 ^ n - 1) 1 (num x) N (num y) (by omega)
    refine ⟨((wk (2 ^ n - 1) 1 (num x) N (num y) : Nat) : Int), true, fun w => sWT_yes _ _ N (num x) (num y) (2 ^ n - 1) (2 ^ n - 1 + 1) _ w (by omega) (by omega) (Lib.hid hsm) (Lib.hid hwn) (Lib.hid hww), fun w hT => ?_⟩
    refine iWT_yes _ _ n x y N (loW (num x) N) _ _ (fun i => wk (2 ^ n - 1) 1 (num x) N (loW (num x) N + i)) w hT (by omega) hlen (Lib.hid fun w hw => twb_ST n x y w h1 h2 h3 h4 hw) (Lib.hid fun w => isLen_any N w true (by simp; omega)) (Lib.hid hwf) (Lib.hid fun w B g c ho => ?_)
    exact countTo_core n N (loW (num x) N) _ c g B y (num y) _ _ w hlen (by unfold loW; omega) (by omega) ho (Lib.hid hpick) (Lib.hid fun w => number_any n y w (by omega))
end Go.Proofs.YtfnhmacnghkgiaeDoor
