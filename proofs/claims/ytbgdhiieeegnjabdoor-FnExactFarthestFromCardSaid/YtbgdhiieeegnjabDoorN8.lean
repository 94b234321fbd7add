/- FarthestFrom: the model. -/
import Derived.Test.YtbgdhiieeegnjabDoorN6
namespace Go.Proofs.YtbgdhiieeegnjabDoor
open Go Go.RowKit RM
set_option maxHeartbeats 1000000 in
theorem sFar_hi (s t : ByteArray) (n N X : Nat) (F : Int) (w : World) (h1 : 1 ≤ n) (hn : n ≤ 20) (hsz : Hid (s.size = n)) (hX : (2 : Int) ^ n = (X : Int)) (b1 : 1 ≤ X) (b2 : X ≤ 1048576) (hN : N < X) (hF : Hid (max (N : Int) ((X : Int) - 1 - (N : Int)) = F))
    (hq1 : ((N : Int) == F) = false) (hq2 : ((X : Int) - 1 - (N : Int) == F) = true)
    (hG : Hid (∀ w, Calls Tryd.prog 34 #[.string s] w fun e w' => e = .returned (.bool true) ∧ w = w'))
    (hA : Hid (∀ w, Calls Tryd.prog 30 #[.string s] w fun e w' => e = .returned (.int .i64 (N : Int)) ∧ w' = w))
    (hS : Hid (∀ w, Calls Tryd.prog 36 #[.int .i64 n, .int .i64 ((X : Int) - 1)] w fun e w' => e = .returned (.string t) ∧ ∃ q, w' = w.drewN q)) :
    Calls Tryd.prog 15 #[.string s] w fun e w' => RetF w [t] F true e w' := by
  have hsn := hsz.out
  go_enter Tryd.func15, Tryd.ntmps15
  go_wp2_with fail
  refine (hG.out _).mono ?_; rintro e w' ⟨rfl, rfl⟩
  go_wp2_with fail
  go_quiet ((go_at_call 30; refine Calls.quiet_of_same (hA.out _)))
  obtain ⟨w2, hw2⟩ : ∃ w2, w2 = w.drewN nq := ⟨_, rfl⟩
  rw [← hw2]
  have hb2 := Lib.hid (show Below w.heap.size w w2 by rw [hw2]; exact below_drewN (Below.refl _ _) _)
  clear hw2
  go_wp2_with fail
  refine (l1Most_any _ _ _).mono ?_; rintro e w' ⟨rfl, rfl⟩
  rw [hF.out]
  go_wp2_with fail
  refine (hS.out _).mono ?_; rintro e w3 ⟨rfl, q, hq⟩
  have hb3 := Lib.hid (show Below w.heap.size w w3 by rw [hq]; exact below_drewN hb2.out q)
  clear hq
  have hs3 := hb3.out.size
  go_wp2_with (at_builtin; refine app_txt _ rfl _ _ rfl w.heap.size _ _ rfl (OwnT.nil _ _) w3.heap.size _ rfl (by simp; rfl) (by simp) (by simp; omega) ?_; intro v' w6 ho6 hg6; have hbw6 := Lib.hid (bel_ownT (hb3.out.alloc hb3.out.size _) (OwnT.nil _ _) hg6 (by simp; omega)); have ho6 := Lib.hid ho6; have hg6 := Lib.hid hg6)
  go_ret3
  exact ⟨_, rfl, ho6.out, hbw6.out⟩
set_option maxHeartbeats 1000000 in
theorem sFar_lo (s t : ByteArray) (n N X : Nat) (F : Int) (w : World) (h1 : 1 ≤ n) (hn : n ≤ 20) (hsz : Hid (s.size = n)) (hX : (2 : Int) ^ n = (X : Int)) (b1 : 1 ≤ X) (b2 : X ≤ 1048576) (hN : N < X) (hF : Hid (max (N : Int) ((X : Int) - 1 - (N : Int)) = F))
    (hq1 : ((N : Int) == F) = true) (hq2 : ((X : Int) - 1 - (N : Int) == F) = false)
    (hG : Hid (∀ w, Calls Tryd.prog 34 #[.string s] w fun e w' => e = .returned (.bool true) ∧ w = w'))
    (hA : Hid (∀ w, Calls Tryd.prog 30 #[.string s] w fun e w' => e = .returned (.int .i64 (N : Int)) ∧ w' = w))
    (hS : Hid (∀ w, Calls Tryd.prog 36 #[.int .i64 n, .int .i64 (0)] w fun e w' => e = .returned (.string t) ∧ ∃ q, w' = w.drewN q)) :
    Calls Tryd.prog 15 #[.string s] w fun e w' => RetF w [t] F true e w' := by
  have hsn := hsz.out
  go_enter Tryd.func15, Tryd.ntmps15
  go_wp2_with fail
  refine (hG.out _).mono ?_; rintro e w' ⟨rfl, rfl⟩
  go_wp2_with fail
  go_quiet ((go_at_call 30; refine Calls.quiet_of_same (hA.out _)))
  obtain ⟨w2, hw2⟩ : ∃ w2, w2 = w.drewN nq := ⟨_, rfl⟩
  rw [← hw2]
  have hb2 := Lib.hid (show Below w.heap.size w w2 by rw [hw2]; exact below_drewN (Below.refl _ _) _)
  clear hw2
  go_wp2_with fail
  refine (l1Most_any _ _ _).mono ?_; rintro e w' ⟨rfl, rfl⟩
  rw [hF.out]
  go_wp2_with fail
  refine (hS.out _).mono ?_; rintro e w3 ⟨rfl, q, hq⟩
  have hb3 := Lib.hid (show Below w.heap.size w w3 by rw [hq]; exact below_drewN hb2.out q)
  clear hq
  have hs3 := hb3.out.size
  go_wp2_with (at_builtin; refine app_txt _ rfl _ _ rfl w.heap.size _ _ rfl (OwnT.nil _ _) w3.heap.size _ rfl (by simp; rfl) (by simp) (by simp; omega) ?_; intro v' w6 ho6 hg6; have hbw6 := Lib.hid (bel_ownT (hb3.out.alloc hb3.out.size _) (OwnT.nil _ _) hg6 (by simp; omega)); have ho6 := Lib.hid ho6; have hg6 := Lib.hid hg6)
  go_ret3
  exact ⟨_, rfl, ho6.out, hbw6.out⟩
theorem sFar_no (s : ByteArray) (w : World) (hs : s.size ≤ maxLen) (h : goodB s.data.toList = false) : Calls Tryd.prog 15 #[.string s] w fun e w' => RetF w [] 0 false e w' := by
  have hG := Lib.hid fun w => by
    have := riGood_any s w hs
    rw [h] at this; exact this
  clear h
  go_enter Tryd.func15, Tryd.ntmps15
  go_wp2_with fail
  refine (hG.out _).mono ?_; rintro e w' ⟨rfl, rfl⟩
  go_wp2_with fail
  go_ret3; exact ⟨_, rfl, OwnT.nil _ _, Below.refl _ _⟩

theorem iFar_no (s : ByteArray) (w : World) (hs : s.size ≤ maxLen) (h : goodB s.data.toList = false) (hT : TabOk w) : Calls Tryd.prog 16 #[.string s] w fun e w' => RetF w [] 0 false e w' := by
  have hA := Lib.hid fun w => barOf_bad s w hs h
  clear h
  go_enter Tryd.func16, Tryd.ntmps16
  go_wp2_with fail
  refine (hA.out _).mono ?_; rintro e w1 ⟨rfl, hb⟩
  have hb := Lib.hid hb
  go_wp2_with fail
  go_ret3; exact ⟨_, rfl, OwnT.nil _ _, hb.out.alloc hb.out.size _⟩

theorem dst_gray (x m : Nat) : apartN x (gray m) = max (num x : Int) (m : Int) - min (num x : Int) (m : Int) := by unfold apartN; rw [num_gray]

theorem far_ST (n x : Nat) (h1 : 1 ≤ n) (hn : n ≤ 20) (hx : x < 2 ^ n) : ∃ (t : ByteArray) (F : Int), (∀ w, Calls Tryd.prog 15 #[.string (ST n x)] w fun e w' => RetF w [t] F true e w') ∧
    (∀ w, TabOk w → Calls Tryd.prog 16 #[.string (ST n x)] w fun e w' => RetF w [t] F true e w') := by
  have lx := Nat.lt_of_lt_of_le hx (pow20 hn)
  have hN := num_lt n x hx
  have b1 := pow_pos1 n
  have b2 := pow20 hn
  have hev : 2 ^ n = 2 * 2 ^ (n - 1) := by
    obtain ⟨k, rfl⟩ : ∃ k, n = k + 1 := ⟨n - 1, by omega⟩
    rw [Nat.pow_succ, Nat.add_sub_cancel]; omega
  have lE : gray (2 ^ n - 1) < 1048576 := gray_lt 20 _ (by omega)
  have lZ : gray 0 < 1048576 := gray_lt 20 0 (by omega)
  have hX := pow_cast n
  have r1 : apartN x (gray (2 ^ n - 1)) = ((2 ^ n : Nat) : Int) - 1 - (num x : Int) := by rw [dst_gray]; omega
  have r2 : apartN x (gray 0) = (num x : Int) := by rw [dst_gray]; omega
  have hG : ∀ w, Calls Tryd.prog 34 #[.string (ST n x)] w fun e w' => e = .returned (.bool true) ∧ w = w' := fun w => by
    have := riGood_any (ST n x) w (by rw [ST_size]; unfold maxLen; omega)
    rw [good_ST n x h1 hn] at this; exact this
  have hA : ∀ w, Calls Tryd.prog 30 #[.string (ST n x)] w fun e w' => e = .returned (.int .i64 ((num x : Nat) : Int)) ∧ w' = w := fun w => (riNumber_ST n x w hn hx).mono fun _ _ ⟨a, b⟩ => ⟨a, b.symm⟩
  have core := fun (tA : ByteArray) (rA : Int) hy hno w (hw : TabOk w) => iFar_core (ST n x) n x (gray (2 ^ n - 1)) (gray 0) w hn lx lE hw (2 ^ n - 1)
    (Lib.hid fun w hw => barOf_ST n x w h1 hn hx hw) (Lib.hid fun w hw => barOfNumber_any n 0 w hn (by omega) hw) (Lib.hid fun w => greatest_any n w hn)
    (apartN x (gray (2 ^ n - 1))) (apartN x (gray 0)) (Lib.hid fun w => apart_any n x _ w lx lE) (Lib.hid fun w => apart_any n x _ w lx lZ)
    (ST n (gray (2 ^ n - 1))) (ST n (gray 0)) tA rA hy hno (Lib.hid fun w => text_any n _ w lE hn) (Lib.hid fun w => text_any n _ w lZ hn)
    (Lib.hid fun w hw => barOfNumber_any n (2 ^ n - 1) w hn (by omega) hw)
  have hs1 := fun w => riState_any n (2 ^ n - 1) w hn (by omega)
  have hs0 := fun w => riState_any n 0 w hn (by omega)
  rw [show ((2 ^ n - 1 : Nat) : Int) = ((2 ^ n : Nat) : Int) - 1 from by omega] at hs1
  rw [r1, r2] at core
  by_cases hc : (num x : Int) < ((2 ^ n : Nat) : Int) - 1 - (num x : Int)
  · refine ⟨_, _, fun w => sFar_hi (ST n x) _ n (num x) (2 ^ n) _ w h1 hn (Lib.hid (ST_size n x)) hX b1 b2 hN (Lib.hid (Int.max_eq_right (by omega))) ?_ ?_ (Lib.hid hG) (Lib.hid hA) (Lib.hid hs1), core _ _ (Lib.hid fun _ => ⟨rfl, rfl⟩) (Lib.hid fun h => absurd hc (by omega))⟩
    · simp; omega
    · simp
  · refine ⟨_, _, fun w => sFar_lo (ST n x) _ n (num x) (2 ^ n) _ w h1 hn (Lib.hid (ST_size n x)) hX b1 b2 hN (Lib.hid (Int.max_eq_left (by omega))) ?_ ?_ (Lib.hid hG) (Lib.hid hA) (Lib.hid hs0), core _ _ (Lib.hid fun h => absurd h hc) (Lib.hid fun _ => ⟨rfl, rfl⟩)⟩
    · simp
    · simp; omega
end Go.Proofs.YtbgdhiieeegnjabDoor
