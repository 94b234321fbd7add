/- Chapter 7: MeanOnAlong, both ways. -/
import Derived.Test.YtfnhmacnghkgiaeDoorZA
namespace Go.Proofs.YtfnhmacnghkgiaeDoor
open Go Go.RowKit RM
theorem sMA_no (a b : ByteArray) (c : Bool) (w : World) (hc : c = true → 12 < a.size)
    (hG : Hid (∀ w, Calls Tryd.prog 42 #[.string a, .string b] w fun e w' => e = .returned (.bool c) ∧ w = w')) :
    Calls Tryd.prog 19 #[.string a, .string b] w fun e w' => AnsI2 w 0 0 false e w' := by
  cases c
  · go_enter Tryd.func19, Tryd.ntmps19
    go_wp2_with fail
    refine (hG.out _).mono ?_; rintro e w' ⟨rfl, rfl⟩
    go_wp2_with fail
    refine bodyPost_ret (v := .tuple #[.int .i64 0, .int .i64 0, .bool false]) ?_ rfl ⟨rfl, Below.refl _ _⟩
    simp [results, Tryd.results19, go_sem]
  · have hs := hc rfl
    have d : decide ((12 : Int) < (a.size : Int)) = true := by simp; omega
    clear hc
    go_enter Tryd.func19, Tryd.ntmps19
    go_wp2_with fail
    refine (hG.out _).mono ?_; rintro e w' ⟨rfl, rfl⟩
    go_wp2_with fail
    refine bodyPost_ret (v := .tuple #[.int .i64 0, .int .i64 0, .bool false]) ?_ rfl ⟨rfl, Below.refl _ _⟩
    simp [results, Tryd.results19, go_sem]
set_option maxRecDepth 100000 in
set_option maxHeartbeats 4000000 in
theorem sMA_yes (a b : ByteArray) (n X Y M lo hi K P Q : Nat) (L : Int) (S : Nat → Nat) (w : World) (hs : Hid (a.size = n)) (hn : n ≤ 12) (hX : X < M) (hY : Y < M) (hM : M ≤ 4096)
    (hlo : min (X : Int) (Y : Int) = (lo : Int)) (hhi : max (X : Int) (Y : Int) = (hi : Int)) (hK : hi + 1 = lo + K) (hhM : hi < M) (h0 : Hid (S 0 = 0)) (hS : Hid (∀ k, k < K → S (k + 1) = S k + pop (gray (lo + k)))) (hSb : Hid (∀ k, k ≤ K → S k ≤ 100000))
    (hG : Hid (∀ w, Calls Tryd.prog 42 #[.string a, .string b] w fun e w' => e = .returned (.bool true) ∧ w = w'))
    (hN : Hid (∀ w, Calls Tryd.prog 28 #[.string a, .string b] w fun e w' => e = .returned (.tuple #[.int .i64 X, .int .i64 Y, .int .i64 L]) ∧ Below w.heap.size w w'))
    (hI : Hid (∀ w m, m < M → Calls Tryd.prog 23 #[.int .i64 n, .int .i64 m] w fun e w' => e = .returned (.string (ST n (gray m))) ∧ Below w.heap.size w w'))
    (hO : Hid (∀ w m, m < M → Calls Tryd.prog 44 #[.string (ST n (gray m))] w fun e w' => e = .returned (.int .i64 (pop (gray m) : Nat)) ∧ w = w'))
    (hR : Hid (∀ w, Calls Tryd.prog 34 #[.int .i64 (S K : Nat), .int .i64 K] w fun e w' => e = .returned (.tuple #[.int .i64 P, .int .i64 Q]) ∧ Below w.heap.size w w')) :
    Calls Tryd.prog 19 #[.string a, .string b] w fun e w' => AnsI2 w P Q true e w' := by
  have hsz := hs.out
  have d : decide ((12 : Int) < (n : Int)) = false := by simp; omega
  have hLe := Lib.hid fun w => l1Least_any (X : Int) (Y : Int) w
  have hMo := Lib.hid fun w => l1Most_any (X : Int) (Y : Int) w
  have hAb := Lib.hid fun w => l1Abs_any ((X : Int) - Y) w (by omega) (by omega)
  have hab : max ((X : Int) - Y) (-((X : Int) - Y)) = (hi : Int) - lo := by omega
  rw [hlo] at hLe
  rw [hhi] at hMo
  rw [hab] at hAb
  clear hlo hhi hab
  go_enter Tryd.func19, Tryd.ntmps19
  go_wp2_with fail
  refine (hG.out _).mono ?_; rintro e w' ⟨rfl, rfl⟩
  go_wp2_with fail
  refine (hN.out _).mono ?_; rintro e w1 ⟨rfl, hb1⟩
  have hb1 := Lib.hid hb1
  go_wp2_with fail
  refine (hLe.out _).mono ?_; rintro e w' ⟨rfl, rfl⟩
  go_wp2_with fail
  go_loopw [10, 11] (fun s m wr => ∃ k : Nat, k ≤ K ∧ s = .int .i64 (S k : Nat) ∧ m = .int .i64 ((lo : Int) + k) ∧ Hid (Below w1.heap.size w1 wr)) (fun _ m _ => hi + 1 - (intOf m).toNat)
  case atStart => exact ⟨0, Nat.zero_le _, by rw [h0.out]; rfl, by first | rfl | (exact vi (by omega)), Lib.hid (Below.refl _ _)⟩
  case round =>
    obtain ⟨k, hk, rfl, rfl, hbr⟩ := hrel
    by_cases hlt : k < K
    · have hs := hS.out k hlt
      have b1 := hSb.out k hk
      have b2 := hSb.out (k + 1) hlt
      have hIk := Lib.hid fun w => hI.out w (lo + k) (by omega)
      have hOk := Lib.hid fun w => hO.out w (lo + k) (by omega)
      rw [show ((lo + k : Nat) : Int) = (lo : Int) + k from by omega] at hIk
      generalize pop (gray (lo + k)) = z at *
      generalize ST n (gray (lo + k)) = t at *
      generalize hT2 : S (k + 1) = t2 at *
      generalize S k = t1 at *
      replace hT2 := Lib.hid hT2
      have hs' : (t1 : Int) + (z : Int) = (t2 : Int) := by omega
      clear hs
      have hle : decide ((lo : Int) + (k : Int) ≤ (hi : Int)) = true := by simp; omega
      go_wp2_with fail
      refine (hMo.out _).mono ?_; rintro e w' ⟨rfl, rfl⟩
      go_wp2_with fail
      refine (hIk.out _).mono ?_; rintro e w2 ⟨rfl, hb2⟩
      replace hb2 := Lib.hid (bt1 hbr.out hb2)
      go_wp2_with fail
      refine (hOk.out _).mono ?_; rintro e w' ⟨rfl, rfl⟩
      go_wp2_with fail
      go_roundw
      case rel => exact ⟨k + 1, by omega, vi (by rw [hT2.out]), vi (by go_num), hb2⟩
      all_goals (simp [intOf] <;> omega)
    · obtain rfl : k = K := by omega
      have hle : decide ((lo : Int) + (k : Int) ≤ (hi : Int)) = false := by simp; omega
      have hKi : (hi : Int) - (lo : Int) + 1 = (k : Int) := by omega
      go_wp2_with fail
      refine (hMo.out _).mono ?_; rintro e w' ⟨rfl, rfl⟩
      go_wp2_with fail
      refine (hAb.out _).mono ?_; rintro e w' ⟨rfl, rfl⟩
      go_wp2_with fail
      refine (hR.out _).mono ?_; rintro e w2 ⟨rfl, hb2⟩
      have hb2 := Lib.hid hb2
      go_wp2_with fail
      refine bodyPost_ret (v := .tuple #[.int .i64 P, .int .i64 Q, .bool true]) ?_ rfl ⟨rfl, bt1 (bt1 hb1.out hbr.out) hb2.out⟩
      simp [results, Tryd.results19, go_sem]
theorem MeanOnAlong_both (a b : ByteArray) (ha : a.size ≤ maxLen) (hb : b.size ≤ maxLen) : ∃ (r s : Int) (ok : Bool),
    (∀ w, Calls Tryd.prog 19 #[.string a, .string b] w fun e w' => e = .returned (.tuple #[.int .i64 r, .int .i64 s, .bool ok]) ∧ Below w.heap.size w w') ∧
    (∀ w, TabOk w → Calls Tryd.prog 20 #[.string a, .string b] w fun e w' => e = .returned (.tuple #[.int .i64 r, .int .i64 s, .bool ok]) ∧ Below w.heap.size w w') := by
  cases h : walkB a b
  · refine ⟨0, 0, false, fun w => ?_, fun w hT => iMA_no a b w hT (Lib.hid fun w hw => twb_any a b w ha hb h hw)⟩
    unfold walkB at h
    refine sMA_no a b (twoB a b) w (fun e => by rw [e] at h; simp at h; omega) (Lib.hid fun w => riTwo_any a b w ha hb)
  · obtain ⟨n, x, y, h1, h2, h3, h4, rfl, rfl⟩ := walk_of a b h
    have hp := Nat.pow_le_pow_right (n := 2) (by omega) h2
    have hX := num_lt n x h3
    have hY := num_lt n y h4
    have hle := onsFrom_le n (min (num x) (num y))
    have hbd : ∀ k, k ≤ max (num x) (num y) + 1 - min (num x) (num y) → onsFrom (min (num x) (num y)) k ≤ 100000 := fun k hk => by
      have := hle k (by omega)
      have : n * k ≤ 12 * 4096 := Nat.mul_le_mul h2 (by omega)
      omega
    have hSb := hbd (max (num x) (num y) + 1 - min (num x) (num y)) (Nat.le_refl _)
    refine ⟨_, _, true, fun w => sMA_yes _ _ n (num x) (num y) (2 ^ n) (min (num x) (num y)) (max (num x) (num y)) (max (num x) (num y) + 1 - min (num x) (num y)) _ _ _ (onsFrom (min (num x) (num y))) w (Lib.hid (ST_size n x)) h2 hX hY hp (by omega) (by omega) (by omega) (by omega) (Lib.hid rfl) (Lib.hid fun _ _ => rfl) (Lib.hid hbd) (Lib.hid fun w => ?_) (Lib.hid fun w => waNumbers_ST n x y w (by omega) h3 h4) (Lib.hid fun w m hm => ?_) (Lib.hid fun w m hm => ?_) (Lib.hid fun w => waLow_any _ _ w (by omega) (by omega) (by omega)),
      fun w hT => iMA_yes _ _ n x y (2 ^ n) (min (num x) (num y)) (max (num x) (num y)) (max (num x) (num y) + 1 - min (num x) (num y)) _ _ num (onsFrom (min (num x) (num y))) w hT h3 h4 hp h2 (by omega) (by omega) (by omega) (by omega) (Lib.hid rfl) (Lib.hid fun _ _ => rfl) (Lib.hid hbd) (Lib.hid fun w hw => twb_ST n x y w h1 h2 h3 h4 hw) (Lib.hid fun w x hx => number_any n x w (by omega)) (Lib.hid fun w m hm hw => barOfNumber_any n m w (by omega) (by omega) hw) (Lib.hid fun w m hm => countOn_any n (gray m) w (gray_lt 20 m (by omega))) (Lib.hid fun w => ratioOf_any _ _ w (by omega) (by omega) (by omega))⟩
    · have := riTwo_any (ST n x) (ST n y) w (by rw [ST_size]; unfold maxLen; omega) (by rw [ST_size]; unfold maxLen; omega)
      rw [two_ST n x y h1 (by omega)] at this; exact this
    · refine (riState_any n m w (by omega) (by omega)).mono ?_
      rintro e w' ⟨rfl, q, rfl⟩; exact ⟨rfl, below_drewN (Below.refl _ _) q⟩
    · have := riOn_any (ST n (gray m)) w (by rw [ST_size]; omega)
      rw [ons_ST n _ (gray_lt n m hm)] at this; exact this
end Go.Proofs.YtfnhmacnghkgiaeDoor
