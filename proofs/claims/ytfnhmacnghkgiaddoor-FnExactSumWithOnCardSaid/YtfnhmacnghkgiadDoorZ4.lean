/- Chapter 7: MeanToClear, MeanFrom, both ways. -/
import Derived.Test.YtfnhmacnghkgiadDoorZ3
namespace Go.Proofs.YtfnhmacnghkgiadDoor
open Go Go.RowKit RM
theorem barAllOff_any (n : Nat) (w : World) (hT : TabOk w) : Calls Tryd.prog 29 #[.int .i64 n] w fun e w' => e = .returned (.agg #[.int .i64 ((ctz (0) : Nat) : Int), .bool (onB (0)), .int .i64 ((n : Nat) : Int), .int .u64 ((0 : Nat) : Int)]) ∧ Below w.heap.size w w' := by
  have hT := Lib.hid hT
  have hC := Lib.hid fun w hw => newBar_any n 0 w (by omega) hw
  have e0 : (((0 : Nat) : Int)) = 0 := rfl
  rw [e0] at hC
  go_enter Tryd.func29, Tryd.ntmps29
  go_wp2_with fail
  refine (hC.out _ ?_).mono ?_
  · repeat (first | exact hT.out | apply TabOk.alloc | apply TabOk.drew | apply TabOk.drewN)
  rintro e w' ⟨rfl, hb⟩
  obtain ⟨hc, hf⟩ := bcell hb
  go_wp2_with fail
  refine bodyPost_ret (v := (.agg #[.int .i64 ((ctz (0) : Nat) : Int), .bool (onB (0)), .int .i64 ((n : Nat) : Int), .int .u64 ((0 : Nat) : Int)])) ?_ rfl ⟨rfl, ?_⟩
  · simp [results, Tryd.results29, go_sem, hc]
  · refine Below.setCell (Below.setCell (Below.setCell (Below.setCell ?_ (by simp) _) (by simp) _) (by simp) _) (by simp) _
    refine Below.trans ?_ (hb.mono (by simp))
    repeat (first | exact Below.refl _ _ | (refine Below.drew ?_) | (refine Below.alloc ?_ (by simp) _))
theorem kpB {a1 N : Nat} {w a b : World} {v0 v1 v2 v3 : Value} (h1 : a1 < N) (k : Below a.heap.size a b)
    (h : (a.cell? ⟨a1, 0, none⟩ = some v0 ∧ a.cell? ⟨a1, 1, none⟩ = some v1 ∧ a.cell? ⟨a1, 2, none⟩ = some v2 ∧ a.cell? ⟨a1, 3, none⟩ = some v3) ∧ N ≤ a.heap.size ∧ Below N w a) :
    (b.cell? ⟨a1, 0, none⟩ = some v0 ∧ b.cell? ⟨a1, 1, none⟩ = some v1 ∧ b.cell? ⟨a1, 2, none⟩ = some v2 ∧ b.cell? ⟨a1, 3, none⟩ = some v3) ∧ N ≤ b.heap.size ∧ Below N w b :=
  ⟨kp4 (Nat.lt_of_lt_of_le h1 h.2.1) k h.1, Nat.le_trans h.2.1 k.size, h.2.2.trans (k.mono h.2.1)⟩
theorem kpBE {A B : Prop} {N : Nat} {w v : World} (h : A ∧ B ∧ Below N w v) : Below N w v := h.2.2
/-- one bar in memory -/
abbrev B1 (n x a N : Nat) (W w' : World) : Prop := (w'.cell? ⟨a, 0, none⟩ = some (.int .i64 (ctz x)) ∧ w'.cell? ⟨a, 1, none⟩ = some (.bool (onB x)) ∧ w'.cell? ⟨a, 2, none⟩ = some (.int .i64 n) ∧ w'.cell? ⟨a, 3, none⟩ = some (.int .u64 x)) ∧ N ≤ w'.heap.size ∧ Below N W w'
theorem iMTC_no (s : ByteArray) (w : World) (hT : TabOk w)
    (hB : Hid (∀ w, TabOk w → Calls Tryd.prog 27 #[.string s] w fun e w' => e = .returned (.tuple #[(.agg #[.int .i64 ((ctz (0) : Nat) : Int), .bool (onB (0)), .int .i64 ((0 : Nat) : Int), .int .u64 ((0 : Nat) : Int)]), .bool false]) ∧ Below w.heap.size w w')) :
    Calls Tryd.prog 11 #[.string s] w fun e w' => AnsI w 0 false e w' := by
  have hT := Lib.hid hT
  go_enter Tryd.func11, Tryd.ntmps11
  go_wp2_with fail
  refine (hB.out _ hT.out).mono ?_; rintro e w1 ⟨rfl, hb⟩
  have hb := Lib.hid hb
  go_wp2_with fail
  go_ret2
  exact ⟨rfl, bt hb.out (ba _ _)⟩
set_option maxRecDepth 100000 in
theorem iMTC_yes (s : ByteArray) (n x M : Nat) (R : Int) (w : World) (hT : TabOk w)
    (hB : Hid (∀ w, TabOk w → Calls Tryd.prog 27 #[.string s] w fun e w' => e = .returned (.tuple #[(.agg #[.int .i64 ((ctz (x) : Nat) : Int), .bool (onB (x)), .int .i64 ((n : Nat) : Int), .int .u64 ((x : Nat) : Int)]), .bool true]) ∧ Below w.heap.size w w'))
    (hO : Hid (∀ w, TabOk w → Calls Tryd.prog 29 #[.int .i64 n] w fun e w' => e = .returned (.agg #[.int .i64 ((ctz (M) : Nat) : Int), .bool (onB (M)), .int .i64 ((n : Nat) : Int), .int .u64 ((M : Nat) : Int)]) ∧ Below w.heap.size w w'))
    (hM : Hid (∀ w, TabOk w → Calls Tryd.prog 28 #[(.agg #[.int .i64 ((ctz (x) : Nat) : Int), .bool (onB (x)), .int .i64 ((n : Nat) : Int), .int .u64 ((x : Nat) : Int)]), (.agg #[.int .i64 ((ctz (M) : Nat) : Int), .bool (onB (M)), .int .i64 ((n : Nat) : Int), .int .u64 ((M : Nat) : Int)])] w fun e w' => e = .returned (.int .i64 R) ∧ Below w.heap.size w w')) :
    Calls Tryd.prog 11 #[.string s] w fun e w' => AnsI w R true e w' := by
  have hT := Lib.hid hT
  go_enter Tryd.func11, Tryd.ntmps11
  go_wp2_with fail
  refine (hB.out _ hT.out).mono ?_; rintro e w1 ⟨rfl, hb⟩
  have hT1 := Lib.hid (hT.out.below hb)
  have hb := Lib.hid hb
  go_upto_region 4 with fail
  obtain ⟨W, hW⟩ : ∃ W, W = w1.alloc (.cells #[.int .i64 (ctz x), .bool (onB x), .int .i64 n, .int .u64 x] 40) := ⟨_, rfl⟩
  rw [← hW]
  have hWz : W.heap.size = w1.heap.size + 1 := by rw [hW]; simp
  have hWT := Lib.hid (show TabOk W by rw [hW]; exact hT1.out.alloc _)
  have hWb := Lib.hid (show Below w.heap.size w W by rw [hW]; exact bt1 hb.out (ba1 _ _))
  obtain ⟨⟨p0, p1, p2, p3⟩, fp⟩ := bar_cells (show W.heap[w1.heap.size]? = some (barO n x) by rw [hW]; exact hb_new _ _)
  clear hW fp
  have l0 : w1.heap.size < W.heap.size := by omega
  have hrf : Below W.heap.size W W := Below.refl _ _
  go_region_held3 (fun v => B1 n x w1.heap.size W.heap.size W v) (first | assumption | (refine ⟨⟨?_, ?_, ?_, ?_⟩, ?_, ?_⟩ <;> first | assumption | (refine Below.drew ?_; assumption) | go_keep | omega))
    (first
      | (go_at_call 29; refine (hO.out _ (hWT.out.below (kpBE (by assumption)))).mono ?_; rintro e w' ⟨rfl, hb2⟩; have hbn := kpB l0 hb2 (by assumption))
      | (go_at_call 28; refine (hM.out _ (hWT.out.below (kpBE (by assumption)))).mono ?_; rintro e w' ⟨rfl, hb2⟩; have hbn := kpB l0 hb2 (by assumption)))
  all_goals
    go_wp2_with fail
    rename_i hBf
    go_ret2
    exact ⟨rfl, bt1 hWb.out (kpBE hBf)⟩

theorem sMTC_no (s : ByteArray) (w : World) (hG : Hid (∀ w, Calls Tryd.prog 24 #[.string s] w fun e w' => e = .returned (.bool false) ∧ w = w')) :
    Calls Tryd.prog 10 #[.string s] w fun e w' => AnsI w 0 false e w' := by
  go_enter Tryd.func10, Tryd.ntmps10
  go_wp2_with fail
  refine (hG.out _).mono ?_; rintro e w' ⟨rfl, rfl⟩
  go_wp2_with fail
  go_ret2
  exact ⟨rfl, Below.refl _ _⟩
theorem sMTC_yes (s : ByteArray) (n X : Nat) (P : Int) (R : Int) (w : World) (hs : Hid (s.size = n)) (hn : n ≤ 20) (hP : (2 : Int) ^ n = P) (p1 : 1 ≤ P) (p2 : P ≤ 1048576)
    (hG : Hid (∀ w, Calls Tryd.prog 24 #[.string s] w fun e w' => e = .returned (.bool true) ∧ w = w'))
    (hN : Hid (∀ w, Calls Tryd.prog 26 #[.string s] w fun e w' => e = .returned (.int .i64 (X : Int)) ∧ w = w'))
    (hM : Hid (∀ w, Calls Tryd.prog 25 #[.int .i64 X, .int .i64 0, .int .i64 (P - 1)] w fun e w' => e = .returned (.int .i64 R) ∧ w = w')) :
    Calls Tryd.prog 10 #[.string s] w fun e w' => AnsI w R true e w' := by
  have hsz := hs.out
  go_enter Tryd.func10, Tryd.ntmps10
  go_wp2_with fail
  refine (hG.out _).mono ?_; rintro e w' ⟨rfl, rfl⟩
  go_upto_region 3 with fail
  go_quiet (first | (go_at_call 26; refine Calls.quiet_of_same ((hN.out _).mono fun _ _ h => ⟨h.1, h.2.symm⟩)) | (go_at_call 25; refine Calls.quiet_of_same ((hM.out _).mono fun _ _ h => ⟨h.1, h.2.symm⟩)))
  go_wp2_with fail
  go_ret2
  exact ⟨rfl, below_drewN (Below.refl _ _) _⟩
theorem good_any (s : ByteArray) (w : World) (hs : s.size ≤ maxLen) (b : Bool) (h : goodB s.data.toList = b) : Calls Tryd.prog 24 #[.string s] w fun e w' => e = .returned (.bool b) ∧ w = w' := by
  have := riGood_any s w hs
  rw [h] at this; exact this
theorem ST_max (n x : Nat) (h : n ≤ 20) : (ST n x).size ≤ maxLen := by rw [ST_size]; unfold maxLen; omega
theorem MeanToClear_both (s : ByteArray) (hs : s.size ≤ maxLen) : ∃ (r : Int) (ok : Bool),
    (∀ w, Calls Tryd.prog 10 #[.string s] w fun e w' => e = .returned (.tuple #[.int .i64 r, .bool ok]) ∧ Below w.heap.size w w') ∧
    (∀ w, TabOk w → Calls Tryd.prog 11 #[.string s] w fun e w' => e = .returned (.tuple #[.int .i64 r, .bool ok]) ∧ Below w.heap.size w w') := by
  rcases text_cases s with h | ⟨n, x, h1, h2, h3, rfl⟩
  · exact ⟨0, false, fun w => sMTC_no s w (Lib.hid fun w => good_any s w hs _ h), fun w hT => iMTC_no s w hT (Lib.hid fun w _ => by have := barOf_bad s w hs h; rw [bz] at this; exact this)⟩
  · have hp := pow_pos1 n
    refine ⟨meanN n (num x) (num 0), true, fun w => sMTC_yes (ST n x) n (num x) ((2 ^ n : Nat) : Int) _ w (Lib.hid (ST_size n x)) h2 (pow_cast n) (by omega) (by have := pow20 h2; omega) (Lib.hid fun w => good_any _ w hs _ (good_ST n x h1 h2)) (Lib.hid fun w => riNumber_ST n x w h2 h3) (Lib.hid fun w => ?_), fun w hT => iMTC_yes (ST n x) n x 0 _ w hT (Lib.hid fun w hw => barOf_ST n x w h1 h2 h3 hw) (Lib.hid fun w hw => barAllOff_any n w hw) (Lib.hid fun w hw => meanMoves_any n x 0 w h2 h3 (by omega) hw)⟩
    have := waMean_any n (num x) (num 0) w h2 (num_lt n x h3) (num_lt n 0 (by omega))
    rw [num_zero] at this ⊢
    rw [show ((2 ^ n - 1 : Nat) : Int) = ((2 ^ n : Nat) : Int) - 1 from by omega] at this
    exact this

theorem waNumbers_core (a b : ByteArray) (n X Y : Nat) (P : Int) (w : World) (hs : Hid (a.size = n)) (hn : n ≤ 20) (hP : (2 : Int) ^ n = P) (p1 : 1 ≤ P) (p2 : P ≤ 1048576)
    (hA : Hid (∀ w, Calls Tryd.prog 26 #[.string a] w fun e w' => e = .returned (.int .i64 (X : Int)) ∧ w = w'))
    (hB : Hid (∀ w, Calls Tryd.prog 26 #[.string b] w fun e w' => e = .returned (.int .i64 (Y : Int)) ∧ w = w')) :
    Calls Tryd.prog 31 #[.string a, .string b] w fun e w' => e = .returned (.tuple #[.int .i64 X, .int .i64 Y, .int .i64 (P - 1)]) ∧ Below w.heap.size w w' := by
  have hsz := hs.out
  go_enter Tryd.func31, Tryd.ntmps31
  go_upto_region 1 with fail
  go_quiet (first | (go_at_call 26; (with_reducible refine Calls.quiet_of_same ((hA.out _).mono fun _ _ h => ⟨h.1, h.2.symm⟩))) | (go_at_call 26; refine Calls.quiet_of_same ((hB.out _).mono fun _ _ h => ⟨h.1, h.2.symm⟩)))
  go_wp2_with fail
  refine bodyPost_ret (v := .tuple #[.int .i64 X, .int .i64 Y, .int .i64 (P - 1)]) ?_ rfl ⟨rfl, below_drewN (Below.refl _ _) _⟩
  simp [results, Tryd.results31, go_sem]
theorem waNumbers_ST (n x y : Nat) (w : World) (hn : n ≤ 20) (hx : x < 2 ^ n) (hy : y < 2 ^ n) :
    Calls Tryd.prog 31 #[.string (ST n x), .string (ST n y)] w fun e w' => e = .returned (.tuple #[.int .i64 (num x : Nat), .int .i64 (num y : Nat), .int .i64 ((2 ^ n - 1 : Nat) : Int)]) ∧ Below w.heap.size w w' := by
  have hp := pow_pos1 n
  have := waNumbers_core (ST n x) (ST n y) n (num x) (num y) ((2 ^ n : Nat) : Int) w (Lib.hid (ST_size n x)) hn (pow_cast n) (by omega) (by have := pow20 hn; omega) (Lib.hid fun w => riNumber_ST n x w hn hx) (Lib.hid fun w => riNumber_ST n y w hn hy)
  rw [show ((2 ^ n - 1 : Nat) : Int) = ((2 ^ n : Nat) : Int) - 1 from by omega]
  exact this

theorem iMF_no (a b : ByteArray) (w : World) (hT : TabOk w)
    (hA : Hid (∀ w, TabOk w → Calls Tryd.prog 32 #[.string a, .string b] w fun e w' => e = .returned (.tuple #[(.agg #[.int .i64 ((ctz (0) : Nat) : Int), .bool (onB (0)), .int .i64 ((0 : Nat) : Int), .int .u64 ((0 : Nat) : Int)]), (.agg #[.int .i64 ((ctz (0) : Nat) : Int), .bool (onB (0)), .int .i64 ((0 : Nat) : Int), .int .u64 ((0 : Nat) : Int)]), .bool false]) ∧ Below w.heap.size w w')) :
    Calls Tryd.prog 13 #[.string a, .string b] w fun e w' => AnsI w 0 false e w' := by
  have hT := Lib.hid hT
  go_enter Tryd.func13, Tryd.ntmps13
  go_wp2_with fail
  refine (hA.out _ hT.out).mono ?_; rintro e w1 ⟨rfl, hb⟩
  have hb := Lib.hid hb
  go_wp2_with fail
  go_ret2
  exact ⟨rfl, bt (bt hb.out (ba _ _)) (ba _ _)⟩
theorem iMF_yes (a b : ByteArray) (n x y : Nat) (R : Int) (w : World) (hT : TabOk w)
    (hA : Hid (∀ w, TabOk w → Calls Tryd.prog 32 #[.string a, .string b] w fun e w' => e = .returned (.tuple #[(.agg #[.int .i64 ((ctz (x) : Nat) : Int), .bool (onB (x)), .int .i64 ((n : Nat) : Int), .int .u64 ((x : Nat) : Int)]), (.agg #[.int .i64 ((ctz (y) : Nat) : Int), .bool (onB (y)), .int .i64 ((n : Nat) : Int), .int .u64 ((y : Nat) : Int)]), .bool true]) ∧ Below w.heap.size w w'))
    (hM : Hid (∀ w, TabOk w → Calls Tryd.prog 28 #[(.agg #[.int .i64 ((ctz (x) : Nat) : Int), .bool (onB (x)), .int .i64 ((n : Nat) : Int), .int .u64 ((x : Nat) : Int)]), (.agg #[.int .i64 ((ctz (y) : Nat) : Int), .bool (onB (y)), .int .i64 ((n : Nat) : Int), .int .u64 ((y : Nat) : Int)])] w fun e w' => e = .returned (.int .i64 R) ∧ Below w.heap.size w w')) :
    Calls Tryd.prog 13 #[.string a, .string b] w fun e w' => AnsI w R true e w' := by
  have hT := Lib.hid hT
  go_enter Tryd.func13, Tryd.ntmps13
  go_wp2_with fail
  refine (hA.out _ hT.out).mono ?_; rintro e w1 ⟨rfl, hb⟩
  have hT1 := Lib.hid (hT.out.below hb)
  have hb := Lib.hid hb
  go_wp2_with fail
  refine (hM.out _ ((hT1.out.alloc _).alloc _)).mono ?_; rintro e w2 ⟨rfl, hb2⟩
  have hb2 := Lib.hid hb2
  go_wp2_with fail
  go_ret2
  exact ⟨rfl, bt (bt (bt hb.out (ba _ _)) (ba _ _)) hb2.out⟩
theorem sMF_no (a b : ByteArray) (w : World) (hG : Hid (∀ w, Calls Tryd.prog 30 #[.string a, .string b] w fun e w' => e = .returned (.bool false) ∧ w = w')) :
    Calls Tryd.prog 12 #[.string a, .string b] w fun e w' => AnsI w 0 false e w' := by
  go_enter Tryd.func12, Tryd.ntmps12
  go_wp2_with fail
  refine (hG.out _).mono ?_; rintro e w' ⟨rfl, rfl⟩
  go_wp2_with fail
  go_ret2
  exact ⟨rfl, Below.refl _ _⟩
theorem sMF_yes (a b : ByteArray) (X Y L : Int) (R : Int) (w : World) (hG : Hid (∀ w, Calls Tryd.prog 30 #[.string a, .string b] w fun e w' => e = .returned (.bool true) ∧ w = w'))
    (hN : Hid (∀ w, Calls Tryd.prog 31 #[.string a, .string b] w fun e w' => e = .returned (.tuple #[.int .i64 X, .int .i64 Y, .int .i64 L]) ∧ Below w.heap.size w w'))
    (hM : Hid (∀ w, Calls Tryd.prog 25 #[.int .i64 X, .int .i64 Y, .int .i64 L] w fun e w' => e = .returned (.int .i64 R) ∧ w = w')) :
    Calls Tryd.prog 12 #[.string a, .string b] w fun e w' => AnsI w R true e w' := by
  go_enter Tryd.func12, Tryd.ntmps12
  go_wp2_with fail
  refine (hG.out _).mono ?_; rintro e w' ⟨rfl, rfl⟩
  go_wp2_with fail
  refine (hN.out _).mono ?_; rintro e w2 ⟨rfl, hb2⟩
  go_wp2_with fail
  refine (hM.out _).mono ?_; rintro e w' ⟨rfl, rfl⟩
  go_wp2_with fail
  go_ret2
  exact ⟨rfl, hb2⟩
theorem two_any (a b : ByteArray) (w : World) (ha : a.size ≤ maxLen) (hb : b.size ≤ maxLen) (c : Bool) (h : twoB a b = c) : Calls Tryd.prog 30 #[.string a, .string b] w fun e w' => e = .returned (.bool c) ∧ w = w' := by
  have := riTwo_any a b w ha hb
  rw [h] at this; exact this
theorem MeanFrom_both (a b : ByteArray) (ha : a.size ≤ maxLen) (hb : b.size ≤ maxLen) : ∃ (r : Int) (ok : Bool),
    (∀ w, Calls Tryd.prog 12 #[.string a, .string b] w fun e w' => e = .returned (.tuple #[.int .i64 r, .bool ok]) ∧ Below w.heap.size w w') ∧
    (∀ w, TabOk w → Calls Tryd.prog 13 #[.string a, .string b] w fun e w' => e = .returned (.tuple #[.int .i64 r, .bool ok]) ∧ Below w.heap.size w w') := by
  cases h : twoB a b
  · exact ⟨0, false, fun w => sMF_no a b w (Lib.hid fun w => two_any a b w ha hb _ h), fun w hT => iMF_no a b w hT (Lib.hid fun w hw => two_no a b w ha hb h hw)⟩
  · obtain ⟨n, x, y, h1, h2, h3, h4, rfl, rfl⟩ := of_two a b h
    exact ⟨_, true, fun w => sMF_yes _ _ _ _ _ _ w (Lib.hid fun w => two_any _ _ w ha hb _ h) (Lib.hid fun w => waNumbers_ST n x y w h2 h3 h4) (Lib.hid fun w => waMean_any n (num x) (num y) w h2 (num_lt n x h3) (num_lt n y h4)), fun w hT => iMF_yes _ _ n x y _ w hT (Lib.hid fun w hw => two_yes n x y w h1 h2 h3 h4 hw) (Lib.hid fun w hw => meanMoves_any n x y w h2 h3 h4 hw)⟩
end Go.Proofs.YtfnhmacnghkgiadDoor
