/- MiddleOf: both ways. -/
import Derived.Test.YtbgdhiieeegnjaaDoorA3
namespace Go.Proofs.YtbgdhiieeegnjaaDoor
open Go Go.RowKit RM

theorem keepC {B : Prop} {N : Nat} {w a b : World} {v0 v1 v2 v3 : Value} (k : Below a.heap.size a b) (h : (a.cell? ⟨N, 0, none⟩ = some v0 ∧ a.cell? ⟨N, 1, none⟩ = some v1 ∧ a.cell? ⟨N, 2, none⟩ = some v2 ∧ a.cell? ⟨N, 3, none⟩ = some v3) ∧ B ∧ N + 2 ≤ a.heap.size ∧ Below N w a) :
    b.cell? ⟨N, 0, none⟩ = some v0 ∧ b.cell? ⟨N, 1, none⟩ = some v1 ∧ b.cell? ⟨N, 2, none⟩ = some v2 ∧ b.cell? ⟨N, 3, none⟩ = some v3 := by
  have hs := h.2.2.1
  refine ⟨?_, ?_, ?_, ?_⟩
  · rw [k.cell (p := ⟨N, 0, none⟩) (by show N < a.heap.size; omega)]; exact h.1.1
  · rw [k.cell (p := ⟨N, 1, none⟩) (by show N < a.heap.size; omega)]; exact h.1.2.1
  · rw [k.cell (p := ⟨N, 2, none⟩) (by show N < a.heap.size; omega)]; exact h.1.2.2.1
  · rw [k.cell (p := ⟨N, 3, none⟩) (by show N < a.heap.size; omega)]; exact h.1.2.2.2
theorem keepAll {N : Nat} {w a b : World} {v0 v1 v2 v3 : Value} (k : Below a.heap.size a b) (h : (a.cell? ⟨N, 0, none⟩ = some v0 ∧ a.cell? ⟨N, 1, none⟩ = some v1 ∧ a.cell? ⟨N, 2, none⟩ = some v2 ∧ a.cell? ⟨N, 3, none⟩ = some v3) ∧ N + 1 ≤ a.heap.size ∧ N + 2 ≤ a.heap.size ∧ Below N w a) :
    (b.cell? ⟨N, 0, none⟩ = some v0 ∧ b.cell? ⟨N, 1, none⟩ = some v1 ∧ b.cell? ⟨N, 2, none⟩ = some v2 ∧ b.cell? ⟨N, 3, none⟩ = some v3) ∧ N + 1 ≤ b.heap.size ∧ N + 2 ≤ b.heap.size ∧ Below N w b := by
  have hs := h.2.2.1
  have hz := k.size
  refine ⟨keepC k ⟨h.1, h.2.1, h.2.2⟩, by omega, by omega, h.2.2.2.trans (k.mono (by omega))⟩
theorem keepE {A B C : Prop} {N : Nat} {w v : World} (h : A ∧ B ∧ C ∧ Below N w v) : Below N w v := h.2.2.2
theorem keepT {A B : Prop} {w a : World} {N : Nat} (hT : TabOk w) (h : A ∧ B ∧ N + 2 ≤ a.heap.size ∧ Below w.heap.size w a) : TabOk a := hT.below h.2.2.2
set_option maxHeartbeats 2000000 in
set_option maxRecDepth 100000 in
theorem iMid_core (a b : ByteArray) (n x y : Nat) (M : Nat) (t : ByteArray) (w : World) (hx : x < 1048576) (hy : y < 1048576) (hX : num x < 1048576) (hY : num y < 1048576) (hT : TabOk w)
    (hM : (num x : Int) + ((num y : Int) - (num x : Int)).tdiv 2 = (M : Int)) (hM2 : M < 1048576)
    (hA : Hid (∀ w, TabOk w → Calls Tryd.prog 68 #[.string a, .string b] w fun e w' => e = .returned (.tuple #[(.agg #[.int .i64 ((ctz (x) : Nat) : Int), .bool (onB (x)), .int .i64 ((n : Nat) : Int), .int .u64 ((x : Nat) : Int)]), (.agg #[.int .i64 ((ctz (y) : Nat) : Int), .bool (onB (y)), .int .i64 ((n : Nat) : Int), .int .u64 ((y : Nat) : Int)]), .bool true]) ∧ Below w.heap.size w w'))
    (hB : Hid (∀ w, TabOk w → Calls Tryd.prog 65 #[.int .i64 n, .int .i64 M] w fun e w' => e = .returned (.agg #[.int .i64 ((ctz (gray M) : Nat) : Int), .bool (onB (gray M)), .int .i64 ((n : Nat) : Int), .int .u64 ((gray M : Nat) : Int)]) ∧ Below w.heap.size w w'))
    (hS : Hid (∀ w, Calls Tryd.prog 51 #[(.agg #[.int .i64 ((ctz (gray M) : Nat) : Int), .bool (onB (gray M)), .int .i64 ((n : Nat) : Int), .int .u64 ((gray M : Nat) : Int)])] w fun e w' => e = .returned (.string t) ∧ Below w.heap.size w w')) :
    Calls Tryd.prog 42 #[.string a, .string b] w fun e w' => AnsS w t true e w' := by
  have hT := Lib.hid hT
  have hMM := Lib.hid hM
  clear hM
  go_enter Tryd.func42, Tryd.ntmps42
  go_wp2_with fail
  refine (hA.out _ hT.out).mono ?_; rintro e w1 ⟨rfl, hb⟩
  have hT1 := Lib.hid (hT.out.below hb)
  have hb0 := Lib.hid hb
  clear hb
  go_wp2_with fail
  obtain ⟨W, hW⟩ : ∃ W, W = (w1.alloc (.cells #[.int .i64 (ctz x), .bool (onB x), .int .i64 n, .int .u64 x] 50)).alloc (.cells #[.int .i64 (ctz y), .bool (onB y), .int .i64 n, .int .u64 y] 50) := ⟨_, rfl⟩
  have hb : Below w1.heap.size w1 W := by subst hW; exact bt (ba _ _) (ba _ _)
  have hs : W.heap.size = w1.heap.size + 2 := by subst hW; simp
  have c0 : CellsOf W w1.heap.size n x := by subst hW; simp [CellsOf]
  have c1 : CellsOf W (w1.heap.size + 1) n y := by subst hW; simp [CellsOf]
  obtain ⟨p0, p1, p2, p3⟩ := c0
  obtain ⟨q0, q1, q2, q3⟩ := c1
  rw [← hW]
  clear hW
  go_region_held3 (fun w' => (w'.cell? ⟨w1.heap.size, 0, none⟩ = some (.int .i64 (ctz x)) ∧ w'.cell? ⟨w1.heap.size, 1, none⟩ = some (.bool (onB x)) ∧ w'.cell? ⟨w1.heap.size, 2, none⟩ = some (.int .i64 n) ∧ w'.cell? ⟨w1.heap.size, 3, none⟩ = some (.int .u64 x)) ∧ (w'.cell? ⟨w1.heap.size + 1, 0, none⟩ = some (.int .i64 (ctz y)) ∧ w'.cell? ⟨w1.heap.size + 1, 1, none⟩ = some (.bool (onB y)) ∧ w'.cell? ⟨w1.heap.size + 1, 2, none⟩ = some (.int .i64 n) ∧ w'.cell? ⟨w1.heap.size + 1, 3, none⟩ = some (.int .u64 y)) ∧ w1.heap.size + 2 ≤ w'.heap.size ∧ Below w1.heap.size w1 w') ((refine ⟨⟨?_, ?_, ?_, ?_⟩, ⟨?_, ?_, ?_, ?_⟩, ?_, ?_⟩ <;> first | assumption | go_keep | omega | exact hb.drew))
    (first | (go_at_call 61; refine (number_any _ _ _ ?_).mono ?_; (first | exact hx | exact hy); rintro e w' ⟨rfl, hb2⟩; obtain ⟨hc, hf⟩ := bcell hb2; have hz := hb2.size; have hbn := keepB hb2 (by assumption); obtain ⟨hl0, hl1⟩ := keepL hb2 (by assumption)))
  rename_i u1 u2 u3 u4 u5 u6 u7 u8 u9
  obtain ⟨⟨r0, r1, r2, r3⟩, _, hsz, hbw⟩ := u9
  clear hl1 hl0 hbn hz hf hc hb2 u8 u7 u6 u5 u4 u3 u2 u1 p0 p1 p2 p3 q0 q1 q2 q3 hs hb W
  obtain ⟨H, hH, hlo, hhi, hsum⟩ : ∃ H : Int, IntKind.i64.wrap ((IntKind.i64.wrap ((num y : Int) - (num x : Int))).tdiv 2) = H ∧ -1048576 ≤ H ∧ H ≤ 1048576 ∧ (num x : Int) + H = (M : Int) := by
    refine ⟨_, rfl, ?_⟩
    have e1 : IntKind.i64.wrap ((num y : Int) - (num x : Int)) = (num y : Int) - (num x : Int) := by rw [IntKind.wrap_i64]; omega
    have hm := hMM.out
    rw [e1]
    generalize ((num y : Int) - (num x : Int)).tdiv 2 = D at *
    have e2 : IntKind.i64.wrap D = D := by rw [IntKind.wrap_i64]; omega
    rw [e2]; omega
  rw [hH]
  have hsum := Lib.hid hsum
  clear hH
  have hwr : IntKind.i64.wrap ((num x : Int) + H) = (M : Int) := by rw [hsum.out, IntKind.wrap_i64]; omega
  have hwm : IntKind.i64.wrap (M : Int) = (M : Int) := by rw [IntKind.wrap_i64]; omega
  have hz0 : w1.heap.size < w'.heap.size := by omega
  have hz1 : w1.heap.size + 1 < w'.heap.size := by omega
  go_wp2_with fail
  go_region_held3 (fun v => (v.cell? ⟨w1.heap.size, 0, none⟩ = some (.int .i64 (ctz x)) ∧ v.cell? ⟨w1.heap.size, 1, none⟩ = some (.bool (onB x)) ∧ v.cell? ⟨w1.heap.size, 2, none⟩ = some (.int .i64 n) ∧ v.cell? ⟨w1.heap.size, 3, none⟩ = some (.int .u64 x)) ∧ w1.heap.size + 1 ≤ v.heap.size ∧ w1.heap.size + 2 ≤ v.heap.size ∧ Below w1.heap.size w1 v) ((first | assumption | (refine ⟨⟨?_, ?_, ?_, ?_⟩, ?_, ?_, ?_⟩ <;> first | assumption | go_keep | omega | exact hbw.drew)))
    (first | (go_at_call 61; refine (number_any _ _ _ ?_).mono ?_; (first | exact hx | exact hy); rintro e w' ⟨rfl, hb2⟩; have hz := hb2.size; obtain ⟨hc, hf⟩ := bcell hb2; have hbn := keepAll hb2 (by assumption); obtain ⟨hl0, hl1⟩ := keepL hb2 (by assumption)) | (go_at_call 65; (try (first | rw [hwm] | rw [hwr])); refine (hB.out _ ?_).mono ?_; (exact keepT hT1.out (by assumption)); rintro e w' ⟨rfl, hb2⟩; have hz := hb2.size; obtain ⟨hc, hf⟩ := bcell hb2; have hbn := keepAll hb2 (by assumption); obtain ⟨hl0, hl1⟩ := keepL hb2 (by assumption)) | (go_at_call 51; refine (hS.out _).mono ?_; rintro e w' ⟨rfl, hb2⟩; have hz := hb2.size; obtain ⟨hc, hf⟩ := bcell hb2; have hbn := keepAll hb2 (by assumption); obtain ⟨hl0, hl1⟩ := keepL hb2 (by assumption)))
  all_goals
    go_wp2_with fail
    go_ret2
    refine ⟨rfl, ?_⟩
    exact hb0.out.trans ((keepE (by assumption)).mono hb0.out.size)

theorem iMid_no (a b : ByteArray) (w : World) (hT : TabOk w)
    (hA : Hid (∀ w, TabOk w → Calls Tryd.prog 68 #[.string a, .string b] w fun e w' => e = .returned (.tuple #[(.agg #[.int .i64 ((ctz (0) : Nat) : Int), .bool (onB (0)), .int .i64 ((0 : Nat) : Int), .int .u64 ((0 : Nat) : Int)]), (.agg #[.int .i64 ((ctz (0) : Nat) : Int), .bool (onB (0)), .int .i64 ((0 : Nat) : Int), .int .u64 ((0 : Nat) : Int)]), .bool false]) ∧ Below w.heap.size w w')) :
    Calls Tryd.prog 42 #[.string a, .string b] w fun e w' => AnsS w ⟨#[]⟩ false e w' := by
  have hT := Lib.hid hT
  go_enter Tryd.func42, Tryd.ntmps42
  go_wp2_with fail
  refine (hA.out _ hT.out).mono ?_; rintro e w1 ⟨rfl, hb⟩
  have hb := Lib.hid hb
  go_wp2_with fail
  go_ret2
  exact ⟨rfl, bt (bt hb.out (ba _ _)) (ba _ _)⟩

theorem iMid_bad (a b : ByteArray) (w : World) (ha : a.size ≤ maxLen) (hb : b.size ≤ maxLen) (h : twoB a b = false) (hT : TabOk w) :
    Calls Tryd.prog 42 #[.string a, .string b] w fun e w' => AnsS w ⟨#[]⟩ false e w' :=
  iMid_no a b w hT (Lib.hid fun w hw => two_no a b w ha hb h hw)

theorem iMid_ST (n x y : Nat) (w : World) (h1 : 1 ≤ n) (hn : n ≤ 20) (hx : x < 2 ^ n) (hy : y < 2 ^ n) (hT : TabOk w) :
    Calls Tryd.prog 42 #[.string (ST n x), .string (ST n y)] w fun e w' => AnsS w (ST n (gray (midN x y))) true e w' := by
  have lx := Nat.lt_of_lt_of_le hx (pow20 hn)
  have ly := Nat.lt_of_lt_of_le hy (pow20 hn)
  obtain ⟨hm, he⟩ := mid_lt n x y hx hy
  have lm : midN x y < 1048576 := Nat.lt_of_lt_of_le hm (pow20 hn)
  have lg : gray (midN x y) < 1048576 := gray_lt 20 _ lm
  exact iMid_core _ _ n x y (midN x y) _ w lx ly (num_lt 20 x lx) (num_lt 20 y ly) hT he.symm lm (Lib.hid fun w hw => two_yes n x y w h1 hn hx hy hw) (Lib.hid fun w hw => barOfNumber_any n (midN x y) w hn lm hw) (Lib.hid fun w => text_any n _ w lg hn)

theorem sMid_bad (a b : ByteArray) (w : World) (ha : a.size ≤ maxLen) (hb : b.size ≤ maxLen) (h : twoB a b = false) :
    Calls Tryd.prog 41 #[.string a, .string b] w fun e w' => AnsS w ⟨#[]⟩ false e w' := by
  have hG := Lib.hid fun w => by
    have := riTwo_any a b w ha hb
    rw [h] at this; exact this
  clear h
  go_enter Tryd.func41, Tryd.ntmps41
  go_wp2_with fail
  refine (hG.out _).mono ?_; rintro e w1 ⟨rfl, rfl⟩
  go_wp2_with fail
  go_ret2
  exact ⟨rfl, Below.refl _ _⟩

theorem sMid_core (a b : ByteArray) (n X Y M : Nat) (t : ByteArray) (w : World) (hX : X < 1048576) (hY : Y < 1048576) (hM2 : M < 1048576) (hs : Hid (a.size = n))
    (hM : (X : Int) + ((Y : Int) - (X : Int)).tdiv 2 = (M : Int))
    (hG : Hid (∀ w, Calls Tryd.prog 66 #[.string a, .string b] w fun e w' => e = .returned (.bool true) ∧ w = w'))
    (hA : Hid (∀ w, Calls Tryd.prog 60 #[.string a] w fun e w' => e = .returned (.int .i64 (X : Int)) ∧ w = w'))
    (hB : Hid (∀ w, Calls Tryd.prog 60 #[.string b] w fun e w' => e = .returned (.int .i64 (Y : Int)) ∧ w = w'))
    (hS : Hid (∀ w, Calls Tryd.prog 63 #[.int .i64 n, .int .i64 M] w fun e w' => e = .returned (.string t) ∧ ∃ q, w' = w.drewN q)) :
    Calls Tryd.prog 41 #[.string a, .string b] w fun e w' => AnsS w t true e w' := by
  obtain ⟨D, hD, hlo, hhi, hsum⟩ : ∃ D : Int, ((Y : Int) - (X : Int)).tdiv 2 = D ∧ -1048576 ≤ D ∧ D ≤ 1048576 ∧ Hid ((X : Int) + D = (M : Int)) := ⟨_, rfl, by omega, by omega, Lib.hid hM⟩
  have hD := Lib.hid hD
  clear hM
  go_enter Tryd.func41, Tryd.ntmps41
  go_wp2_with fail
  refine (hG.out _).mono ?_; rintro e w' ⟨rfl, rfl⟩
  go_wp2_with fail
  refine (hA.out _).mono ?_; rintro e w' ⟨rfl, rfl⟩
  go_wp2_with fail
  refine (hB.out _).mono ?_; rintro e w' ⟨rfl, rfl⟩
  go_wp2_with fail
  refine (hA.out _).mono ?_; rintro e w' ⟨rfl, rfl⟩
  go_wp2_with fail
  rw [hsum.out, hs.out]
  refine (hS.out _).mono ?_; rintro e w' ⟨rfl, q, rfl⟩
  go_wp2_with fail
  go_ret2; exact ⟨rfl, below_q _ _⟩

theorem sMid_ST (n x y : Nat) (w : World) (h1 : 1 ≤ n) (hn : n ≤ 20) (hx : x < 2 ^ n) (hy : y < 2 ^ n) :
    Calls Tryd.prog 41 #[.string (ST n x), .string (ST n y)] w fun e w' => AnsS w (ST n (gray (midN x y))) true e w' := by
  have lx := Nat.lt_of_lt_of_le hx (pow20 hn)
  have ly := Nat.lt_of_lt_of_le hy (pow20 hn)
  obtain ⟨hm, he⟩ := mid_lt n x y hx hy
  have lm : midN x y < 1048576 := Nat.lt_of_lt_of_le hm (pow20 hn)
  exact sMid_core _ _ n (num x) (num y) (midN x y) _ w (num_lt 20 x lx) (num_lt 20 y ly) lm (Lib.hid (ST_size n x)) he.symm (Lib.hid fun w => by
    have := riTwo_any (ST n x) (ST n y) w (by rw [ST_size]; unfold maxLen; omega) (by rw [ST_size]; unfold maxLen; omega)
    rw [two_ST n x y h1 hn] at this; exact this) (Lib.hid fun w => riNumber_ST n x w hn hx) (Lib.hid fun w => riNumber_ST n y w hn hy) (Lib.hid fun w => riState_any n (midN x y) w hn lm)

end Go.Proofs.YtbgdhiieeegnjaaDoor
