/- NextMove: both ways. -/
import Derived.Test.YtbgdhiieeegnjabDoorN1
namespace Go.Proofs.YtbgdhiieeegnjabDoor
open Go Go.RowKit RM
theorem ST_toList {n x y : Nat} (hx : x < 2 ^ n) (hy : y < 2 ^ n) (h : x ≠ y) : ((ST n x).toList == (ST n y).toList) = false := by
  refine beq_eq_false_iff_ne.2 fun e => h ?_
  rw [ByteArray.toList_eq, ByteArray.toList_eq] at e
  have e2 : ST n x = ST n y := ByteArray.ext (Array.toList_inj.1 e)
  exact (ST_inj hx hy e2).2
theorem ctz_le20 (x : Nat) (h : x < 1048576) : ctz x ≤ 20 := by
  by_cases h0 : x = 0
  · subst h0; rw [ctz]; simp
  · exact Nat.le_of_lt (ctz_lt 20 x h0 h)
theorem iNext_no (a b : ByteArray) (w : World) (hT : TabOk w)
    (hA : Hid (∀ w, TabOk w → Calls Tryd.prog 27 #[.string a, .string b] w fun e w' => e = .returned (.tuple #[(.agg #[.int .i64 ((ctz (0) : Nat) : Int), .bool (onB (0)), .int .i64 ((0 : Nat) : Int), .int .u64 ((0 : Nat) : Int)]), (.agg #[.int .i64 ((ctz (0) : Nat) : Int), .bool (onB (0)), .int .i64 ((0 : Nat) : Int), .int .u64 ((0 : Nat) : Int)]), .bool false]) ∧ Below w.heap.size w w')) :
    Calls Tryd.prog 9 #[.string a, .string b] w fun e w' => AnsI w 0 false e w' := by
  have hT := Lib.hid hT
  go_enter Tryd.func9, Tryd.ntmps9
  go_wp2_with fail
  refine (hA.out _ hT.out).mono ?_; rintro e w1 ⟨rfl, hb⟩
  have hb := Lib.hid hb
  go_wp2_with fail
  go_ret2
  exact ⟨rfl, bt (bt hb.out (ba _ _)) (ba _ _)⟩

theorem iNext_same (a b : ByteArray) (n x : Nat) (w : World) (hT : TabOk w)
    (hA : Hid (∀ w, TabOk w → Calls Tryd.prog 27 #[.string a, .string b] w fun e w' => e = .returned (.tuple #[(.agg #[.int .i64 ((ctz (x) : Nat) : Int), .bool (onB (x)), .int .i64 ((n : Nat) : Int), .int .u64 ((x : Nat) : Int)]), (.agg #[.int .i64 ((ctz (x) : Nat) : Int), .bool (onB (x)), .int .i64 ((n : Nat) : Int), .int .u64 ((x : Nat) : Int)]), .bool true]) ∧ Below w.heap.size w w')) :
    Calls Tryd.prog 9 #[.string a, .string b] w fun e w' => AnsI w 0 false e w' := by
  have hT := Lib.hid hT
  go_enter Tryd.func9, Tryd.ntmps9
  go_wp2_with fail
  refine (hA.out _ hT.out).mono ?_; rintro e w1 ⟨rfl, hb⟩
  have hb := Lib.hid hb
  go_wp2_with fail
  go_ret2
  exact ⟨rfl, bt (bt hb.out (ba _ _)) (ba _ _)⟩

set_option maxRecDepth 100000 in
theorem iNext_up (a b : ByteArray) (n x y k : Nat) (w : World) (hT : TabOk w) (hne : x ≠ y)
    (hA : Hid (∀ w, TabOk w → Calls Tryd.prog 27 #[.string a, .string b] w fun e w' => e = .returned (.tuple #[(.agg #[.int .i64 ((ctz (x) : Nat) : Int), .bool (onB (x)), .int .i64 ((n : Nat) : Int), .int .u64 ((x : Nat) : Int)]), (.agg #[.int .i64 ((ctz (y) : Nat) : Int), .bool (onB (y)), .int .i64 ((n : Nat) : Int), .int .u64 ((y : Nat) : Int)]), .bool true]) ∧ Below w.heap.size w w'))
    (hR : Hid (∀ w, Calls Tryd.prog 28 #[(.agg #[.int .i64 ((ctz (x) : Nat) : Int), .bool (onB (x)), .int .i64 ((n : Nat) : Int), .int .u64 ((x : Nat) : Int)]), (.agg #[.int .i64 ((ctz (y) : Nat) : Int), .bool (onB (y)), .int .i64 ((n : Nat) : Int), .int .u64 ((y : Nat) : Int)])] w fun e w' => e = .returned (.func (.func 47) #[] #[]) ∧ Below w.heap.size w w'))
    (hK : Hid (∀ w, Calls Tryd.prog 47 #[(.agg #[.int .i64 ((ctz (x) : Nat) : Int), .bool (onB (x)), .int .i64 ((n : Nat) : Int), .int .u64 ((x : Nat) : Int)])] w fun e w' => e = .returned (.int .i64 (k : Int)) ∧ Below w.heap.size w w')) :
    Calls Tryd.prog 9 #[.string a, .string b] w fun e w' => AnsI w k true e w' := by
  have hT := Lib.hid hT
  go_enter Tryd.func9, Tryd.ntmps9
  go_wp2_with fail
  refine (hA.out _ hT.out).mono ?_; rintro e w1 ⟨rfl, hb⟩
  have hb := Lib.hid hb
  go_wp2_with fail
  refine (hR.out _).mono ?_; rintro e w2 ⟨rfl, hb2⟩
  have f2 : ∀ o, w2.cell? ⟨w1.heap.size, o, none⟩ = _ := fun o => hb2.cell (p := ⟨w1.heap.size, o, none⟩) (by simp; omega)
  have hb2 := Lib.hid hb2
  go_wp2_with fail
  refine (hK.out _).mono ?_; rintro e w3 ⟨rfl, hb3⟩
  have hb3 := Lib.hid hb3
  go_wp2_with fail
  go_ret2
  exact ⟨rfl, bt (bt (bt (bt hb.out (ba _ _)) (ba _ _)) hb2.out) hb3.out⟩

set_option maxRecDepth 100000 in
theorem iNext_down (a b : ByteArray) (n x y k : Nat) (w : World) (hT : TabOk w) (hne : x ≠ y)
    (hA : Hid (∀ w, TabOk w → Calls Tryd.prog 27 #[.string a, .string b] w fun e w' => e = .returned (.tuple #[(.agg #[.int .i64 ((ctz (x) : Nat) : Int), .bool (onB (x)), .int .i64 ((n : Nat) : Int), .int .u64 ((x : Nat) : Int)]), (.agg #[.int .i64 ((ctz (y) : Nat) : Int), .bool (onB (y)), .int .i64 ((n : Nat) : Int), .int .u64 ((y : Nat) : Int)]), .bool true]) ∧ Below w.heap.size w w'))
    (hR : Hid (∀ w, Calls Tryd.prog 28 #[(.agg #[.int .i64 ((ctz (x) : Nat) : Int), .bool (onB (x)), .int .i64 ((n : Nat) : Int), .int .u64 ((x : Nat) : Int)]), (.agg #[.int .i64 ((ctz (y) : Nat) : Int), .bool (onB (y)), .int .i64 ((n : Nat) : Int), .int .u64 ((y : Nat) : Int)])] w fun e w' => e = .returned (.func (.func 48) #[] #[]) ∧ Below w.heap.size w w'))
    (hK : Hid (∀ w, Calls Tryd.prog 48 #[(.agg #[.int .i64 ((ctz (x) : Nat) : Int), .bool (onB (x)), .int .i64 ((n : Nat) : Int), .int .u64 ((x : Nat) : Int)])] w fun e w' => e = .returned (.int .i64 (k : Int)) ∧ Below w.heap.size w w')) :
    Calls Tryd.prog 9 #[.string a, .string b] w fun e w' => AnsI w k true e w' := by
  have hT := Lib.hid hT
  go_enter Tryd.func9, Tryd.ntmps9
  go_wp2_with fail
  refine (hA.out _ hT.out).mono ?_; rintro e w1 ⟨rfl, hb⟩
  have hb := Lib.hid hb
  go_wp2_with fail
  refine (hR.out _).mono ?_; rintro e w2 ⟨rfl, hb2⟩
  have f2 : ∀ o, w2.cell? ⟨w1.heap.size, o, none⟩ = _ := fun o => hb2.cell (p := ⟨w1.heap.size, o, none⟩) (by simp; omega)
  have hb2 := Lib.hid hb2
  go_wp2_with fail
  refine (hK.out _).mono ?_; rintro e w3 ⟨rfl, hb3⟩
  have hb3 := Lib.hid hb3
  go_wp2_with fail
  go_ret2
  exact ⟨rfl, bt (bt (bt (bt hb.out (ba _ _)) (ba _ _)) hb2.out) hb3.out⟩

theorem iNext_ST (n x y : Nat) (w : World) (h1 : 1 ≤ n) (hn : n ≤ 20) (hx : x < 2 ^ n) (hy : y < 2 ^ n) (hne : x ≠ y) (hT : TabOk w) :
    Calls Tryd.prog 9 #[.string (ST n x), .string (ST n y)] w fun e w' => AnsI w (stepK x y) true e w' := by
  have lx := Nat.lt_of_lt_of_le hx (pow20 hn)
  have ly := Nat.lt_of_lt_of_le hy (pow20 hn)
  have hz : ctz x ≤ 20 := ctz_le20 x lx
  by_cases h : num x < num y
  · refine iNext_up _ _ n x y (stepK x y) w hT hne (Lib.hid fun w hw => two_yes n x y w h1 hn hx hy hw) (Lib.hid fun w => ?_) (Lib.hid fun w => ?_)
    · have := toward_any n x y w lx ly
      rw [if_pos h] at this; exact this
    · have := raising_any n x w lx hz
      rw [rise_up] at this
      unfold stepK; rw [if_pos h]; exact this
  · have h0 : num x ≠ num y := fun e => hne (num_inj e)
    refine iNext_down _ _ n x y (stepK x y) w hT hne (Lib.hid fun w hw => two_yes n x y w h1 hn hx hy hw) (Lib.hid fun w => ?_) (Lib.hid fun w => ?_)
    · have := toward_any n x y w lx ly
      rw [if_neg h] at this; exact this
    · have := lowering_any n x w lx hz
      rw [low_up x (by omega)] at this
      unfold stepK; rw [if_neg h]; exact this

theorem sNext_no (a b : ByteArray) (w : World) (hG : Hid (∀ w, Calls Tryd.prog 24 #[.string a, .string b] w fun e w' => e = .returned (.bool false) ∧ w = w')) :
    Calls Tryd.prog 8 #[.string a, .string b] w fun e w' => AnsI w 0 false e w' := by
  go_enter Tryd.func8, Tryd.ntmps8
  go_wp2_with fail
  refine (hG.out _).mono ?_; rintro e w1 ⟨rfl, rfl⟩
  go_wp2_with fail
  go_ret2
  exact ⟨rfl, Below.refl _ _⟩

theorem sNext_same (a : ByteArray) (w : World) (hG : Hid (∀ w, Calls Tryd.prog 24 #[.string a, .string a] w fun e w' => e = .returned (.bool true) ∧ w = w')) :
    Calls Tryd.prog 8 #[.string a, .string a] w fun e w' => AnsI w 0 false e w' := by
  go_enter Tryd.func8, Tryd.ntmps8
  go_wp2_with fail
  refine (hG.out _).mono ?_; rintro e w1 ⟨rfl, rfl⟩
  go_wp2_with fail
  go_ret2
  exact ⟨rfl, Below.refl _ _⟩

theorem sNext_core (a b t : ByteArray) (k : Nat) (w : World) (hne : (a.toList == b.toList) = false) (hG : Hid (∀ w, Calls Tryd.prog 24 #[.string a, .string b] w fun e w' => e = .returned (.bool true) ∧ w = w'))
    (hN : Hid (∀ w, Calls Tryd.prog 26 #[.string a, .string b] w fun e w' => e = .returned (.string t) ∧ ∃ q, w' = w.drewN q))
    (hD : Hid (∀ w, Calls Tryd.prog 25 #[.string a, .string t] w fun e w' => e = .returned (.int .i64 (k : Int)) ∧ Below w.heap.size w w')) :
    Calls Tryd.prog 8 #[.string a, .string b] w fun e w' => AnsI w k true e w' := by
  go_enter Tryd.func8, Tryd.ntmps8
  go_wp2_with fail
  refine (hG.out _).mono ?_; rintro e w1 ⟨rfl, rfl⟩
  go_wp2_with fail
  refine (hN.out _).mono ?_; rintro e w1 ⟨rfl, q, rfl⟩
  go_wp2_with fail
  refine (hD.out _).mono ?_; rintro e w1 ⟨rfl, hb⟩
  have hb := Lib.hid hb
  go_wp2_with fail
  go_ret2
  exact ⟨rfl, bt (below_q _ _) hb.out⟩

theorem sNext_ST (n x y : Nat) (w : World) (h1 : 1 ≤ n) (hn : n ≤ 20) (hx : x < 2 ^ n) (hy : y < 2 ^ n) (hne : x ≠ y) :
    Calls Tryd.prog 8 #[.string (ST n x), .string (ST n y)] w fun e w' => AnsI w (stepK x y) true e w' :=
  sNext_core _ _ _ _ w (ST_toList hx hy hne) (Lib.hid fun w => by
    have := riTwo_any (ST n x) (ST n y) w (by rw [ST_size]; unfold maxLen; omega) (by rw [ST_size]; unfold maxLen; omega)
    rw [two_ST n x y h1 hn] at this; exact this) (Lib.hid fun w => next_ST n x y w hn hx hy hne) (Lib.hid fun w => differs_ST n x _ w (stepK_lt n x y hne hx hy))

end Go.Proofs.YtbgdhiieeegnjabDoor
