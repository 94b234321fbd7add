/- The functions of chapter 1 that answer a number or a text, both ways. -/
import Derived.Test.YtbgdhiieeegnjaaDoorI4
import Derived.Test.YtbgdhiieeegnjaaDoorS3
namespace Go.Proofs.YtbgdhiieeegnjaaDoor
open Go Go.RowKit RM

theorem bz : (.agg #[.int .i64 0, .bool false, .int .i64 0, .int .u64 0] : Value) = (.agg #[.int .i64 ((ctz (0) : Nat) : Int), .bool (onB (0)), .int .i64 ((0 : Nat) : Int), .int .u64 ((0 : Nat) : Int)]) := by
  rw [show ctz 0 = 0 from by rw [ctz]; simp]; rfl
theorem below_q (w : World) (q : Nat) : Below w.heap.size w (w.drewN q) := below_drewN (Below.refl _ _) q
theorem bt {w a b : World} (h : Below w.heap.size w a) (k : Below a.heap.size a b) : Below w.heap.size w b := h.trans (k.mono h.size)
theorem ba (w : World) (o : Obj) : Below w.heap.size w (w.alloc o) := (Below.refl _ _).alloc (Nat.le_refl _) o

/-- what a number with its success is -/
def AnsI (w : World) (r : Int) (ok : Bool) (e : Ending) (w' : World) : Prop := e = .returned (.tuple #[.int .i64 r, .bool ok]) ∧ Below w.heap.size w w'
def AnsS (w : World) (s : ByteArray) (ok : Bool) (e : Ending) (w' : World) : Prop := e = .returned (.tuple #[.string s, .bool ok]) ∧ Below w.heap.size w w'

theorem iNumber_core (s : ByteArray) (n x : Nat) (ok : Bool) (w : World) (hx : x < 1048576) (hT : TabOk w)
    (hB : Hid (∀ w, TabOk w → Calls Tryd.prog 45 #[.string s] w fun e w' => e = .returned (.tuple #[(.agg #[.int .i64 ((ctz (x) : Nat) : Int), .bool (onB (x)), .int .i64 ((n : Nat) : Int), .int .u64 ((x : Nat) : Int)]), .bool ok]) ∧ Below w.heap.size w w')) :
    Calls Tryd.prog 32 #[.string s] w fun e w' => AnsI w ((num x : Nat) : Int) ok e w' := by
  have hT := Lib.hid hT
  have hN := Lib.hid fun w => number_any n x w hx
  go_enter Tryd.func32, Tryd.ntmps32
  go_wp2_with fail
  refine (hB.out _ hT.out).mono ?_; rintro e w1 ⟨rfl, hb⟩
  have hb := Lib.hid hb
  go_wp2_with fail
  refine (hN.out _).mono ?_; rintro e w2 ⟨rfl, hb2⟩
  have hb2 := Lib.hid hb2
  go_wp2_with fail
  go_ret2
  exact ⟨rfl, bt (bt hb.out (ba _ _)) hb2.out⟩

theorem iNumber_ST (n x : Nat) (w : World) (h1 : 1 ≤ n) (hn : n ≤ 20) (hx : x < 2 ^ n) (hT : TabOk w) :
    Calls Tryd.prog 32 #[.string (ST n x)] w fun e w' => AnsI w ((num x : Nat) : Int) true e w' :=
  iNumber_core _ n x true w (Nat.lt_of_lt_of_le hx (pow20 hn)) hT (Lib.hid fun w hw => barOf_ST n x w h1 hn hx hw)

theorem iNumber_bad (s : ByteArray) (w : World) (hs : s.size ≤ maxLen) (h : goodB s.data.toList = false) (hT : TabOk w) :
    Calls Tryd.prog 32 #[.string s] w fun e w' => AnsI w 0 false e w' := by
  have := iNumber_core s 0 0 false w (by omega) hT (Lib.hid fun w _ => by have := barOf_bad s w hs h; rw [bz] at this; exact this)
  rw [num_zero] at this; exact this

theorem sNumber_ST (n x : Nat) (w : World) (h1 : 1 ≤ n) (hn : n ≤ 20) (hx : x < 2 ^ n) :
    Calls Tryd.prog 31 #[.string (ST n x)] w fun e w' => AnsI w ((num x : Nat) : Int) true e w' := by
  have hG := Lib.hid fun w => by
    have := riGood_any (ST n x) w (by rw [ST_size]; unfold maxLen; omega)
    rw [good_ST n x h1 hn] at this; exact this
  have hN := Lib.hid fun w => riNumber_ST n x w hn hx
  go_enter Tryd.func31, Tryd.ntmps31
  go_wp2_with fail
  refine (hG.out _).mono ?_; rintro e w1 ⟨rfl, rfl⟩
  go_wp2_with fail
  refine (hN.out _).mono ?_; rintro e w1 ⟨rfl, rfl⟩
  go_wp2_with fail
  go_ret2
  exact ⟨rfl, Below.refl _ _⟩

theorem sNumber_bad (s : ByteArray) (w : World) (hs : s.size ≤ maxLen) (h : goodB s.data.toList = false) :
    Calls Tryd.prog 31 #[.string s] w fun e w' => AnsI w 0 false e w' := by
  have hG := Lib.hid fun w => by
    have := riGood_any s w hs
    rw [h] at this; exact this
  clear h
  go_enter Tryd.func31, Tryd.ntmps31
  go_wp2_with fail
  refine (hG.out _).mono ?_; rintro e w1 ⟨rfl, rfl⟩
  go_wp2_with fail
  go_ret2
  exact ⟨rfl, Below.refl _ _⟩

theorem iCount_core (s : ByteArray) (n x : Nat) (ok : Bool) (w : World) (hx : x < 1048576) (hT : TabOk w)
    (hB : Hid (∀ w, TabOk w → Calls Tryd.prog 45 #[.string s] w fun e w' => e = .returned (.tuple #[(.agg #[.int .i64 ((ctz (x) : Nat) : Int), .bool (onB (x)), .int .i64 ((n : Nat) : Int), .int .u64 ((x : Nat) : Int)]), .bool ok]) ∧ Below w.heap.size w w')) :
    Calls Tryd.prog 16 #[.string s] w fun e w' => AnsI w ((pop x : Nat) : Int) ok e w' := by
  have hT := Lib.hid hT
  have hN := Lib.hid fun w => countOn_any n x w hx
  go_enter Tryd.func16, Tryd.ntmps16
  go_wp2_with fail
  refine (hB.out _ hT.out).mono ?_; rintro e w1 ⟨rfl, hb⟩
  have hb := Lib.hid hb
  go_wp2_with fail
  refine (hN.out _).mono ?_; rintro e w2 ⟨rfl, hb2⟩
  have hb2 := Lib.hid hb2
  go_wp2_with fail
  go_ret2
  exact ⟨rfl, bt (bt hb.out (ba _ _)) hb2.out⟩

theorem iCount_ST (n x : Nat) (w : World) (h1 : 1 ≤ n) (hn : n ≤ 20) (hx : x < 2 ^ n) (hT : TabOk w) :
    Calls Tryd.prog 16 #[.string (ST n x)] w fun e w' => AnsI w ((pop x : Nat) : Int) true e w' :=
  iCount_core _ n x true w (Nat.lt_of_lt_of_le hx (pow20 hn)) hT (Lib.hid fun w hw => barOf_ST n x w h1 hn hx hw)

theorem iCount_bad (s : ByteArray) (w : World) (hs : s.size ≤ maxLen) (h : goodB s.data.toList = false) (hT : TabOk w) :
    Calls Tryd.prog 16 #[.string s] w fun e w' => AnsI w 0 false e w' := by
  have := iCount_core s 0 0 false w (by omega) hT (Lib.hid fun w _ => by have := barOf_bad s w hs h; rw [bz] at this; exact this)
  rw [pop_zero] at this; exact this

theorem sCount_ST (n x : Nat) (w : World) (h1 : 1 ≤ n) (hn : n ≤ 20) (hx : x < 2 ^ n) :
    Calls Tryd.prog 15 #[.string (ST n x)] w fun e w' => AnsI w ((pop x : Nat) : Int) true e w' := by
  have hG := Lib.hid fun w => by
    have := riGood_any (ST n x) w (by rw [ST_size]; unfold maxLen; omega)
    rw [good_ST n x h1 hn] at this; exact this
  have hN := Lib.hid fun w => by
    have := riOn_any (ST n x) w (by rw [ST_size]; omega)
    rw [ons_ST n x hx] at this; exact this
  go_enter Tryd.func15, Tryd.ntmps15
  go_wp2_with fail
  refine (hG.out _).mono ?_; rintro e w1 ⟨rfl, rfl⟩
  go_wp2_with fail
  refine (hN.out _).mono ?_; rintro e w1 ⟨rfl, rfl⟩
  go_wp2_with fail
  go_ret2
  exact ⟨rfl, Below.refl _ _⟩

theorem sCount_bad (s : ByteArray) (w : World) (hs : s.size ≤ maxLen) (h : goodB s.data.toList = false) :
    Calls Tryd.prog 15 #[.string s] w fun e w' => AnsI w 0 false e w' := by
  have hG := Lib.hid fun w => by
    have := riGood_any s w hs
    rw [h] at this; exact this
  clear h
  go_enter Tryd.func15, Tryd.ntmps15
  go_wp2_with fail
  refine (hG.out _).mono ?_; rintro e w1 ⟨rfl, rfl⟩
  go_wp2_with fail
  go_ret2
  exact ⟨rfl, Below.refl _ _⟩

/-- a text is a state, or none -/
theorem text_cases (s : ByteArray) : goodB s.data.toList = false ∨ ∃ n x, 1 ≤ n ∧ n ≤ 20 ∧ x < 2 ^ n ∧ s = ST n x := by
  cases h : goodB s.data.toList
  · left; rfl
  · right; exact of_good s h
end Go.Proofs.YtbgdhiieeegnjaaDoor
