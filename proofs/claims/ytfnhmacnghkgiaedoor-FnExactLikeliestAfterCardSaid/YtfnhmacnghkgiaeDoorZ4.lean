/- Chapter 7: MeanToClear, MeanFrom, both ways. -/
import Derived.Test.YtfnhmacnghkgiaeDoorZ3
namespace Go.Proofs.YtfnhmacnghkgiaeDoor
open Go Go.RowKit RM
theorem kpB {a1 N : Nat} {w a b : World} {v0 v1 v2 v3 : Value} (h1 : a1 < N) (k : Below a.heap.size a b)
    (h : (a.cell? ⟨a1, 0, none⟩ = some v0 ∧ a.cell? ⟨a1, 1, none⟩ = some v1 ∧ a.cell? ⟨a1, 2, none⟩ = some v2 ∧ a.cell? ⟨a1, 3, none⟩ = some v3) ∧ N ≤ a.heap.size ∧ Below N w a) :
    (b.cell? ⟨a1, 0, none⟩ = some v0 ∧ b.cell? ⟨a1, 1, none⟩ = some v1 ∧ b.cell? ⟨a1, 2, none⟩ = some v2 ∧ b.cell? ⟨a1, 3, none⟩ = some v3) ∧ N ≤ b.heap.size ∧ Below N w b :=
  ⟨kp4 (Nat.lt_of_lt_of_le h1 h.2.1) k h.1, Nat.le_trans h.2.1 k.size, h.2.2.trans (k.mono h.2.1)⟩
theorem kpBE {A B : Prop} {N : Nat} {w v : World} (h : A ∧ B ∧ Below N w v) : Below N w v := h.2.2
/-- one bar in memory -/
abbrev B1 (n x a N : Nat) (W w' : World) : Prop := (w'.cell? ⟨a, 0, none⟩ = some (.int .i64 (ctz x)) ∧ w'.cell? ⟨a, 1, none⟩ = some (.bool (onB x)) ∧ w'.cell? ⟨a, 2, none⟩ = some (.int .i64 n) ∧ w'.cell? ⟨a, 3, none⟩ = some (.int .u64 x)) ∧ N ≤ w'.heap.size ∧ Below N W w'

theorem good_any (s : ByteArray) (w : World) (hs : s.size ≤ maxLen) (b : Bool) (h : goodB s.data.toList = b) : Calls Tryd.prog 57 #[.string s] w fun e w' => e = .returned (.bool b) ∧ w = w' := by
  have := riGood_any s w hs
  rw [h] at this; exact this
theorem ST_max (n x : Nat) (h : n ≤ 20) : (ST n x).size ≤ maxLen := by rw [ST_size]; unfold maxLen; omega

theorem waNumbers_core (a b : ByteArray) (n X Y : Nat) (P : Int) (w : World) (hs : Hid (a.size = n)) (hn : n ≤ 20) (hP : (2 : Int) ^ n = P) (p1 : 1 ≤ P) (p2 : P ≤ 1048576)
    (hA : Hid (∀ w, Calls Tryd.prog 38 #[.string a] w fun e w' => e = .returned (.int .i64 (X : Int)) ∧ w = w'))
    (hB : Hid (∀ w, Calls Tryd.prog 38 #[.string b] w fun e w' => e = .returned (.int .i64 (Y : Int)) ∧ w = w')) :
    Calls Tryd.prog 28 #[.string a, .string b] w fun e w' => e = .returned (.tuple #[.int .i64 X, .int .i64 Y, .int .i64 (P - 1)]) ∧ Below w.heap.size w w' := by
  have hsz := hs.out
  go_enter Tryd.func28, Tryd.ntmps28
  go_upto_region 1 with fail
  go_quiet (first | (go_at_call 38; (with_reducible refine Calls.quiet_of_same ((hA.out _).mono fun _ _ h => ⟨h.1, h.2.symm⟩))) | (go_at_call 38; refine Calls.quiet_of_same ((hB.out _).mono fun _ _ h => ⟨h.1, h.2.symm⟩)))
  go_wp2_with fail
  refine bodyPost_ret (v := .tuple #[.int .i64 X, .int .i64 Y, .int .i64 (P - 1)]) ?_ rfl ⟨rfl, below_drewN (Below.refl _ _) _⟩
  simp [results, Tryd.results28, go_sem]
theorem waNumbers_ST (n x y : Nat) (w : World) (hn : n ≤ 20) (hx : x < 2 ^ n) (hy : y < 2 ^ n) :
    Calls Tryd.prog 28 #[.string (ST n x), .string (ST n y)] w fun e w' => e = .returned (.tuple #[.int .i64 (num x : Nat), .int .i64 (num y : Nat), .int .i64 ((2 ^ n - 1 : Nat) : Int)]) ∧ Below w.heap.size w w' := by
  have hp := pow_pos1 n
  have := waNumbers_core (ST n x) (ST n y) n (num x) (num y) ((2 ^ n : Nat) : Int) w (Lib.hid (ST_size n x)) hn (pow_cast n) (by omega) (by have := pow20 hn; omega) (Lib.hid fun w => riNumber_ST n x w hn hx) (Lib.hid fun w => riNumber_ST n y w hn hy)
  rw [show ((2 ^ n - 1 : Nat) : Int) = ((2 ^ n : Nat) : Int) - 1 from by omega]
  exact this

end Go.Proofs.YtfnhmacnghkgiaeDoor
