/- Chapter 2: the choice with a rank: the program's chooser, a closure over what is left. -/
import Derived.Test.YtbgdhiieeegnjacK3
import Derived.Test.YtbgdhiieeegnjacShelf
import Derived.Deep.QuietTactic
import Derived.BigQuiet
import Derived.Deep.RegionWith
import Derived.Deep.RegionHeld
namespace Go.Proofs.Ytbgdhiieeegnjac
open Go Go.RowKit RM

theorem grown_set (w : World) (a : Addr) (u : Value) : w.grownBy (w.setCell a u) (some a.block) :=
  ⟨rfl, rfl, rfl, by simp, fun k _ hne => Below.heap_setCell w a u k (fun e => hne (by rw [e]))⟩
theorem OwnI.setOther {w : World} {B : Nat} {v : Value} {xs : List Int} (h : OwnI w B v xs) (a : Addr) (u : Value) (ha : a.block < B) : OwnI (w.setCell a u) B v xs := by
  refine h.kept (grown_set w a u) ?_
  cases e : v.ownBlock with
  | none => left; rfl
  | some g => right; intro e2; have := (h.lt g e).1; cases e2; omega

theorem chooser_any (c r : Int) (w : World) : Calls Try.prog 45 #[.int .i64 c, .int .i64 r] w fun e w' =>
    e = .returned (.func (.func 68) #[] #[.pointer (some ⟨w.heap.size, 0, none⟩), .pointer (some ⟨w.heap.size + 1, 0, none⟩)]) ∧ w' = (w.alloc (.cells #[.int .i64 c] 3)).alloc (.cells #[.int .i64 r] 3) := by
  go_enter Try.func45, Try.ntmps45
  go_wp2_with fail
  go_ret; exact ⟨rfl, rfl⟩

theorem chosen_no (s k C1 : Nat) (r : Int) (b1 b2 : Nat) (w : World)
    (h1 : w.cell? ⟨b1, 0, none⟩ = some (.int .i64 k)) (h2 : w.cell? ⟨b2, 0, none⟩ = some (.int .i64 r))
    (hC1 : Hid (∀ w, Calls Try.prog 42 #[.int .i64 s, .int .i64 k] w fun e w' => e = .returned (.int .i64 C1) ∧ w = w')) (hr : r < (C1 : Int)) :
    Calls Try.prog 68 #[.int .i64 s, .pointer (some ⟨b1, 0, none⟩), .pointer (some ⟨b2, 0, none⟩)] w fun e w' => e = .returned (.bool false) ∧ w = w' := by
  go_enter Try.func68, Try.ntmps68
  go_wp2_with fail
  refine (hC1.out _).mono ?_; rintro e w' ⟨rfl, rfl⟩
  go_wp2_with fail
  go_ret; exact ⟨rfl, rfl⟩

set_option maxHeartbeats 1000000 in
theorem chosen_yes (s k C1 C2 r : Nat) (b1 b2 : Nat) (w : World) (hk : 1 ≤ k) (hk2 : k ≤ 20) (hne : b1 ≠ b2)
    (h1 : w.cell? ⟨b1, 0, none⟩ = some (.int .i64 k)) (h2 : w.cell? ⟨b2, 0, none⟩ = some (.int .i64 r)) (f1 : w.frozen? ⟨b1, 0, none⟩ = false) (f2 : w.frozen? ⟨b2, 0, none⟩ = false)
    (hC1 : Hid (∀ w, Calls Try.prog 42 #[.int .i64 s, .int .i64 k] w fun e w' => e = .returned (.int .i64 C1) ∧ w = w')) (hr : C1 ≤ r) (hr2 : r ≤ 200000) (hb1 : C1 ≤ 184756)
    (hC2 : Hid (∀ w, Calls Try.prog 42 #[.int .i64 s, .int .i64 ((k : Int) - 1)] w fun e w' => e = .returned (.int .i64 C2) ∧ w' = w)) (hb2 : C2 ≤ 184756) :
    Calls Try.prog 68 #[.int .i64 s, .pointer (some ⟨b1, 0, none⟩), .pointer (some ⟨b2, 0, none⟩)] w fun e w' => e = .returned (.bool true) ∧
      w' = ((w.setCell ⟨b1, 0, none⟩ (.int .i64 ((k : Int) - 1))).setCell ⟨b2, 0, none⟩ (.int .i64 ((C2 : Int) - 1 - ((r : Int) - C1)))).drew := by
  go_enter Try.func68, Try.ntmps68
  go_wp2_with fail
  refine (hC1.out _).mono ?_; rintro e w' ⟨rfl, rfl⟩
  go_wp2_with fail
  obtain ⟨W1, hW1⟩ : ∃ W1, W1 = w.setCell ⟨b1, 0, none⟩ (.int .i64 ((k : Int) - 1)) := ⟨_, rfl⟩
  have g1 : W1.cell? ⟨b1, 0, none⟩ = some (.int .i64 ((k : Int) - 1)) := by rw [hW1]; exact World.cell?_setCell_same' _ _ _ (by rw [h1]; rfl)
  have g2 : W1.cell? ⟨b2, 0, none⟩ = some (.int .i64 r) := by rw [hW1, World.cell?_setCell_far _ _ _ _ hne]; exact h2
  have g3 : W1.frozen? ⟨b2, 0, none⟩ = false := by rw [hW1, World.frozen?_setCell]; exact f2
  rw [← hW1]
  have HW := Lib.hid hW1
  clear hW1 h1 h2 f1 f2
  go_region_with (go_at_call 42; refine (hC2.out _).mono ?_; rintro e w' ⟨rfl, rfl⟩)
  all_goals
    rw [show IntKind.i64.wrap (IntKind.i64.wrap ((C2 : Int) - 1) - IntKind.i64.wrap ((r : Int) - (C1 : Int))) = (C2 : Int) - 1 - ((r : Int) - C1) from by simp only [IntKind.wrap_i64]; omega]
    go_wp2_with fail
    go_ret; exact ⟨rfl, by rw [HW.out]⟩
end Go.Proofs.Ytbgdhiieeegnjac
