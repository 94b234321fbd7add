/- Two rings at once: bars of states; the moves of a state and a move made, both ways. -/
import Derived.Test.YtmbijomjilicgabDoorB3
namespace Go.Proofs.YtmbijomjilicgabDoor
open Go Go.RowKit RM

theorem pb_yes (s : ByteArray) (n x : Nat) (w : World) (hT : TabOk w)
    (hB : Hid (∀ w, TabOk w → Calls Tryd.prog 60 #[.string s] w fun e w' => e = .returned (.tuple #[(.agg #[.int .i64 ((ctz (x) : Nat) : Int), .bool (onB (x)), .int .i64 ((n : Nat) : Int), .int .u64 ((x : Nat) : Int)]), .bool true]) ∧ Below w.heap.size w w'))
    (hP : Hid (∀ w, Calls Tryd.prog 45 #[.int .i64 n] w fun e w' => e = .returned (.bool true) ∧ w = w')) :
    Calls Tryd.prog 37 #[.string s] w fun e w' => e = .returned (.tuple #[(.agg #[.int .i64 ((ctz (x) : Nat) : Int), .bool (onB (x)), .int .i64 ((n : Nat) : Int), .int .u64 ((x : Nat) : Int)]), .bool true]) ∧ Below w.heap.size w w' := by
  have hT := Lib.hid hT
  go_enter Tryd.func37, Tryd.ntmps37
  go_wp2_with fail
  refine (hB.out _ ?_).mono ?_
  · repeat (first | exact hT.out | apply TabOk.alloc | apply TabOk.drew | apply TabOk.drewN)
  rintro e w1 ⟨rfl, hb⟩
  have hs1 := hb.size
  simp only [World.size_alloc] at hs1
  have f0 : ∀ o, w1.cell? ⟨w.heap.size, o, none⟩ = _ := fun o => hb.cell (p := ⟨w.heap.size, o, none⟩) (by simp)
  have g0 : ∀ o, w1.frozen? ⟨w.heap.size, o, none⟩ = _ := fun o => hb.frozen (p := ⟨w.heap.size, o, none⟩) (by simp)
  have hb := Lib.hid hb
  have l0 : w.heap.size < w1.heap.size := by omega
  have m0 : ¬ w.heap.size = w1.heap.size := by omega
  go_wp2_with fail
  refine (hP.out _).mono ?_; rintro e w2 ⟨rfl, rfl⟩
  go_wp2_with fail
  refine bodyPost_ret (v := .tuple #[(.agg #[.int .i64 ((ctz (x) : Nat) : Int), .bool (onB (x)), .int .i64 ((n : Nat) : Int), .int .u64 ((x : Nat) : Int)]), .bool true]) ?_ rfl ⟨rfl, ?_⟩
  · simp [results, Tryd.results37, go_sem, f0, l0]
  · have hBB := Lib.hid (bt (ba w _) hb.out)
    refine Below.alloc (Below.setCell (Below.setCell (Below.setCell (Below.setCell hBB.out ?_ _) ?_ _) ?_ _) ?_ _) ?_ _
    all_goals (simp <;> omega)
theorem pb_no (s : ByteArray) (n x : Nat) (ok c : Bool) (w : World) (hT : TabOk w) (hno : ok = false ∨ (ok = true ∧ c = false))
    (hB : Hid (∀ w, TabOk w → Calls Tryd.prog 60 #[.string s] w fun e w' => e = .returned (.tuple #[(.agg #[.int .i64 ((ctz (x) : Nat) : Int), .bool (onB (x)), .int .i64 ((n : Nat) : Int), .int .u64 ((x : Nat) : Int)]), .bool ok]) ∧ Below w.heap.size w w'))
    (hP : Hid (∀ w, Calls Tryd.prog 45 #[.int .i64 n] w fun e w' => e = .returned (.bool c) ∧ w = w')) :
    Calls Tryd.prog 37 #[.string s] w fun e w' => e = .returned (.tuple #[(.agg #[.int .i64 ((ctz (0) : Nat) : Int), .bool (onB (0)), .int .i64 ((0 : Nat) : Int), .int .u64 ((0 : Nat) : Int)]), .bool false]) ∧ Below w.heap.size w w' := by
  rw [← bz]
  have hT := Lib.hid hT
  rcases hno with rfl | ⟨rfl, rfl⟩
  · go_enter Tryd.func37, Tryd.ntmps37
    go_wp2_with fail
    refine (hB.out _ ?_).mono ?_
    · repeat (first | exact hT.out | apply TabOk.alloc | apply TabOk.drew | apply TabOk.drewN)
    rintro e w1 ⟨rfl, hb⟩
    have hs1 := hb.size
    simp only [World.size_alloc] at hs1
    have f0 : ∀ o, w1.cell? ⟨w.heap.size, o, none⟩ = _ := fun o => hb.cell (p := ⟨w.heap.size, o, none⟩) (by simp)
    have g0 : ∀ o, w1.frozen? ⟨w.heap.size, o, none⟩ = _ := fun o => hb.frozen (p := ⟨w.heap.size, o, none⟩) (by simp)
    have hb := Lib.hid hb
    have l0 : w.heap.size < w1.heap.size := by omega
    have m0 : ¬ w.heap.size = w1.heap.size := by omega
    go_wp2_with fail
    refine bodyPost_ret (v := .tuple #[.agg #[.int .i64 0, .bool false, .int .i64 0, .int .u64 0], .bool false]) ?_ rfl ⟨rfl, ?_⟩
    · simp [results, Tryd.results37, go_sem, f0, l0]
    · have hBB := Lib.hid (bt (ba w _) hb.out)
      refine Below.alloc (Below.setCell (Below.setCell (Below.setCell (Below.setCell hBB.out ?_ _) ?_ _) ?_ _) ?_ _) ?_ _
      all_goals (simp <;> omega)
  · go_enter Tryd.func37, Tryd.ntmps37
    go_wp2_with fail
    refine (hB.out _ ?_).mono ?_
    · repeat (first | exact hT.out | apply TabOk.alloc | apply TabOk.drew | apply TabOk.drewN)
    rintro e w1 ⟨rfl, hb⟩
    have hs1 := hb.size
    simp only [World.size_alloc] at hs1
    have f0 : ∀ o, w1.cell? ⟨w.heap.size, o, none⟩ = _ := fun o => hb.cell (p := ⟨w.heap.size, o, none⟩) (by simp)
    have g0 : ∀ o, w1.frozen? ⟨w.heap.size, o, none⟩ = _ := fun o => hb.frozen (p := ⟨w.heap.size, o, none⟩) (by simp)
    have hb := Lib.hid hb
    have l0 : w.heap.size < w1.heap.size := by omega
    have m0 : ¬ w.heap.size = w1.heap.size := by omega
    go_wp2_with fail
    refine (hP.out _).mono ?_; rintro e w2 ⟨rfl, rfl⟩
    go_wp2_with fail
    refine bodyPost_ret (v := .tuple #[.agg #[.int .i64 0, .bool false, .int .i64 0, .int .u64 0], .bool false]) ?_ rfl ⟨rfl, ?_⟩
    · simp [results, Tryd.results37, go_sem, f0, l0]
    · have hBB := Lib.hid (bt (ba w _) hb.out)
      refine Below.alloc (Below.setCell (Below.setCell (Below.setCell (Below.setCell hBB.out ?_ _) ?_ _) ?_ _) ?_ _) ?_ _
      all_goals (simp <;> omega)
theorem pb_ST (n x : Nat) (w : World) (h2 : 2 ≤ n) (hn : n ≤ 12) (hx : x < 2 ^ n) (hT : TabOk w) :
    Calls Tryd.prog 37 #[.string (ST n x)] w fun e w' => e = .returned (.tuple #[(.agg #[.int .i64 ((ctz (x) : Nat) : Int), .bool (onB (x)), .int .i64 ((n : Nat) : Int), .int .u64 ((x : Nat) : Int)]), .bool true]) ∧ Below w.heap.size w w' :=
  pb_yes _ n x w hT (Lib.hid fun w hw => barOf_ST n x w (by omega) (by omega) hx hw) (Lib.hid fun w => by
    have := isPaired_any n w
    rw [show (decide (2 ≤ (n : Int)) && decide ((n : Int) ≤ 12)) = true from by simp; omega] at this; exact this)
theorem pb_bad (s : ByteArray) (w : World) (hs : s.size ≤ maxLen) (h : twoG s = false) (hT : TabOk w) :
    Calls Tryd.prog 37 #[.string s] w fun e w' => e = .returned (.tuple #[(.agg #[.int .i64 ((ctz (0) : Nat) : Int), .bool (onB (0)), .int .i64 ((0 : Nat) : Int), .int .u64 ((0 : Nat) : Int)]), .bool false]) ∧ Below w.heap.size w w' := by
  obtain ⟨n, x, ok, e1, s1, hA⟩ := barOf_all s hs
  refine pb_no s n x ok _ w hT ?_ (Lib.hid hA) (Lib.hid fun w => isPaired_any n w)
  unfold twoG at h
  rw [← e1] at h
  cases ok
  · left; rfl
  · right
    refine ⟨rfl, ?_⟩
    rw [← s1 rfl] at h
    simp at h
    simp; omega

theorem tg_yes (n x : Nat) (w : World) (h2 : 2 ≤ n) (hn : n ≤ 12) : Calls Tryd.prog 33 #[.string (ST n x)] w fun e w' => e = .returned (.bool true) ∧ w = w' := by
  have := twGood_any (ST n x) w (by rw [ST_size]; unfold maxLen; omega)
  rw [twoG_ST n x h2 hn] at this; exact this
theorem tg_no (s : ByteArray) (w : World) (hs : s.size ≤ maxLen) (h : twoG s = false) : Calls Tryd.prog 33 #[.string s] w fun e w' => e = .returned (.bool false) ∧ w = w' := by
  have := twGood_any s w hs
  rw [h] at this; exact this
theorem pmL_le (n x : Nat) : (pmL n x).length ≤ n + 2 := by
  have := pmU_len n x (n + 1)
  rw [pmU_all] at this; exact this

end Go.Proofs.YtmbijomjilicgabDoor
