/- The fewest moves, the ways and what is saved between two states, both ways. -/
import Derived.Test.YtmbijomjilicgabDoorB6
import Derived.Test.YtmbijomjilicgabDoorB7
import Derived.Deep.RegionWith
namespace Go.Proofs.YtmbijomjilicgabDoor
open Go Go.RowKit RM

/-- two states of as many rings, of two at least and of few -/
def twoP (a b : ByteArray) : Bool := twoG a && twoG b && ((a.size : Int) == (b.size : Int))
theorem of_twoP (a b : ByteArray) (h : twoP a b = true) : ∃ n x y, 2 ≤ n ∧ n ≤ 12 ∧ x < 2 ^ n ∧ y < 2 ^ n ∧ a = ST n x ∧ b = ST n y := by
  unfold twoP at h
  simp only [Bool.and_eq_true, beq_iff_eq] at h
  obtain ⟨⟨h1, h2⟩, h3⟩ := h
  obtain ⟨n, x, a1, a2, a3, rfl⟩ := of_twoG a h1
  obtain ⟨m, y, b1, b2, b3, rfl⟩ := of_twoG b h2
  rw [ST_size, ST_size] at h3
  obtain rfl : n = m := by omega
  exact ⟨n, x, y, a1, a2, a3, b3, rfl, rfl⟩
theorem twoP_ST (n x y : Nat) (h2 : 2 ≤ n) (hn : n ≤ 12) : twoP (ST n x) (ST n y) = true := by
  unfold twoP; rw [twoG_ST n x h2 hn, twoG_ST n y h2 hn, ST_size, ST_size]; simp
theorem twoP_twoB (a b : ByteArray) : twoP a b = (twoB a b && (decide (2 ≤ a.size) && decide (a.size ≤ 12))) := by
  unfold twoP twoB twoG
  by_cases e : (a.size : Int) = (b.size : Int)
  · have e2 : b.size = a.size := by omega
    rw [e2]
    cases goodB a.data.toList <;> cases goodB b.data.toList <;> cases decide (2 ≤ a.size) <;> cases decide (a.size ≤ 12) <;> simp
  · have e3 : ((a.size : Int) == (b.size : Int)) = false := by rw [beq_eq_false_iff_ne]; exact e
    rw [e3, Bool.and_false, Bool.and_false, Bool.false_and]

theorem twTwo_ab (a b : ByteArray) (w : World) (ha : a.size ≤ maxLen) (hb : b.size ≤ maxLen) (c d : Bool) (hc : Hid (twoG a = c)) (hd : Hid (twoG b = d)) :
    Calls Tryd.prog 28 #[.string a, .string b] w fun e w' => e = .returned (.bool (c && d && ((a.size : Int) == (b.size : Int)))) ∧ w = w' := by
  have A := twGood_any a w ha
  have B := twGood_any b w hb
  rw [hc.out] at A
  rw [hd.out] at B
  have A := Lib.hid A
  have B := Lib.hid B
  clear ha hb hc hd
  cases c
  · go_enter Tryd.func28, Tryd.ntmps28
    go_wp2_with fail
    refine A.out.mono ?_; rintro e w' ⟨rfl, rfl⟩
    go_wp2_with fail
    go_ret; exact ⟨rfl, rfl⟩
  · cases d
    · go_enter Tryd.func28, Tryd.ntmps28
      go_wp2_with fail
      refine A.out.mono ?_; rintro e w' ⟨rfl, rfl⟩
      go_wp2_with fail
      refine B.out.mono ?_; rintro e w' ⟨rfl, rfl⟩
      go_wp2_with fail
      go_ret; exact ⟨rfl, rfl⟩
    · go_enter Tryd.func28, Tryd.ntmps28
      go_wp2_with fail
      refine A.out.mono ?_; rintro e w' ⟨rfl, rfl⟩
      go_wp2_with fail
      refine B.out.mono ?_; rintro e w' ⟨rfl, rfl⟩
      go_wp2_with fail
      go_ret; exact ⟨rfl, rfl⟩
theorem twTwo_any (a b : ByteArray) (w : World) (ha : a.size ≤ maxLen) (hb : b.size ≤ maxLen) :
    Calls Tryd.prog 28 #[.string a, .string b] w fun e w' => e = .returned (.bool (twoP a b)) ∧ w = w' :=
  twTwo_ab a b w ha hb _ _ (Lib.hid rfl) (Lib.hid rfl)
theorem tt_yes (n x y : Nat) (w : World) (h2 : 2 ≤ n) (hn : n ≤ 12) : Calls Tryd.prog 28 #[.string (ST n x), .string (ST n y)] w fun e w' => e = .returned (.bool true) ∧ w = w' := by
  have := twTwo_any (ST n x) (ST n y) w (by rw [ST_size]; unfold maxLen; omega) (by rw [ST_size]; unfold maxLen; omega)
  rw [twoP_ST n x y h2 hn] at this; exact this
theorem tt_no (a b : ByteArray) (w : World) (ha : a.size ≤ maxLen) (hb : b.size ≤ maxLen) (h : twoP a b = false) : Calls Tryd.prog 28 #[.string a, .string b] w fun e w' => e = .returned (.bool false) ∧ w = w' := by
  have := twTwo_any a b w ha hb
  rw [h] at this; exact this

set_option maxRecDepth 100000 in
theorem tp_core (a b : ByteArray) (n x y : Nat) (w : World) (hT : TabOk w)
    (hA : Hid (∀ w, TabOk w → Calls Tryd.prog 56 #[.string a, .string b] w fun e w' => e = .returned (.tuple #[(.agg #[.int .i64 ((ctz (x) : Nat) : Int), .bool (onB (x)), .int .i64 ((n : Nat) : Int), .int .u64 ((x : Nat) : Int)]), (.agg #[.int .i64 ((ctz (y) : Nat) : Int), .bool (onB (y)), .int .i64 ((n : Nat) : Int), .int .u64 ((y : Nat) : Int)]), .bool true]) ∧ Below w.heap.size w w'))
    (hP : Hid (∀ w, Calls Tryd.prog 45 #[.int .i64 n] w fun e w' => e = .returned (.bool true) ∧ w = w')) :
    Calls Tryd.prog 30 #[.string a, .string b] w fun e w' => e = .returned (.tuple #[(.agg #[.int .i64 ((ctz (x) : Nat) : Int), .bool (onB (x)), .int .i64 ((n : Nat) : Int), .int .u64 ((x : Nat) : Int)]), (.agg #[.int .i64 ((ctz (y) : Nat) : Int), .bool (onB (y)), .int .i64 ((n : Nat) : Int), .int .u64 ((y : Nat) : Int)]), .bool true]) ∧ Below w.heap.size w w' := by
  have hT := Lib.hid hT
  go_enter Tryd.func30, Tryd.ntmps30
  go_wp2_with fail
  refine (hA.out _ ?_).mono ?_
  · repeat (first | exact hT.out | apply TabOk.alloc | apply TabOk.drew | apply TabOk.drewN)
  rintro e w1 ⟨rfl, hb1⟩
  have hs1 := hb1.size
  simp only [World.size_alloc] at hs1
  have f0 : ∀ o, w1.cell? ⟨w.heap.size, o, none⟩ = _ := fun o => hb1.cell (p := ⟨w.heap.size, o, none⟩) (by simp; omega)
  have f1 : ∀ o, w1.cell? ⟨w.heap.size + 1, o, none⟩ = _ := fun o => hb1.cell (p := ⟨w.heap.size + 1, o, none⟩) (by simp)
  have g0 : ∀ o, w1.frozen? ⟨w.heap.size, o, none⟩ = _ := fun o => hb1.frozen (p := ⟨w.heap.size, o, none⟩) (by simp; omega)
  have g1 : ∀ o, w1.frozen? ⟨w.heap.size + 1, o, none⟩ = _ := fun o => hb1.frozen (p := ⟨w.heap.size + 1, o, none⟩) (by simp)
  have hb1 := Lib.hid hb1
  have l0 : w.heap.size < w1.heap.size := by omega
  have l1 : w.heap.size + 1 < w1.heap.size := by omega
  have m0 : ¬ w.heap.size = w1.heap.size := by omega
  have m1 : ¬ w.heap.size + 1 = w1.heap.size := by omega
  have m2 : ¬ w.heap.size = w1.heap.size + 1 := by omega
  have m3 : ¬ w.heap.size + 1 = w1.heap.size + 1 := by omega
  have k0 : w.heap.size < w1.heap.size + 1 := by omega
  have k1 : w.heap.size + 1 < w1.heap.size + 1 := by omega
  go_wp2_with fail
  refine (hP.out _).mono ?_; rintro e w2 ⟨rfl, rfl⟩
  go_wp2_with fail
  go_region
  go_wp2_with fail
  refine bodyPost_ret (v := .tuple #[(.agg #[.int .i64 ((ctz (x) : Nat) : Int), .bool (onB (x)), .int .i64 ((n : Nat) : Int), .int .u64 ((x : Nat) : Int)]), (.agg #[.int .i64 ((ctz (y) : Nat) : Int), .bool (onB (y)), .int .i64 ((n : Nat) : Int), .int .u64 ((y : Nat) : Int)]), .bool true]) ?_ rfl ⟨rfl, ?_⟩
  · simp [results, Tryd.results30, go_sem, f0, f1, l0, l1, k0, k1]
  · have hB := Lib.hid (bt (bt (ba w _) (ba _ _)) hb1.out)
    refine Below.drew (Below.alloc (Below.alloc (Below.setCell (Below.setCell (Below.setCell (Below.setCell (Below.setCell (Below.setCell (Below.setCell (Below.setCell hB.out ?_ _) ?_ _) ?_ _) ?_ _) ?_ _) ?_ _) ?_ _) ?_ _) ?_ _) ?_ _)
    all_goals (simp <;> omega)
set_option maxRecDepth 100000 in
theorem tp_core_no (a b : ByteArray) (n x y : Nat) (ok c : Bool) (w : World) (hT : TabOk w) (hno : ok = false ∨ (ok = true ∧ c = false))
    (hA : Hid (∀ w, TabOk w → Calls Tryd.prog 56 #[.string a, .string b] w fun e w' => e = .returned (.tuple #[(.agg #[.int .i64 ((ctz (x) : Nat) : Int), .bool (onB (x)), .int .i64 ((n : Nat) : Int), .int .u64 ((x : Nat) : Int)]), (.agg #[.int .i64 ((ctz (y) : Nat) : Int), .bool (onB (y)), .int .i64 ((n : Nat) : Int), .int .u64 ((y : Nat) : Int)]), .bool ok]) ∧ Below w.heap.size w w'))
    (hP : Hid (∀ w, Calls Tryd.prog 45 #[.int .i64 n] w fun e w' => e = .returned (.bool c) ∧ w = w')) :
    Calls Tryd.prog 30 #[.string a, .string b] w fun e w' => e = .returned (.tuple #[(.agg #[.int .i64 ((ctz (0) : Nat) : Int), .bool (onB (0)), .int .i64 ((0 : Nat) : Int), .int .u64 ((0 : Nat) : Int)]), (.agg #[.int .i64 ((ctz (0) : Nat) : Int), .bool (onB (0)), .int .i64 ((0 : Nat) : Int), .int .u64 ((0 : Nat) : Int)]), .bool false]) ∧ Below w.heap.size w w' := by
  rw [← bz]
  have hT := Lib.hid hT
  rcases hno with rfl | ⟨rfl, rfl⟩
  all_goals
    go_enter Tryd.func30, Tryd.ntmps30
    go_wp2_with fail
    refine (hA.out _ ?_).mono ?_
    · repeat (first | exact hT.out | apply TabOk.alloc | apply TabOk.drew | apply TabOk.drewN)
    rintro e w1 ⟨rfl, hb1⟩
    have hs1 := hb1.size
    simp only [World.size_alloc] at hs1
    have f0 : ∀ o, w1.cell? ⟨w.heap.size, o, none⟩ = _ := fun o => hb1.cell (p := ⟨w.heap.size, o, none⟩) (by simp; omega)
    have f1 : ∀ o, w1.cell? ⟨w.heap.size + 1, o, none⟩ = _ := fun o => hb1.cell (p := ⟨w.heap.size + 1, o, none⟩) (by simp)
    have g0 : ∀ o, w1.frozen? ⟨w.heap.size, o, none⟩ = _ := fun o => hb1.frozen (p := ⟨w.heap.size, o, none⟩) (by simp; omega)
    have g1 : ∀ o, w1.frozen? ⟨w.heap.size + 1, o, none⟩ = _ := fun o => hb1.frozen (p := ⟨w.heap.size + 1, o, none⟩) (by simp)
    have hb1 := Lib.hid hb1
    have l0 : w.heap.size < w1.heap.size := by omega
    have l1 : w.heap.size + 1 < w1.heap.size := by omega
    have m0 : ¬ w.heap.size = w1.heap.size := by omega
    have m1 : ¬ w.heap.size + 1 = w1.heap.size := by omega
    have m2 : ¬ w.heap.size = w1.heap.size + 1 := by omega
    have m3 : ¬ w.heap.size + 1 = w1.heap.size + 1 := by omega
    have k0 : w.heap.size < w1.heap.size + 1 := by omega
    have k1 : w.heap.size + 1 < w1.heap.size + 1 := by omega
    go_wp2_with fail
    try (refine (hP.out _).mono ?_; rintro e w2 ⟨rfl, rfl⟩; go_wp2_with fail)
    refine bodyPost_ret (v := .tuple #[.agg #[.int .i64 0, .bool false, .int .i64 0, .int .u64 0], .agg #[.int .i64 0, .bool false, .int .i64 0, .int .u64 0], .bool false]) ?_ rfl ⟨rfl, ?_⟩
    · simp [results, Tryd.results30, go_sem, f0, f1, l0, l1, k0, k1]
    · have hB := Lib.hid (bt (bt (ba w _) (ba _ _)) hb1.out)
      refine Below.alloc (Below.alloc (Below.setCell (Below.setCell (Below.setCell (Below.setCell (Below.setCell (Below.setCell (Below.setCell (Below.setCell hB.out ?_ _) ?_ _) ?_ _) ?_ _) ?_ _) ?_ _) ?_ _) ?_ _) ?_ _) ?_ _
      all_goals (simp <;> omega)
theorem tp_ST (n x y : Nat) (w : World) (h2 : 2 ≤ n) (hn : n ≤ 12) (hx : x < 2 ^ n) (hy : y < 2 ^ n) (hT : TabOk w) :
    Calls Tryd.prog 30 #[.string (ST n x), .string (ST n y)] w fun e w' => e = .returned (.tuple #[(.agg #[.int .i64 ((ctz (x) : Nat) : Int), .bool (onB (x)), .int .i64 ((n : Nat) : Int), .int .u64 ((x : Nat) : Int)]), (.agg #[.int .i64 ((ctz (y) : Nat) : Int), .bool (onB (y)), .int .i64 ((n : Nat) : Int), .int .u64 ((y : Nat) : Int)]), .bool true]) ∧ Below w.heap.size w w' :=
  tp_core _ _ n x y w hT (Lib.hid fun w hw => two_yes n x y w (by omega) (by omega) hx hy hw) (Lib.hid fun w => by
    have := isPaired_any n w
    rw [show (decide (2 ≤ (n : Int)) && decide ((n : Int) ≤ 12)) = true from by simp; omega] at this; exact this)
theorem tp_bad (a b : ByteArray) (w : World) (ha : a.size ≤ maxLen) (hb : b.size ≤ maxLen) (h : twoP a b = false) (hT : TabOk w) :
    Calls Tryd.prog 30 #[.string a, .string b] w fun e w' => e = .returned (.tuple #[(.agg #[.int .i64 ((ctz (0) : Nat) : Int), .bool (onB (0)), .int .i64 ((0 : Nat) : Int), .int .u64 ((0 : Nat) : Int)]), (.agg #[.int .i64 ((ctz (0) : Nat) : Int), .bool (onB (0)), .int .i64 ((0 : Nat) : Int), .int .u64 ((0 : Nat) : Int)]), .bool false]) ∧ Below w.heap.size w w' := by
  rw [twoP_twoB] at h
  cases hB : twoB a b
  · exact tp_core_no a b 0 0 0 false _ w hT (.inl rfl) (Lib.hid fun w hw => two_no a b w ha hb hB hw) (Lib.hid fun w => isPaired_any _ w)
  · obtain ⟨n, x, y, h1, h2, h3, h4, rfl, rfl⟩ := of_two a b hB
    refine tp_core_no _ _ n x y true _ w hT (.inr ⟨rfl, ?_⟩) (Lib.hid fun w hw => two_yes n x y w h1 h2 h3 h4 hw) (Lib.hid fun w => isPaired_any n w)
    rw [hB, ST_size] at h
    simp at h
    simp; omega
set_option maxRecDepth 100000 in
theorem tfield1 (a b c : Value) (w : World) : (Instr.field 61 (.agg #[a, b, c]) 1).run Tryd.prog w = .ok b w := rfl
set_option maxRecDepth 100000 in
theorem tfield2 (a b c : Value) (w : World) : (Instr.field 61 (.agg #[a, b, c]) 2).run Tryd.prog w = .ok c w := rfl
/-- how many moves lead from one state to the other one -/
abbrev dS (x y : Nat) : Int := (dd (num x) (num y) : Int)
theorem sdL_get (n x y : Nat) (h : y < (sdL n x).length) : (sdL n x)[y] = dS x y := by simp [sdL]
theorem sdL_len (n x : Nat) : (sdL n x).length = 2 ^ n := by simp [sdL]

theorem sm_any (n x : Nat) (w : World) (h2 : 2 ≤ n) (hn : n ≤ 12) (hx : x < 2 ^ n) (hT : TabOk w) :
    Calls Tryd.prog 38 #[(.agg #[.int .i64 ((ctz (x) : Nat) : Int), .bool (onB (x)), .int .i64 ((n : Nat) : Int), .int .u64 ((x : Nat) : Int)])] w fun e w' => ∃ gm gw, e = .returned (.agg #[.int .i64 n, .slice (some ⟨gm, 0, none⟩) (2 ^ n) (2 ^ n), .slice (some ⟨gw, 0, none⟩) (2 ^ n) (2 ^ n)]) ∧ OwnI w' w.heap.size (.slice (some ⟨gm, 0, none⟩) (2 ^ n) (2 ^ n)) (sdL n x) ∧ Below w.heap.size w w' :=
  (search_any n x w h2 hn hx hT).mono fun _ _ ⟨gm, gw, h1, h2, _, h4⟩ => ⟨gm, gw, h1, h2, h4⟩
theorem sw_any (n x : Nat) (w : World) (h2 : 2 ≤ n) (hn : n ≤ 12) (hx : x < 2 ^ n) (hT : TabOk w) :
    Calls Tryd.prog 38 #[(.agg #[.int .i64 ((ctz (x) : Nat) : Int), .bool (onB (x)), .int .i64 ((n : Nat) : Int), .int .u64 ((x : Nat) : Int)])] w fun e w' => ∃ gm gw, e = .returned (.agg #[.int .i64 n, .slice (some ⟨gm, 0, none⟩) (2 ^ n) (2 ^ n), .slice (some ⟨gw, 0, none⟩) (2 ^ n) (2 ^ n)]) ∧ OwnI w' w.heap.size (.slice (some ⟨gw, 0, none⟩) (2 ^ n) (2 ^ n)) (List.replicate (2 ^ n) 1) ∧ Below w.heap.size w w' :=
  (search_any n x w h2 hn hx hT).mono fun _ _ ⟨gm, gw, h1, _, h3, h4⟩ => ⟨gm, gw, h1, h3, h4⟩
abbrev fdL (n x : Nat) : List Int := (List.range (2 ^ n)).map fun y => (dd (num x) y : Int)
theorem fdL_len (n x : Nat) : (fdL n x).length = 2 ^ n := by simp [fdL]
theorem fdL_get (n x i : Nat) (h : i < (fdL n x).length) : (fdL n x)[i] = (dd (num x) i : Int) := by simp [fdL]
theorem fm_any (n x : Nat) (w : World) (h2 : 2 ≤ n) (hn : n ≤ 12) (hx : x < 2 ^ n) :
    Calls Tryd.prog 34 #[.string (ST n x)] w fun e w' => ∃ gm gw, e = .returned (.tuple #[.slice (some ⟨gm, 0, none⟩) (2 ^ n) (2 ^ n), .slice (some ⟨gw, 0, none⟩) (2 ^ n) (2 ^ n)]) ∧ OwnI w' w.heap.size (.slice (some ⟨gm, 0, none⟩) (2 ^ n) (2 ^ n)) (fdL n x) ∧ Below w.heap.size w w' :=
  (far_ST n x w h2 hn hx).mono fun _ _ ⟨gm, gw, h1, h2, _, h4⟩ => ⟨gm, gw, h1, h2, h4⟩
theorem fw_any (n x : Nat) (w : World) (h2 : 2 ≤ n) (hn : n ≤ 12) (hx : x < 2 ^ n) :
    Calls Tryd.prog 34 #[.string (ST n x)] w fun e w' => ∃ gm gw, e = .returned (.tuple #[.slice (some ⟨gm, 0, none⟩) (2 ^ n) (2 ^ n), .slice (some ⟨gw, 0, none⟩) (2 ^ n) (2 ^ n)]) ∧ OwnI w' w.heap.size (.slice (some ⟨gw, 0, none⟩) (2 ^ n) (2 ^ n)) (List.replicate (2 ^ n) 1) ∧ Below w.heap.size w w' :=
  (far_ST n x w h2 hn hx).mono fun _ _ ⟨gm, gw, h1, _, h3, h4⟩ => ⟨gm, gw, h1, h3, h4⟩
end Go.Proofs.YtmbijomjilicgabDoor
