/- Two rings at once: bars of states; the moves of a state and a move made, both ways. -/
import Derived.Test.YtmbijomjilicgaaDoorB3
namespace Go.Proofs.YtmbijomjilicgaaDoor
open Go Go.RowKit RM

theorem pb_yes (s : ByteArray) (n x : Nat) (w : World) (hT : TabOk w)
    (hB : Hid (∀ w, TabOk w → Calls Tryd.prog 52 #[.string s] w fun e w' => e = .returned (.tuple #[(.agg #[.int .i64 ((ctz (x) : Nat) : Int), .bool (onB (x)), .int .i64 ((n : Nat) : Int), .int .u64 ((x : Nat) : Int)]), .bool true]) ∧ Below w.heap.size w w'))
    (hP : Hid (∀ w, Calls Tryd.prog 44 #[.int .i64 n] w fun e w' => e = .returned (.bool true) ∧ w = w')) :
    Calls Tryd.prog 29 #[.string s] w fun e w' => e = .returned (.tuple #[(.agg #[.int .i64 ((ctz (x) : Nat) : Int), .bool (onB (x)), .int .i64 ((n : Nat) : Int), .int .u64 ((x : Nat) : Int)]), .bool true]) ∧ Below w.heap.size w w' := by
  have hT := Lib.hid hT
  go_enter Tryd.func29, Tryd.ntmps29
  go_wp2_with fail
  refine (hB.out _ ?_).mono ?_
  · repeat (first | exact hT.out | apply TabOk.alloc | apply TabOk.drew | apply TabOk.drewN)
  rintro e w1 ⟨rfl, hb⟩
  have hs1 := hb.size
  simp only [World.size_alloc] at hs1
  have f0 : ∀ o, w1.cell? ⟨w.heap.size, o, none⟩ = _ := fun o => hb.cell (p := ⟨w.heap.size, o, none⟩) (by simp)
  have g0 : ∀ o, w1.frozen? ⟨w.heap.size, o, none⟩ = _ := fun o => hb.frozen (p := ⟨w.heap.size, o, none⟩) (by simp)
  have hb := Lib.hid hb
  have l0 : w.heap.size < w1.heap.size := by omega
  have m0 : ¬ w.heap.size = w1.heap.size := by omega
  go_wp2_with fail
  refine (hP.out _).mono ?_; rintro e w2 ⟨rfl, rfl⟩
  go_wp2_with fail
  refine bodyPost_ret (v := .tuple #[(.agg #[.int .i64 ((ctz (x) : Nat) : Int), .bool (onB (x)), .int .i64 ((n : Nat) : Int), .int .u64 ((x : Nat) : Int)]), .bool true]) ?_ rfl ⟨rfl, ?_⟩
  · simp [results, Tryd.results29, go_sem, f0, l0]
  · have hBB := Lib.hid (bt (ba w _) hb.out)
    refine Below.alloc (Below.setCell (Below.setCell (Below.setCell (Below.setCell hBB.out ?_ _) ?_ _) ?_ _) ?_ _) ?_ _
    all_goals (simp <;> omega)
theorem pb_no (s : ByteArray) (n x : Nat) (ok c : Bool) (w : World) (hT : TabOk w) (hno : ok = false ∨ (ok = true ∧ c = false))
    (hB : Hid (∀ w, TabOk w → Calls Tryd.prog 52 #[.string s] w fun e w' => e = .returned (.tuple #[(.agg #[.int .i64 ((ctz (x) : Nat) : Int), .bool (onB (x)), .int .i64 ((n : Nat) : Int), .int .u64 ((x : Nat) : Int)]), .bool ok]) ∧ Below w.heap.size w w'))
    (hP : Hid (∀ w, Calls Tryd.prog 44 #[.int .i64 n] w fun e w' => e = .returned (.bool c) ∧ w = w')) :
    Calls Tryd.prog 29 #[.string s] w fun e w' => e = .returned (.tuple #[(.agg #[.int .i64 ((ctz (0) : Nat) : Int), .bool (onB (0)), .int .i64 ((0 : Nat) : Int), .int .u64 ((0 : Nat) : Int)]), .bool false]) ∧ Below w.heap.size w w' := by
  rw [← bz]
  have hT := Lib.hid hT
  rcases hno with rfl | ⟨rfl, rfl⟩
  · go_enter Tryd.func29, Tryd.ntmps29
    go_wp2_with fail
    refine (hB.out _ ?_).mono ?_
    · repeat (first | exact hT.out | apply TabOk.alloc | apply TabOk.drew | apply TabOk.drewN)
    rintro e w1 ⟨rfl, hb⟩
    have hs1 := hb.size
    simp only [World.size_alloc] at hs1
    have f0 : ∀ o, w1.cell? ⟨w.heap.size, o, none⟩ = _ := fun o => hb.cell (p := ⟨w.heap.size, o, none⟩) (by simp)
    have g0 : ∀ o, w1.frozen? ⟨w.heap.size, o, none⟩ = _ := fun o => hb.frozen (p := ⟨w.heap.size, o, none⟩) (by simp)
    have hb := Lib.hid hb
    have l0 : w.heap.size < w1.heap.size := by omega
    have m0 : ¬ w.heap.size = w1.heap.size := by omega
    go_wp2_with fail
    refine bodyPost_ret (v := .tuple #[.agg #[.int .i64 0, .bool false, .int .i64 0, .int .u64 0], .bool false]) ?_ rfl ⟨rfl, ?_⟩
    · simp [results, Tryd.results29, go_sem, f0, l0]
    · have hBB := Lib.hid (bt (ba w _) hb.out)
      refine Below.alloc (Below.setCell (Below.setCell (Below.setCell (Below.setCell hBB.out ?_ _) ?_ _) ?_ _) ?_ _) ?_ _
      all_goals (simp <;> omega)
  · go_enter Tryd.func29, Tryd.ntmps29
    go_wp2_with fail
    refine (hB.out _ ?_).mono ?_
    · repeat (first | exact hT.out | apply TabOk.alloc | apply TabOk.drew | apply TabOk.drewN)
    rintro e w1 ⟨rfl, hb⟩
    have hs1 := hb.size
    simp only [World.size_alloc] at hs1
    have f0 : ∀ o, w1.cell? ⟨w.heap.size, o, none⟩ = _ := fun o => hb.cell (p := ⟨w.heap.size, o, none⟩) (by simp)
    have g0 : ∀ o, w1.frozen? ⟨w.heap.size, o, none⟩ = _ := fun o => hb.frozen (p := ⟨w.heap.size, o, none⟩) (by simp)
    have hb := Lib.hid hb
    have l0 : w.heap.size < w1.heap.size := by omega
    have m0 : ¬ w.heap.size = w1.heap.size := by omega
    go_wp2_with fail
    refine (hP.out _).mono ?_; rintro e w2 ⟨rfl, rfl⟩
    go_wp2_with fail
    refine bodyPost_ret (v := .tuple #[.agg #[.int .i64 0, .bool false, .int .i64 0, .int .u64 0], .bool false]) ?_ rfl ⟨rfl, ?_⟩
    · simp [results, Tryd.results29, go_sem, f0, l0]
    · have hBB := Lib.hid (bt (ba w _) hb.out)
      refine Below.alloc (Below.setCell (Below.setCell (Below.setCell (Below.setCell hBB.out ?_ _) ?_ _) ?_ _) ?_ _) ?_ _
      all_goals (simp <;> omega)
theorem pb_ST (n x : Nat) (w : World) (h2 : 2 ≤ n) (hn : n ≤ 12) (hx : x < 2 ^ n) (hT : TabOk w) :
    Calls Tryd.prog 29 #[.string (ST n x)] w fun e w' => e = .returned (.tuple #[(.agg #[.int .i64 ((ctz (x) : Nat) : Int), .bool (onB (x)), .int .i64 ((n : Nat) : Int), .int .u64 ((x : Nat) : Int)]), .bool true]) ∧ Below w.heap.size w w' :=
  pb_yes _ n x w hT (Lib.hid fun w hw => barOf_ST n x w (by omega) (by omega) hx hw) (Lib.hid fun w => by
    have := isPaired_any n w
    rw [show (decide (2 ≤ (n : Int)) && decide ((n : Int) ≤ 12)) = true from by simp; omega] at this; exact this)
theorem pb_bad (s : ByteArray) (w : World) (hs : s.size ≤ maxLen) (h : twoG s = false) (hT : TabOk w) :
    Calls Tryd.prog 29 #[.string s] w fun e w' => e = .returned (.tuple #[(.agg #[.int .i64 ((ctz (0) : Nat) : Int), .bool (onB (0)), .int .i64 ((0 : Nat) : Int), .int .u64 ((0 : Nat) : Int)]), .bool false]) ∧ Below w.heap.size w w' := by
  obtain ⟨n, x, ok, e1, s1, hA⟩ := barOf_all s hs
  refine pb_no s n x ok _ w hT ?_ (Lib.hid hA) (Lib.hid fun w => isPaired_any n w)
  unfold twoG at h
  rw [← e1] at h
  cases ok
  · left; rfl
  · right
    refine ⟨rfl, ?_⟩
    rw [← s1 rfl] at h
    simp at h
    simp; omega

theorem iPM_yes (s : ByteArray) (n x : Nat) (w : World) (hT : TabOk w)
    (hB : Hid (∀ w, TabOk w → Calls Tryd.prog 29 #[.string s] w fun e w' => e = .returned (.tuple #[(.agg #[.int .i64 ((ctz (x) : Nat) : Int), .bool (onB (x)), .int .i64 ((n : Nat) : Int), .int .u64 ((x : Nat) : Int)]), .bool true]) ∧ Below w.heap.size w w'))
    (hM : Hid (∀ w, Calls Tryd.prog 30 #[(.agg #[.int .i64 ((ctz (x) : Nat) : Int), .bool (onB (x)), .int .i64 ((n : Nat) : Int), .int .u64 ((x : Nat) : Int)])] w fun e w' => ∃ v, e = .returned v ∧ OwnI w' (w.heap.size + 1) v (pmL n x) ∧ Below w.heap.size w w')) :
    Calls Tryd.prog 11 #[.string s] w fun e w' => RetI w (pmL n x) true e w' := by
  have hT := Lib.hid hT
  go_enter Tryd.func11, Tryd.ntmps11
  go_wp2_with fail
  refine (hB.out _ hT.out).mono ?_; rintro e w1 ⟨rfl, hb⟩
  have hb := Lib.hid hb
  go_wp2_with fail
  refine (hM.out _).mono ?_; rintro e w2 ⟨v, rfl, ho, hb2⟩
  have ho := Lib.hid ho
  have hb2 := Lib.hid hb2
  go_wp2_with fail
  go_ret2
  exact ⟨_, rfl, ho.out.mono (by have := hb.out.size; simp; omega), bt (bt hb.out (ba _ _)) hb2.out⟩
theorem iPM_no (s : ByteArray) (w : World) (hT : TabOk w)
    (hB : Hid (∀ w, TabOk w → Calls Tryd.prog 29 #[.string s] w fun e w' => e = .returned (.tuple #[(.agg #[.int .i64 ((ctz (0) : Nat) : Int), .bool (onB (0)), .int .i64 ((0 : Nat) : Int), .int .u64 ((0 : Nat) : Int)]), .bool false]) ∧ Below w.heap.size w w')) :
    Calls Tryd.prog 11 #[.string s] w fun e w' => RetI w [] false e w' := by
  have hT := Lib.hid hT
  go_enter Tryd.func11, Tryd.ntmps11
  go_wp2_with fail
  refine (hB.out _ hT.out).mono ?_; rintro e w1 ⟨rfl, hb⟩
  have hb := Lib.hid hb
  go_wp2_with fail
  go_ret2
  exact ⟨_, rfl, OwnI.nil _ _, bt hb.out (ba _ _)⟩
theorem tg_yes (n x : Nat) (w : World) (h2 : 2 ≤ n) (hn : n ≤ 12) : Calls Tryd.prog 27 #[.string (ST n x)] w fun e w' => e = .returned (.bool true) ∧ w = w' := by
  have := twGood_any (ST n x) w (by rw [ST_size]; unfold maxLen; omega)
  rw [twoG_ST n x h2 hn] at this; exact this
theorem tg_no (s : ByteArray) (w : World) (hs : s.size ≤ maxLen) (h : twoG s = false) : Calls Tryd.prog 27 #[.string s] w fun e w' => e = .returned (.bool false) ∧ w = w' := by
  have := twGood_any s w hs
  rw [h] at this; exact this
theorem sPM_yes (s : ByteArray) (xs : List Int) (w : World) (hG : Hid (∀ w, Calls Tryd.prog 27 #[.string s] w fun e w' => e = .returned (.bool true) ∧ w = w'))
    (hM : Hid (∀ w, Calls Tryd.prog 28 #[.string s] w fun e w' => ∃ v, e = .returned v ∧ OwnI w' w.heap.size v xs ∧ Below w.heap.size w w')) :
    Calls Tryd.prog 10 #[.string s] w fun e w' => RetI w xs true e w' := by
  go_enter Tryd.func10, Tryd.ntmps10
  go_wp2_with fail
  refine (hG.out _).mono ?_; rintro e w1 ⟨rfl, rfl⟩
  go_wp2_with fail
  refine (hM.out _).mono ?_; rintro e w2 ⟨v, rfl, ho, hb2⟩
  have ho := Lib.hid ho
  have hb2 := Lib.hid hb2
  go_wp2_with fail
  go_ret2
  exact ⟨_, rfl, ho.out, hb2.out⟩
theorem sPM_no (s : ByteArray) (w : World) (hG : Hid (∀ w, Calls Tryd.prog 27 #[.string s] w fun e w' => e = .returned (.bool false) ∧ w = w')) :
    Calls Tryd.prog 10 #[.string s] w fun e w' => RetI w [] false e w' := by
  go_enter Tryd.func10, Tryd.ntmps10
  go_wp2_with fail
  refine (hG.out _).mono ?_; rintro e w1 ⟨rfl, rfl⟩
  go_wp2_with fail
  go_ret2
  exact ⟨_, rfl, OwnI.nil _ _, Below.refl _ _⟩
theorem pmL_le (n x : Nat) : (pmL n x).length ≤ n + 2 := by
  have := pmU_len n x (n + 1)
  rw [pmU_all] at this; exact this

theorem iMP_no (s : ByteArray) (k : Int) (w : World) (hT : TabOk w) (hB : Hid (∀ w, TabOk w → Calls Tryd.prog 29 #[.string s] w fun e w' => e = .returned (.tuple #[(.agg #[.int .i64 ((ctz (0) : Nat) : Int), .bool (onB (0)), .int .i64 ((0 : Nat) : Int), .int .u64 ((0 : Nat) : Int)]), .bool false]) ∧ Below w.heap.size w w')) :
    Calls Tryd.prog 16 #[.string s, .int .i64 k] w fun e w' => AnsS w ⟨#[]⟩ false e w' := by
  have hT := Lib.hid hT
  go_enter Tryd.func16, Tryd.ntmps16
  go_wp2_with fail
  refine (hB.out _ hT.out).mono ?_; rintro e w1 ⟨rfl, hb⟩
  have hb := Lib.hid hb
  go_wp2_with fail
  go_ret2; exact ⟨rfl, bt hb.out (ba _ _)⟩
theorem iMP_cannot (s : ByteArray) (n x : Nat) (k : Int) (w : World) (hT : TabOk w) (hB : Hid (∀ w, TabOk w → Calls Tryd.prog 29 #[.string s] w fun e w' => e = .returned (.tuple #[(.agg #[.int .i64 ((ctz (x) : Nat) : Int), .bool (onB (x)), .int .i64 ((n : Nat) : Int), .int .u64 ((x : Nat) : Int)]), .bool true]) ∧ Below w.heap.size w w'))
    (hM : Hid (∀ w, Calls Tryd.prog 33 #[(.agg #[.int .i64 ((ctz (x) : Nat) : Int), .bool (onB (x)), .int .i64 ((n : Nat) : Int), .int .u64 ((x : Nat) : Int)]), .int .i64 k] w fun e w' => e = .returned (.bool false) ∧ Below w.heap.size w w')) :
    Calls Tryd.prog 16 #[.string s, .int .i64 k] w fun e w' => AnsS w ⟨#[]⟩ false e w' := by
  have hT := Lib.hid hT
  go_enter Tryd.func16, Tryd.ntmps16
  go_wp2_with fail
  refine (hB.out _ hT.out).mono ?_; rintro e w1 ⟨rfl, hb⟩
  have hb := Lib.hid hb
  go_wp2_with fail
  refine (hM.out _).mono ?_; rintro e w2 ⟨rfl, hb2⟩
  have hb2 := Lib.hid hb2
  go_wp2_with fail
  go_ret2; exact ⟨rfl, bt (bt hb.out (ba _ _)) hb2.out⟩
theorem iMP_can (s : ByteArray) (n x y : Nat) (k : Int) (t : ByteArray) (w : World) (hT : TabOk w) (hB : Hid (∀ w, TabOk w → Calls Tryd.prog 29 #[.string s] w fun e w' => e = .returned (.tuple #[(.agg #[.int .i64 ((ctz (x) : Nat) : Int), .bool (onB (x)), .int .i64 ((n : Nat) : Int), .int .u64 ((x : Nat) : Int)]), .bool true]) ∧ Below w.heap.size w w'))
    (hM : Hid (∀ w, Calls Tryd.prog 33 #[(.agg #[.int .i64 ((ctz (x) : Nat) : Int), .bool (onB (x)), .int .i64 ((n : Nat) : Int), .int .u64 ((x : Nat) : Int)]), .int .i64 k] w fun e w' => e = .returned (.bool true) ∧ Below w.heap.size w w'))
    (hD : Hid (∀ w, TabOk w → Calls Tryd.prog 34 #[(.agg #[.int .i64 ((ctz (x) : Nat) : Int), .bool (onB (x)), .int .i64 ((n : Nat) : Int), .int .u64 ((x : Nat) : Int)]), .int .i64 k] w fun e w' => e = .returned (.agg #[.int .i64 ((ctz (y) : Nat) : Int), .bool (onB (y)), .int .i64 ((n : Nat) : Int), .int .u64 ((y : Nat) : Int)]) ∧ Below w.heap.size w w'))
    (hX : Hid (∀ w, Calls Tryd.prog 35 #[(.agg #[.int .i64 ((ctz (y) : Nat) : Int), .bool (onB (y)), .int .i64 ((n : Nat) : Int), .int .u64 ((y : Nat) : Int)])] w fun e w' => e = .returned (.string t) ∧ Below w.heap.size w w')) :
    Calls Tryd.prog 16 #[.string s, .int .i64 k] w fun e w' => AnsS w t true e w' := by
  have hT := Lib.hid hT
  go_enter Tryd.func16, Tryd.ntmps16
  go_wp2_with fail
  refine (hB.out _ hT.out).mono ?_; rintro e w1 ⟨rfl, hb⟩
  have hT1 := Lib.hid (hT.out.below hb)
  have hb := Lib.hid hb
  go_wp2_with fail
  refine (hM.out _).mono ?_; rintro e w2 ⟨rfl, hb2⟩
  have hT2 := Lib.hid ((hT1.out.alloc _).below hb2)
  have f : ∀ o, w2.cell? ⟨w1.heap.size, o, none⟩ = _ := fun o => hb2.cell (p := ⟨w1.heap.size, o, none⟩) (by simp)
  have hb2 := Lib.hid hb2
  go_wp2_with fail
  refine (hD.out _ hT2.out).mono ?_; rintro e w3 ⟨rfl, hb3⟩
  have hb3 := Lib.hid hb3
  go_wp2_with fail
  refine (hX.out _).mono ?_; rintro e w4 ⟨rfl, hb4⟩
  have hb4 := Lib.hid hb4
  go_wp2_with fail
  go_ret2; exact ⟨rfl, bt (bt (bt (bt hb.out (ba _ _)) hb2.out) hb3.out) hb4.out⟩
/-- what a move of a state is, and whether it can be made -/
def mpS (n x : Nat) (k : Int) : ByteArray := if pcan n x k then ST n (x ^^^ msk k) else ⟨#[]⟩
theorem pstep_lt (n x : Nat) (k : Int) (h2 : 2 ≤ n) (hx : x < 2 ^ n) (hk : pcan n x k = true) : x ^^^ msk k < 2 ^ n := Nat.xor_lt_two_pow hx (msk_lt n k x h2 hk)
theorem iMP_ST (n x : Nat) (k : Int) (w : World) (h2 : 2 ≤ n) (hn : n ≤ 12) (hx : x < 2 ^ n) (hT : TabOk w) :
    Calls Tryd.prog 16 #[.string (ST n x), .int .i64 k] w fun e w' => AnsS w (mpS n x k) (pcan n x k) e w' := by
  have hx2 := Nat.lt_of_lt_of_le hx (pow20 (by omega : n ≤ 20))
  have hC := Lib.hid fun w => canPair_any n x k w (by omega) (by omega) hx2
  have hB := Lib.hid fun w hw => pb_ST n x w h2 hn hx hw
  unfold mpS
  cases h : pcan n x k
  · rw [h] at hC
    exact iMP_cannot _ n x k w hT hB hC
  · rw [h] at hC
    have hy := pstep_lt n x k h2 hx h
    exact iMP_can _ n x _ k _ w hT hB hC (Lib.hid fun w hw => pairMoved_any n x k w h2 (by omega) hx h hw) (Lib.hid fun w => text_any n _ w (Nat.lt_of_lt_of_le hy (pow20 (by omega))) (by omega))
theorem sMP_no (s : ByteArray) (k : Int) (w : World) (hG : Hid (∀ w, Calls Tryd.prog 27 #[.string s] w fun e w' => e = .returned (.bool false) ∧ w = w')) :
    Calls Tryd.prog 15 #[.string s, .int .i64 k] w fun e w' => AnsS w ⟨#[]⟩ false e w' := by
  go_enter Tryd.func15, Tryd.ntmps15
  go_wp2_with fail
  refine (hG.out _).mono ?_; rintro e w1 ⟨rfl, rfl⟩
  go_wp2_with fail
  go_ret2
  exact ⟨rfl, Below.refl _ _⟩
theorem sMP_core (s t : ByteArray) (k : Int) (xs : List Int) (c : Bool) (w : World) (hl : xs.length ≤ 100) (hcx : Hid (decide (k ∈ xs) = c)) (hG : Hid (∀ w, Calls Tryd.prog 27 #[.string s] w fun e w' => e = .returned (.bool true) ∧ w = w'))
    (hM : Hid (∀ w, Calls Tryd.prog 28 #[.string s] w fun e w' => ∃ v, e = .returned v ∧ OwnI w' w.heap.size v xs ∧ Below w.heap.size w w'))
    (hD : Hid (c = true → ∀ w, Calls Tryd.prog 32 #[.string s, .int .i64 k] w fun e w' => e = .returned (.string t) ∧ ∃ q, w' = w.drewN q)) (ht : Hid (c = false → t = ⟨#[]⟩)) :
    Calls Tryd.prog 15 #[.string s, .int .i64 k] w fun e w' => AnsS w t c e w' := by
  cases c
  · obtain rfl := ht.out rfl
    go_enter Tryd.func15, Tryd.ntmps15
    go_wp2_with fail
    refine (hG.out _).mono ?_; rintro e w1 ⟨rfl, rfl⟩
    go_wp2_with fail
    refine (hM.out _).mono ?_; rintro e w2 ⟨v, rfl, ho, hb2⟩
    have hH := l1Has_any v _ xs k w2 (by omega) ho
    rw [hcx.out] at hH
    have hb2 := Lib.hid hb2
    clear ho
    go_wp2_with fail
    refine hH.mono ?_; rintro e w3 ⟨rfl, rfl⟩
    go_wp2_with fail
    go_ret2
    exact ⟨rfl, hb2.out⟩
  · have hD2 := Lib.hid (hD.out rfl)
    clear hD
    go_enter Tryd.func15, Tryd.ntmps15
    go_wp2_with fail
    refine (hG.out _).mono ?_; rintro e w1 ⟨rfl, rfl⟩
    go_wp2_with fail
    refine (hM.out _).mono ?_; rintro e w2 ⟨v, rfl, ho, hb2⟩
    have hH := l1Has_any v _ xs k w2 (by omega) ho
    rw [hcx.out] at hH
    have hb2 := Lib.hid hb2
    clear ho
    go_wp2_with fail
    refine hH.mono ?_; rintro e w3 ⟨rfl, rfl⟩
    go_wp2_with fail
    refine (hD2.out _).mono ?_; rintro e w4 ⟨rfl, q, rfl⟩
    go_wp2_with fail
    go_ret2
    exact ⟨rfl, below_drewN hb2.out q⟩
theorem sMP_ST (n x : Nat) (k : Int) (w : World) (h2 : 2 ≤ n) (hn : n ≤ 12) :
    Calls Tryd.prog 15 #[.string (ST n x), .int .i64 k] w fun e w' => AnsS w (mpS n x k) (pcan n x k) e w' := by
  refine sMP_core _ _ k (pmL n x) (pcan n x k) w (by have := pmL_le n x; omega) (Lib.hid ?_) (Lib.hid fun w => tg_yes n x w h2 hn) (Lib.hid fun w => twMoves_ST n x w h2 (by omega)) (Lib.hid fun h w => ?_) (Lib.hid fun h => ?_)
  · cases h : pcan n x k
    · simp; intro hm; rw [pm_can n x k hm] at h; cases h
    · simp; exact can_pm n x k (by omega) h
  · have := twMake_ST n x k w h2 (by omega) h
    unfold mpS; rw [h]; exact this
  · unfold mpS; rw [h]; rfl
end Go.Proofs.YtmbijomjilicgaaDoor
