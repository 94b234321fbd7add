/- A puzzle without a clue: both sides. -/
import Derived.Test.YtmjeilimdnngpaaDoorPzP
namespace Go.Proofs.YtmjeilimdnngpaaDoor
open Go Go.RowKit RM
set_option maxHeartbeats 1000000 in
theorem iDrop_no (R i : Int) (n c : Nat) (p : Option Addr) (ok : Bool) (w : World) (hn : n ≤ maxLen) (hno : ok = true → i < 0 ∨ (n : Int) ≤ i)
    (hI : Hid (∀ W, Below w.heap.size w W → Calls Tryd.prog 41 #[.agg #[.int .i64 R, .slice p n c]] W fun e w' => e = .returned (.bool ok) ∧ Below W.heap.size W w')) :
    Calls Tryd.prog 21 #[.agg #[.int .i64 R, .slice p n c], .int .i64 i] w fun e w' => RetZ w 0 [] false e w' := by
  unfold maxLen at hn
  obtain ⟨w2, hw2⟩ : ∃ w2, Hid (w2 = (w.alloc (puzO R (.slice p n c))).alloc (puzO 0 (.slice none 0 0))) := ⟨_, Lib.hid rfl⟩
  have hb2 : Hid (Below w.heap.size w w2) := Lib.hid (by rw [hw2.out]; exact (ba1 w _).alloc (by simp) _)
  have P2 := Lib.hid (show w2.heap[w.heap.size]? = some (puzO R (.slice p n c)) by rw [hw2.out]; exact hb_old _ (hb_new _ _))
  have Q2 := Lib.hid (show w2.heap[w.heap.size + 1]? = some (puzO 0 (.slice none 0 0)) by rw [hw2.out]; exact hb_new' _ _ _ (by simp))
  have hl2 : w.heap.size + 1 < w2.heap.size := hb_lt Q2.out
  have hl3 : w.heap.size < w2.heap.size := by omega
  cases ok with
  | false =>
    go_enter Tryd.func21, Tryd.ntmps21
    go_wp2_with fail
    rw [← hw2.out]
    refine (hI.out _ hb2.out).mono ?_; rintro e w3 ⟨rfl, hb3⟩
    have Q3 := Lib.hid (hb_below hb3 hl2 Q2.out)
    have r0 : w3.cell? ⟨w.heap.size + 1, 0, none⟩ = some (.int .i64 0) := hb_cell Q3.out 0
    have r1 : w3.cell? ⟨w.heap.size + 1, 1, none⟩ = some (.slice none 0 0) := hb_cell Q3.out 1
    have z1 := hb_frozen Q3.out
    have hl4 : w.heap.size + 1 < w3.heap.size := hb_lt Q3.out
    replace hb3 := Lib.hid (bt1 hb2.out hb3)
    go_wp2_with fail
    refine bodyPost_ret (v := .tuple #[.agg #[.int .i64 0, .slice none 0 0], .bool false]) ?_ rfl ⟨_, rfl, OwnG.nil _ _, ?_⟩
    · simp [results, Tryd.results21, go_sem, hl4, r0, r1]
    · exact (hb3.out.setCell (Nat.le_succ _) _).setCell (Nat.le_succ _) _
  | true =>
    go_enter Tryd.func21, Tryd.ntmps21
    go_wp2_with fail
    rw [← hw2.out]
    refine (hI.out _ hb2.out).mono ?_; rintro e w3 ⟨rfl, hb3⟩
    have Q3 := Lib.hid (hb_below hb3 hl2 Q2.out)
    have P3 := Lib.hid (hb_below hb3 hl3 P2.out)
    have f0 : w3.cell? ⟨w.heap.size, 0, none⟩ = some (.int .i64 R) := hb_cell P3.out 0
    have f1 : w3.cell? ⟨w.heap.size, 1, none⟩ = some (.slice p n c) := hb_cell P3.out 1
    have r0 : w3.cell? ⟨w.heap.size + 1, 0, none⟩ = some (.int .i64 0) := hb_cell Q3.out 0
    have r1 : w3.cell? ⟨w.heap.size + 1, 1, none⟩ = some (.slice none 0 0) := hb_cell Q3.out 1
    have z1 := hb_frozen Q3.out
    have hl4 : w.heap.size + 1 < w3.heap.size := hb_lt Q3.out
    replace hb3 := Lib.hid (bt1 hb2.out hb3)
    rcases hno trivial with hi | hi
    · have hd : decide (i < 0) = true := by simp; omega
      go_wp2_with fail
      refine bodyPost_ret (v := .tuple #[.agg #[.int .i64 0, .slice none 0 0], .bool false]) ?_ rfl ⟨_, rfl, OwnG.nil _ _, ?_⟩
      · simp [results, Tryd.results21, go_sem, hl4, r0, r1]
      · exact (hb3.out.setCell (Nat.le_succ _) _).setCell (Nat.le_succ _) _
    · have hd : decide (i < 0) = false := by simp; omega
      have hd2 : decide ((n : Int) ≤ i) = true := by simp; omega
      go_wp2_with fail
      refine bodyPost_ret (v := .tuple #[.agg #[.int .i64 0, .slice none 0 0], .bool false]) ?_ rfl ⟨_, rfl, OwnG.nil _ _, ?_⟩
      · simp [results, Tryd.results21, go_sem, hl4, r0, r1]
      · exact (hb3.out.setCell (Nat.le_succ _) _).setCell (Nat.le_succ _) _

theorem own2 {w : World} {B a : Nat} {v u u' : Value} {xs : List Clu} (h : OwnG cluE w B v xs) (ha : a < B) : OwnG cluE ((w.setCell ⟨a, 0, none⟩ u).setCell ⟨a, 1, none⟩ u') B v xs :=
  ownsRow_setCell_below (ownsRow_setCell_below h ha u) ha u'
set_option maxHeartbeats 1000000 in
theorem iDrop_yes (R : Int) (n c k : Nat) (p : Option Addr) (ys : List Clu) (w : World) (hn : n ≤ maxLen) (hk : k < n)
    (hI : Hid (∀ W, Below w.heap.size w W → Calls Tryd.prog 41 #[.agg #[.int .i64 R, .slice p n c]] W fun e w' => e = .returned (.bool true) ∧ Below W.heap.size W w'))
    (hC : Hid (∀ W, Below w.heap.size w W → Calls Tryd.prog 43 #[.agg #[.int .i64 R, .slice p n c], .int .i64 k] W fun e w' => ∃ v, e = .returned (.agg #[.int .i64 R, v]) ∧ OwnG cluE w' W.heap.size v ys ∧ Below W.heap.size W w')) :
    Calls Tryd.prog 21 #[.agg #[.int .i64 R, .slice p n c], .int .i64 k] w fun e w' => RetZ w R ys true e w' := by
  unfold maxLen at hn
  obtain ⟨w2, hw2⟩ : ∃ w2, Hid (w2 = (w.alloc (puzO R (.slice p n c))).alloc (puzO 0 (.slice none 0 0))) := ⟨_, Lib.hid rfl⟩
  have hb2 : Hid (Below w.heap.size w w2) := Lib.hid (by rw [hw2.out]; exact (ba1 w _).alloc (by simp) _)
  have P2 := Lib.hid (show w2.heap[w.heap.size]? = some (puzO R (.slice p n c)) by rw [hw2.out]; exact hb_old _ (hb_new _ _))
  have Q2 := Lib.hid (show w2.heap[w.heap.size + 1]? = some (puzO 0 (.slice none 0 0)) by rw [hw2.out]; exact hb_new' _ _ _ (by simp))
  have hl2 : w.heap.size + 1 < w2.heap.size := hb_lt Q2.out
  have hl3 : w.heap.size < w2.heap.size := by omega
  have hd : decide ((k : Int) < 0) = false := by simp
  have hd2 : decide ((n : Int) ≤ (k : Int)) = false := by simp; omega
  go_enter Tryd.func21, Tryd.ntmps21
  go_wp2_with fail
  rw [← hw2.out]
  refine (hI.out _ hb2.out).mono ?_; rintro e w3 ⟨rfl, hb3⟩
  have Q3 := Lib.hid (hb_below hb3 hl2 Q2.out)
  have P3 := Lib.hid (hb_below hb3 hl3 P2.out)
  have f0 : w3.cell? ⟨w.heap.size, 0, none⟩ = some (.int .i64 R) := hb_cell P3.out 0
  have f1 : w3.cell? ⟨w.heap.size, 1, none⟩ = some (.slice p n c) := hb_cell P3.out 1
  have hl4 : w.heap.size + 1 < w3.heap.size := hb_lt Q3.out
  replace hb3 := Lib.hid (bt1 hb2.out hb3)
  go_wp2_with fail
  refine (hC.out _ hb3.out).mono ?_; rintro e w4 ⟨v, rfl, ho4, hb4⟩
  obtain ⟨pv, lv, cv, rfl⟩ : ∃ p l c, v = .slice p l c := by obtain ⟨p, c, e⟩ := ho4.sl; exact ⟨p, _, c, e⟩
  have Q4 := Lib.hid (hb_below hb4 hl4 Q3.out)
  have r0 : w4.cell? ⟨w.heap.size + 1, 0, none⟩ = some (.int .i64 0) := hb_cell Q4.out 0
  have r1 : w4.cell? ⟨w.heap.size + 1, 1, none⟩ = some (.slice none 0 0) := hb_cell Q4.out 1
  have z1 := hb_frozen Q4.out
  have hl5 : w.heap.size + 1 < w4.heap.size := hb_lt Q4.out
  replace hb4 := Lib.hid (bt1 hb3.out hb4)
  have hB3 := hb3.out.size
  replace ho4 := Lib.hid ho4
  go_wp2_with fail
  refine bodyPost_ret (v := .tuple #[.agg #[.int .i64 R, .slice pv lv cv], .bool true]) ?_ rfl ⟨_, rfl, ?_, ?_⟩
  · simp [results, Tryd.results21, go_sem, hl5, r0, r1]
  · exact (own2 ho4.out hl4).mono hB3
  · exact (hb4.out.setCell (Nat.le_succ _) _).setCell (Nat.le_succ _) _

set_option maxHeartbeats 1000000 in
theorem sDrop_no (R i : Int) (n c : Nat) (p : Option Addr) (ok : Bool) (w : World) (hn : n ≤ maxLen) (hno : ok = true → i < 0 ∨ (n : Int) ≤ i)
    (hI : Hid (∀ W, Below w.heap.size w W → Calls Tryd.prog 37 #[.agg #[.int .i64 R, .slice p n c]] W fun e w' => e = .returned (.bool ok) ∧ Below W.heap.size W w')) :
    Calls Tryd.prog 20 #[.agg #[.int .i64 R, .slice p n c], .int .i64 i] w fun e w' => RetZ w 0 [] false e w' := by
  unfold maxLen at hn
  obtain ⟨w2, hw2⟩ : ∃ w2, Hid (w2 = (w.alloc (puzO R (.slice p n c))).alloc (puzO 0 (.slice none 0 0))) := ⟨_, Lib.hid rfl⟩
  have hb2 : Hid (Below w.heap.size w w2) := Lib.hid (by rw [hw2.out]; exact (ba1 w _).alloc (by simp) _)
  have P2 := Lib.hid (show w2.heap[w.heap.size]? = some (puzO R (.slice p n c)) by rw [hw2.out]; exact hb_old _ (hb_new _ _))
  have Q2 := Lib.hid (show w2.heap[w.heap.size + 1]? = some (puzO 0 (.slice none 0 0)) by rw [hw2.out]; exact hb_new' _ _ _ (by simp))
  have hl2 : w.heap.size + 1 < w2.heap.size := hb_lt Q2.out
  have hl3 : w.heap.size < w2.heap.size := by omega
  have hL := Lib.hid fun w => l1In_any i 0 ((n : Int) - 1) w
  cases ok with
  | false =>
    go_enter Tryd.func20, Tryd.ntmps20
    go_wp2_with fail
    rw [← hw2.out]
    refine (hI.out _ hb2.out).mono ?_; rintro e w3 ⟨rfl, hb3⟩
    have Q3 := Lib.hid (hb_below hb3 hl2 Q2.out)
    have r0 : w3.cell? ⟨w.heap.size + 1, 0, none⟩ = some (.int .i64 0) := hb_cell Q3.out 0
    have r1 : w3.cell? ⟨w.heap.size + 1, 1, none⟩ = some (.slice none 0 0) := hb_cell Q3.out 1
    have z1 := hb_frozen Q3.out
    have hl4 : w.heap.size + 1 < w3.heap.size := hb_lt Q3.out
    replace hb3 := Lib.hid (bt1 hb2.out hb3)
    go_wp2_with fail
    refine bodyPost_ret (v := .tuple #[.agg #[.int .i64 0, .slice none 0 0], .bool false]) ?_ rfl ⟨_, rfl, OwnG.nil _ _, ?_⟩
    · simp [results, Tryd.results20, go_sem, hl4, r0, r1]
    · exact (hb3.out.setCell (Nat.le_succ _) _).setCell (Nat.le_succ _) _
  | true =>
    have hIf : inB i 0 ((n : Int) - 1) = false := by
      have := hno rfl
      unfold inB
      rw [Bool.and_eq_false_iff]
      simp
      omega
    rw [hIf] at hL
    go_enter Tryd.func20, Tryd.ntmps20
    go_wp2_with fail
    rw [← hw2.out]
    refine (hI.out _ hb2.out).mono ?_; rintro e w3 ⟨rfl, hb3⟩
    have Q3 := Lib.hid (hb_below hb3 hl2 Q2.out)
    have P3 := Lib.hid (hb_below hb3 hl3 P2.out)
    have f0 : w3.cell? ⟨w.heap.size, 0, none⟩ = some (.int .i64 R) := hb_cell P3.out 0
    have f1 : w3.cell? ⟨w.heap.size, 1, none⟩ = some (.slice p n c) := hb_cell P3.out 1
    have r0 : w3.cell? ⟨w.heap.size + 1, 0, none⟩ = some (.int .i64 0) := hb_cell Q3.out 0
    have r1 : w3.cell? ⟨w.heap.size + 1, 1, none⟩ = some (.slice none 0 0) := hb_cell Q3.out 1
    have z1 := hb_frozen Q3.out
    have hl4 : w.heap.size + 1 < w3.heap.size := hb_lt Q3.out
    replace hb3 := Lib.hid (bt1 hb2.out hb3)
    go_wp2_with fail
    refine (hL.out _).mono ?_; rintro e w' ⟨rfl, rfl⟩
    go_wp2_with fail
    refine bodyPost_ret (v := .tuple #[.agg #[.int .i64 0, .slice none 0 0], .bool false]) ?_ rfl ⟨_, rfl, OwnG.nil _ _, ?_⟩
    · simp [results, Tryd.results20, go_sem, hl4, r0, r1]
    · exact (hb3.out.setCell (Nat.le_succ _) _).setCell (Nat.le_succ _) _

set_option maxRecDepth 100000 in
set_option maxHeartbeats 2000000 in
theorem sDrop_yes (R : Int) (n c k : Nat) (p : Option Addr) (ys : List Clu) (w : World) (hn : n ≤ maxLen) (hk : k < n)
    (hI : Hid (∀ W, Below w.heap.size w W → Calls Tryd.prog 37 #[.agg #[.int .i64 R, .slice p n c]] W fun e w' => e = .returned (.bool true) ∧ Below W.heap.size W w'))
    (hC : Hid (∀ W, Below w.heap.size w W → Calls Tryd.prog 39 #[.slice p n c, .int .i64 k] W fun e w' => ∃ v, e = .returned v ∧ OwnG cluE w' W.heap.size v ys ∧ Below W.heap.size W w')) :
    Calls Tryd.prog 20 #[.agg #[.int .i64 R, .slice p n c], .int .i64 k] w fun e w' => RetZ w R ys true e w' := by
  unfold maxLen at hn
  obtain ⟨w2, hw2⟩ : ∃ w2, Hid (w2 = (w.alloc (puzO R (.slice p n c))).alloc (puzO 0 (.slice none 0 0))) := ⟨_, Lib.hid rfl⟩
  have hb2 : Hid (Below w.heap.size w w2) := Lib.hid (by rw [hw2.out]; exact (ba1 w _).alloc (by simp) _)
  have P2 := Lib.hid (show w2.heap[w.heap.size]? = some (puzO R (.slice p n c)) by rw [hw2.out]; exact hb_old _ (hb_new _ _))
  have Q2 := Lib.hid (show w2.heap[w.heap.size + 1]? = some (puzO 0 (.slice none 0 0)) by rw [hw2.out]; exact hb_new' _ _ _ (by simp))
  have hl2 : w.heap.size + 1 < w2.heap.size := hb_lt Q2.out
  have hl3 : w.heap.size < w2.heap.size := by omega
  have hL := Lib.hid fun w => l1In_any (k : Int) 0 ((n : Int) - 1) w
  have hIf : inB (k : Int) 0 ((n : Int) - 1) = true := by unfold inB; simp; omega
  rw [hIf] at hL
  clear hIf
  go_enter Tryd.func20, Tryd.ntmps20
  go_wp2_with fail
  rw [← hw2.out]
  refine (hI.out _ hb2.out).mono ?_; rintro e w3 ⟨rfl, hb3⟩
  have Q3 := Lib.hid (hb_below hb3 hl2 Q2.out)
  have P3 := Lib.hid (hb_below hb3 hl3 P2.out)
  have f0 : w3.cell? ⟨w.heap.size, 0, none⟩ = some (.int .i64 R) := hb_cell P3.out 0
  have f1 : w3.cell? ⟨w.heap.size, 1, none⟩ = some (.slice p n c) := hb_cell P3.out 1
  have hl4 : w.heap.size + 1 < w3.heap.size := hb_lt Q3.out
  have kp : Hid (∀ W, Below w3.heap.size w3 W → W.cell? ⟨w.heap.size, 0, none⟩ = some (.int .i64 R) ∧ W.cell? ⟨w.heap.size, 1, none⟩ = some (.slice p n c)) := Lib.hid fun W hb => ⟨hb_cell (hb_below hb (by omega) P3.out) 0, hb_cell (hb_below hb (by omega) P3.out) 1⟩
  have kq : Hid (∀ W, Below w3.heap.size w3 W → W.cell? ⟨w.heap.size + 1, 0, none⟩ = some (.int .i64 0) ∧ W.cell? ⟨w.heap.size + 1, 1, none⟩ = some (.slice none 0 0) ∧ (∀ j, W.frozen? ⟨w.heap.size + 1, j, none⟩ = false) ∧ w.heap.size + 1 < W.heap.size) := Lib.hid fun W hb =>
    have Q7 := hb_below hb hl4 Q3.out
    ⟨hb_cell Q7 0, hb_cell Q7 1, hb_frozen Q7, hb_lt Q7⟩
  replace hb3 := Lib.hid (bt1 hb2.out hb3)
  have hB3 := hb3.out.size
  go_wp2_with fail
  refine (hL.out _).mono ?_; rintro e w' ⟨rfl, rfl⟩
  obtain ⟨d0, d1⟩ := kp.out w3.drew (Below.refl _ _).drew
  have dB := Lib.hid (show Below w3.heap.size w3 w3.drew from (Below.refl _ _).drew)
  go_wp2_with fail
  go_region_law (first
    | (refine step_call2Z rfl 39 (.tmp 22) (.tmp 23) _ (by with_reducible rfl) _ Tryd.func39 (by kernel_rfl) _ _ (by simp [Act.eval, Act.put]) (by simp [Act.eval, Act.put]) _ (hC.out _ (bt1 hb3.out dB.out)) ?_; rintro e w5 ⟨v, rfl, ho5, hb5⟩; obtain ⟨pv, lv, cv, rfl⟩ : ∃ p l c, v = .slice p l c := (by obtain ⟨p, c, e⟩ := ho5.sl; exact ⟨p, _, c, e⟩); refine ⟨_, rfl, ?_⟩; have hB5 := bt1 dB.out hb5; obtain ⟨x0, x1⟩ := kp.out w5 hB5; obtain ⟨r0, r1, z7, hl7⟩ := kq.out w5 hB5; replace ho5 := Lib.hid ho5; replace hB5 := Lib.hid hB5; clear hb5))
  all_goals
    go_wp2_with fail
    refine bodyPost_ret (v := .tuple #[.agg #[.int .i64 R, .slice pv lv cv], .bool true]) ?_ rfl ⟨_, rfl, ?_, ?_⟩
    · simp [results, Tryd.results20, go_sem, hl7, r0, r1]
    · exact (own2 ho5.out hl4).mono hB3
    · exact ((bt1 hb3.out hB5.out).setCell (Nat.le_succ _) _).setCell (Nat.le_succ _) _

end Go.Proofs.YtmjeilimdnngpaaDoor
