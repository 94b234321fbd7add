/- Two rings at once: which moves there are, and what they do, both ways. -/
import Derived.Test.YtmbijomjilicgabDoorA5
import Derived.Test.YtmbijomjilicgabDoorB1
namespace Go.Proofs.YtmbijomjilicgabDoor
open Go Go.RowKit RM

def pcan (n x : Nat) (k : Int) : Bool := if k = -1 then bothB x else canB n x k
theorem pcan_both (n x : Nat) : pcan n x (-1) = bothB x := rfl
theorem pcan_ring (n x : Nat) (k : Int) (h : k ≠ -1) : pcan n x k = canB n x k := by unfold pcan; rw [if_neg h]
theorem pmL_mv (n x : Nat) : pmL n x = (if bothB x then [-1] else []) ++ mvL n x n := rfl
/-- the moves ahead of k = j - 1 -/
def pmU (n x j : Nat) : List Int := if j = 0 then [] else (if bothB x then [-1] else []) ++ mvL n x (j - 1)
theorem pmU_all (n x : Nat) : pmU n x (n + 1) = pmL n x := by unfold pmU; rw [if_neg (by omega)]; rfl
theorem pmU_succ (n x j : Nat) : pmU n x (j + 1) = (if bothB x then [-1] else []) ++ mvL n x j := rfl
theorem pmU_yes (n x j : Nat) (h : pcan n x ((j : Int) - 1) = true) : pmU n x (j + 1) = pmU n x j ++ [(j : Int) - 1] := by
  cases j with
  | zero => rw [show (((0 : Nat) : Int) - 1) = -1 from rfl, pcan_both] at h; rw [pmU_succ, h]; rfl
  | succ j =>
    have e : (((j + 1 : Nat) : Int) - 1) = (j : Int) := by omega
    rw [e, pcan_ring n x _ (by omega)] at h
    rw [pmU_succ, pmU_succ, e, mvL_yes n x j h, List.append_assoc]
theorem pmU_no (n x j : Nat) (h : pcan n x ((j : Int) - 1) = false) : pmU n x (j + 1) = pmU n x j := by
  cases j with
  | zero => rw [show (((0 : Nat) : Int) - 1) = -1 from rfl, pcan_both] at h; rw [pmU_succ, h]; rfl
  | succ j =>
    have e : (((j + 1 : Nat) : Int) - 1) = (j : Int) := by omega
    rw [e, pcan_ring n x _ (by omega)] at h
    rw [pmU_succ, pmU_succ, mvL_no n x j h]
theorem pmU_len (n x j : Nat) : (pmU n x j).length ≤ j + 1 := by
  unfold pmU
  split
  · simp
  · have := mvL_len n x (j - 1)
    split
    · simp; omega
    · simp; omega

theorem and3 (x : Nat) (hx : x < 1048576) : bits BinOp.and IntKind.u64 (x : Int) 3 = ((x % 4 : Nat) : Int) := by
  have := bits_and_u64_nat x 3 (by omega) (by omega)
  rw [show ((3 : Nat) : Int) = 3 from rfl] at this
  rw [this, show (3 : Nat) = 2 ^ 2 - 1 from rfl, Nat.and_two_pow_sub_one_eq_mod]
theorem xor3_u64 (x : Nat) (hx : x < 1048576) : bits BinOp.xor IntKind.u64 (x : Int) 3 = ((x ^^^ 3 : Nat) : Int) := by
  have := bits_xor_u64_nat x 3 (by omega) (by omega)
  rw [show ((3 : Nat) : Int) = 3 from rfl] at this; exact this

theorem canPair_both (n x : Nat) (y : Nat) (w : World) (hy : y < 4) (h3 : bits BinOp.and IntKind.u64 (x : Int) 3 = ((y : Nat) : Int)) :
    Calls Tryd.prog 70 #[(.agg #[.int .i64 ((ctz (x) : Nat) : Int), .bool (onB (x)), .int .i64 ((n : Nat) : Int), .int .u64 ((x : Nat) : Int)]), .int .i64 (-1)] w fun e w' => e = .returned (.bool (decide (y = 0) || decide (y = 3))) ∧ Below w.heap.size w w' := by
  have hc : y = 0 ∨ y = 1 ∨ y = 2 ∨ y = 3 := by omega
  clear hy
  rcases hc with rfl | rfl | rfl | rfl
  all_goals
    go_enter Tryd.func70, Tryd.ntmps70
    go_wp2_with fail
    go_ret; exact ⟨ret_bool (by simp), (Below.refl _ _).alloc (Nat.le_refl _) _⟩
theorem canPair_ring (n x : Nat) (k : Int) (w : World) (hk : k ≠ -1) (h1 : 1 ≤ n) (hn : n ≤ 20) :
    Calls Tryd.prog 70 #[(.agg #[.int .i64 ((ctz (x) : Nat) : Int), .bool (onB (x)), .int .i64 ((n : Nat) : Int), .int .u64 ((x : Nat) : Int)]), .int .i64 k] w fun e w' => e = .returned (.bool (canB n x k)) ∧ Below w.heap.size w w' := by
  have hC := Lib.hid fun w => canMove_any n x k w h1 hn
  generalize canB n x k = c at *
  have h0 : (k == -1) = false := by simp [hk]
  go_enter Tryd.func70, Tryd.ntmps70
  go_wp2_with fail
  refine (hC.out _).mono ?_; rintro e w1 ⟨rfl, hb⟩
  have hb := Lib.hid hb
  go_wp2_with fail
  go_ret; exact ⟨rfl, bt (ba _ _) hb.out⟩
theorem canPair_any (n x : Nat) (k : Int) (w : World) (h1 : 1 ≤ n) (hn : n ≤ 20) (hx : x < 1048576) :
    Calls Tryd.prog 70 #[(.agg #[.int .i64 ((ctz (x) : Nat) : Int), .bool (onB (x)), .int .i64 ((n : Nat) : Int), .int .u64 ((x : Nat) : Int)]), .int .i64 k] w fun e w' => e = .returned (.bool (pcan n x k)) ∧ Below w.heap.size w w' := by
  by_cases hk : k = -1
  · subst hk; rw [pcan_both]; unfold bothB
    exact canPair_both n x (x % 4) w (by omega) (and3 x hx)
  · rw [pcan_ring n x k hk]; exact canPair_ring n x k w hk h1 hn

set_option maxRecDepth 100000 in
theorem pairMoves_core (n x : Nat) (w : World) (hn : n ≤ 20)
    (hC : Hid (∀ (k : Int) w, Calls Tryd.prog 70 #[(.agg #[.int .i64 ((ctz (x) : Nat) : Int), .bool (onB (x)), .int .i64 ((n : Nat) : Int), .int .u64 ((x : Nat) : Int)]), .int .i64 k] w fun e w' => e = .returned (.bool (pcan n x k)) ∧ Below w.heap.size w w')) :
    Calls Tryd.prog 61 #[(.agg #[.int .i64 ((ctz (x) : Nat) : Int), .bool (onB (x)), .int .i64 ((n : Nat) : Int), .int .u64 ((x : Nat) : Int)])] w fun e w' => ∃ v, e = .returned v ∧ OwnI w' (w.heap.size + 1) v (pmL n x) ∧ Below w.heap.size w w' := by
  go_enter Tryd.func61, Tryd.ntmps61
  go_wp2_with fail
  go_loopw [3, 4] (fun o i wr => ∃ j : Nat, j ≤ n + 1 ∧ i = .int .i64 ((j : Int) - 1) ∧ Hid (OwnI wr (w.heap.size + 1) o (pmU n x j)) ∧ Hid (Below w.heap.size w wr) ∧ w.heap.size + 1 ≤ wr.heap.size ∧ Hid (CellsOf wr w.heap.size n x)) (fun _ i _ => n + 1 - (intOf i + 1).toNat)
  case atStart => exact ⟨0, Nat.zero_le _, rfl, OwnI.nil _ _, ba _ _, by simp, by simp [Hid, CellsOf]⟩
  case round =>
    obtain ⟨j, hj, rfl, ho, hb, hs, hcs⟩ := hrel
    by_cases hlt : j < n + 1
    · obtain ⟨c0, c1, c2, c3⟩ := hcs.out
      have hcan := Lib.hid (hC.out ((j : Int) - 1))
      have hlen : Hid ((pmU n x j).length ≤ 2000000) := Lib.hid (by have := pmU_len n x j; omega)
      cases hc : pcan n x ((j : Int) - 1)
      · rw [hc] at hcan
        have HN := Lib.hid (pmU_no n x j hc)
        clear hc
        go_wp2_with fail
        refine (hcan.out _).mono ?_; rintro e w2 ⟨rfl, hb2⟩
        have hb2 := Lib.hid hb2
        go_wp2_with fail
        go_roundw
        case rel =>
          refine ⟨j + 1, by omega, vi (by omega), Lib.hid ?_, Lib.hid ?_, ?_, Lib.hid ?_⟩
          · rw [HN.out]; exact ho.out.below hb2.out
          · exact hb.out.trans (hb2.out.mono hb.out.size)
          · exact Nat.le_trans hs hb2.out.size
          · exact hcs.out.below hb2.out (by omega)
        all_goals (simp [intOf] <;> omega)
      · rw [hc] at hcan
        have HY := Lib.hid (pmU_yes n x j hc)
        clear hc
        go_wp2_with fail
        refine (hcan.out _).mono ?_; rintro e w2 ⟨rfl, hb2⟩
        have hb2 := Lib.hid hb2
        have hs2 := Nat.le_trans hs hb2.out.size
        go_wp2_with (at_builtin; refine app_int _ rfl _ _ rfl (w.heap.size + 1) _ _ rfl ((ho.out.below hb2.out).alloc _) w2.heap.size _ rfl (by simp; rfl) hlen.out (by simp; omega) ?_; intro v' w' ho' hg')
        have ho2 := Lib.hid ho'
        have hg2 := Lib.hid hg'
        clear ho' hg'
        go_roundw
        case rel =>
          refine ⟨j + 1, by omega, vi (by omega), Lib.hid ?_, Lib.hid ?_, ?_, Lib.hid ?_⟩
          · rw [HY.out]; exact ho2.out
          · exact bel_own ((hb.out.trans (hb2.out.mono hb.out.size)).alloc (Nat.le_trans hb.out.size hb2.out.size) _) (((ho.out.below hb2.out).alloc _).mono (by omega)) hg2.out (by have := hb.out.size; have := hb2.out.size; simp; omega)
          · have := hg2.out.size; simp at this; omega
          · exact ((hcs.out.below hb2.out (by omega)).below (ba _ _) (by omega)).own ((ho.out.below hb2.out).alloc _) hg2.out (by omega) (by simp; omega)
        all_goals (simp [intOf] <;> omega)
    · obtain rfl : j = n + 1 := by omega
      obtain ⟨c0, c1, c2, c3⟩ := hcs.out
      go_wp2_with fail
      go_ret
      exact ⟨_, rfl, by rw [← pmU_all]; exact ho.out, hb.out⟩
theorem pairMoves_any (n x : Nat) (w : World) (h1 : 1 ≤ n) (hn : n ≤ 20) (hx : x < 1048576) :
    Calls Tryd.prog 61 #[(.agg #[.int .i64 ((ctz (x) : Nat) : Int), .bool (onB (x)), .int .i64 ((n : Nat) : Int), .int .u64 ((x : Nat) : Int)])] w fun e w' => ∃ v, e = .returned v ∧ OwnI w' (w.heap.size + 1) v (pmL n x) ∧ Below w.heap.size w w' :=
  pairMoves_core n x w hn (Lib.hid fun k w => canPair_any n x k w h1 hn hx)

theorem pairMoved_both (n x y : Nat) (w : World) (hT : TabOk w) (hy : y < 2 ^ 64) (hz : bits BinOp.xor IntKind.u64 (x : Int) 3 = (y : Int)) :
    Calls Tryd.prog 58 #[(.agg #[.int .i64 ((ctz (x) : Nat) : Int), .bool (onB (x)), .int .i64 ((n : Nat) : Int), .int .u64 ((x : Nat) : Int)]), .int .i64 (-1)] w fun e w' => e = .returned (.agg #[.int .i64 ((ctz (y) : Nat) : Int), .bool (onB (y)), .int .i64 ((n : Nat) : Int), .int .u64 ((y : Nat) : Int)]) ∧ Below w.heap.size w w' := by
  have hT := Lib.hid hT
  have hC := Lib.hid fun w hw => newBar_any n y w hy hw
  clear hy
  go_enter Tryd.func58, Tryd.ntmps58
  go_wp2_with fail
  refine (hC.out _ ?_).mono ?_
  · repeat (first | exact hT.out | apply TabOk.alloc | apply TabOk.drew | apply TabOk.drewN)
  rintro e w' ⟨rfl, hb⟩
  obtain ⟨hc, hf⟩ := bcell hb
  go_wp2_with fail
  refine bodyPost_ret (v := (.agg #[.int .i64 ((ctz (y) : Nat) : Int), .bool (onB (y)), .int .i64 ((n : Nat) : Int), .int .u64 ((y : Nat) : Int)])) ?_ rfl ⟨rfl, ?_⟩
  · simp [results, Tryd.results58, go_sem, hc]
  · refine Below.setCell (Below.setCell (Below.setCell (Below.setCell ?_ (by simp) _) (by simp) _) (by simp) _) (by simp) _
    refine Below.trans ?_ (hb.mono (by simp <;> omega))
    repeat (first | exact Below.refl _ _ | (refine Below.drew ?_) | (refine Below.alloc ?_ (by simp) _))
theorem pairMoved_ring (n x k y : Nat) (w : World) (hT : TabOk w) 
    (hM : Hid (∀ w, TabOk w → Calls Tryd.prog 74 #[(.agg #[.int .i64 ((ctz (x) : Nat) : Int), .bool (onB (x)), .int .i64 ((n : Nat) : Int), .int .u64 ((x : Nat) : Int)]), .int .i64 k] w fun e w' => e = .returned (.agg #[.int .i64 ((ctz (y) : Nat) : Int), .bool (onB (y)), .int .i64 ((n : Nat) : Int), .int .u64 ((y : Nat) : Int)]) ∧ Below w.heap.size w w')) :
    Calls Tryd.prog 58 #[(.agg #[.int .i64 ((ctz (x) : Nat) : Int), .bool (onB (x)), .int .i64 ((n : Nat) : Int), .int .u64 ((x : Nat) : Int)]), .int .i64 k] w fun e w' => e = .returned (.agg #[.int .i64 ((ctz (y) : Nat) : Int), .bool (onB (y)), .int .i64 ((n : Nat) : Int), .int .u64 ((y : Nat) : Int)]) ∧ Below w.heap.size w w' := by
  have hT := Lib.hid hT
  have h0 : ((k : Int) == -1) = false := by simp
  go_enter Tryd.func58, Tryd.ntmps58
  go_wp2_with fail
  refine (hM.out _ ?_).mono ?_
  · repeat (first | exact hT.out | apply TabOk.alloc | apply TabOk.drew | apply TabOk.drewN)
  rintro e w' ⟨rfl, hb⟩
  obtain ⟨hc, hf⟩ := bcell hb
  go_wp2_with fail
  refine bodyPost_ret (v := (.agg #[.int .i64 ((ctz (y) : Nat) : Int), .bool (onB (y)), .int .i64 ((n : Nat) : Int), .int .u64 ((y : Nat) : Int)])) ?_ rfl ⟨rfl, ?_⟩
  · simp [results, Tryd.results58, go_sem, hc]
  · refine Below.setCell (Below.setCell (Below.setCell (Below.setCell ?_ (by simp) _) (by simp) _) (by simp) _) (by simp) _
    refine Below.trans ?_ (hb.mono (by simp <;> omega))
    repeat (first | exact Below.refl _ _ | (refine Below.drew ?_) | (refine Below.alloc ?_ (by simp) _))
theorem msk_lt (n : Nat) (k : Int) (x : Nat) (h2 : 2 ≤ n) (h1 : pcan n x k = true) : msk k < 2 ^ n := by
  unfold msk
  split
  · have := Nat.pow_le_pow_right (n := 2) (by omega) h2; omega
  · rename_i hk
    rw [pcan_ring n x k hk] at h1
    obtain ⟨j, rfl, hj⟩ := canB_true n x k (by omega) h1
    exact Nat.pow_lt_pow_right (by omega) (by simpa using hj)
theorem pairMoved_any (n x : Nat) (k : Int) (w : World) (h2 : 2 ≤ n) (hn : n ≤ 20) (hx : x < 2 ^ n) (hk : pcan n x k = true) (hT : TabOk w) :
    Calls Tryd.prog 58 #[(.agg #[.int .i64 ((ctz (x) : Nat) : Int), .bool (onB (x)), .int .i64 ((n : Nat) : Int), .int .u64 ((x : Nat) : Int)]), .int .i64 k] w fun e w' => e = .returned (.agg #[.int .i64 ((ctz (x ^^^ msk k) : Nat) : Int), .bool (onB (x ^^^ msk k)), .int .i64 ((n : Nat) : Int), .int .u64 ((x ^^^ msk k : Nat) : Int)]) ∧ Below w.heap.size w w' := by
  have hx2 := Nat.lt_of_lt_of_le hx (pow20 hn)
  by_cases e : k = -1
  · subst e
    have h : x ^^^ 3 < 2 ^ 20 := Nat.xor_lt_two_pow hx2 (by omega)
    exact pairMoved_both n x (x ^^^ 3) w hT (by omega) (xor3_u64 x hx2)
  · have hk' := hk
    rw [pcan_ring n x k e] at hk
    obtain ⟨j, rfl, hj⟩ := canB_true n x k (by omega) hk
    have em : msk (j : Int) = 2 ^ j := by unfold msk; rw [if_neg (by omega)]; rfl
    rw [em]
    exact pairMoved_ring n x j _ w hT (Lib.hid fun w hw => moved_any n x j w hx2 (by omega) hw)
theorem pm_can (n x : Nat) (k : Int) (h : k ∈ pmL n x) : pcan n x k = true := by
  rw [pmL_mv, List.mem_append] at h
  rcases h with h | h
  · by_cases b : bothB x = true
    · rw [if_pos b] at h; simp at h; subst h; rw [pcan_both]; exact b
    · rw [if_neg b] at h; simp at h
  · unfold mvL at h
    simp at h
    obtain ⟨i, ⟨_, hi⟩, rfl⟩ := h
    rw [pcan_ring n x _ (by omega)]; exact hi
theorem can_pm (n x : Nat) (k : Int) (h1 : 1 ≤ n) (h : pcan n x k = true) : k ∈ pmL n x := by
  rw [pmL_mv, List.mem_append]
  by_cases e : k = -1
  · subst e; rw [pcan_both] at h; left; rw [if_pos h]; simp
  · rw [pcan_ring n x k e] at h
    obtain ⟨j, rfl, hj⟩ := canB_true n x k h1 h
    right; unfold mvL; simp; exact ⟨j, ⟨hj, h⟩, rfl⟩
end Go.Proofs.YtmbijomjilicgabDoor
