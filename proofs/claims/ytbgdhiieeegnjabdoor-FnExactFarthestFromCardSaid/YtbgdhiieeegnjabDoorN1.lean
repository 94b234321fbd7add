/- The ring by which the number becomes one more or one less: both ways. -/
import Derived.Test.YtbgdhiieeegnjabDoorA3
namespace Go.Proofs.YtbgdhiieeegnjabDoor
open Go Go.RowKit RM

/-- the ring moved from x toward y -/
def stepK (x y : Nat) : Nat := if num x < num y then up (num x) else up (num x - 1)
theorem gray_down (n : Nat) (h : n ≠ 0) : gray (n - 1) = gray n ^^^ 2 ^ up (n - 1) := by
  have := gray_up (n - 1)
  rw [show n - 1 + 1 = n from by omega] at this
  rw [this, Nat.xor_assoc, Nat.xor_self, Nat.xor_zero]
theorem nxt_step (x y : Nat) (h : x ≠ y) : gray (nxt x y) = x ^^^ 2 ^ stepK x y := by
  have hne : num x ≠ num y := fun e => h (num_inj e)
  unfold nxt stepK
  by_cases h1 : num x < num y
  · rw [if_pos h1, if_pos h1, gray_up, gray_num]
  · rw [if_neg h1, if_neg h1, if_pos (by omega), gray_down _ (by omega), gray_num]
theorem stepK_lt (n x y : Nat) (h : x ≠ y) (hx : x < 2 ^ n) (hy : y < 2 ^ n) : stepK x y < n := by
  have hne : num x ≠ num y := fun e => h (num_inj e)
  have a := num_lt n x hx
  have b := num_lt n y hy
  unfold stepK
  split
  · exact up_lt n _ (by omega)
  · exact up_lt n _ (by omega)
def riseK (x : Nat) : Nat := if pop x % 2 = 0 then 0 else ctz x + 1
def lowK (x : Nat) : Nat := if pop x % 2 = 1 then 0 else ctz x + 1
theorem rise_up (x : Nat) : riseK x = up (num x) := by
  unfold riseK
  rw [pop_mod]
  by_cases h : num x % 2 = 0
  · rw [if_pos h, up_even h]
  · rw [if_neg h, up_place _ (by omega), gray_num]
theorem low_up (x : Nat) (h0 : num x ≠ 0) : lowK x = up (num x - 1) := by
  unfold lowK
  rw [pop_mod]
  by_cases h : num x % 2 = 1
  · rw [if_pos h, up_even (by omega)]
  · rw [if_neg h, down_place _ (by omega) h0, gray_num]

theorem raising_any (n x : Nat) (w : World) (hx : x < 1048576) (hz : ctz x ≤ 20) : Calls Tryd.prog 47 #[(.agg #[.int .i64 ((ctz (x) : Nat) : Int), .bool (onB (x)), .int .i64 ((n : Nat) : Int), .int .u64 ((x : Nat) : Int)])] w fun e w' => e = .returned (.int .i64 (riseK x : Int)) ∧ Below w.heap.size w w' := by
  have hC := Lib.hid fun w => countOn_any n x w hx
  have hp : Hid (pop x ≤ 20) := Lib.hid (pop_le 20 x hx)
  by_cases h : pop x % 2 = 0
  · have hR : riseK x = 0 := if_pos h
    have hq : ((pop x : Int)).tmod 2 = 0 := by rw [Int.tmod_eq_emod_of_nonneg (by omega)]; omega
    rw [hR]
    go_enter Tryd.func47, Tryd.ntmps47
    go_wp2_with fail
    refine (hC.out _).mono ?_; rintro e w1 ⟨rfl, hb⟩
    have hb := Lib.hid hb
    go_wp2_with fail
    go_ret; exact ⟨rfl, bt (ba _ _) hb.out⟩
  · have hR : riseK x = ctz x + 1 := if_neg h
    have hq : ((pop x : Int)).tmod 2 = 1 := by rw [Int.tmod_eq_emod_of_nonneg (by omega)]; omega
    rw [hR]
    go_enter Tryd.func47, Tryd.ntmps47
    go_wp2_with fail
    refine (hC.out _).mono ?_; rintro e w1 ⟨rfl, hb⟩
    have f : ∀ o, w1.cell? ⟨w.heap.size, o, none⟩ = _ := fun o => hb.cell (p := ⟨w.heap.size, o, none⟩) (by simp)
    have hb := Lib.hid hb
    go_wp2_with fail
    go_ret; exact ⟨ret_int (by omega), bt (ba _ _) hb.out⟩

theorem lowering_any (n x : Nat) (w : World) (hx : x < 1048576) (hz : ctz x ≤ 20) : Calls Tryd.prog 48 #[(.agg #[.int .i64 ((ctz (x) : Nat) : Int), .bool (onB (x)), .int .i64 ((n : Nat) : Int), .int .u64 ((x : Nat) : Int)])] w fun e w' => e = .returned (.int .i64 (lowK x : Int)) ∧ Below w.heap.size w w' := by
  have hC := Lib.hid fun w => countOn_any n x w hx
  have hp : Hid (pop x ≤ 20) := Lib.hid (pop_le 20 x hx)
  by_cases h : pop x % 2 = 1
  · have hR : lowK x = 0 := if_pos h
    have hq : ((pop x : Int)).tmod 2 = 1 := by rw [Int.tmod_eq_emod_of_nonneg (by omega)]; omega
    rw [hR]
    go_enter Tryd.func48, Tryd.ntmps48
    go_wp2_with fail
    refine (hC.out _).mono ?_; rintro e w1 ⟨rfl, hb⟩
    have hb := Lib.hid hb
    go_wp2_with fail
    go_ret; exact ⟨rfl, bt (ba _ _) hb.out⟩
  · have hR : lowK x = ctz x + 1 := if_neg h
    have hq : ((pop x : Int)).tmod 2 = 0 := by rw [Int.tmod_eq_emod_of_nonneg (by omega)]; omega
    rw [hR]
    go_enter Tryd.func48, Tryd.ntmps48
    go_wp2_with fail
    refine (hC.out _).mono ?_; rintro e w1 ⟨rfl, hb⟩
    have f : ∀ o, w1.cell? ⟨w.heap.size, o, none⟩ = _ := fun o => hb.cell (p := ⟨w.heap.size, o, none⟩) (by simp)
    have hb := Lib.hid hb
    go_wp2_with fail
    go_ret; exact ⟨ret_int (by omega), bt (ba _ _) hb.out⟩

set_option maxHeartbeats 1000000 in
set_option maxRecDepth 100000 in
theorem toward_any (n x y : Nat) (w : World) (hx : x < 1048576) (hy : y < 1048576) : Calls Tryd.prog 28 #[(.agg #[.int .i64 ((ctz (x) : Nat) : Int), .bool (onB (x)), .int .i64 ((n : Nat) : Int), .int .u64 ((x : Nat) : Int)]), (.agg #[.int .i64 ((ctz (y) : Nat) : Int), .bool (onB (y)), .int .i64 ((n : Nat) : Int), .int .u64 ((y : Nat) : Int)])] w fun e w' => e = .returned (if num x < num y then .func (.func 47) #[] #[] else .func (.func 48) #[] #[]) ∧ Below w.heap.size w w' := by
  go_enter Tryd.func28, Tryd.ntmps28
  go_wp2_with fail
  obtain ⟨W, hW⟩ : ∃ W, W = (w.alloc (.cells #[.int .i64 (ctz x), .bool (onB x), .int .i64 n, .int .u64 x] 44)).alloc (.cells #[.int .i64 (ctz y), .bool (onB y), .int .i64 n, .int .u64 y] 44) := ⟨_, rfl⟩
  have hb : Below w.heap.size w W := by subst hW; exact bt (ba _ _) (ba _ _)
  have hs : W.heap.size = w.heap.size + 2 := by subst hW; simp
  have c0 : CellsOf W w.heap.size n x := by subst hW; simp [CellsOf]
  have c1 : CellsOf W (w.heap.size + 1) n y := by subst hW; simp [CellsOf]
  obtain ⟨p0, p1, p2, p3⟩ := c0
  obtain ⟨q0, q1, q2, q3⟩ := c1
  rw [← hW]
  clear hW
  go_region_held3 (fun w' => (w'.cell? ⟨w.heap.size, 0, none⟩ = some (.int .i64 (ctz x)) ∧ w'.cell? ⟨w.heap.size, 1, none⟩ = some (.bool (onB x)) ∧ w'.cell? ⟨w.heap.size, 2, none⟩ = some (.int .i64 n) ∧ w'.cell? ⟨w.heap.size, 3, none⟩ = some (.int .u64 x)) ∧ (w'.cell? ⟨w.heap.size + 1, 0, none⟩ = some (.int .i64 (ctz y)) ∧ w'.cell? ⟨w.heap.size + 1, 1, none⟩ = some (.bool (onB y)) ∧ w'.cell? ⟨w.heap.size + 1, 2, none⟩ = some (.int .i64 n) ∧ w'.cell? ⟨w.heap.size + 1, 3, none⟩ = some (.int .u64 y)) ∧ w.heap.size + 2 ≤ w'.heap.size ∧ Below w.heap.size w w') ((refine ⟨⟨?_, ?_, ?_, ?_⟩, ⟨?_, ?_, ?_, ?_⟩, ?_, ?_⟩ <;> first | assumption | go_keep | omega | exact hb.drew))
    (first | (go_at_call 44; refine (number_any _ _ _ ?_).mono ?_; (first | exact hx | exact hy); rintro e w' ⟨rfl, hb2⟩; obtain ⟨hc, hf⟩ := bcell hb2; have hz := hb2.size; have hbn := keepB hb2 (by assumption); obtain ⟨hl0, hl1⟩ := keepL hb2 (by assumption)))
  all_goals
    go_wp2_with fail
    all_goals
      go_ret
      exact ⟨rfl, by assumption⟩

theorem differs_core (s t : ByteArray) (k : Nat) (w : World) (hl : Hid (s.size = t.size)) (hk : k < s.size) (ha : Hid (∀ k (h : k < s.size), s[k].toNat < 128)) (hb : Hid (∀ i (h : i < s.size) (h' : i < t.size), i < k → ((s[i].toNat : Int) != (t[i].toNat : Int)) = false)) (he : Hid (∀ (h : k < s.size) (h' : k < t.size), ((s[k].toNat : Int) != (t[k].toNat : Int)) = true)) :
    Calls Tryd.prog 25 #[.string s, .string t] w fun e w' => e = .returned (.int .i64 (k : Int)) ∧ Below w.heap.size w w' := by
  go_enter Tryd.func25, Tryd.ntmps25
  go_wp2
  go_loopw [] (fun wr => ∃ i : Nat, i ≤ k ∧ wr.heap[w.heap.size]? = some (.stringIter s i) ∧ Hid (Below w.heap.size w wr)) (fun wr => s.size - wr.iterPos w.heap.size)
  case atStart => exact ⟨0, Nat.zero_le _, World.iter_heap w s 0, (Below.refl _ _).alloc (Nat.le_refl _) _⟩
  case round =>
    obtain ⟨i, hi, hit, hbw⟩ := hrel
    have hpos : wr.iterPos w.heap.size = i := iterPos_of hit
    have hlt : i < s.size := by omega
    have hlt2 : i < t.size := by rw [← hl.out]; exact hlt
    have hnx : ∀ ty, (Instr.next (.pointer (some ⟨w.heap.size, 0, none⟩)) true ty).run Tryd.prog wr = .ok (.tuple #[.bool true, .int .i64 (i : Int), .int .i32 (s[i].toNat : Int)]) (wr.iterAt w.heap.size s (i + 1)) := fun ty => by
      have := Lib.run_next_any_at (P := Tryd.prog) wr w.heap.size s i ty hit hlt
      rw [decode_ascii s i hlt (ha.out i hlt)] at this; exact this
    have hit2 := Lib.iterAt_heap wr w.heap.size s i (i + 1) hit
    have hb2 := Lib.hid (Lib.below_iterAt hbw.out (k := w.heap.size) (Nat.le_refl _) s (i + 1))
    obtain ⟨W1, hW1⟩ : ∃ W1, W1 = wr.iterAt w.heap.size s (i + 1) := ⟨_, rfl⟩
    rw [← hW1] at hnx hit2 hb2
    have hpos2 : W1.iterPos w.heap.size = i + 1 := iterPos_of hit2
    clear hW1 hit hbw
    by_cases hik : i < k
    · have hne := hb.out i hlt hlt2 hik
      go_wp2_with fail
      go_quiet (fail)
      go_wp2_with fail
      go_roundw
      case rel => exact ⟨i + 1, by omega, hit2, Lib.hid (below_drewN hb2.out _)⟩
      case measure => rw [hpos]; show s.size - W1.iterPos w.heap.size < _; rw [hpos2]; omega
    · obtain rfl : i = k := by omega
      have hne := he.out hlt hlt2
      go_wp2_with fail
      go_quiet (fail)
      go_wp2_with fail
      go_ret
      exact ⟨rfl, below_drewN hb2.out _⟩

theorem tw_iff (b : Bool) (c : Bool) : ((if b then (49 : UInt8) else 48) != (if c then (49 : UInt8) else 48)) = (b != c) := by cases b <;> cases c <;> rfl
theorem differs_ST (n x k : Nat) (w : World) (hk : k < n) :
    Calls Tryd.prog 25 #[.string (ST n x), .string (ST n (x ^^^ 2 ^ k))] w fun e w' => e = .returned (.int .i64 (k : Int)) ∧ Below w.heap.size w w' := by
  refine differs_core _ _ k w (Lib.hid (by rw [ST_size, ST_size])) (by rw [ST_size]; exact hk) (Lib.hid (fun k h => by rw [ST_get]; split <;> decide)) (Lib.hid fun i h h' hi => ?_) (Lib.hid fun h h' => ?_)
  · rw [ST_get, ST_get]
    have : (x ^^^ 2 ^ k).testBit i = x.testBit i := by rw [Nat.testBit_xor, Nat.testBit_two_pow, decide_eq_false (by omega)]; simp
    rw [this]; simp
  · rw [ST_get, ST_get]
    have : (x ^^^ 2 ^ k).testBit k = !x.testBit k := by rw [Nat.testBit_xor, Nat.testBit_two_pow]; simp
    rw [this]; cases x.testBit k <;> decide

theorem next_ST (n x y : Nat) (w : World) (hn : n ≤ 20) (hx : x < 2 ^ n) (hy : y < 2 ^ n) (h : x ≠ y) :
    Calls Tryd.prog 26 #[.string (ST n x), .string (ST n y)] w fun e w' => e = .returned (.string (ST n (x ^^^ 2 ^ stepK x y))) ∧ ∃ q, w' = w.drewN q := by
  have := riNext_ST n x y w hn hx hy
  rw [nxt_step x y h] at this; exact this

end Go.Proofs.YtbgdhiieeegnjabDoor
