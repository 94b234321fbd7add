/- Lists of moves: both ways. -/
import Derived.Test.YtbgdhiieeegnjaaDoorA5
import Derived.Test.YtbgdhiieeegnjaaDoorArgs
namespace Go.Proofs.YtbgdhiieeegnjaaDoor
open Go Go.RowKit RM

/-- the state behind the moves up to the first one that cannot be made, and how many are made -/
def play (n : Nat) : Nat → List Int → Nat × Nat
  | x, [] => (x, 0)
  | x, k :: ms => if canB n x k then ((play n (x ^^^ 2 ^ k.toNat) ms).1, (play n (x ^^^ 2 ^ k.toNat) ms).2 + 1) else (x, 0)
theorem play_lt (n : Nat) (h1 : 1 ≤ n) : ∀ (ms : List Int) (x : Nat), x < 2 ^ n → (play n x ms).1 < 2 ^ n := by
  intro ms
  induction ms with
  | nil => intro x h; exact h
  | cons k ms ih =>
    intro x h; unfold play; split
    · rename_i hc
      obtain ⟨j, rfl, hj⟩ := canB_true n x k h1 hc
      exact ih _ (Nat.xor_lt_two_pow h (Nat.pow_lt_pow_right (a := 2) (by omega) hj))
    · exact h
theorem ctz_zero : ctz 0 = 0 := by rw [ctz]; simp
theorem onB_zero : onB 0 = false := by simp [onB]
def FreeB (w : World) (b : Nat) : Prop := ∀ o, w.frozen? ⟨b, o, none⟩ = false
theorem FreeB.below {w w' : World} {b : Nat} (h : FreeB w b) (hb : Below w.heap.size w w') (hl : b < w.heap.size) : FreeB w' b := fun o => by
  rw [hb.frozen (p := ⟨b, o, none⟩) hl]; exact h o
theorem play_stop (n y k : Nat) (ms : List Int) (h : k < ms.length) (hc : canB n y ms[k] = false) : play n y (ms.drop k) = (y, 0) := by
  rw [List.drop_eq_getElem_cons h]; simp [play, hc]
theorem play_step (n y k : Nat) (ms : List Int) (h : k < ms.length) (hc : canB n y ms[k] = true) : play n y (ms.drop k) = ((play n (y ^^^ 2 ^ ms[k].toNat) (ms.drop (k + 1))).1, (play n (y ^^^ 2 ^ ms[k].toNat) (ms.drop (k + 1))).2 + 1) := by
  rw [List.drop_eq_getElem_cons h]; simp [play, hc]
theorem play_le (n : Nat) : ∀ (ms : List Int) (x : Nat), (play n x ms).2 ≤ ms.length := by
  intro ms
  induction ms with
  | nil => intro x; simp [play]
  | cons k ms ih => intro x; unfold play; split <;> simp; exact ih _

set_option maxHeartbeats 1000000 in
set_option maxRecDepth 100000 in
theorem played_core (n x b off len cap : Nat) (ms : List Int) (w : World) (h1 : 1 ≤ n) (hn : n ≤ 20) (hx : x < 2 ^ n) (hlen : len ≤ 2000) (hm : Hid (ms.length = len)) (hT : TabOk w) (hbl : b < w.heap.size)
    (hc : Hid (∀ i (h : i < ms.length), w.cell? ⟨b, off + i, none⟩ = some (.int .i64 ms[i]))) :
    Calls Tryd.prog 59 #[(.agg #[.int .i64 ((ctz (x) : Nat) : Int), .bool (onB (x)), .int .i64 ((n : Nat) : Int), .int .u64 ((x : Nat) : Int)]), .slice (some ⟨b, off, none⟩) len cap] w fun e w' => e = .returned (.tuple #[(.agg #[.int .i64 ((ctz ((play n x ms).1) : Nat) : Int), .bool (onB ((play n x ms).1)), .int .i64 ((n : Nat) : Int), .int .u64 (((play n x ms).1 : Nat) : Int)]), .int .i64 ((play n x ms).2 : Int)]) ∧ Below w.heap.size w w' := by
  have hT := Lib.hid hT
  have hxx := Lib.hid hx
  clear hx
  go_enter Tryd.func59, Tryd.ntmps59
  go_wp2_with fail
  go_loopw [10] (fun i wr => ∃ k y : Nat, k ≤ len ∧ i = .int .i64 k ∧ y < 2 ^ n ∧ Hid (play n x ms = ((play n y (ms.drop k)).1, (play n y (ms.drop k)).2 + k)) ∧ Hid (Below w.heap.size w wr) ∧ w.heap.size + 2 ≤ wr.heap.size ∧ Hid (CellsOf wr w.heap.size n y) ∧ Hid (CellsOf wr (w.heap.size + 1) 0 0) ∧ Hid (TabOk wr) ∧ Hid (FreeB wr w.heap.size) ∧ Hid (FreeB wr (w.heap.size + 1))) (fun i _ => len - (intOf i).toNat)
  case atStart =>
    refine ⟨0, x, Nat.zero_le _, rfl, hxx.out, Lib.hid (by simp), Lib.hid (bt (ba _ _) (ba _ _)), by simp, Lib.hid (by simp [CellsOf]), Lib.hid (by simp [CellsOf, ctz_zero, onB_zero]), Lib.hid (TabOk.alloc (TabOk.alloc hT.out _) _), Lib.hid (by intro o; simp), Lib.hid (by intro o; simp)⟩
  case round =>
    obtain ⟨k, y, hk, rfl, hy, hpl, hb, hs, hcs, hcr, hTr, hf1, hf2⟩ := hrel
    by_cases hlt : k < len
    · obtain ⟨c0, c1, c2, c3⟩ := hcs.out
      obtain ⟨d0, d1, d2, d3⟩ := hcr.out
      have hkm : k < ms.length := by rw [hm.out]; exact hlt
      have hrd : wr.cell? ⟨b, off + k, none⟩ = some (.int .i64 ms[k]) := by
        rw [hb.out.cell (p := ⟨b, off + k, none⟩) hbl]; exact hc.out k hkm
      have HC := Lib.hid fun w => canMove_any n y ms[k] w h1 hn
      have HS := Lib.hid (play_stop n y k ms hkm)
      have HY := Lib.hid (play_step n y k ms hkm)
      generalize hz : ms[k] = z at *
      clear hz
      cases hcc : canB n y z
      · rw [hcc] at HC
        go_wp2_with fail
        refine (HC.out _).mono ?_; rintro e w2 ⟨rfl, hb2⟩
        obtain ⟨e0, e1, e2, e3⟩ := hcs.out.below hb2 (by omega)
        obtain ⟨f0, f1, f2, f3⟩ := hcr.out.below hb2 (by omega)
        have g1 := FreeB.below hf1.out hb2 (by omega)
        have g2 := FreeB.below hf2.out hb2 (by omega)
        unfold FreeB at g1 g2
        have hb2 := Lib.hid hb2
        clear c0 c1 c2 c3 d0 d1 d2 d3 hrd
        have HR : play n x ms = (y, k) := by rw [hpl.out, HS.out hcc]; simp
        go_wp2_with fail
        rw [HR]
        refine bodyPost_ret (v := .tuple #[(.agg #[.int .i64 ((ctz (y) : Nat) : Int), .bool (onB (y)), .int .i64 ((n : Nat) : Int), .int .u64 ((y : Nat) : Int)]), .int .i64 k]) (by simp [results, Tryd.results59, go_sem, *]) rfl ⟨rfl, ?_⟩
        refine Below.setCell (Below.setCell (Below.setCell (Below.setCell ?_ (by simp) _) (by simp) _) (by simp) _) (by simp) _
        refine (hb.out.trans (hb2.out.mono hb.out.size)).trans ?_
        repeat (first | exact Below.refl _ _ | (refine Below.drew ?_) | (refine Below.alloc ?_ (by simp) _))
      · obtain ⟨j, rfl, hj⟩ := canB_true n y z h1 hcc
        rw [hcc] at HC
        go_wp2_with fail
        refine (HC.out _).mono ?_; rintro e w2 ⟨rfl, hb2⟩
        obtain ⟨e0, e1, e2, e3⟩ := hcs.out.below hb2 (by omega)
        obtain ⟨f0, f1, f2, f3⟩ := hcr.out.below hb2 (by omega)
        have g1 := FreeB.below hf1.out hb2 (by omega)
        have g2 := FreeB.below hf2.out hb2 (by omega)
        unfold FreeB at g1 g2
        have hb2 := Lib.hid hb2
        clear c0 c1 c2 c3 d0 d1 d2 d3 hrd
        have hlt2 : w.heap.size < w2.heap.size := Nat.lt_of_lt_of_le (by omega) hb2.out.size
        have HY2 := Lib.hid (HY.out hcc)
        have hTr2 := Lib.hid (hTr.out.below hb2.out)
        have hy20 := Nat.lt_of_lt_of_le hy (pow20 hn)
        have HM := Lib.hid (moved_any n y j w2 hy20 (by omega) hTr2.out)
        clear hcc HY HS
        go_wp2_with fail
        refine HM.out.mono ?_; rintro e w3 ⟨rfl, hb3⟩
        clear HM
        have hc4 : ∀ o, w3.cell? ⟨w.heap.size, o, none⟩ = w2.cell? ⟨w.heap.size, o, none⟩ := fun o => hb3.cell (p := ⟨w.heap.size, o, none⟩) hlt2
        have hf4 : ∀ o, w3.frozen? ⟨w.heap.size, o, none⟩ = w2.frozen? ⟨w.heap.size, o, none⟩ := fun o => hb3.frozen (p := ⟨w.heap.size, o, none⟩) hlt2
        have hb3 := Lib.hid hb3
        go_wp2_with fail
        go_roundw
        case rel =>
          refine ⟨k + 1, y ^^^ 2 ^ j, by omega, by go_num, ?_, Lib.hid ?_, Lib.hid ?_, ?_, Lib.hid ?_, Lib.hid ?_, Lib.hid ?_, Lib.hid ?_, Lib.hid ?_⟩
          · exact Nat.xor_lt_two_pow hy (Nat.pow_lt_pow_right (a := 2) (by omega) hj)
          · rw [hpl.out, HY2.out]; simp; omega
          · refine Below.setCell (Below.setCell (Below.setCell (Below.setCell ?_ (by simp) _) (by simp) _) (by simp) _) (by simp) _
            exact (hb.out.trans (hb2.out.mono hb.out.size)).trans (hb3.out.mono (by omega))
          · have := hb2.out.size; have := hb3.out.size; simp; omega
          · simp [CellsOf, go_sem, *]
          · obtain ⟨q0, q1, q2, q3⟩ := ((hcr.out.below hb2.out (by omega)).below hb3.out (by have := hb2.out.size; omega))
            simp [CellsOf, go_sem, *]
          · refine hT.out.below (Below.setCell (Below.setCell (Below.setCell (Below.setCell ?_ (by simp) _) (by simp) _) (by simp) _) (by simp) _)
            exact (hb.out.trans (hb2.out.mono hb.out.size)).trans (hb3.out.mono (by omega))
          · intro o; simp [go_sem, *]
          · have q := (FreeB.below (FreeB.below hf2.out hb2.out (by omega)) hb3.out (by have := hb2.out.size; omega))
            unfold FreeB at q
            intro o; simp [go_sem, *]
        all_goals (simp [intOf] <;> omega)
    · obtain rfl : k = len := by omega
      obtain ⟨c0, c1, c2, c3⟩ := hcs.out
      obtain ⟨d0, d1, d2, d3⟩ := hcr.out
      have g1 := hf1.out
      have g2 := hf2.out
      unfold FreeB at g1 g2
      have HR : play n x ms = (y, k) := by rw [hpl.out, List.drop_eq_nil_of_le (by rw [hm.out]; exact Nat.le_refl _)]; simp [play]
      go_wp2_with fail
      rw [HR]
      refine bodyPost_ret (v := .tuple #[(.agg #[.int .i64 ((ctz (y) : Nat) : Int), .bool (onB (y)), .int .i64 ((n : Nat) : Int), .int .u64 ((y : Nat) : Int)]), .int .i64 k]) (by simp [results, Tryd.results59, go_sem, *]) rfl ⟨rfl, ?_⟩
      refine Below.setCell (Below.setCell (Below.setCell (Below.setCell ?_ (by simp) _) (by simp) _) (by simp) _) (by simp) _
      refine hb.out.trans ?_
      repeat (first | exact Below.refl _ _ | (refine Below.drew ?_) | (refine Below.alloc ?_ (by simp) _))

theorem riPlay_core (n x b off len cap : Nat) (ms : List Int) (w : World) (h1 : 1 ≤ n) (hn : n ≤ 20) (hx : x < 2 ^ n) (hlen : len ≤ 2000) (hm : Hid (ms.length = len)) 
    (hc : Hid (∀ i (h : i < ms.length), w.cell? ⟨b, off + i, none⟩ = some (.int .i64 ms[i]))) :
    Calls Tryd.prog 57 #[.string (ST n x), .slice (some ⟨b, off, none⟩) len cap] w fun e w' => e = .returned (.tuple #[.string (ST n (play n x ms).1), .int .i64 (if (play n x ms).2 = len then -1 else ((play n x ms).2 : Int))]) ∧ ∃ q, w' = w.drewN q := by
  have hxx := Lib.hid hx
  clear hx
  go_enter Tryd.func57, Tryd.ntmps57
  go_wp2_with fail
  go_loopw [0, 10] (fun t i wr => ∃ k y : Nat, k ≤ len ∧ t = .string (ST n y) ∧ i = .int .i64 k ∧ y < 2 ^ n ∧ Hid (play n x ms = ((play n y (ms.drop k)).1, (play n y (ms.drop k)).2 + k)) ∧ Hid (∃ q, wr = w.drewN q)) (fun _ i _ => len - (intOf i).toNat)
  case atStart => exact ⟨0, x, Nat.zero_le _, rfl, rfl, hxx.out, Lib.hid (by simp), Lib.hid ⟨0, rfl⟩⟩
  case round =>
    obtain ⟨k, y, hk, rfl, rfl, hy, hpl, hw⟩ := hrel
    by_cases hlt : k < len
    · have hkm : k < ms.length := by rw [hm.out]; exact hlt
      have hrd : wr.cell? ⟨b, off + k, none⟩ = some (.int .i64 ms[k]) := by
        obtain ⟨q, rfl⟩ := hw.out; simp; exact hc.out k hkm
      have HC := Lib.hid fun w => riCan_ST n y ms[k] w h1 hn
      have HS := Lib.hid (play_stop n y k ms hkm)
      have HY := Lib.hid (play_step n y k ms hkm)
      generalize hz : ms[k] = z at *
      clear hz
      cases hcc : canB n y z
      · rw [hcc] at HC
        have HR : play n x ms = (y, k) := by rw [hpl.out, HS.out hcc]; simp
        have hif : (if k = len then (-1 : Int) else (k : Int)) = (k : Int) := if_neg (by omega)
        go_wp2_with fail
        refine (HC.out _).mono ?_; rintro e w2 ⟨rfl, rfl⟩
        go_wp2_with fail
        all_goals (go_ret2; exact ⟨rfl, hw.out⟩)
      · obtain ⟨j, rfl, hj⟩ := canB_true n y z h1 hcc
        rw [hcc] at HC
        have HY2 := Lib.hid (HY.out hcc)
        have HM := Lib.hid fun w => riMove_ST n y j w hn hj
        clear hcc HY HS
        go_wp2_with fail
        refine (HC.out _).mono ?_; rintro e w2 ⟨rfl, rfl⟩
        go_wp2_with fail
        refine (HM.out _).mono ?_; rintro e w3 ⟨rfl, q3, rfl⟩
        go_wp2_with fail
        go_roundw
        case rel =>
          refine ⟨k + 1, y ^^^ 2 ^ j, by omega, by go_num, by go_num, ?_, Lib.hid ?_, Lib.hid ?_⟩
          · exact Nat.xor_lt_two_pow hy (Nat.pow_lt_pow_right (a := 2) (by omega) hj)
          · rw [hpl.out, HY2.out]; simp; omega
          · obtain ⟨q, rfl⟩ := hw.out; exact ⟨q + q3, by simp⟩
        all_goals (simp [intOf] <;> omega)
    · obtain rfl : k = len := by omega
      have HR : play n x ms = (y, k) := by rw [hpl.out, List.drop_eq_nil_of_le (by rw [hm.out]; exact Nat.le_refl _)]; simp [play]
      go_wp2_with fail
      all_goals (go_ret2; exact ⟨rfl, hw.out⟩)

set_option maxRecDepth 100000 in
theorem played_nil (n x : Nat) (a : Option Addr) (cap : Nat) (w : World) :
    Calls Tryd.prog 59 #[(.agg #[.int .i64 ((ctz (x) : Nat) : Int), .bool (onB (x)), .int .i64 ((n : Nat) : Int), .int .u64 ((x : Nat) : Int)]), .slice a 0 cap] w fun e w' => e = .returned (.tuple #[(.agg #[.int .i64 ((ctz (x) : Nat) : Int), .bool (onB (x)), .int .i64 ((n : Nat) : Int), .int .u64 ((x : Nat) : Int)]), .int .i64 0]) ∧ Below w.heap.size w w' := by
  go_enter Tryd.func59, Tryd.ntmps59
  go_wp2_with fail
  go_loopw [10] (fun i wr => i = .int .i64 0 ∧ wr = (w.alloc (.cells #[.int .i64 (ctz x), .bool (onB x), .int .i64 n, .int .u64 x] 50)).alloc (.cells #[.int .i64 0, .bool false, .int .i64 0, .int .u64 0] 50)) (fun _ _ => 0)
  case atStart => exact ⟨rfl, rfl⟩
  case round =>
    obtain ⟨rfl, rfl⟩ := hrel
    go_wp2_with fail
    refine bodyPost_ret (v := .tuple #[(.agg #[.int .i64 ((ctz (x) : Nat) : Int), .bool (onB (x)), .int .i64 ((n : Nat) : Int), .int .u64 ((x : Nat) : Int)]), .int .i64 0]) (by simp [results, Tryd.results59, go_sem, *]) rfl ⟨rfl, ?_⟩
    exact bt (ba _ _) (ba _ _)

theorem riPlay_nil (s : ByteArray) (a : Option Addr) (cap : Nat) (w : World) :
    Calls Tryd.prog 57 #[.string s, .slice a 0 cap] w fun e w' => e = .returned (.tuple #[.string s, .int .i64 (-1)]) ∧ ∃ q, w' = w.drewN q := by
  go_enter Tryd.func57, Tryd.ntmps57
  go_wp2_with fail
  go_loopw [0, 10] (fun t i wr => t = .string s ∧ i = .int .i64 0 ∧ wr = w) (fun _ _ _ => 0)
  case atStart => exact ⟨rfl, rfl, rfl⟩
  case round =>
    obtain ⟨rfl, rfl, rfl⟩ := hrel
    go_wp2_with fail
    all_goals (go_ret2; exact ⟨rfl, 0, rfl⟩)

theorem played_any (n x : Nat) (a : Option Addr) (cap : Nat) (ms : List Int) (w : World) (h1 : 1 ≤ n) (hn : n ≤ 20) (hx : x < 2 ^ n) (hlen : ms.length ≤ 2000) (hT : TabOk w) (h : ArgI w a ms) :
    Calls Tryd.prog 59 #[(.agg #[.int .i64 ((ctz (x) : Nat) : Int), .bool (onB (x)), .int .i64 ((n : Nat) : Int), .int .u64 ((x : Nat) : Int)]), .slice a ms.length cap] w fun e w' => e = .returned (.tuple #[(.agg #[.int .i64 ((ctz ((play n x ms).1) : Nat) : Int), .bool (onB ((play n x ms).1)), .int .i64 ((n : Nat) : Int), .int .u64 (((play n x ms).1 : Nat) : Int)]), .int .i64 ((play n x ms).2 : Int)]) ∧ Below w.heap.size w w' := by
  rcases h with rfl | ⟨b, off, rfl, hl, hc⟩
  · exact played_nil n x a cap w
  · exact played_core n x b off _ cap ms w h1 hn hx hlen (Lib.hid rfl) hT hl (Lib.hid hc)

theorem riPlay_any (n x : Nat) (a : Option Addr) (cap : Nat) (ms : List Int) (w : World) (h1 : 1 ≤ n) (hn : n ≤ 20) (hx : x < 2 ^ n) (hlen : ms.length ≤ 2000) (h : ArgI w a ms) :
    Calls Tryd.prog 57 #[.string (ST n x), .slice a ms.length cap] w fun e w' => e = .returned (.tuple #[.string (ST n (play n x ms).1), .int .i64 (if (play n x ms).2 = ms.length then -1 else ((play n x ms).2 : Int))]) ∧ ∃ q, w' = w.drewN q := by
  rcases h with rfl | ⟨b, off, rfl, hl, hc⟩
  · exact riPlay_nil _ a cap w
  · exact riPlay_core n x b off _ cap ms w h1 hn hx hlen (Lib.hid rfl) (Lib.hid hc)

theorem moveCount_yes (n : Int) (w : World) (h : n ≤ 2000) : Calls Tryd.prog 58 #[.int .i64 n] w fun e w' => e = .returned (.bool true) ∧ w = w' := by
  go_enter Tryd.func58, Tryd.ntmps58
  go_wp2
  go_ret; exact ⟨rfl, rfl⟩

theorem moveCount_no (n : Int) (w : World) (h : 2000 < n) : Calls Tryd.prog 58 #[.int .i64 n] w fun e w' => e = .returned (.bool false) ∧ w = w' := by
  go_enter Tryd.func58, Tryd.ntmps58
  go_wp2
  go_ret; exact ⟨ret_bool (by simp; omega), rfl⟩

end Go.Proofs.YtbgdhiieeegnjaaDoor
