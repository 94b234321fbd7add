/- The most that is saved: both ways. -/
import Derived.Test.YtmbijomjilicgabDoorB11
import Derived.Test.YtmbijomjilicgabDoorB12
import Derived.Deep.RegionHeld3
namespace Go.Proofs.YtmbijomjilicgabDoor
open Go Go.RowKit RM

/-- the greatest of what the numbers below k save, from 0 on -/
def msv (x : Nat) : Nat → Int
  | 0 => 0
  | k + 1 => max (msv x k) ((k : Int) - fN x k)
theorem msv_le (x : Nat) : ∀ k, 0 ≤ msv x k ∧ msv x k ≤ k := by
  intro k
  induction k with
  | zero => exact ⟨Int.le_refl _, Int.le_refl _⟩
  | succ k ih =>
    show 0 ≤ max (msv x k) ((k : Int) - fN x k) ∧ max (msv x k) ((k : Int) - fN x k) ≤ ((k + 1 : Nat) : Int)
    unfold fN; omega
theorem keepG3 {a1 gm g N : Nat} {w a b : World} {v0 v1 v2 d : Value} (h1 : a1 < N) (h2 : gm < N) (k : Below a.heap.size a b)
    (h : (a.cell? ⟨a1, 0, none⟩ = some v0 ∧ a.cell? ⟨a1, 1, none⟩ = some v1 ∧ a.cell? ⟨a1, 2, none⟩ = some v2) ∧ a.cell? ⟨gm, g, none⟩ = some d ∧ N ≤ a.heap.size ∧ Below N w a) :
    (b.cell? ⟨a1, 0, none⟩ = some v0 ∧ b.cell? ⟨a1, 1, none⟩ = some v1 ∧ b.cell? ⟨a1, 2, none⟩ = some v2) ∧ b.cell? ⟨gm, g, none⟩ = some d ∧ N ≤ b.heap.size ∧ Below N w b := by
  obtain ⟨⟨p0, p1, p2⟩, q, l, be⟩ := h
  have l1 : a1 < a.heap.size := Nat.lt_of_lt_of_le h1 l
  have l2 : gm < a.heap.size := Nat.lt_of_lt_of_le h2 l
  refine ⟨⟨?_, ?_, ?_⟩, ?_, Nat.le_trans l k.size, be.trans (k.mono l)⟩
  · rw [k.cell (p := ⟨a1, 0, none⟩) l1]; exact p0
  · rw [k.cell (p := ⟨a1, 1, none⟩) l1]; exact p1
  · rw [k.cell (p := ⟨a1, 2, none⟩) l1]; exact p2
  · rw [k.cell (p := ⟨gm, g, none⟩) l2]; exact q

theorem iMS_no (n : Int) (w : World) (h : n < 2 ∨ 12 < n) : Calls Tryd.prog 24 #[.int .i64 n] w fun e w' => AnsI w 0 false e w' := by
  have hP := Lib.hid fun w => isPaired_any n w
  rw [show (decide (2 ≤ n) && decide (n ≤ 12)) = false from by simp; omega] at hP
  go_enter Tryd.func24, Tryd.ntmps24
  go_wp2_with fail
  refine (hP.out _).mono ?_; rintro e w' ⟨rfl, rfl⟩
  go_wp2_with fail
  go_ret2; exact ⟨rfl, Below.refl _ _⟩
set_option maxRecDepth 100000 in
set_option maxHeartbeats 4000000 in
theorem iMS_core (n N : Nat) (ms : List Int) (w : World) (hT : TabOk w) (hN : N ≤ 4096) (h1 : 1 ≤ N) (hml : ms.length = N)
    (hgl : Hid (∀ k, k < N → gray k < N)) (hmg : Hid (∀ k (h : gray k < ms.length), ms[gray k] = fN 0 k)) (hf0 : Hid (∀ k, k < N → fN 0 k ≤ 4096))
    (hP : Hid (∀ w, Calls Tryd.prog 45 #[.int .i64 n] w fun e w' => e = .returned (.bool true) ∧ w = w'))
    (hO : Hid (∀ w, TabOk w → Calls Tryd.prog 46 #[.int .i64 n] w fun e w' => e = .returned (.agg #[.int .i64 ((ctz (0) : Nat) : Int), .bool (onB (0)), .int .i64 ((n : Nat) : Int), .int .u64 ((0 : Nat) : Int)]) ∧ Below w.heap.size w w'))
    (hG : Hid (∀ w, Calls Tryd.prog 47 #[.int .i64 n] w fun e w' => e = .returned (.int .i64 ((N - 1 : Nat) : Int)) ∧ w = w'))
    (hB : Hid (∀ k w, k < N → TabOk w → Calls Tryd.prog 48 #[.int .i64 n, .int .i64 (k : Int)] w fun e w' => e = .returned (.agg #[.int .i64 ((ctz (gray k) : Nat) : Int), .bool (onB (gray k)), .int .i64 ((n : Nat) : Int), .int .u64 ((gray k : Nat) : Int)]) ∧ Below w.heap.size w w'))
    (hS : Hid (∀ w, TabOk w → Calls Tryd.prog 38 #[(.agg #[.int .i64 ((ctz (0) : Nat) : Int), .bool (onB (0)), .int .i64 ((n : Nat) : Int), .int .u64 ((0 : Nat) : Int)])] w fun e w' => ∃ gm gw, e = .returned (.agg #[.int .i64 n, .slice (some ⟨gm, 0, none⟩) N N, .slice (some ⟨gw, 0, none⟩) N N]) ∧ OwnI w' w.heap.size (.slice (some ⟨gm, 0, none⟩) N N) ms ∧ Below w.heap.size w w')) :
    Calls Tryd.prog 24 #[.int .i64 n] w fun e w' => AnsI w (msv 0 N) true e w' := by
  have hT := Lib.hid hT
  have hfb := tfieldB
  go_enter Tryd.func24, Tryd.ntmps24
  go_wp2_with fail
  refine (hP.out _).mono ?_; rintro e w1 ⟨rfl, rfl⟩
  go_wp2_with fail
  refine (hO.out _ hT.out).mono ?_; rintro e w1 ⟨rfl, hb1⟩
  have hT1 := Lib.hid (hT.out.below hb1)
  have hb1 := Lib.hid hb1
  go_wp2_with fail
  refine (hS.out _ hT1.out).mono ?_; rintro e w2 ⟨gm, gw, rfl, ho, hb2⟩
  have hT2 := Lib.hid (hT1.out.below hb2)
  have hbb := Lib.hid (bt hb1.out hb2)
  have hgml := (ho.lt gm rfl).2
  have ho := Lib.hid ho
  have hb2 := Lib.hid hb2
  go_upto_region 5 with fail
  obtain ⟨W, hW⟩ : ∃ W, W = w2.alloc (fndO n N gm gw) := ⟨_, rfl⟩
  have gf := alloc_at w2 (fndO n N gm gw)
  have hoW := ho.out.below (ba w2 (fndO n N gm gw))
  have hTW := Lib.hid (hT2.out.alloc (fndO n N gm gw))
  have hbW := Lib.hid (bt hbb.out (ba w2 (fndO n N gm gw)))
  rw [← hW] at gf hoW hTW hbW
  rw [← hW]
  have m1 := lt_of_block gf
  have m2 := (hoW.lt gm rfl).2
  clear hW
  have hYtmbijomjilicgabDoor : ((N - 1 : Nat) : Int) + 1 = (N : Int) := by omega
  have gf := Lib.hid gf
  have hoW := Lib.hid hoW
  go_wp2_with fail
  refine (hG.out _).mono ?_; rintro e w3 ⟨rfl, rfl⟩
  go_wp2_with fail
  go_loopw [5, 16] (fun m i wr => ∃ k : Nat, k ≤ N ∧ i = .int .i64 k ∧ m = .int .i64 (msv 0 k) ∧ Hid (Below W.heap.size W wr)) (fun _ i _ => N - (intOf i).toNat)
  case atStart => exact ⟨0, Nat.zero_le _, rfl, rfl, Below.refl _ _⟩
  case round =>
    obtain ⟨k, hk, rfl, rfl, hb⟩ := hrel
    by_cases hlt : k < N
    · have hgk := hgl.out k hlt
      have hcell := (hoW.out.cell hml (gray k) (by rw [hml]; exact hgk)).1
      rw [hmg.out] at hcell
      have hBk := Lib.hid (hB.out k · hlt)
      have hst : Hid (msv 0 (k + 1) = max (msv 0 k) ((k : Int) - fN 0 k)) := Lib.hid rfl
      have hmv := msv_le 0 k
      have hf4 := hf0.out k hlt
      have hf5 : 0 ≤ fN 0 k := by unfold fN; omega
      obtain ⟨g, hg⟩ : ∃ g, Hid (g = gray k) := ⟨_, Lib.hid rfl⟩
      obtain ⟨d, hd⟩ : ∃ d, Hid (d = fN 0 k) := ⟨_, Lib.hid rfl⟩
      obtain ⟨a, ha⟩ : ∃ a, Hid (a = msv 0 k) := ⟨_, Lib.hid rfl⟩
      rw [← hg.out] at hgk hcell hBk
      rw [← hd.out] at hcell hst hf4 hf5
      rw [← ha.out] at hst hmv
      rw [← ha.out]
      obtain ⟨⟨d0, d1, d2⟩, _⟩ := fnd_cells gf.out
      have e0 : wr.cell? ⟨w2.heap.size, 0, none⟩ = some (.int .i64 n) := (hb.out.cell (p := ⟨w2.heap.size, 0, none⟩) m1).trans d0
      have e1 : wr.cell? ⟨w2.heap.size, 1, none⟩ = some (.slice (some ⟨gm, 0, none⟩) N N) := (hb.out.cell (p := ⟨w2.heap.size, 1, none⟩) m1).trans d1
      have e2 : wr.cell? ⟨w2.heap.size, 2, none⟩ = some (.slice (some ⟨gw, 0, none⟩) N N) := (hb.out.cell (p := ⟨w2.heap.size, 2, none⟩) m1).trans d2
      have e3 : wr.cell? ⟨gm, g, none⟩ = some (.int .i64 d) := (hb.out.cell (p := ⟨gm, g, none⟩) m2).trans hcell
      have r1 : w2.heap.size < wr.heap.size := Nat.lt_of_lt_of_le m1 hb.out.size
      have r2 : gm < wr.heap.size := Nat.lt_of_lt_of_le m2 hb.out.size
      have hTr := Lib.hid (hTW.out.below hb.out)
      clear d0 d1 d2 hcell
      have hwr : IntKind.i64.wrap ((k : Int) - d) = (k : Int) - d := by rw [IntKind.wrap_i64]; omega
      go_wp2_with fail
      go_region_held3 (fun v => (v.cell? ⟨w2.heap.size, 0, none⟩ = some (.int .i64 n) ∧ v.cell? ⟨w2.heap.size, 1, none⟩ = some (.slice (some ⟨gm, 0, none⟩) N N) ∧ v.cell? ⟨w2.heap.size, 2, none⟩ = some (.slice (some ⟨gw, 0, none⟩) N N)) ∧ v.cell? ⟨gm, g, none⟩ = some (.int .i64 d) ∧ wr.heap.size ≤ v.heap.size ∧ Below wr.heap.size wr v) ((first | assumption | (refine ⟨⟨?_, ?_, ?_⟩, ?_, ?_, ?_⟩ <;> first | assumption | go_keep | exact Nat.le_refl _ | exact (Below.refl _ _).drew)))
        ((go_at_call 48; refine (hBk.out _ ?_).mono ?_; (repeat (first | exact hTr.out | apply TabOk.alloc | apply TabOk.drew | apply TabOk.drewN)); rintro e w' ⟨rfl, hbm⟩; obtain ⟨hc, hf⟩ := bcell hbm; have hbn := keepG3 r1 r2 hbm (by assumption)))
      all_goals
        go_wp2_with fail
        go_roundw
        case rel => exact ⟨k + 1, by omega, by go_num, by rw [hst.out], Lib.hid (hb.out.trans (hbn.2.2.2.mono hb.out.size))⟩
        all_goals (simp [intOf] <;> omega)
    · obtain rfl : N = k := by omega
      go_wp2_with fail
      go_ret2
      exact ⟨rfl, hbW.out.trans (hb.out.mono hbW.out.size)⟩
theorem fN_le (n k : Nat) (h2 : 2 ≤ n) (hn : n ≤ 12) (hk : k < 2 ^ n) : fN 0 k ≤ 4096 := by
  have hq : 2 ^ n ≤ 2 ^ 12 := Nat.pow_le_pow_right (by omega) hn
  have hp := Nat.two_pow_pos n
  have := dd_le (num_lt n 0 hp) hk
  unfold fN; omega
theorem iMS_yes (n : Nat) (w : World) (h2 : 2 ≤ n) (hn : n ≤ 12) (hT : TabOk w) : Calls Tryd.prog 24 #[.int .i64 n] w fun e w' => AnsI w (msv 0 (2 ^ n)) true e w' := by
  have hp := Nat.two_pow_pos n
  have hq : 2 ^ n ≤ 2 ^ 12 := Nat.pow_le_pow_right (by omega) hn
  exact iMS_core n (2 ^ n) (sdL n 0) w hT (by omega) (by omega) (sdL_len n 0) (Lib.hid fun k hk => gray_lt n k hk) (Lib.hid fun k h => sdL_gray n 0 k h) (Lib.hid fun k hk => fN_le n k h2 hn hk) (Lib.hid fun w => by
    have := isPaired_any n w
    rw [show (decide (2 ≤ (n : Int)) && decide ((n : Int) ≤ 12)) = true from by simp; omega] at this; exact this) (Lib.hid fun w hw => barAllOff_any n w hw) (Lib.hid fun w => greatest_any n w (by omega)) (Lib.hid fun k w hk hw => barOfNumber_any n k w (by omega) (by omega) hw) (Lib.hid fun w hw => sm_any n 0 w h2 hn hp hw)
theorem sMS_no (n : Int) (w : World) (h : n < 2 ∨ 12 < n) : Calls Tryd.prog 23 #[.int .i64 n] w fun e w' => AnsI w 0 false e w' := by
  have hP := Lib.hid fun w => twRings_any n w
  rw [show (decide (2 ≤ n) && decide (n ≤ 12)) = false from by simp; omega] at hP
  go_enter Tryd.func23, Tryd.ntmps23
  go_wp2_with fail
  refine (hP.out _).mono ?_; rintro e w' ⟨rfl, rfl⟩
  go_wp2_with fail
  go_ret2; exact ⟨rfl, Below.refl _ _⟩
theorem sMS_core (n N : Nat) (s0 : ByteArray) (ms : List Int) (w : World) (hN : N ≤ 4096) (hml : ms.length = N) (hf : Hid (∀ k (h : k < ms.length), ms[k] = fN 0 k)) (hf0 : Hid (∀ k, k < N → fN 0 k ≤ 4096))
    (hP : Hid (∀ w, Calls Tryd.prog 43 #[.int .i64 n] w fun e w' => e = .returned (.bool true) ∧ w = w'))
    (hA0 : Hid (∀ w, Calls Tryd.prog 44 #[.int .i64 n, .string ⟨#[48]⟩] w fun e w' => e = .returned (.string s0) ∧ w = w'))
    (hS : Hid (∀ w, Calls Tryd.prog 34 #[.string s0] w fun e w' => ∃ gm gw, e = .returned (.tuple #[.slice (some ⟨gm, 0, none⟩) N N, .slice (some ⟨gw, 0, none⟩) N N]) ∧ OwnI w' w.heap.size (.slice (some ⟨gm, 0, none⟩) N N) ms ∧ Below w.heap.size w w')) :
    Calls Tryd.prog 23 #[.int .i64 n] w fun e w' => AnsI w (msv 0 N) true e w' := by
  go_enter Tryd.func23, Tryd.ntmps23
  go_wp2_with fail
  refine (hP.out _).mono ?_; rintro e w1 ⟨rfl, rfl⟩
  go_wp2_with fail
  refine (hA0.out _).mono ?_; rintro e w1 ⟨rfl, rfl⟩
  go_wp2_with fail
  refine (hS.out _).mono ?_; rintro e w2 ⟨gm, gw, rfl, ho, hb2⟩
  have ho := Lib.hid ho
  have hb2 := Lib.hid hb2
  go_wp2_with fail
  go_loop [6, 20] (fun c i => ∃ k : Nat, k ≤ N ∧ i = .int .i64 k ∧ c = .int .i64 (msv 0 k)) (fun _ i => N - (intOf i).toNat)
  case atStart => exact ⟨0, by omega, rfl, rfl⟩
  case round =>
    obtain ⟨k, hk, rfl, rfl⟩ := hrel
    by_cases hlt : k < N
    · have hkm : k < ms.length := by rw [hml]; exact hlt
      have c0 := (ho.out.cell hml k hkm).1
      rw [hf.out] at c0
      have hst : Hid (msv 0 (k + 1) = max (msv 0 k) ((k : Int) - fN 0 k)) := Lib.hid rfl
      have hf4 := hf0.out k hlt
      have hf5 : 0 ≤ fN 0 k := by unfold fN; omega
      obtain ⟨d, hd⟩ : ∃ d, Hid (d = fN 0 k) := ⟨_, Lib.hid rfl⟩
      obtain ⟨a, ha⟩ : ∃ a, Hid (a = msv 0 k) := ⟨_, Lib.hid rfl⟩
      rw [← hd.out] at c0 hst hf4 hf5
      rw [← ha.out] at hst
      rw [← ha.out]
      have hwr : IntKind.i64.wrap ((k : Int) - d) = (k : Int) - d := by rw [IntKind.wrap_i64]; omega
      go_wp2_with (go_at_call 35; refine (l1Most_any _ _ _).mono ?_; rintro e w' ⟨rfl, rfl⟩)
      go_round
      case rel => exact ⟨k + 1, by omega, by go_num, by rw [hst.out]⟩
      all_goals (simp [intOf] <;> omega)
    · obtain rfl : N = k := by omega
      go_wp2_with fail
      go_ret2; exact ⟨rfl, hb2.out⟩
theorem sMS_yes (n : Nat) (w : World) (h2 : 2 ≤ n) (hn : n ≤ 12) : Calls Tryd.prog 23 #[.int .i64 n] w fun e w' => AnsI w (msv 0 (2 ^ n)) true e w' := by
  have hp := Nat.two_pow_pos n
  have hq : 2 ^ n ≤ 2 ^ 12 := Nat.pow_le_pow_right (by omega) hn
  exact sMS_core n (2 ^ n) (ST n 0) (fdL n 0) w (by omega) (fdL_len n 0) (Lib.hid fun k h => fdL_get n 0 k h) (Lib.hid fun k hk => fN_le n k h2 hn hk) (Lib.hid fun w => by
    have := twRings_any n w
    rw [show (decide (2 ≤ (n : Int)) && decide ((n : Int) ≤ 12)) = true from by simp; omega] at this; exact this) (Lib.hid fun w => riAll0_any n w (by omega)) (Lib.hid fun w => fm_any n 0 w h2 hn hp)
end Go.Proofs.YtmbijomjilicgabDoor
