/- Chapter 7: walks from a state, by the program. -/
import Derived.Test.YtfnhmacnghkgiaeDoorZF
namespace Go.Proofs.YtfnhmacnghkgiaeDoor
open Go Go.RowKit RM
/-- the window's row is the program's -/
theorem nx_win (L d a N j : Nat) (ha : a ≤ L) (hj : j < N) (hL : 1 ≤ L) (i : Nat) (hi : i < hiW L a N - loW a N + 1) :
    nxN (hiW L a N - loW a N + 1) d (fun i => wk L d a j (loW a N + i)) i = wk L d a (j + 1) (loW a N + i) := by
  have hlen := winR_len L d a N j
  have hs := winR_step L d a N j ha hj i (by rw [hlen]; exact hi) hL
  rw [hs]
  have hg : ∀ k, k < hiW L a N - loW a N + 1 → (winR L d a N j).getD k 0 = wk L d a j (loW a N + k) := fun k hk => by
    rw [List.getD_eq_getElem?_getD, List.getElem?_eq_getElem (by rw [hlen]; exact hk), winR_get]; rfl
  have he : ∀ k, k < hiW L a N - loW a N + 1 → efN (hiW L a N - loW a N + 1) d (fun i => wk L d a j (loW a N + i)) k = endR d (winR L d a N j) k := fun k hk => by
    unfold efN endR
    rw [hg k hk, hlen]
    by_cases h1 : k = hiW L a N - loW a N + 1 - 1
    · rw [if_pos h1, if_pos (Or.inr h1), Nat.mul_comm]
    · rw [if_neg h1]
      by_cases h2 : k = 0
      · rw [if_pos h2, if_pos (Or.inl h2), Nat.mul_comm]
      · rw [if_neg h2, if_neg (by omega)]
  unfold nxN
  congr 1
  · by_cases h1 : 1 ≤ i
    · rw [if_pos h1, if_pos h1, he (i - 1) (by omega)]
    · rw [if_neg h1, if_neg h1]
  · rw [hlen]
    by_cases h1 : i + 1 < hiW L a N - loW a N + 1
    · rw [if_pos h1, if_pos h1, he (i + 1) h1]
    · rw [if_neg h1, if_neg h1]
theorem wrap_sm (z : Int) (h : 0 ≤ z) (h2 : z < 4611686018427387904) : IntKind.i64.wrap z = z := by rw [IntKind.wrap_i64]; omega
/-- what 'walks' holds -/
def WK (n N lo : Nat) (v : Value) : Value := .agg #[.int .i64 (n : Int), .int .i64 (N : Int), .int .i64 (lo : Int), v]
set_option maxRecDepth 100000 in
set_option maxHeartbeats 4000000 in
theorem walksFrom_core (n x N d a lo hi G m : Nat) (h : Nat → Nat → Nat) (w : World) (hN : N ≤ 40) (hm : hi + 1 = lo + m) (hm2 : m ≤ 4096) (haN : lo ≤ a) (hal : a ≤ hi) (hab : a < 1048576) (hm1 : 0 < N → 2 ≤ m) (hd : d ≤ 2)
    (hlo : max ((a : Int) - N) 0 = (lo : Int)) (hhi : min ((a : Int) + N) (G : Int) = (hi : Int)) (hGb : G < 1048576)
    (hNum : Hid (∀ w, Calls Tryd.prog 46 #[(.agg #[.int .i64 ((ctz (x) : Nat) : Int), .bool (onB (x)), .int .i64 ((n : Nat) : Int), .int .u64 ((x : Nat) : Int)])] w fun e w' => e = .returned (.int .i64 (a : Int)) ∧ Below w.heap.size w w'))
    (hG : Hid (∀ w, Calls Tryd.prog 52 #[.int .i64 n] w fun e w' => e = .returned (.int .i64 (G : Int)) ∧ w = w'))
    (h0 : Hid ((fnR m (fun _ => 0)).set (a - lo) 1 = fnR m (h 0))) (hst : Hid (∀ j, j < N → fnR m (nxN m d (h j)) = fnR m (h (j + 1)))) (hbd : Hid (∀ j, j ≤ N → ∀ i, h j i ≤ 1099511627776)) :
    Calls Tryd.prog 32 #[(.agg #[.int .i64 ((ctz (x) : Nat) : Int), .bool (onB (x)), .int .i64 ((n : Nat) : Int), .int .u64 ((x : Nat) : Int)]), .int .i64 N, .int .i64 d] w fun e w' => ∃ v, e = .returned (WK n N lo v) ∧ OwnI w' w.heap.size v (fnR m (h N)) ∧ Below w.heap.size w w' := by
  have hfl := Lib.hid (fnR_len m)
  have hz := Lib.hid (fnR_zero m)
  have hmi : (hi : Int) - lo + 1 = (m : Int) := by omega
  obtain ⟨q, hq⟩ : ∃ q, a - lo = q := ⟨_, rfl⟩
  have hqi : (a : Int) - lo = (q : Int) := by omega
  have hqm : q < m := by omega
  have hs1 : (0 : Int) ≤ (a : Int) + N := by omega
  have hs2 : (a : Int) + N < 4611686018427387904 := by omega
  rw [hq] at h0
  replace hq := Lib.hid hq
  go_enter Tryd.func32, Tryd.ntmps32
  go_wp2_with fail
  obtain ⟨W, hW⟩ : ∃ W, W = (w.alloc (.cells #[.int .i64 (ctz x), .bool (onB x), .int .i64 n, .int .u64 x] 47)).alloc (.cells #[.int .i64 0, .int .i64 0, .int .i64 0, .slice none 0 0] 57) := ⟨_, rfl⟩
  rw [← hW]
  have hWz : W.heap.size = w.heap.size + 2 := by rw [hW]; simp
  have hWb := Lib.hid (show Below w.heap.size w W by rw [hW]; exact bt1 (ba1 _ _) (ba1 _ _))
  have k0 := Lib.hid (show W.heap[w.heap.size]? = some (barO n x) by rw [hW]; exact hb_old _ (hb_new _ _))
  have k1 := Lib.hid (show W.heap[w.heap.size + 1]? = some (.cells #[.int .i64 0, .int .i64 0, .int .i64 0, .slice none 0 0] 57) by rw [hW]; exact hb_new' _ _ _ (by simp))
  clear hW
  have l0 : w.heap.size < W.heap.size := by omega
  have l1 : w.heap.size + 1 < W.heap.size := by omega
  refine (hNum.out _).mono ?_; rintro e w1 ⟨rfl, hb1⟩
  have hz1 := hb1.size
  obtain ⟨⟨p0, p1, p2, p3⟩, _⟩ := bar_cells ((hb1.block _ l0).trans k0.out)
  have l2 : w.heap.size < w1.heap.size := by omega
  have hrf : Below w1.heap.size w1 w1 := Below.refl _ _
  replace hb1 := Lib.hid hb1
  go_upto_region 2 with fail
  go_cut [8] (fun t8 wx => t8 = .int .i64 hi ∧ Below w1.heap.size w1 wx)
  case first =>
    go_region_held3 (fun v => B1 n x w.heap.size w1.heap.size w1 v) (first | assumption | (refine ⟨⟨?_, ?_, ?_, ?_⟩, ?_, ?_⟩ <;> first | assumption | (refine Below.drew ?_; assumption) | go_keep | omega))
      (first
        | (go_at_call 46; refine (hNum.out _).mono ?_; rintro e w' ⟨rfl, hb2⟩; have hbn := kpB l2 hb2 (by assumption))
        | (go_at_call 52; refine (hG.out _).mono ?_; rintro e w' ⟨rfl, rfl⟩))
    all_goals
      go_wp2_with fail
      go_meet
      rename_i hBf
      exact ⟨by first | rfl | (rw [wrap_sm _ hs1 hs2, hhi]), kpBE hBf⟩
  case rest =>
    obtain ⟨rfl, hbc⟩ := hcut
    clear p0 p1 p2 p3 hrf
    have hcW := Lib.hid (show Below W.heap.size W wc from bt1 hb1.out hbc)
    clear hbc hb1
    obtain ⟨⟨p0, p1, p2, p3⟩, _⟩ := bar_cells ((hcW.out.block _ l0).trans k0.out)
    go_wp2_with (at_make; refine make_int _ rfl _ _ rfl _ _ m rfl rfl (by omega) ?_; intro w3 hown3 hb3; rw [hz.out] at hown3; have k3 := (hb3.block _ (Nat.lt_of_lt_of_le l0 hcW.out.size)).trans ((hcW.out.block _ l0).trans k0.out); clear p0 p1 p2 p3; obtain ⟨⟨p0, p1, p2, p3⟩, _⟩ := bar_cells k3; replace hown3 := Lib.hid hown3; replace hb3 := Lib.hid hb3; replace k3 := Lib.hid k3)
    refine (hNum.out _).mono ?_; rintro e w4 ⟨rfl, hb4⟩
    have ho4 := hown3.out.below hb4
    obtain ⟨c0, f0⟩ := ho4.cell (hfl.out _) q (by rw [hfl.out]; exact hqm)
    obtain ⟨ho5, hg5⟩ := ho4.stored (hfl.out _) q 1
    rw [h0.out] at ho5
    have hwl := hcW.out.size
    have hb5 := (show Below W.heap.size W w4 from bt1 (bt1 hcW.out hb3.out) hb4).grown hg5 (by have := hb3.out.size; have := hb4.size; omega) (fun j e => by cases e; exact hwl)
    have dq : decide ((q : Int) < (m : Int)) = true := by simp; omega
    replace ho5 := Lib.hid (ho5.mono hwl)
    replace hb5 := Lib.hid hb5
    clear ho4 hg5
    replace hb4 := Lib.hid hb4
    go_wp2_with fail
    go_loopw [9, 35] (fun v i wr => ∃ j : Nat, j ≤ N ∧ i = .int .i64 j ∧ Hid (OwnI wr W.heap.size v (fnR m (h j))) ∧ Hid (Below W.heap.size W wr)) (fun _ i _ => N - (intOf i).toNat)
    case atStart => exact ⟨0, Nat.zero_le _, rfl, ho5, hb5⟩
    case round =>
      obtain ⟨j, hj, rfl, ho, hb⟩ := hrel
      generalize wr = wl at *
      by_cases hlt : j < N
      · obtain ⟨g1, cap1, rfl, hg1, hg1l⟩ := own_some ho.out m (hfl.out _) (by omega)
        have hcall := Lib.hid (walkedOn_any g1 m cap1 W.heap.size d (h j) wl (hm1 (by omega)) hm2 hd (hbd.out j hj) ho.out)
        rw [hst.out j hlt] at hcall
        go_wp2_with fail
        refine hcall.out.mono ?_; rintro e w7 ⟨v, rfl, ho7, hb7⟩
        replace ho7 := Lib.hid (ho7.mono hb.out.size)
        replace hb7 := Lib.hid (bt1 hb.out hb7)
        go_wp2_with fail
        go_roundw
        case rel => exact ⟨j + 1, by omega, by go_num, ho7, hb7⟩
        all_goals (simp [intOf] <;> omega)
      · obtain rfl : j = N := by omega
        obtain ⟨g1, cap1, rfl, hg1, hg1l⟩ := own_some ho.out m (hfl.out _) (by omega)
        have k6 := (hb.out.block _ l1).trans k1.out
        obtain ⟨⟨q0, q1, q2, q3⟩, _⟩ := bar_cells ((hb.out.block _ l0).trans k0.out)
        have s0 : wl.cell? ⟨w.heap.size + 1, 0, none⟩ = some (.int .i64 0) := by simp [World.cell?, k6]
        have s1 : wl.cell? ⟨w.heap.size + 1, 1, none⟩ = some (.int .i64 0) := by simp [World.cell?, k6]
        have s2 : wl.cell? ⟨w.heap.size + 1, 2, none⟩ = some (.int .i64 0) := by simp [World.cell?, k6]
        have s3 : wl.cell? ⟨w.heap.size + 1, 3, none⟩ = some (.slice none 0 0) := by simp [World.cell?, k6]
        have sf : ∀ o, wl.frozen? ⟨w.heap.size + 1, o, none⟩ = false := fun o => by simp [World.frozen?, k6]
        have hlt6 : w.heap.size + 1 < wl.heap.size := Nat.lt_of_lt_of_le l1 hb.out.size
        clear k6
        go_wp2_with fail
        have hneq : g1 ≠ w.heap.size + 1 := by omega
        refine bodyPost_ret (v := WK n j lo (.slice (some ⟨g1, 0, none⟩) m cap1)) ?_ rfl ⟨_, rfl, ?_, ?_⟩
        · simp [results, Tryd.results32, go_sem, s0, s1, s2, s3, sf, hlt6, WK]
        · exact (own_keep (own_keep (own_keep (own_keep ho.out hneq 0 _) hneq 1 _) hneq 2 _) hneq 3 _).mono hWb.out.size
        · have hB := bt1 hWb.out hb.out
          refine Below.setCell (Below.setCell (Below.setCell (Below.setCell hB ?_ _) ?_ _) ?_ _) ?_ _ <;> (show w.heap.size ≤ w.heap.size + 1; omega)
theorem win_lt (L a N : Nat) (ha : a ≤ L) (hL : L < 4096) : hiW L a N - loW a N + 1 ≤ 4096 := by unfold hiW loW; omega
theorem walksFrom_any (n x N d : Nat) (w : World) (h1 : 1 ≤ n) (hn : n ≤ 12) (hx : x < 2 ^ n) (hN : N ≤ 40) (hd : d ≤ 2) :
    Calls Tryd.prog 32 #[(.agg #[.int .i64 ((ctz (x) : Nat) : Int), .bool (onB (x)), .int .i64 ((n : Nat) : Int), .int .u64 ((x : Nat) : Int)]), .int .i64 N, .int .i64 d] w fun e w' => ∃ v, e = .returned (WK n N (loW (num x) N) v) ∧ OwnI w' w.heap.size v (fnR (hiW (2 ^ n - 1) (num x) N - loW (num x) N + 1) (fun i => wk (2 ^ n - 1) d (num x) N (loW (num x) N + i))) ∧ Below w.heap.size w w' := by
  have hp := Nat.pow_le_pow_right (n := 2) (by omega) hn
  have hp2 := Nat.pow_le_pow_right (n := 2) (by omega) h1
  have hX := num_lt n x hx
  have hlen := win_lt (2 ^ n - 1) (num x) N (by omega) (by omega)
  have hG := fun w => greatest_any n w (by omega)
  have hbd : ∀ j, j ≤ N → ∀ i, wk (2 ^ n - 1) d (num x) j i ≤ 1099511627776 := fun j hj i => Nat.le_trans (wk_le (2 ^ n - 1) d (num x) (by omega) hd (by omega) j i) (Nat.pow_le_pow_right (n := 2) (by omega) (by omega : j ≤ 40))
  have hst := fun j hj i hi => nx_win (2 ^ n - 1) d (num x) N j (by omega) hj (by omega) i hi
  have h0 : (fnR (hiW (2 ^ n - 1) (num x) N - loW (num x) N + 1) (fun _ => 0)).set (num x - loW (num x) N) 1 = fnR (hiW (2 ^ n - 1) (num x) N - loW (num x) N + 1) (fun i => wk (2 ^ n - 1) d (num x) 0 (loW (num x) N + i)) := by
    have := fnR_set (hiW (2 ^ n - 1) (num x) N - loW (num x) N + 1) (fun _ => 0) (num x - loW (num x) N) 1
    rw [show (((1 : Nat) : Int)) = 1 from rfl] at this
    rw [this]
    apply fnR_congr
    intro i hi
    rw [wk_zero]
    unfold loW
    by_cases e : i = num x - (num x - N)
    · rw [if_pos e, if_pos (by omega)]
    · rw [if_neg e, if_neg (by omega)]
  generalize hL : 2 ^ n - 1 = L at *
  have hla : loW (num x) N ≤ num x := by unfold loW; omega
  have hha : num x ≤ hiW L (num x) N := by unfold hiW; omega
  refine walksFrom_core n x N d (num x) (loW (num x) N) (hiW L (num x) N) L (hiW L (num x) N - loW (num x) N + 1) (fun j i => wk L d (num x) j (loW (num x) N + i)) w hN (by omega) hlen hla hha (by omega) (fun hp => by unfold hiW loW; omega) hd (by unfold loW; omega) (by unfold hiW; omega) (by omega) (Lib.hid fun w => number_any n x w (by omega)) (Lib.hid hG) (Lib.hid h0) (Lib.hid fun j hj => ?_) (Lib.hid fun j hj i => hbd j hj _)
  apply fnR_congr
  intro i hi
  exact hst j hj i hi
set_option maxRecDepth 100000 in
theorem countTo_core (n N lo m c g B y Y R : Nat) (f : Nat → Nat) (w : World) (hm : m ≤ 4096) (hlo : lo < 1048576) (hY : Y < 1048576) (h : OwnI w B (.slice (some ⟨g, 0, none⟩) m c) (fnR m f))
    (hR : Hid ((Y < lo ∨ lo + m ≤ Y → R = 0) ∧ (lo ≤ Y → Y < lo + m → R = f (Y - lo))))
    (hNum : Hid (∀ w, Calls Tryd.prog 46 #[(.agg #[.int .i64 ((ctz (y) : Nat) : Int), .bool (onB (y)), .int .i64 ((n : Nat) : Int), .int .u64 ((y : Nat) : Int)])] w fun e w' => e = .returned (.int .i64 (Y : Int)) ∧ Below w.heap.size w w')) :
    Calls Tryd.prog 33 #[WK n N lo (.slice (some ⟨g, 0, none⟩) m c), (.agg #[.int .i64 ((ctz (y) : Nat) : Int), .bool (onB (y)), .int .i64 ((n : Nat) : Int), .int .u64 ((y : Nat) : Int)])] w fun e w' => e = .returned (.int .i64 (R : Int)) ∧ Below w.heap.size w w' := by
  have hfl := Lib.hid (fnR_len m)
  have hfg := Lib.hid (fnR_get m)
  replace h := Lib.hid h
  unfold WK
  go_enter Tryd.func33, Tryd.ntmps33
  go_upto_region 1 with fail
  obtain ⟨W, hW⟩ : ∃ W, W = (w.alloc (.cells #[.int .i64 n, .int .i64 N, .int .i64 lo, .slice (some ⟨g, 0, none⟩) m c] 57)).alloc (.cells #[.int .i64 (ctz y), .bool (onB y), .int .i64 n, .int .u64 y] 47) := ⟨_, rfl⟩
  rw [← hW]
  have hWz : W.heap.size = w.heap.size + 2 := by rw [hW]; simp
  have hWb := Lib.hid (show Below w.heap.size w W by rw [hW]; exact bt1 (ba1 _ _) (ba1 _ _))
  have k0 := (show W.heap[w.heap.size]? = some (.cells #[.int .i64 n, .int .i64 N, .int .i64 lo, .slice (some ⟨g, 0, none⟩) m c] 57) by rw [hW]; exact hb_old _ (hb_new _ _))
  have k1 := (show W.heap[w.heap.size + 1]? = some (barO n y) by rw [hW]; exact hb_new' _ _ _ (by simp))
  clear hW
  have l0 : w.heap.size < W.heap.size := by omega
  have l1 : w.heap.size + 1 < W.heap.size := by omega
  obtain ⟨⟨p0, p1, p2, p3⟩, _⟩ := bar_cells k1
  have q0 : W.cell? ⟨w.heap.size, 0, none⟩ = some (.int .i64 n) := by simp [World.cell?, k0]
  have q1 : W.cell? ⟨w.heap.size, 1, none⟩ = some (.int .i64 N) := by simp [World.cell?, k0]
  have q2 : W.cell? ⟨w.heap.size, 2, none⟩ = some (.int .i64 lo) := by simp [World.cell?, k0]
  have q3 : W.cell? ⟨w.heap.size, 3, none⟩ = some (.slice (some ⟨g, 0, none⟩) m c) := by simp [World.cell?, k0]
  replace k0 := Lib.hid k0
  have hrf : Below W.heap.size W W := Below.refl _ _
  have hst : ((Y : Int) - (lo : Int) < 0 ∨ True) := .inr trivial
  go_cut [5] (fun t5 wx => t5 = .int .i64 ((Y : Int) - lo) ∧ Below W.heap.size W wx)
  case first =>
    go_region_held3 (fun v => (v.cell? ⟨w.heap.size + 1, 0, none⟩ = some (.int .i64 (ctz y)) ∧ v.cell? ⟨w.heap.size + 1, 1, none⟩ = some (.bool (onB y)) ∧ v.cell? ⟨w.heap.size + 1, 2, none⟩ = some (.int .i64 n) ∧ v.cell? ⟨w.heap.size + 1, 3, none⟩ = some (.int .u64 y)) ∧ (v.cell? ⟨w.heap.size, 0, none⟩ = some (.int .i64 n) ∧ v.cell? ⟨w.heap.size, 1, none⟩ = some (.int .i64 N) ∧ v.cell? ⟨w.heap.size, 2, none⟩ = some (.int .i64 lo) ∧ v.cell? ⟨w.heap.size, 3, none⟩ = some (.slice (some ⟨g, 0, none⟩) m c)) ∧ (v.cell? ⟨w.heap.size, 0, none⟩ = some (.int .i64 n) ∧ v.cell? ⟨w.heap.size, 1, none⟩ = some (.int .i64 N) ∧ v.cell? ⟨w.heap.size, 2, none⟩ = some (.int .i64 lo) ∧ v.cell? ⟨w.heap.size, 3, none⟩ = some (.slice (some ⟨g, 0, none⟩) m c)) ∧ W.heap.size ≤ v.heap.size ∧ Below W.heap.size W v) (first | assumption | (refine ⟨⟨?_, ?_, ?_, ?_⟩, ⟨?_, ?_, ?_, ?_⟩, ⟨?_, ?_, ?_, ?_⟩, ?_, ?_⟩ <;> first | assumption | (refine Below.drew ?_; assumption) | go_keep | omega))
      (first | (go_at_call 46; refine (hNum.out _).mono ?_; rintro e w' ⟨rfl, hb2⟩; have hbn := kp12 l1 l0 l0 (Nat.le_refl _) hb2 (by assumption)))
    all_goals
      go_wp2_with fail
      go_meet
      rename_i hBf
      exact ⟨by first | rfl | (rw [IntKind.wrap_i64]; exact vi (by omega)), kpE hBf⟩
  case rest =>
    obtain ⟨rfl, hbc⟩ := hcut
    have kc := (hbc.block _ l0).trans k0.out
    clear p0 p1 p2 p3 q0 q1 q2 q3 hrf k1
    have q3 : wc.cell? ⟨w.heap.size, 3, none⟩ = some (.slice (some ⟨g, 0, none⟩) m c) := by simp [World.cell?, kc]
    have hbw := bt1 hWb.out hbc
    have hg := h.out.below hbw
    clear kc
    replace hbw := Lib.hid hbw
    by_cases c1 : Y < lo
    · obtain rfl := hR.out.1 (.inl c1)
      have d1 : decide ((Y : Int) - (lo : Int) < 0) = true := by simp; omega
      go_wp2_with fail
      go_ret; exact ⟨rfl, hbw.out⟩
    · by_cases c2 : lo + m ≤ Y
      · obtain rfl := hR.out.1 (.inr c2)
        have d1 : decide ((Y : Int) - (lo : Int) < 0) = false := by simp; omega
        have d2 : decide ((m : Int) ≤ (Y : Int) - (lo : Int)) = true := by simp; omega
        go_wp2_with fail
        go_ret; exact ⟨rfl, hbw.out⟩
      · have hRe := hR.out.2 (by omega) (by omega)
        obtain ⟨z0, _⟩ := hg.cell (hfl.out _) (Y - lo) (by rw [hfl.out]; omega)
        rw [hfg.out, ← hRe] at z0
        obtain ⟨k, hk⟩ : ∃ k, Y - lo = k := ⟨_, rfl⟩
        rw [hk] at z0
        clear hRe
        have e1 : (Y : Int) - (lo : Int) = (k : Int) := by omega
        have d1 : decide ((k : Int) < 0) = false := by simp
        have d2 : decide ((m : Int) ≤ (k : Int)) = false := by simp; omega
        have d3 : decide ((k : Int) < (m : Int)) = true := by simp; omega
        replace hk := Lib.hid hk
        go_wp2_with fail
        go_ret; exact ⟨rfl, hbw.out⟩
theorem chance_any (n N lo : Nat) (v : Value) (C P Q X : Nat) (w : World) (hN : N ≤ 40) (hX : (2 : Int) ^ N = (X : Int)) (hX2 : X ≤ 1099511627776)
    (hR : Hid (∀ w, Calls Tryd.prog 48 #[.int .i64 C, .int .i64 X] w fun e w' => e = .returned (RA P Q) ∧ Below w.heap.size w w')) (m c g : Nat) (hv : v = .slice (some ⟨g, 0, none⟩) m c) :
    Calls Tryd.prog 36 #[WK n N lo v, .int .i64 C] w fun e w' => e = .returned (RA P Q) ∧ Below w.heap.size w w' := by
  subst hv
  unfold WK RA at *
  go_enter Tryd.func36, Tryd.ntmps36
  go_wp2_with fail
  refine (hR.out _).mono ?_; rintro e w2 ⟨rfl, hb2⟩
  have hz2 := hb2.size
  simp only [World.size_alloc] at hz2
  have k1 : w2.heap[w.heap.size + 1]? = some (.cells #[.int .i64 0, .int .i64 0] 63) := (hb2.block _ (by simp)).trans (hb_new' _ _ _ (by simp))
  have s0 : w2.cell? ⟨w.heap.size + 1, 0, none⟩ = some (.int .i64 0) := by simp [World.cell?, k1]
  have s1 : w2.cell? ⟨w.heap.size + 1, 1, none⟩ = some (.int .i64 0) := by simp [World.cell?, k1]
  have sf : ∀ o, w2.frozen? ⟨w.heap.size + 1, o, none⟩ = false := fun o => by simp [World.frozen?, k1]
  have hlt : w.heap.size + 1 < w2.heap.size := by omega
  have hbw := Lib.hid (show Below w.heap.size w w2 from bt1 (bt1 (ba1 _ _) (ba1 _ _)) hb2)
  clear hb2 k1
  go_wp2_with fail
  refine bodyPost_ret (v := .agg #[.int .i64 P, .int .i64 Q]) ?_ rfl ⟨rfl, ?_⟩
  · simp [results, Tryd.results36, go_sem, s0, s1, sf, hlt]
  · refine Below.setCell (Below.setCell hbw.out ?_ _) ?_ _ <;> (show w.heap.size ≤ w.heap.size + 1; omega)
theorem isLen_any (k : Int) (w : World) (b : Bool) (h : (decide (0 ≤ k) && decide (k ≤ 40)) = b) : Calls Tryd.prog 31 #[.int .i64 k] w fun e w' => e = .returned (.bool b) ∧ w = w' := by
  subst h
  by_cases h1 : 0 ≤ k
  · have d1 : decide (0 ≤ k) = true := by simpa using h1
    by_cases h2 : k ≤ 40
    · have d2 : decide (k ≤ 40) = true := by simpa using h2
      go_enter Tryd.func31, Tryd.ntmps31
      go_wp2_with fail
      go_ret; exact ⟨ret_bool (by simp [*]), rfl⟩
    · have d2 : decide (k ≤ 40) = false := by simpa using h2
      go_enter Tryd.func31, Tryd.ntmps31
      go_wp2_with fail
      go_ret; exact ⟨ret_bool (by simp [*]), rfl⟩
  · have d1 : decide (0 ≤ k) = false := by simpa using h1
    go_enter Tryd.func31, Tryd.ntmps31
    go_wp2_with fail
    go_ret; exact ⟨ret_bool (by simp [*]), rfl⟩
/-- whether there are two states of few rings, and moves -/
def smB (a b : ByteArray) (k : Int) : Bool := walkB a b && (decide (0 ≤ k) && decide (k ≤ 40))
theorem waSmall_any (a b : ByteArray) (k : Int) (w : World) (ha : a.size ≤ maxLen) (hb : b.size ≤ maxLen) : Calls Tryd.prog 27 #[.string a, .string b, .int .i64 k] w fun e w' => e = .returned (.bool (smB a b k)) ∧ w = w' := by
  have hT := Lib.hid fun w => riTwo_any a b w ha hb
  have hk : Hid (∀ w, Calls Tryd.prog 50 #[.int .i64 k, .int .i64 0, .int .i64 40] w fun e w' => e = .returned (.bool (decide (0 ≤ k) && decide (k ≤ 40))) ∧ w = w') := Lib.hid fun w => by
    by_cases h : 0 ≤ k ∧ k ≤ 40
    · rw [show (decide (0 ≤ k) && decide (k ≤ 40)) = true from by simp; omega]; exact l1In_yes k 0 40 w h.1 h.2
    · rw [show (decide (0 ≤ k) && decide (k ≤ 40)) = false from by simp; omega]; exact l1In_no k 0 40 w (by omega)
  unfold smB walkB
  generalize (decide (0 ≤ k) && decide (k ≤ 40)) = kb at *
  generalize twoB a b = t at *
  obtain ⟨s, hs⟩ : ∃ s, decide (a.size ≤ 12) = s := ⟨_, rfl⟩
  have hs2 : decide ((a.size : Int) ≤ 12) = s := by rw [← hs]; exact decide_eq_decide.2 (by omega)
  rw [hs]
  cases t
  · go_enter Tryd.func27, Tryd.ntmps27
    go_wp2_with fail
    refine (hT.out _).mono ?_; rintro e w' ⟨rfl, rfl⟩
    go_wp2_with fail
    go_ret; exact ⟨rfl, rfl⟩
  · cases s
    · go_enter Tryd.func27, Tryd.ntmps27
      go_wp2_with fail
      refine (hT.out _).mono ?_; rintro e w' ⟨rfl, rfl⟩
      go_wp2_with fail
      go_ret; exact ⟨rfl, rfl⟩
    · go_enter Tryd.func27, Tryd.ntmps27
      go_wp2_with fail
      refine (hT.out _).mono ?_; rintro e w' ⟨rfl, rfl⟩
      go_wp2_with fail
      refine (hk.out _).mono ?_; rintro e w' ⟨rfl, rfl⟩
      go_wp2_with fail
      go_ret; exact ⟨ret_bool (by simp), rfl⟩
end Go.Proofs.YtfnhmacnghkgiaeDoor
