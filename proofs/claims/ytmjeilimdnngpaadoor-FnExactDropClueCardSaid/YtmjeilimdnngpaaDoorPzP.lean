/- Needless clues: both sides. -/
import Derived.Test.YtmjeilimdnngpaaDoorPzO2
import Derived.Test.YtmjeilimdnngpaaDoorPzO3
namespace Go.Proofs.YtmjeilimdnngpaaDoor
open Go Go.RowKit RM
/-- the numbers before k of which f tells -/
def pickN (f : Nat → Bool) : Nat → List Int
  | 0 => []
  | k + 1 => if f k then pickN f k ++ [(k : Int)] else pickN f k
theorem pickN_len (f : Nat → Bool) (k : Nat) : (pickN f k).length ≤ k := by
  induction k with
  | zero => simp [pickN]
  | succ k ih =>
    unfold pickN
    split
    · rw [List.length_append]; simp; exact ih
    · omega
theorem pickN_yes (f : Nat → Bool) (k : Nat) (h : f k = true) : pickN f k ++ [(k : Int)] = pickN f (k + 1) := by rw [pickN, if_pos h]
theorem pickN_no (f : Nat → Bool) (k : Nat) (h : f k = false) : pickN f k = pickN f (k + 1) := by rw [pickN, if_neg (by rw [h]; simp)]
set_option maxHeartbeats 1000000 in
theorem iNeed_core (R : Int) (n c N : Nat) (p : Option Addr) (g : Nat → Nat) (w : World) (h6 : n ≤ 6) (hNl : N ≤ 128) (hgl : Hid (∀ k, g k ≤ 128))
    (hI : Hid (∀ W, Below w.heap.size w W → Calls Tryd.prog 41 #[.agg #[.int .i64 R, .slice p n c]] W fun e w' => e = .returned (.bool true) ∧ Below W.heap.size W w'))
    (hN : Hid (∀ W, Below w.heap.size w W → Calls Tryd.prog 42 #[.agg #[.int .i64 R, .slice p n c]] W fun e w' => e = .returned (.int .i64 N) ∧ Below W.heap.size W w'))
    (hC : Hid (∀ W k, Below w.heap.size w W → k < n → Calls Tryd.prog 43 #[.agg #[.int .i64 R, .slice p n c], .int .i64 (k : Nat)] W fun e w' => ∃ v, e = .returned (.agg #[.int .i64 R, v]) ∧ Below W.heap.size W w' ∧ Calls Tryd.prog 42 #[.agg #[.int .i64 R, v]] w' fun e2 w2 => e2 = .returned (.int .i64 (g k)) ∧ Below w'.heap.size w' w2)) :
    Calls Tryd.prog 14 #[.agg #[.int .i64 R, .slice p n c]] w fun e w' => RetI w (pickN (fun k => decide (g k = N)) n) true e w' := by
  obtain ⟨F, hFd⟩ : ∃ F, F = pickN (fun k => decide (g k = N)) := ⟨_, rfl⟩
  have hFy : Hid (∀ k, g k = N → F k ++ [(k : Int)] = F (k + 1)) := Lib.hid fun k h => by rw [hFd]; exact pickN_yes _ k (by simp [h])
  have hFn : Hid (∀ k, ¬ g k = N → F k = F (k + 1)) := Lib.hid fun k h => by rw [hFd]; exact pickN_no _ k (by simp [h])
  have hFl : Hid (∀ k, (F k).length ≤ k) := Lib.hid fun k => by rw [hFd]; exact pickN_len _ k
  have hF0 : F 0 = [] := by rw [hFd]; rfl
  rw [← hFd]
  clear hFd
  obtain ⟨w2, hw2⟩ : ∃ w2, Hid (w2 = w.alloc (puzO R (.slice p n c))) := ⟨_, Lib.hid rfl⟩
  have hb2 : Hid (Below w.heap.size w w2) := Lib.hid (by rw [hw2.out]; exact ba1 w _)
  have P2 := Lib.hid (show w2.heap[w.heap.size]? = some (puzO R (.slice p n c)) by rw [hw2.out]; exact hb_new _ _)
  have hl2 : w.heap.size < w2.heap.size := hb_lt P2.out
  have kc : Hid (∀ W, Below w2.heap.size w2 W → W.cell? ⟨w.heap.size, 0, none⟩ = some (.int .i64 R) ∧ W.cell? ⟨w.heap.size, 1, none⟩ = some (.slice p n c)) := Lib.hid fun W hb => ⟨hb_cell (hb_below hb hl2 P2.out) 0, hb_cell (hb_below hb hl2 P2.out) 1⟩
  go_enter Tryd.func14, Tryd.ntmps14
  go_wp2_with fail
  rw [← hw2.out]
  refine (hI.out _ hb2.out).mono ?_; rintro e w3 ⟨rfl, hb3⟩
  obtain ⟨f0, f1⟩ := kc.out w3 hb3
  replace hb3 := Lib.hid hb3
  go_wp2_with fail
  refine (hN.out _ (bt1 hb2.out hb3.out)).mono ?_; rintro e w4 ⟨rfl, hb4⟩
  have kd : Hid (∀ W, Below w4.heap.size w4 W → W.cell? ⟨w.heap.size, 0, none⟩ = some (.int .i64 R) ∧ W.cell? ⟨w.heap.size, 1, none⟩ = some (.slice p n c)) := Lib.hid fun W hb => kc.out W (bt1 (bt1 hb3.out hb4) hb)
  obtain ⟨g0, g1⟩ := kd.out w4 (Below.refl _ _)
  have hl4 := hb4.size
  have hl3 := hb3.out.size
  replace hb4 := Lib.hid (bt1 (bt1 hb2.out hb3.out) hb4)
  clear f0 f1
  go_wp2_with fail
  go_loopw [5, 15] (fun o i wr => ∃ k : Nat, k ≤ n ∧ i = .int .i64 k ∧ Hid (OwnI wr w4.heap.size o (F k)) ∧ Hid (Below w4.heap.size w4 wr)) (fun _ i _ => n - (intOf i).toNat)
  case atStart => exact ⟨0, Nat.zero_le _, rfl, Lib.hid (by rw [hF0]; exact OwnI.nil _ _), Lib.hid (Below.refl _ _)⟩
  case round =>
    obtain ⟨k, hk, rfl, ho, hb⟩ := hrel
    obtain ⟨wA, rfl⟩ : ∃ x, x = wr := ⟨_, rfl⟩
    clear g0 g1
    by_cases hlt : k < n
    · obtain ⟨d0, d1⟩ := kd.out wA hb.out
      have hC1 := Lib.hid (hC.out wA k (bt1 hb4.out hb.out) hlt)
      have hy := Lib.hid (hFy.out k)
      have hn := Lib.hid (hFn.out k)
      have hl := hFl.out k
      have hgk := hgl.out k
      generalize g k = gk at *
      go_wp2_with fail
      refine hC1.out.mono ?_; rintro e w5 ⟨v, rfl, hb5, hcc⟩
      replace hcc := Lib.hid hcc
      replace hb5 := Lib.hid hb5
      go_wp2_with fail
      refine hcc.out.mono ?_; rintro e w6 ⟨rfl, hb6⟩
      have hb6' := Lib.hid (bt1 (bt1 hb.out hb5.out) hb6)
      have ho6 := Lib.hid ((ho.out.below hb5.out).below hb6)
      clear hb6 hcc hC1
      by_cases e : gk = N
      · have he : ((gk : Int) == (N : Int)) = true := by rw [e]; simp
        have hs := Lib.hid (hy.out e)
        go_wp2_with (at_builtin; refine app_int _ rfl _ _ rfl w4.heap.size _ _ rfl (ho6.out.below (ba1 _ _)) w6.heap.size _ rfl (by simp; rfl) (by omega) (by have := hb6'.out.size; simp; omega) ?_; intro v8 w8 ho8 hg8; have hb8 := Lib.hid (bel_own (bt1 hb6'.out (ba1 _ _)) (ho6.out.below (ba1 _ _)) hg8 (by have := hb6'.out.size; simp; omega)); replace ho8 := Lib.hid ho8; clear hg8)
        go_roundw
        case rel => exact ⟨k + 1, by omega, by go_num, Lib.hid (by rw [← hs.out]; exact ho8.out), hb8⟩
        all_goals (simp [intOf] <;> omega)
      · have he : ((gk : Int) == (N : Int)) = false := by simp; omega
        have hs := Lib.hid (hn.out e)
        go_wp2_with fail
        go_roundw
        case rel => exact ⟨k + 1, by omega, by go_num, Lib.hid (by rw [← hs.out]; exact ho6.out), hb6'⟩
        all_goals (simp [intOf] <;> omega)
    · obtain rfl : k = n := by omega
      go_wp2_with fail
      go_ret2; exact ⟨_, rfl, ho.out.mono (by omega), bt1 hb4.out hb.out⟩

set_option maxRecDepth 100000 in
set_option maxHeartbeats 2000000 in
theorem sNeed_core (R : Int) (n c N : Nat) (p : Option Addr) (g : Nat → Nat) (w : World) (h6 : n ≤ 6) (hNl : N ≤ 128) (hgl : Hid (∀ k, g k ≤ 128))
    (hI : Hid (∀ W, Below w.heap.size w W → Calls Tryd.prog 37 #[.agg #[.int .i64 R, .slice p n c]] W fun e w' => e = .returned (.bool true) ∧ Below W.heap.size W w'))
    (hN : Hid (∀ W, Below w.heap.size w W → Calls Tryd.prog 38 #[.int .i64 R, .slice p n c] W fun e w' => (∃ pv cv, e = .returned (.slice pv N cv)) ∧ Below W.heap.size W w'))
    (hC : Hid (∀ W k, Below w.heap.size w W → k < n → Calls Tryd.prog 39 #[.slice p n c, .int .i64 (k : Nat)] W fun e w' => ∃ v, e = .returned v ∧ Below W.heap.size W w' ∧ Calls Tryd.prog 38 #[.int .i64 R, v] w' fun e2 w2 => (∃ pv cv, e2 = .returned (.slice pv (g k) cv)) ∧ Below w'.heap.size w' w2)) :
    Calls Tryd.prog 12 #[.agg #[.int .i64 R, .slice p n c]] w fun e w' => RetI w (pickN (fun k => decide (g k = N)) n) true e w' := by
  obtain ⟨F, hFd⟩ : ∃ F, F = pickN (fun k => decide (g k = N)) := ⟨_, rfl⟩
  have hFy : Hid (∀ k, g k = N → F k ++ [(k : Int)] = F (k + 1)) := Lib.hid fun k h => by rw [hFd]; exact pickN_yes _ k (by simp [h])
  have hFn : Hid (∀ k, ¬ g k = N → F k = F (k + 1)) := Lib.hid fun k h => by rw [hFd]; exact pickN_no _ k (by simp [h])
  have hFl : Hid (∀ k, (F k).length ≤ k) := Lib.hid fun k => by rw [hFd]; exact pickN_len _ k
  have hF0 : F 0 = [] := by rw [hFd]; rfl
  rw [← hFd]
  clear hFd
  obtain ⟨w2, hw2⟩ : ∃ w2, Hid (w2 = w.alloc (puzO R (.slice p n c))) := ⟨_, Lib.hid rfl⟩
  have hb2 : Hid (Below w.heap.size w w2) := Lib.hid (by rw [hw2.out]; exact ba1 w _)
  have P2 := Lib.hid (show w2.heap[w.heap.size]? = some (puzO R (.slice p n c)) by rw [hw2.out]; exact hb_new _ _)
  have hl2 : w.heap.size < w2.heap.size := hb_lt P2.out
  have kc : Hid (∀ W, Below w2.heap.size w2 W → W.cell? ⟨w.heap.size, 0, none⟩ = some (.int .i64 R) ∧ W.cell? ⟨w.heap.size, 1, none⟩ = some (.slice p n c)) := Lib.hid fun W hb => ⟨hb_cell (hb_below hb hl2 P2.out) 0, hb_cell (hb_below hb hl2 P2.out) 1⟩
  go_enter Tryd.func12, Tryd.ntmps12
  go_wp2_with fail
  rw [← hw2.out]
  refine (hI.out _ hb2.out).mono ?_; rintro e w3 ⟨rfl, hb3⟩
  obtain ⟨f0, f1⟩ := kc.out w3 hb3
  replace hb3 := Lib.hid hb3
  go_wp2_with fail
  refine (hN.out _ (bt1 hb2.out hb3.out)).mono ?_; rintro e w4 ⟨⟨pv0, cv0, rfl⟩, hb4⟩
  have kd : Hid (∀ W, Below w4.heap.size w4 W → W.cell? ⟨w.heap.size, 0, none⟩ = some (.int .i64 R) ∧ W.cell? ⟨w.heap.size, 1, none⟩ = some (.slice p n c)) := Lib.hid fun W hb => kc.out W (bt1 (bt1 hb3.out hb4) hb)
  obtain ⟨g0, g1⟩ := kd.out w4 (Below.refl _ _)
  have hl4 := hb4.size
  have hl3 := hb3.out.size
  replace hb4 := Lib.hid (bt1 (bt1 hb2.out hb3.out) hb4)
  clear f0 f1
  go_wp2_with fail
  go_loopw [4, 19] (fun o i wr => ∃ k : Nat, k ≤ n ∧ i = .int .i64 k ∧ Hid (OwnI wr w4.heap.size o (F k)) ∧ Hid (Below w4.heap.size w4 wr)) (fun _ i _ => n - (intOf i).toNat)
  case atStart => exact ⟨0, Nat.zero_le _, rfl, Lib.hid (by rw [hF0]; exact OwnI.nil _ _), Lib.hid (Below.refl _ _)⟩
  case round =>
    obtain ⟨k, hk, rfl, ho, hb⟩ := hrel
    obtain ⟨wA, rfl⟩ : ∃ x, x = wr := ⟨_, rfl⟩
    clear g0 g1
    by_cases hlt : k < n
    · obtain ⟨d0, d1⟩ := kd.out wA.drew hb.out.drew
      have dB := Lib.hid hb.out.drew
      have doo := Lib.hid (ho.out.below (Below.refl _ _).drew)
      have hC1 := Lib.hid (hC.out wA.drew k (bt1 hb4.out hb.out.drew) hlt)
      have hy := Lib.hid (hFy.out k)
      have hn := Lib.hid (hFn.out k)
      have hl := hFl.out k
      have hgk := hgl.out k
      generalize g k = gk at *
      go_wp2_with fail
      go_region_law (first
        | (refine step_call2Z rfl 38 (.tmp 23) (.tmp 27) _ (by with_reducible rfl) _ Tryd.func38 (by kernel_rfl) _ _ (by simp [Act.eval, Act.put]) (by simp [Act.eval, Act.put]) _ hcc ?_; rintro e w6 ⟨⟨pv, cv, rfl⟩, hb6⟩; refine ⟨_, rfl, ?_⟩; have hB6 := bt1 hB5 hb6; have hO6 := hO5.below hb6)
        | (refine step_call2Z rfl 39 (.tmp 25) (.tmp 26) _ (by with_reducible rfl) _ Tryd.func39 (by kernel_rfl) _ _ (by simp [Act.eval, Act.put]) (by simp [Act.eval, Act.put]) _ hC1.out ?_; rintro e w5 ⟨v, rfl, hb5, hcc⟩; refine ⟨_, rfl, ?_⟩; have hB5 := bt1 dB.out hb5; have hO5 := doo.out.below hb5; obtain ⟨x0, x1⟩ := kd.out w5 hB5))
      all_goals
        have ho6 := Lib.hid hO6
        have hb6' := Lib.hid hB6
        clear hO6 hB6 hb6 hO5 hB5 hb5 hcc x0 x1 hC1
        by_cases e : gk = N
        · have he : ((gk : Int) == (N : Int)) = true := by rw [e]; simp
          have hs := Lib.hid (hy.out e)
          go_wp2_with (at_builtin; refine app_int _ rfl _ _ rfl w4.heap.size _ _ rfl (ho6.out.below (ba1 _ _)) w6.heap.size _ rfl (by simp; rfl) (by omega) (by have := hb6'.out.size; simp; omega) ?_; intro v8 w8 ho8 hg8; have hb8 := Lib.hid (bel_own (bt1 hb6'.out (ba1 _ _)) (ho6.out.below (ba1 _ _)) hg8 (by have := hb6'.out.size; simp; omega)); replace ho8 := Lib.hid ho8; clear hg8)
          go_roundw
          case rel => exact ⟨k + 1, by omega, by go_num, Lib.hid (by rw [← hs.out]; exact ho8.out), hb8⟩
          all_goals (simp [intOf] <;> omega)
        · have he : ((gk : Int) == (N : Int)) = false := by simp; omega
          have hs := Lib.hid (hn.out e)
          go_wp2_with fail
          go_roundw
          case rel => exact ⟨k + 1, by omega, by go_num, Lib.hid (by rw [← hs.out]; exact ho6.out), hb6'⟩
          all_goals (simp [intOf] <;> omega)
    · obtain rfl : k = n := by omega
      go_wp2_with fail
      go_ret2; exact ⟨_, rfl, ho.out.mono (by omega), bt1 hb4.out hb.out⟩

end Go.Proofs.YtmjeilimdnngpaaDoor
