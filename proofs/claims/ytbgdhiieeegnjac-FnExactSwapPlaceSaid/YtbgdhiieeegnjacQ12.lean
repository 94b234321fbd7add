/- Chapter 2: the place of a swap: both. -/
import Derived.Test.YtbgdhiieeegnjacQ11
namespace Go.Proofs.Ytbgdhiieeegnjac
open Go Go.RowKit RM

theorem iSwP_size (n r : Int) (w : World) (h : n < 1 ∨ 10 < n) : Calls Try.prog 29 #[.int .i64 n, .int .i64 r] w fun e w' => QB0 w 0 false e w' := by
  have hS := Lib.hid fun w => isSw_no n w h
  clear h
  go_enter Try.func29, Try.ntmps29
  go_wp2_with fail
  refine (hS.out _).mono ?_; rintro e w' ⟨rfl, rfl⟩
  go_wp2_with fail
  go_ret2; exact ⟨rfl, Below.refl _ _⟩

theorem iSwP_rank (s P : Nat) (r : Int) (w : World) (h1 : 1 ≤ s) (h2 : s ≤ 10) (hP : fac s = P) (h : r < 0 ∨ (P : Int) - 1 ≤ r) : Calls Try.prog 29 #[.int .i64 s, .int .i64 r] w fun e w' => QB0 w 0 false e w' := by
  have hS := Lib.hid fun w => isSw_yes (s : Int) w (by omega) (by omega)
  have hO := Lib.hid fun w => orders_any s w h2
  have hf := fac_le (s := s) h2
  rw [hP] at hO hf
  have hR := Lib.hid fun w => isRank_no r ((P : Int) - 1) w h
  obtain ⟨hf1, hf2⟩ := hf
  clear h hP
  go_enter Try.func29, Try.ntmps29
  go_wp2_with fail
  refine (hS.out _).mono ?_; rintro e w' ⟨rfl, rfl⟩
  go_wp2_with fail
  refine (hO.out _).mono ?_; rintro e w' ⟨rfl, rfl⟩
  go_wp2_with fail
  refine (hR.out _).mono ?_; rintro e w' ⟨rfl, rfl⟩
  go_wp2_with fail
  go_ret2; exact ⟨rfl, Below.refl _ _⟩

theorem iSwP_yes (s P m : Nat) (w : World) (h1 : 1 ≤ s) (h2 : s ≤ 10) (hP : fac s = P) (h : m + 1 < P) : Calls Try.prog 29 #[.int .i64 s, .int .i64 m] w fun e w' => QB0 w ((fdf (swL s m) (swL s (m + 1)) : Nat) : Int) true e w' := by
  have hS := Lib.hid fun w => isSw_yes (s : Int) w (by omega) (by omega)
  have hO := Lib.hid fun w => orders_any s w h2
  have hf := fac_le (s := s) h2
  rw [hP] at hO hf
  obtain ⟨hf1, hf2⟩ := hf
  have hR := Lib.hid fun w => isRank_yes (m : Int) ((P : Int) - 1) w (by omega) (by omega)
  have hL := Lib.hid fun w => swapped_any s m w h2 (by omega)
  have hM := swapped_any s (m + 1)
  rw [show ((m + 1 : Nat) : Int) = (m : Int) + 1 from by omega] at hM
  have hM := Lib.hid fun w => hM w h2 (by omega)
  have hne := Lib.hid (swL_ne s m (by rw [hP]; exact h))
  have hx := Lib.hid (swL_len s m)
  have hy := Lib.hid (swL_len s (m + 1))
  have hm : (m : Int) ≤ 3628800 := by omega
  clear h hP
  generalize swL s m = xs at *
  generalize swL s (m + 1) = ys at *
  go_enter Try.func29, Try.ntmps29
  go_wp2_with fail
  refine (hS.out _).mono ?_; rintro e w' ⟨rfl, rfl⟩
  go_wp2_with fail
  refine (hO.out _).mono ?_; rintro e w' ⟨rfl, rfl⟩
  go_wp2_with fail
  refine (hR.out _).mono ?_; rintro e w' ⟨rfl, rfl⟩
  go_wp2_with fail
  refine (hL.out _).mono ?_; rintro e w2 ⟨v, rfl, ho, hb⟩
  have hb := Lib.hid hb
  have ho := Lib.hid ho
  go_wp2_with fail
  refine (hM.out _).mono ?_; rintro e w3 ⟨u, rfl, ko, kb⟩
  have ho3 := ho.out.below kb
  have kb := Lib.hid kb
  have hDf : Hid (Calls Try.prog 60 #[v, u] w3 fun e w' => e = .returned (.int .i64 ((fdf xs ys : Nat) : Int)) ∧ ∃ q, w' = w3.drewN q) := Lib.hid (by
    rcases ho3.form with ⟨_, e⟩ | ⟨g, cap, rfl, _, _, hc, _, _⟩
    · have := hx.out; rw [e] at this; simp at this; omega
    · rcases ko.form with ⟨_, e⟩ | ⟨g2, cap2, rfl, _, _, hc2, _, _⟩
      · have := hy.out; rw [e] at this; simp at this; omega
      · rw [hx.out, hy.out]
        exact diff_any xs ys g g2 cap cap2 s w3 (by omega) hx hy hne (Lib.hid hc) (Lib.hid hc2))
  clear ho3 ko
  go_wp2_with fail
  refine hDf.out.mono ?_; rintro e w4 ⟨rfl, q, rfl⟩
  go_wp2_with fail
  go_ret2; exact ⟨rfl, below_drewN (hb.out.trans (kb.out.mono hb.out.size)) q⟩

theorem sSwP_size (n r : Int) (w : World) (h : n < 1 ∨ 10 < n) : Calls Try.prog 28 #[.int .i64 n, .int .i64 r] w fun e w' => QB0 w 0 false e w' := by
  have hS := Lib.hid fun w => l1In_no n 1 10 w h
  clear h
  go_enter Try.func28, Try.ntmps28
  go_wp2_with fail
  refine (hS.out _).mono ?_; rintro e w' ⟨rfl, rfl⟩
  go_wp2_with fail
  go_ret2; exact ⟨rfl, Below.refl _ _⟩

theorem sSwP_rank (s P : Nat) (r : Int) (w : World) (h1 : 1 ≤ s) (h2 : s ≤ 10) (hP : fac s = P) (h : r < 0 ∨ (P : Int) - 1 ≤ r) : Calls Try.prog 28 #[.int .i64 s, .int .i64 r] w fun e w' => QB0 w 0 false e w' := by
  have hS := Lib.hid fun w => l1In_yes (s : Int) 1 10 w (by omega) (by omega)
  have hO := Lib.hid fun w => nuLists_any s w h1 h2
  have hf := fac_le (s := s) h2
  rw [hP] at hO hf
  obtain ⟨hf1, hf2⟩ := hf
  have hR := Lib.hid fun w => l1In_no r 0 ((P : Int) - 2) w (by omega)
  clear h hP
  go_enter Try.func28, Try.ntmps28
  go_wp2_with fail
  refine (hS.out _).mono ?_; rintro e w' ⟨rfl, rfl⟩
  go_wp2_with fail
  refine (hO.out _).mono ?_; rintro e w' ⟨rfl, rfl⟩
  go_wp2_with fail
  refine (hR.out _).mono ?_; rintro e w' ⟨rfl, rfl⟩
  go_wp2_with fail
  go_ret2; exact ⟨rfl, Below.refl _ _⟩

set_option maxHeartbeats 1000000 in
theorem sSwP_yes (s P m : Nat) (w : World) (h1 : 1 ≤ s) (h2 : s ≤ 10) (hP : fac s = P) (h : m + 1 < P) : Calls Try.prog 28 #[.int .i64 s, .int .i64 m] w fun e w' => QB0 w ((fdf (swL s m) (swL s (m + 1)) : Nat) : Int) true e w' := by
  have hS := Lib.hid fun w => l1In_yes (s : Int) 1 10 w (by omega) (by omega)
  have hO := Lib.hid fun w => nuLists_any s w h1 h2
  have hf := fac_le (s := s) h2
  rw [hP] at hO hf
  obtain ⟨hf1, hf2⟩ := hf
  have hR := Lib.hid fun w => l1In_yes (m : Int) 0 ((P : Int) - 2) w (by omega) (by omega)
  have hL := Lib.hid fun w => nuSw_any s m w h2 (by omega)
  have hM := nuSw_any s (m + 1)
  rw [show ((m + 1 : Nat) : Int) = (m : Int) + 1 from by omega] at hM
  have hM := Lib.hid fun w => hM w h2 (by omega)
  have hne := Lib.hid (swL_ne s m (by rw [hP]; exact h))
  have hx := Lib.hid (swL_len s m)
  have hy := Lib.hid (swL_len s (m + 1))
  have hm : (m : Int) ≤ 3628800 := by omega
  clear h hP
  generalize swL s m = xs at *
  generalize swL s (m + 1) = ys at *
  go_enter Try.func28, Try.ntmps28
  go_wp2_with fail
  refine (hS.out _).mono ?_; rintro e w' ⟨rfl, rfl⟩
  go_wp2_with fail
  refine (hO.out _).mono ?_; rintro e w' ⟨rfl, rfl⟩
  go_wp2_with fail
  refine (hR.out _).mono ?_; rintro e w' ⟨rfl, rfl⟩
  go_wp2_with fail
  refine (hL.out _).mono ?_; rintro e w2 ⟨v, rfl, ho, hb⟩
  have hb := Lib.hid hb
  have ho := Lib.hid ho
  go_wp2_with fail
  refine (hM.out _).mono ?_; rintro e w3 ⟨u, rfl, ko, kb⟩
  have ho3 := ho.out.below kb
  clear ho
  have hb3 := Lib.hid (hb.out.trans (kb.mono hb.out.size))
  clear kb hb
  rcases ho3.form with ⟨_, e⟩ | ⟨g, cap, rfl, _, _, hc, _, _⟩
  · exfalso; have := hx.out; rw [e] at this; simp at this; omega
  · rcases ko.form with ⟨_, e⟩ | ⟨g2, cap2, rfl, _, _, hc2, _, _⟩
    · exfalso; have := hy.out; rw [e] at this; simp at this; omega
    · clear ho3 ko
      have hc := Lib.hid hc
      have hd := Lib.hid hc2
      clear hc2
      rw [hx.out, hy.out]
      go_wp2_with fail
      go_loopw [29] (fun i wr => ∃ k : Nat, k ≤ s ∧ i = .int .i64 k ∧ Hid (xs.take k = ys.take k) ∧ Hid (k + fdf (xs.drop k) (ys.drop k) = fdf xs ys) ∧ Hid (∃ q, wr = w3.drewN q)) (fun i _ => s - (intOf i).toNat)
      case atStart => exact ⟨0, by omega, rfl, Lib.hid (by simp), Lib.hid (by rw [List.drop_zero, List.drop_zero]; omega), Lib.hid ⟨0, rfl⟩⟩
      case round =>
        obtain ⟨k, hk, rfl, htk, hfd, hwq⟩ := hrel
        have hlt := not_end hx.out hy.out hne.out hk htk.out
        have k1 : k < xs.length := by rw [hx.out]; exact hlt
        have k2 : k < ys.length := by rw [hy.out]; exact hlt
        have hIn : (k : Int) < (s : Int) := by omega
        have hr1 : wr.cell? ⟨g, k, none⟩ = some (.int .i64 xs[k]) := by obtain ⟨q, hq⟩ := hwq.out; rw [hq]; exact hc.out k k1
        have hr2 : wr.cell? ⟨g2, k, none⟩ = some (.int .i64 ys[k]) := by obtain ⟨q, hq⟩ := hwq.out; rw [hq]; exact hd.out k k2
        have hdx := Lib.hid (drop_step xs k k1)
        have hdy := Lib.hid (drop_step ys k k2)
        by_cases he : xs[k] = ys[k]
        · have HT := Lib.hid (take_more k1 k2 htk.out he)
          have HP : Hid (k + 1 + fdf (xs.drop (k + 1)) (ys.drop (k + 1)) = fdf xs ys) := Lib.hid (by rw [← hfd.out, hdx.out, hdy.out, fdf_more _ _ he]; omega)
          rw [← he] at hr2
          clear he
          generalize xs[k] = x at *
          go_wp2_with fail
          go_quiet (fail)
          go_wp2_with fail
          go_roundw
          case rel => exact ⟨k + 1, by omega, by go_num, HT, HP, Lib.hid (by obtain ⟨q, hq⟩ := hwq.out; exact ⟨q + nq, by rw [hq]; exact World.drewN_drewN _ _ _⟩)⟩
          all_goals (simp [intOf] <;> omega)
        · have HF : Hid (k = fdf xs ys) := Lib.hid (by rw [← hfd.out, hdx.out, hdy.out, fdf_here _ _ he]; try omega)
          have hq1 : (xs[k] == ys[k]) = false := by simpa using he
          have hq2 : (xs[k] != ys[k]) = true := by simpa using he
          clear he
          generalize xs[k] = x at *
          generalize ys[k] = y at *
          go_wp2_with fail
          go_quiet (fail)
          go_wp2_with fail
          go_ret2
          rw [← HF.out]
          obtain ⟨q, hq⟩ := hwq.out
          exact ⟨rfl, by rw [hq]; exact below_drewN (below_drewN hb3.out _) _⟩

theorem place_both (n r : Int) : ∃ z ok, (∀ w, Calls Try.prog 28 #[.int .i64 n, .int .i64 r] w fun e w' => QB0 w z ok e w') ∧ (∀ w, Calls Try.prog 29 #[.int .i64 n, .int .i64 r] w fun e w' => QB0 w z ok e w') := by
  by_cases hn : n < 1 ∨ 10 < n
  · exact ⟨0, false, fun w => sSwP_size n r w hn, fun w => iSwP_size n r w hn⟩
  · obtain ⟨s, rfl⟩ : ∃ s : Nat, n = s := ⟨n.toNat, by omega⟩
    by_cases hr : r < 0 ∨ ((fac s : Nat) : Int) - 1 ≤ r
    · exact ⟨0, false, fun w => sSwP_rank s _ r w (by omega) (by omega) rfl hr, fun w => iSwP_rank s _ r w (by omega) (by omega) rfl hr⟩
    · obtain ⟨m, rfl⟩ : ∃ m : Nat, r = m := ⟨r.toNat, by omega⟩
      exact ⟨_, true, fun w => sSwP_yes s _ m w (by omega) (by omega) rfl (by omega), fun w => iSwP_yes s _ m w (by omega) (by omega) rfl (by omega)⟩
end Go.Proofs.Ytbgdhiieeegnjac
