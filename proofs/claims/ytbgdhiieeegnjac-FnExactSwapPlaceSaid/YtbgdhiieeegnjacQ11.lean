/- Chapter 2: where a list of the order by swaps differs from the next. -/
import Derived.Test.YtbgdhiieeegnjacQ10
import Derived.Test.YtbgdhiieeegnjacC4
import Derived.WalkMore
import Derived.ScopeJumps
namespace Go.Proofs.Ytbgdhiieeegnjac
open Go Go.RowKit RM

theorem not_end {xs ys : List Int} {n i : Nat} (hx : xs.length = n) (hy : ys.length = n) (hne : xs ≠ ys) (hi : i ≤ n) (h : xs.take i = ys.take i) : i < n := by
  rcases Nat.lt_or_ge i n with g | g
  · exact g
  · rw [List.take_of_length_le (by omega), List.take_of_length_le (by omega)] at h
    exact absurd h hne
theorem take_more {xs ys : List Int} {i : Nat} (hx : i < xs.length) (hy : i < ys.length) (h : xs.take i = ys.take i) (e : xs[i] = ys[i]) : xs.take (i + 1) = ys.take (i + 1) := by
  rw [take_step xs i hx, take_step ys i hy, h, e]

set_option maxRecDepth 1000000 in
set_option maxHeartbeats 1000000 in
theorem diff_any (xs ys : List Int) (b b2 c c2 n : Nat) (w : World) (hn : n ≤ 100) (hx : Hid (xs.length = n)) (hy : Hid (ys.length = n)) (hne : Hid (xs ≠ ys))
    (hc : Hid (∀ i (h : i < xs.length), w.cell? ⟨b, i, none⟩ = some (.int .i64 xs[i]))) (hd : Hid (∀ i (h : i < ys.length), w.cell? ⟨b2, i, none⟩ = some (.int .i64 ys[i]))) :
    Calls Try.prog 60 #[.slice (some ⟨b, 0, none⟩) n c, .slice (some ⟨b2, 0, none⟩) n c2] w fun e w' => e = .returned (.int .i64 ((fdf xs ys : Nat) : Int)) ∧ ∃ q, w' = w.drewN q := by
  go_enter Try.func60, Try.ntmps60
  go_wp2
  refine wp_scope_jumps 0 (fun a' w' => Hid (∃ q, w' = w.drewN q) ∧ ∃ (i : Nat) (u6 u7 u8 u9 u10 u11 u12 u13 u14 u15 u16 u17 : Value), a' = { tmps := #[.slice (some ⟨b, 0, none⟩) n c, .slice (some ⟨b2, 0, none⟩) n c2, undef, undef, .int .i64 0, .int .i64 (i : Nat), u6, u7, u8, u9, u10, u11, u12, u13, u14, u15, u16, u17], defers := [] } ∧ i < n ∧ Hid (xs.take i = ys.take i) ∧ Hid (i + fdf (xs.drop i) (ys.drop i) = fdf xs ys)) (fun a' _ => n - (intOf (a'.tmps.getD 5 undef)).toNat) rfl ?_ ?_
  · have htk : Hid (xs.take 0 = ys.take 0) := Lib.hid (by simp)
    have hfd : Hid (0 + fdf (xs.drop 0) (ys.drop 0) = fdf xs ys) := Lib.hid (by rw [List.drop_zero, List.drop_zero]; omega)
    have hn0 := not_end hx.out hy.out hne.out (Nat.zero_le _) htk.out
    have k1 : 0 < xs.length := by rw [hx.out]; omega
    have k2 : 0 < ys.length := by rw [hy.out]; omega
    have hIn : (0 : Int) < (n : Int) := by omega
    have hr1 : w.cell? ⟨b, 0, none⟩ = some (.int .i64 xs[0]) := by exact hc.out 0 k1
    have hr2 : w.cell? ⟨b2, 0, none⟩ = some (.int .i64 ys[0]) := by exact hd.out 0 k2
    have hdx := Lib.hid (drop_step xs 0 k1)
    have hdy := Lib.hid (drop_step ys 0 k2)
    by_cases he : xs[0] = ys[0]
    · have HT := Lib.hid (take_more k1 k2 htk.out he)
      have HP : Hid (0 + 1 + fdf (xs.drop (0 + 1)) (ys.drop (0 + 1)) = fdf xs ys) := Lib.hid (by rw [← hfd.out, hdx.out, hdy.out, fdf_more _ _ he]; omega)
      have hnx := not_end hx.out hy.out hne.out (by omega) HT.out
      have hq1 : (xs[0] == ys[0]) = true := by simpa using he
      have hq2 : (xs[0] != ys[0]) = false := by simpa using he
      rw [← he] at hr2
      clear he hq1 hq2
      generalize xs[0] = x at *
      go_wp2
      go_step3
      go_wp2
      go_quiet (fail)
      go_wp2
      go_step3
      refine ⟨rfl, Lib.hid ⟨_, rfl⟩, 1, _, _, _, _, _, _, _, _, _, _, _, _, rfl, by omega, HT, HP⟩
    · have HF : Hid (0 = fdf xs ys) := Lib.hid (by rw [← hfd.out, hdx.out, hdy.out, fdf_here _ _ he]; try omega)
      have hq1 : (xs[0] == ys[0]) = false := by simpa using he
      have hq2 : (xs[0] != ys[0]) = true := by simpa using he
      clear he
      generalize xs[0] = x at *
      generalize ys[0] = y at *
      go_wp2
      go_step3
      go_wp2
      go_quiet (fail)
      go_wp2
      simp only [Exit.jump]
      go_ret
      exact ⟨ret_int (by rw [← HF.out]; try rfl), _, rfl⟩
  · rintro a' w' ⟨hwq, i, u6, u7, u8, u9, u10, u11, u12, u13, u14, u15, u16, u17, rfl, hin, htk, hfd⟩
    have k1 : i < xs.length := by rw [hx.out]; exact hin
    have k2 : i < ys.length := by rw [hy.out]; exact hin
    have hIn : (i : Int) < (n : Int) := by omega
    have hr1 : w'.cell? ⟨b, i, none⟩ = some (.int .i64 xs[i]) := by obtain ⟨q, hq⟩ := hwq.out; rw [hq]; exact hc.out i k1
    have hr2 : w'.cell? ⟨b2, i, none⟩ = some (.int .i64 ys[i]) := by obtain ⟨q, hq⟩ := hwq.out; rw [hq]; exact hd.out i k2
    have hdx := Lib.hid (drop_step xs i k1)
    have hdy := Lib.hid (drop_step ys i k2)
    by_cases he : xs[i] = ys[i]
    · have HT := Lib.hid (take_more k1 k2 htk.out he)
      have HP : Hid (i + 1 + fdf (xs.drop (i + 1)) (ys.drop (i + 1)) = fdf xs ys) := Lib.hid (by rw [← hfd.out, hdx.out, hdy.out, fdf_more _ _ he]; omega)
      have hnx := not_end hx.out hy.out hne.out (by omega) HT.out
      have hq1 : (xs[i] == ys[i]) = true := by simpa using he
      have hq2 : (xs[i] != ys[i]) = false := by simpa using he
      rw [← he] at hr2
      clear he hq1 hq2
      generalize xs[i] = x at *
      go_wp2
      go_quiet (fail)
      go_wp2
      go_step3
      refine ⟨rfl, ⟨Lib.hid (by obtain ⟨q, hq⟩ := hwq.out; exact ⟨q + nq, by rw [hq]; exact World.drewN_drewN _ _ _⟩), i + 1, _, _, _, _, _, _, _, _, _, _, _, _, rfl, by omega, HT, HP⟩, by simp [intOf]; omega⟩
    · have HF : Hid (i = fdf xs ys) := Lib.hid (by rw [← hfd.out, hdx.out, hdy.out, fdf_here _ _ he]; try omega)
      have hq1 : (xs[i] == ys[i]) = false := by simpa using he
      have hq2 : (xs[i] != ys[i]) = true := by simpa using he
      clear he
      generalize xs[i] = x at *
      generalize ys[i] = y at *
      go_wp2
      go_quiet (fail)
      go_wp2
      simp only [Exit.jump]
      go_ret
      exact ⟨ret_int (by rw [← HF.out]; try rfl), by obtain ⟨q, hq⟩ := hwq.out; exact ⟨q + nq, by rw [hq]; exact World.drewN_drewN _ _ _⟩⟩
end Go.Proofs.Ytbgdhiieeegnjac
