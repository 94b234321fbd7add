/- Chapter 2: the rank in the order by swaps: the program. -/
import Derived.Test.YtbgdhiieeegnjacQ1
import Derived.WalkMore
import Derived.ScopeJumps
namespace Go.Proofs.Ytbgdhiieeegnjac
open Go Go.RowKit RM

set_option maxRecDepth 1000000 in
set_option maxHeartbeats 1000000 in
theorem place_any (xs : List Int) (b c n : Nat) (k : Int) (w : World) (hn : n ≤ 100) (hx : Hid (xs.length = n)) (hm : Hid (k ∈ xs)) (hc : Hid (∀ i (h : i < xs.length), w.cell? ⟨b, i, none⟩ = some (.int .i64 xs[i]))) :
    Calls Try.prog 59 #[.slice (some ⟨b, 0, none⟩) n c, .int .i64 k] w fun e w' => e = .returned (.int .i64 ((plc k xs : Nat) : Int)) ∧ w = w' := by
  have hpos : 0 < n := by
    have := List.length_pos_of_mem hm.out
    rw [hx.out] at this; exact this
  go_enter Try.func59, Try.ntmps59
  go_wp2
  refine wp_scope_jumps 0 (fun a' w' => w' = w ∧ ∃ (i pl : Nat) (u7 u8 u9 u10 u11 u12 u13 u14 u15 u16 u17 u18 u19 u20 u21 u22 u23 : Value), a' = { tmps := #[.slice (some ⟨b, 0, none⟩) n c, .int .i64 k, undef, undef, .int .i64 0, .int .i64 (pl : Nat), .int .i64 (i : Nat), u7, u8, u9, u10, u11, u12, u13, u14, u15, u16, u17, u18, u19, u20, u21, u22, u23], defers := [] } ∧ i < n ∧ pl ≤ i ∧ Hid (k ∈ xs.drop i) ∧ Hid (pl + plc k (xs.drop i) = plc k xs)) (fun a' _ => n - (intOf (a'.tmps.getD 6 undef)).toNat) rfl ?_ ?_
  · have hm : Hid (k ∈ xs.drop 0) := Lib.hid (by rw [List.drop_zero]; exact hm.out)
    have hpl : Hid (0 + plc k (xs.drop 0) = plc k xs) := Lib.hid (by rw [List.drop_zero]; omega)
    have hkx : 0 < xs.length := by rw [hx.out]; omega
    have hrd := hc.out 0 hkx
    have hds := Lib.hid (drop_step xs 0 hkx)
    have hIn : (0 : Int) < (n : Int) := by omega
    by_cases he : xs[0] = k
    · have HF : Hid (0 = plc k xs) := Lib.hid (by rw [← hpl.out, hds.out, he, plc_here]; try omega)
      rw [he] at hrd
      have hq1 : (k == k) = true := by simp
      go_wp2
      go_step3
      go_wp2
      simp only [Exit.jump]
      go_ret
      exact ⟨ret_int (by rw [← HF.out]; try rfl), rfl⟩
    · have hmm : Hid (k ∈ xs.drop (0 + 1)) := Lib.hid (by
        have := hm.out
        rw [hds.out, List.mem_cons] at this
        rcases this with e | e
        · exact absurd e.symm he
        · exact e)
      have hnx : 0 + 1 < n := by
        rcases Nat.lt_or_ge (0 + 1) n with g | g
        · exact g
        · have := hmm.out
          rw [List.drop_eq_nil_of_le (by rw [hx.out]; exact g)] at this
          cases this
      have hq1 : (xs[0] == k) = false := by simpa using he
      rcases Int.lt_or_le xs[0] k with hl | hl
      · have HP : Hid (0 + 1 + plc k (xs.drop (0 + 1)) = plc k xs) := Lib.hid (by rw [← hpl.out, hds.out, plc_less _ _ _ hl]; omega)
        have hq2 : decide (xs[0] < k) = true := by simpa using hl
        clear he
        generalize xs[0] = x at *
        go_wp2
        go_step3
        go_wp2
        go_step3
        refine ⟨rfl, rfl, 1, 1, _, _, _, _, _, _, _, _, _, _, _, _, _, _, _, _, _, rfl, by omega, by omega, hmm, HP⟩
      · have HP : Hid (0 + plc k (xs.drop (0 + 1)) = plc k xs) := Lib.hid (by rw [← hpl.out, hds.out, plc_more _ _ _ (by omega)])
        have hq2 : decide (xs[0] < k) = false := by simp; omega
        clear he
        generalize xs[0] = x at *
        go_wp2
        go_step3
        go_wp2
        go_step3
        refine ⟨rfl, rfl, 1, 0, _, _, _, _, _, _, _, _, _, _, _, _, _, _, _, _, _, rfl, by omega, by omega, hmm, HP⟩
  · rintro a' w' ⟨rfl, i, pl, u7, u8, u9, u10, u11, u12, u13, u14, u15, u16, u17, u18, u19, u20, u21, u22, u23, rfl, hin, hpi, hm, hpl⟩
    have hkx : i < xs.length := by rw [hx.out]; omega
    have hrd := hc.out i hkx
    have hds := Lib.hid (drop_step xs i hkx)
    have hIn : (i : Int) < (n : Int) := by omega
    by_cases he : xs[i] = k
    · have HF : Hid (pl = plc k xs) := Lib.hid (by rw [← hpl.out, hds.out, he, plc_here]; try omega)
      rw [he] at hrd
      have hq1 : (k == k) = true := by simp
      go_wp2
      simp only [Exit.jump]
      go_ret
      exact ⟨ret_int (by rw [← HF.out]; try rfl), rfl⟩
    · have hmm : Hid (k ∈ xs.drop (i + 1)) := Lib.hid (by
        have := hm.out
        rw [hds.out, List.mem_cons] at this
        rcases this with e | e
        · exact absurd e.symm he
        · exact e)
      have hnx : i + 1 < n := by
        rcases Nat.lt_or_ge (i + 1) n with g | g
        · exact g
        · have := hmm.out
          rw [List.drop_eq_nil_of_le (by rw [hx.out]; exact g)] at this
          cases this
      have hq1 : (xs[i] == k) = false := by simpa using he
      rcases Int.lt_or_le xs[i] k with hl | hl
      · have HP : Hid (pl + 1 + plc k (xs.drop (i + 1)) = plc k xs) := Lib.hid (by rw [← hpl.out, hds.out, plc_less _ _ _ hl]; omega)
        have hq2 : decide (xs[i] < k) = true := by simpa using hl
        clear he
        generalize xs[i] = x at *
        go_wp2
        go_step3
        refine ⟨rfl, ⟨rfl, i + 1, pl + 1, _, _, _, _, _, _, _, _, _, _, _, _, _, _, _, _, _, rfl, by omega, by omega, hmm, HP⟩, by simp [intOf]; omega⟩
      · have HP : Hid (pl + plc k (xs.drop (i + 1)) = plc k xs) := Lib.hid (by rw [← hpl.out, hds.out, plc_more _ _ _ (by omega)])
        have hq2 : decide (xs[i] < k) = false := by simp; omega
        clear he
        generalize xs[i] = x at *
        go_wp2
        go_step3
        refine ⟨rfl, ⟨rfl, i + 1, pl, _, _, _, _, _, _, _, _, _, _, _, _, _, _, _, _, _, rfl, by omega, by omega, hmm, HP⟩, by simp [intOf]; omega⟩
end Go.Proofs.Ytbgdhiieeegnjac
