/- Keys of the bar, on both sides. -/
import Derived.Test.YtkcoabdngjbhdabV7
namespace Go.Proofs.Ytkcoabdngjbhdab
open Go Go.RowKit RM
def bkL (n k : Nat) : List ByteArray := (List.range k).map (bk n)
theorem bkL_succ (n k : Nat) : bkL n (k + 1) = bkL n k ++ [bk n k] := by unfold bkL; rw [List.range_succ, List.map_append]; rfl
theorem bkL_len (n k : Nat) : (bkL n k).length = k := by simp [bkL]
theorem bk_zero (n : Nat) : bk n 0 = rp 63 n := by simp [bk]
theorem bk_pos (n k : Nat) (h : k ≠ 0) : bk n k = rp 48 (k - 1) ++ ⟨#[49]⟩ ++ rp 63 (n - k) := by unfold bk; rw [if_neg h]
theorem iBK_no (n : Int) (w : World) (h : (decide (1 ≤ n) && decide (n ≤ 10)) = false) : Calls Try.prog 51 #[.int .i64 n] w fun e w' => RetT w [] false e w' := by
  have hR := Lib.hid (fun w => iFK_no n w h)
  go_enter Try.func51, Try.ntmps51
  go_wp2_with fail
  refine (hR.out _).mono ?_; rintro e w2 ⟨u, rfl, ho, hb⟩
  obtain ⟨p, c, rfl⟩ : ∃ p c, u = .slice p 0 c := by
    obtain ⟨p, c, e, _⟩ := (ownT_G ho).rd
    exact ⟨p, c, e⟩
  replace ho := Lib.hid ho
  replace hb := Lib.hid hb
  go_wp2_with fail
  go_loop [6] (fun i => i = .int .i64 1) (fun _ => 0)
  case atStart => rfl
  case round =>
    obtain rfl := hrel
    go_wp2_with fail
    go_ret2; exact ⟨_, rfl, ho.out, hb.out⟩
theorem iBK_yes (n : Nat) (w : World) (h1 : 1 ≤ n) (h2 : n ≤ 10) : Calls Try.prog 51 #[.int .i64 n] w fun e w' => RetT w (bkL n n) true e w' := by
  have hR := Lib.hid (fun w => iFK_yes n w h1 h2)
  have hs := Lib.hid (bkL_succ n)
  have hl := Lib.hid (bkL_len n)
  have hp := Lib.hid (bk_pos n)
  have h0 : Hid (bkL n 1 ++ List.replicate (n - 1) (rp 63 n) = List.replicate n (rp 63 n)) := Lib.hid (by
    obtain ⟨m, rfl⟩ : ∃ m, n = m + 1 := ⟨n - 1, by omega⟩
    rw [List.replicate_succ]; rfl)
  generalize hbl : bkL n = L at *
  generalize bk n = K at *
  clear hbl
  generalize rp 63 n = t0 at *
  go_enter Try.func51, Try.ntmps51
  go_wp2_with fail
  refine (hR.out _).mono ?_; rintro e w2 ⟨u, rfl, ho, hb⟩
  obtain ⟨g, cap, rfl⟩ : ∃ g cap, u = .slice (some ⟨g, 0, none⟩) n cap := by
    rcases ho.form with ⟨_, e⟩ | ⟨g, cap, e, _⟩
    · have := congrArg List.length e; simp at this; omega
    · exact ⟨g, cap, by rw [e, List.length_replicate]⟩
  replace ho := Lib.hid ho
  replace hb := Lib.hid hb
  go_wp2_with fail
  go_loopw [6] (fun i wr => ∃ k : Nat, 1 ≤ k ∧ k ≤ n ∧ i = .int .i64 k ∧ Hid (OwnT wr w.heap.size (.slice (some ⟨g, 0, none⟩) n cap) (L k ++ List.replicate (n - k) t0)) ∧ Hid (Below w.heap.size w wr)) (fun i _ => n - (intOf i).toNat)
  case atStart => exact ⟨1, Nat.le_refl _, h1, rfl, Lib.hid (by rw [h0.out]; exact ho.out), hb⟩
  case round =>
    obtain ⟨k, hk1, hk, rfl, hor, hbr⟩ := hrel
    obtain ⟨wA, rfl⟩ : ∃ x, x = wr := ⟨_, rfl⟩
    clear ho hb
    by_cases hlt : k < n
    · have hS := Lib.hid (hs.out k)
      have e2 := Lib.hid (hp.out k (by omega))
      have hB := Lib.hid (fun w => srepB_any 48 (k - 1) w (by omega))
      rw [show ((k - 1 : Nat) : Int) = (k : Int) - 1 by omega] at hB
      have hA := Lib.hid (fun w => srepB_any 63 (n - k) w (by omega))
      rw [show ((n - k : Nat) : Int) = (n : Int) - (k : Int) by omega] at hA
      have s1 : (rp 48 (k - 1)).size ≤ 20 := by rw [rp_size]; omega
      have s2 : (rp 63 (n - k)).size ≤ 20 := by rw [rp_size]; omega
      have hlen : Hid ((L k ++ List.replicate (n - k) t0).length = n) := Lib.hid (by rw [List.length_append, hl.out, List.length_replicate]; omega)
      have hlk : Hid ((L k).length = k) := Lib.hid (hl.out k)
      have hsp : Hid (List.replicate (n - k) t0 = t0 :: List.replicate (n - (k + 1)) t0) := Lib.hid (by rw [show n - k = (n - (k + 1)) + 1 from by omega]; rfl)
      generalize rp 48 (k - 1) = t1 at *
      generalize rp 63 (n - k) = t2 at *
      go_wp2_with fail
      refine (hB.out _).mono ?_; rintro e w3 ⟨rfl, hb3⟩
      go_wp2_with fail
      refine (hA.out _).mono ?_; rintro e w4 ⟨rfl, hb4⟩
      have hor4 := Lib.hid ((hor.out.below hb3).below hb4)
      have hbr4 := Lib.hid (bt1 (bt1 hbr.out hb3) hb4)
      obtain ⟨hce, hfr⟩ := hor4.out.cell hlen.out k (by rw [hlen.out]; exact hlt)
      have hst := Lib.hid (hor4.out.stored hlen.out k (t1 ++ ⟨#[49]⟩ ++ t2))
      have hgb := (hor4.out.lt _ rfl).1
      generalize (L k ++ List.replicate (n - k) t0)[k]'(by rw [hlen.out]; exact hlt) = y at hce
      clear hb3 hb4
      go_wp2_with fail
      go_roundw
      case rel =>
        refine ⟨k + 1, by omega, by omega, by go_num, Lib.hid ?_, Lib.hid (hbr4.out.setCell hgb _)⟩
        have h3 := hst.out.1
        rw [hsp.out, List.set_append_right _ _ (by rw [hlk.out]; exact Nat.le_refl _), hlk.out, Nat.sub_self, List.set_cons_zero] at h3
        rw [hS.out, e2.out, List.append_assoc]; exact h3
      all_goals (simp [intOf] <;> omega)
    · obtain rfl : k = n := by omega
      have h3 := hor.out
      rw [Nat.sub_self, List.replicate_zero, List.append_nil] at h3
      replace h3 := Lib.hid h3
      go_wp2_with fail
      go_ret2; exact ⟨_, rfl, h3.out, hbr.out⟩
end Go.Proofs.Ytkcoabdngjbhdab
