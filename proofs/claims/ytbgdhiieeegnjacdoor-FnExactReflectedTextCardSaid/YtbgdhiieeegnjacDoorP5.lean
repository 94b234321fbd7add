/- Chapter 2: the text of the digits: the program; what both say. -/
import Derived.Test.YtbgdhiieeegnjacDoorP3
namespace Go.Proofs.YtbgdhiieeegnjacDoor
open Go Go.RowKit RM

theorem flip {f : Nat} {args : Array Value} {v : Value} (h : ∀ w, Calls Tryd.prog f args w fun e w' => e = .returned v ∧ w = w') : ∀ w, Calls Tryd.prog f args w fun e w' => e = .returned v ∧ w' = w := fun w => (h w).mono fun _ _ ⟨a, b⟩ => ⟨a, b.symm⟩

theorem iRText_no (n d : Int) (w : World) (h : n < 0 ∨ 1000000000000 < n) : Calls Tryd.prog 9 #[.int .i64 n, .int .i64 d] w fun e w' => QT w ⟨#[]⟩ false e w' := by
  have hR := Lib.hid (flip fun w => isRefl_no n w h)
  clear h
  go_enter Tryd.func9, Tryd.ntmps9
  go_wp2_with fail
  go_quiet ((go_at_call 17; refine Calls.quiet_of_same (hR.out _)))
  go_wp2_with fail
  go_ret2; exact ⟨rfl, below_drewN (Below.refl _ _) _⟩

theorem iRText_digits (n : Nat) (d : Int) (w : World) (hn : n ≤ 1000000000000) (h : d < 1 ∨ 40 < d) : Calls Tryd.prog 9 #[.int .i64 n, .int .i64 d] w fun e w' => QT w ⟨#[]⟩ false e w' := by
  have hR := Lib.hid (flip fun w => isRefl_yes n w (by omega) (by omega))
  have hL := Lib.hid (flip fun w => isDigits_no d w h)
  clear h
  go_enter Tryd.func9, Tryd.ntmps9
  go_wp2_with fail
  go_quiet (first | (go_at_call 17; refine Calls.quiet_of_same (hR.out _)) | (go_at_call 22; refine Calls.quiet_of_same (hL.out _)))
  go_wp2_with fail
  go_ret2; exact ⟨rfl, below_drewN (Below.refl _ _) _⟩

theorem iRText_more (n d : Nat) (w : World) (hn : n ≤ 1000000000000) (h1 : 1 ≤ d) (h2 : d ≤ 40) (h : 2 ^ d ≤ gray n) (hT : PowOk w) : Calls Tryd.prog 9 #[.int .i64 n, .int .i64 d] w fun e w' => QT w ⟨#[]⟩ false e w' := by
  have hR := Lib.hid (flip fun w => isRefl_yes n w (by omega) (by omega))
  have hL := Lib.hid (flip fun w => isDigits_yes (d : Int) w (by omega) (by omega))
  have hG := Lib.hid (flip fun w => reflected_any n w (by omega))
  have hc := hT d (by omega)
  have hgl := gray40 n (by omega)
  have hd41 : (d : Int) < 41 := by omega
  have hd0 : (0 : Int) ≤ (d : Int) := by omega
  have hge : decide (2 ^ d ≤ gray n) = true := by simp only [decide_eq_true_eq]; exact h
  generalize 2 ^ d = X at *
  generalize gray n = g at *
  clear h hT
  go_enter Tryd.func9, Tryd.ntmps9
  go_wp2_with fail
  go_quiet (first | (go_at_call 17; refine Calls.quiet_of_same (hR.out _)) | (go_at_call 22; refine Calls.quiet_of_same (hL.out _)) | (go_at_call 23; refine Calls.quiet_of_same (hG.out _)))
  go_wp2_with fail
  go_ret2; exact ⟨rfl, below_drewN (Below.refl _ _) _⟩

/-- the bytes behind k rounds: those that are to come, and the k least digits -/
def rtB (n k g : Nat) : List UInt8 := List.replicate (n - k) 0 ++ (tx k g).reverse
theorem rtB_len (n k g : Nat) (h : k ≤ n) : (rtB n k g).length = n := by simp [rtB, tx_len]; omega
theorem rtB_set (n k g : Nat) (h : k < n) : (rtB n k g).set (n - 1 - k) (sgnB g k) = rtB n (k + 1) g := by
  unfold rtB
  have e1 : List.replicate (n - k) (0 : UInt8) = List.replicate (n - (k + 1)) 0 ++ [0] := by
    rw [show n - k = (n - (k + 1)) + 1 from by omega, List.replicate_succ']
  rw [e1, tx_snocB, List.reverse_append, List.append_assoc, List.set_append_right _ _ (by simp; omega)]
  simp [show n - 1 - k - (n - (k + 1)) = 0 from by omega]

set_option maxHeartbeats 2000000 in
theorem iRText_yes (n d : Nat) (w : World) (hn : n ≤ 1000000000000) (h1 : 1 ≤ d) (h2 : d ≤ 40) (h : gray n < 2 ^ d) (hT : PowOk w) : Calls Tryd.prog 9 #[.int .i64 n, .int .i64 d] w fun e w' => QT w (RT d (gray n)) true e w' := by
  have hR := Lib.hid (flip fun w => isRefl_yes n w (by omega) (by omega))
  have hL := Lib.hid (flip fun w => isDigits_yes (d : Int) w (by omega) (by omega))
  have hG := Lib.hid (flip fun w => reflected_any n w (by omega))
  have hc := hT d (by omega)
  have hgl := gray40 n (by omega)
  have hd41 : (d : Int) < 41 := by omega
  have hd0 : (0 : Int) ≤ (d : Int) := by omega
  have hge : decide (2 ^ d ≤ gray n) = false := by simp only [decide_eq_false_iff_not, Nat.not_le]; exact h
  have hT := Lib.hid hT
  generalize 2 ^ d = X at *
  generalize gray n = g at *
  clear h
  go_enter Tryd.func9, Tryd.ntmps9
  go_wp2_with fail
  go_quiet (first | (go_at_call 17; refine Calls.quiet_of_same (hR.out _)) | (go_at_call 22; refine Calls.quiet_of_same (hL.out _)) | (go_at_call 23; refine Calls.quiet_of_same (hG.out _)))
  obtain ⟨W0, hW0⟩ : ∃ W0, W0 = w.drewN nq := ⟨_, rfl⟩
  rw [← hW0]
  have hT0 : Hid (PowOk W0) := Lib.hid (by rw [hW0]; exact hT.out.drewN nq)
  have hb0 : Hid (Below w.heap.size w W0) := Lib.hid (by rw [hW0]; exact below_drewN (Below.refl _ _) nq)
  clear hW0 hc hge
  go_wp2_with (at_make; refine make_byte _ rfl _ _ rfl _ _ d rfl rfl (by omega) ?_; intro w1 hown1 hb1)
  have hown1 := Lib.hid hown1
  have hb1 := Lib.hid hb1
  go_loopw [28] (fun i wr => ∃ k : Nat, k ≤ d ∧ i = .int .i64 k ∧ Hid (OwnB wr W0.heap.size (.slice (some ⟨W0.heap.size, 0, none⟩) d d) (rtB d k g)) ∧ Hid (Below W0.heap.size W0 wr)) (fun i _ => d - (intOf i).toNat)
  case atStart => exact ⟨0, by omega, rfl, Lib.hid (by simpa [rtB, tx] using hown1.out), hb1⟩
  case round =>
    obtain ⟨k, hk, rfl, ho, hb⟩ := hrel
    clear hown1 hb1
    by_cases hlt : k < d
    · have hlk : Hid ((rtB d k g).length = d) := Lib.hid (rtB_len d k g hk)
      obtain ⟨hce, hfr⟩ := ho.out.cell hlk.out (d - 1 - k) (by rw [hlk.out]; omega)
      obtain ⟨y, hy⟩ : ∃ y, y = (((rtB d k g)[d - 1 - k]'(by rw [hlk.out]; omega)).toNat : Int) := ⟨_, rfl⟩
      rw [← hy] at hce
      have hst := Lib.hid (ho.out.stored hlk.out (d - 1 - k) (sgnB g k))
      have hse := Lib.hid (rtB_set d k g hlt)
      have hcp := (hT0.out.below hb.out) k (by omega)
      obtain ⟨e1, e2⟩ := tab_digit g k (by omega)
      have hz : (((2 ^ k : Nat) : Int) == 0) = false := by have := pow40 (j := k) (by omega); generalize 2 ^ k = X at *; simp; omega
      have hy1 : (1 : Int) ≤ ((2 ^ k : Nat) : Int) := by have := pow40 (j := k) (by omega); generalize 2 ^ k = X at *; omega
      have hy2 : ((2 ^ k : Nat) : Int) ≤ 1099511627776 := by have := pow40 (j := k) (by omega); generalize 2 ^ k = X at *; omega
      have hD1 : (0 : Int) ≤ ((g / 2 ^ k : Nat) : Int) := Int.natCast_nonneg _
      have hD2 : ((g / 2 ^ k : Nat) : Int) ≤ 1099511627776 := by
        have := Nat.div_le_self g (2 ^ k)
        generalize g / 2 ^ k = X at *; omega
      have hsw : Hid (IntKind.u8.wrap (48 + IntKind.u8.wrap ((bitN g k : Nat) : Int)) = ((sgnB g k).toNat : Int)) := Lib.hid (by unfold bitN sgnB; cases g.testBit k <;> rfl)
      have hbb : ((bitN g k : Nat) : Int) ≤ 1 := by unfold bitN; split <;> omega
      have hix : (d : Int) - 1 - (k : Int) = ((d - 1 - k : Nat) : Int) := by omega
      obtain ⟨p, hp⟩ : ∃ p, p = d - 1 - k := ⟨_, rfl⟩
      rw [← hp] at hce hfr hst hse hix
      have hp1 : (p : Int) < (d : Int) := by omega
      have hk41 : (k : Int) < 41 := by omega
      have i1 : IntKind.i64.wrap ((d : Int) - 1) = (d : Int) - 1 := by rw [IntKind.wrap_i64]; omega
      have i2 : IntKind.i64.wrap ((d : Int) - 1 - (k : Int)) = (p : Int) := by rw [IntKind.wrap_i64]; omega
      generalize ((2 ^ k : Nat) : Int) = Y at *
      generalize ((g / 2 ^ k : Nat) : Int) = D at *
      generalize sgnB g k = c at *
      generalize bitN g k = bt at *
      clear hy hp
      go_wp2_with fail
      go_region_with (go_at_call 23; refine (hG.out _).mono ?_; rintro e w' ⟨rfl, rfl⟩)
      all_goals
        rw [hsw.out]
        go_wp2_with fail
        go_roundw
        case rel =>
          refine ⟨k + 1, by omega, by go_num, Lib.hid ?_, Lib.hid ?_⟩
          · rw [← hse.out]; exact hst.out.1.drewN 1
          · exact (hb.out.grown hst.out.2 hb.out.size (fun j e => by cases e; exact Nat.le_refl _)).drew
        all_goals (simp [intOf] <;> omega)
    · obtain rfl : k = d := by omega
      have ho2 := ho.out
      unfold rtB at ho2
      simp only [Nat.sub_self, List.replicate_zero, List.nil_append] at ho2
      have hcv := str_byte _ _ _ _ k _ ho2 (by simp [tx_len])
      have hbw := Lib.hid (hb0.out.trans (hb.out.mono hb0.out.size))
      clear ho2
      go_wp2
      go_ret2
      exact ⟨rfl, hbw.out⟩
theorem rtext_both (n d : Int) : ∃ s ok, (∀ w, Calls Tryd.prog 8 #[.int .i64 n, .int .i64 d] w fun e w' => QT w s ok e w') ∧ (∀ w, PowOk w → Calls Tryd.prog 9 #[.int .i64 n, .int .i64 d] w fun e w' => QT w s ok e w') := by
  rcases refl_cases n with h | ⟨m, rfl, h⟩
  · exact ⟨⟨#[]⟩, false, fun w => sRText_no n d w h, fun w _ => iRText_no n d w h⟩
  · by_cases hd : d < 1 ∨ 40 < d
    · exact ⟨⟨#[]⟩, false, fun w => sRText_digits m d w h hd, fun w _ => iRText_digits m d w h hd⟩
    · obtain ⟨k, rfl⟩ : ∃ k : Nat, d = (k : Int) := ⟨d.toNat, by omega⟩
      rcases Nat.lt_or_ge (gray m) (2 ^ k) with g | g
      · exact ⟨_, true, fun w => sRText_yes m k w h (by omega) (by omega) g, fun w hw => iRText_yes m k w h (by omega) (by omega) g hw⟩
      · exact ⟨⟨#[]⟩, false, fun w => sRText_more m k w h (by omega) (by omega) g, fun w hw => iRText_more m k w h (by omega) (by omega) g hw⟩
end Go.Proofs.YtbgdhiieeegnjacDoor
