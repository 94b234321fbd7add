import Derived.Test.YtnfonoaojkhnkaaDoorI2
import Derived.Test.YtnfonoaojkhnkaaDoorBytes
import Derived.StillTailTactics
import Derived.Deep.RegionWith
namespace Go.Proofs.YtnfonoaojkhnkaaDoor
open Go Go.RowKit RM




theorem barOfNumber_any (n m : Nat) (w : World) (_hn : n ≤ 20) (hm : m < 1048576) (hT : TabOk w) : Calls Tryd.prog 77 #[.int .i64 n, .int .i64 m] w fun e w' => e = .returned (.agg #[.int .i64 ((ctz (gray m) : Nat) : Int), .bool (onB (gray m)), .int .i64 ((n : Nat) : Int), .int .u64 ((gray m : Nat) : Int)]) ∧ Below w.heap.size w w' := by
  have hy : gray m < 1048576 := gray_lt 20 m hm
  have hR := Lib.hid fun w => reflected_any m w (by omega)
  have hT := Lib.hid hT
  generalize gray m = y at *
  have hC := Lib.hid (newBar_any n y · (by omega : y < 2 ^ 64))
  go_enter Tryd.func77, Tryd.ntmps77
  go_wp2_with fail
  refine (hR.out _).mono ?_; rintro e w' ⟨rfl, rfl⟩
  go_wp2_with fail
  refine (hC.out _ (hT.out.alloc _)).mono ?_
  rintro e w' ⟨rfl, hb⟩
  obtain ⟨hc, hf⟩ := bcell hb
  go_wp2_with fail
  refine bodyPost_ret (v := (.agg #[.int .i64 ((ctz (y) : Nat) : Int), .bool (onB (y)), .int .i64 ((n : Nat) : Int), .int .u64 ((y : Nat) : Int)])) ?_ rfl ⟨rfl, ?_⟩
  · simp [results, Tryd.results77, go_sem, hc]
  · refine Below.setCell (Below.setCell (Below.setCell (Below.setCell ?_ (by simp) _) (by simp) _) (by simp) _) (by simp) _
    refine Below.trans ?_ (hb.mono (by simp))
    repeat (first | exact Below.refl _ _ | (refine Below.drew ?_) | (refine Below.alloc ?_ (by simp) _))

set_option maxRecDepth 100000 in
theorem text_any (n x : Nat) (w : World) (hx : x < 1048576) (hn : n ≤ 20) : Calls Tryd.prog 48 #[(.agg #[.int .i64 ((ctz (x) : Nat) : Int), .bool (onB (x)), .int .i64 ((n : Nat) : Int), .int .u64 ((x : Nat) : Int)])] w fun e w' => e = .returned (.string (ST n x)) ∧ Below w.heap.size w w' := by
  go_enter Tryd.func48, Tryd.ntmps48
  go_wp2_with (at_make; refine make_byte _ rfl _ _ rfl _ _ n rfl rfl (by omega) ?_; intro w1 hown1 hb1)
  have hown1 := Lib.hid hown1
  have hb1 := Lib.hid hb1
  go_loopw [10] (fun i wr => ∃ k : Nat, k ≤ n ∧ i = .int .i64 k ∧ Hid (OwnB wr (w.heap.size + 1) (.slice (some ⟨w.heap.size + 1, 0, none⟩) n n) (tx k x ++ List.replicate (n - k) 0)) ∧ Hid (Below (w.heap.size + 1) w1 wr)) (fun i _ => n - (intOf i).toNat)
  case atStart => exact ⟨0, by omega, rfl, Lib.hid (by simpa [tx] using hown1.out), Lib.hid (Below.refl _ _)⟩
  case round =>
    obtain ⟨k, hk, rfl, ho, hb⟩ := hrel
    by_cases hlt : k < n
    · have hlk : Hid ((tx k x ++ List.replicate (n - k) 0).length = n) := Lib.hid (by simp [tx_len]; omega)
      have hsp : Hid (List.replicate (n - k) (0 : UInt8) = 0 :: List.replicate (n - (k + 1)) 0) := Lib.hid (by
        rw [show n - k = (n - (k + 1)) + 1 from by omega]; rfl)
      obtain ⟨hce, hfr⟩ := ho.out.cell hlk.out k (by rw [hlk.out]; exact hlt)
      obtain ⟨y, hy⟩ : ∃ y, y = (((tx k x ++ List.replicate (n - k) 0)[k]'(by rw [hlk.out]; exact hlt)).toNat : Int) := ⟨_, rfl⟩
      rw [← hy] at hce
      have hb2 := hb.out
      have hcell : wr.cell? ⟨w.heap.size, 3, none⟩ = some (.int .u64 x) := by
        rw [hb2.cell (p := ⟨w.heap.size, 3, none⟩) (by simp), hb1.out.cell (p := ⟨w.heap.size, 3, none⟩) (by simp)]
        simp
      have hw1 := hb1.out.size
      clear hy hb2
      go_wp2
      have hst := Lib.hid (ho.out.stored hlk.out k (sgnB x k))
      rw [sgnB_val x k hx]
      go_roundw
      case rel =>
        refine ⟨k + 1, by omega, by go_num, Lib.hid ?_, Lib.hid ?_⟩
        · have h3 := hst.out.1
          rw [hsp.out, List.set_append_right _ _ (by rw [tx_len]; omega), tx_len, Nat.sub_self, List.set_cons_zero] at h3
          rw [tx_snocB, List.append_assoc]; exact h3
        · exact hb.out.grown hst.out.2 (by have := hb.out.size; simp at hw1; omega) (fun j e => by cases e; exact Nat.le_refl _)
      all_goals (simp [intOf] <;> omega)
    · obtain rfl : k = n := by omega
      have ho2 := ho.out
      simp only [Nat.sub_self, List.replicate_zero, List.append_nil] at ho2
      have hcv := str_byte _ _ _ _ k _ ho2 (tx_len k x)
      have hb2 := hb.out
      clear ho2
      go_wp2
      go_ret
      exact ⟨rfl, ((Below.refl _ _).alloc (Nat.le_refl _) _).trans ((hb1.out.mono (by simp)).trans (hb2.mono (by omega)))⟩

end Go.Proofs.YtnfonoaojkhnkaaDoor
