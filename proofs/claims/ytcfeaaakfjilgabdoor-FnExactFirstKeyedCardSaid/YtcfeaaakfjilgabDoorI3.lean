import Derived.Test.YtcfeaaakfjilgabDoorI2
import Derived.Test.YtcfeaaakfjilgabDoorBytes
import Derived.StillTailTactics
import Derived.Deep.RegionWith
namespace Go.Proofs.YtcfeaaakfjilgabDoor
open Go Go.RowKit RM

set_option maxRecDepth 100000 in
theorem moved_core (n x k y : Nat) (w : World) (hk : k < 20) (hT : Hid (TabOk w)) (hy : y < 2 ^ 64) (hp : IntKind.u64.wrap (2 ^ k) = 2 ^ k)
    (hz : bits BinOp.xor IntKind.u64 (x : Int) (2 ^ k) = (y : Int)) : Calls Tryd.prog 37 #[(.agg #[.int .i64 ((ctz (x) : Nat) : Int), .bool (onB (x)), .int .i64 ((n : Nat) : Int), .int .u64 ((x : Nat) : Int)]), .int .i64 k] w fun e w' => e = .returned (.agg #[.int .i64 ((ctz (y) : Nat) : Int), .bool (onB (y)), .int .i64 ((n : Nat) : Int), .int .u64 ((y : Nat) : Int)]) ∧ Below w.heap.size w w' := by
  have hC := Lib.hid fun w hw => newBar_any n y w hy hw
  clear hy
  go_enter Tryd.func37, Tryd.ntmps37
  go_wp2_with fail
  go_region_with (go_at_call 44; refine (hC.out _ ?_).mono ?_; (repeat (first | exact hT.out | apply TabOk.alloc | apply TabOk.drew | apply TabOk.drewN)); rintro e w' ⟨rfl, hb⟩; obtain ⟨hc, hf⟩ := bcell hb)
  all_goals
    go_wp2_with fail
    refine bodyPost_ret (v := (.agg #[.int .i64 ((ctz (y) : Nat) : Int), .bool (onB (y)), .int .i64 ((n : Nat) : Int), .int .u64 ((y : Nat) : Int)])) ?_ rfl ⟨rfl, ?_⟩
    · simp [results, Tryd.results37, go_sem, hc]
    · refine Below.setCell (Below.setCell (Below.setCell (Below.setCell ?_ (by simp) _) (by simp) _) (by simp) _) (by simp) _
      refine Below.trans ?_ (hb.mono (by simp; omega))
      repeat (first | exact Below.refl _ _ | (refine Below.drew ?_) | (refine Below.alloc ?_ (by simp) _))

theorem moved_any (n x k : Nat) (w : World) (hx : x < 1048576) (hk : k < 20) (hT : TabOk w) :
    Calls Tryd.prog 37 #[(.agg #[.int .i64 ((ctz (x) : Nat) : Int), .bool (onB (x)), .int .i64 ((n : Nat) : Int), .int .u64 ((x : Nat) : Int)]), .int .i64 k] w fun e w' => e = .returned (.agg #[.int .i64 ((ctz (x ^^^ 2 ^ k) : Nat) : Int), .bool (onB (x ^^^ 2 ^ k)), .int .i64 ((n : Nat) : Int), .int .u64 ((x ^^^ 2 ^ k : Nat) : Int)]) ∧ Below w.heap.size w w' := by
  have h1 : 2 ^ k < 1048576 := Nat.pow_lt_pow_right (a := 2) (by omega) hk
  have h2 : x ^^^ 2 ^ k < 2 ^ 20 := Nat.xor_lt_two_pow hx h1
  refine moved_core n x k (x ^^^ 2 ^ k) w hk (Lib.hid hT) (by omega) ?_ ?_
  · rw [IntKind.wrap_u64, pow_cast]; generalize 2 ^ k = X at *; omega
  · rw [pow_cast]; exact bits_xor_u64_nat x (2 ^ k) (by omega) (by omega)




set_option maxRecDepth 100000 in
theorem text_any (n x : Nat) (w : World) (hx : x < 1048576) (hn : n ≤ 20) : Calls Tryd.prog 45 #[(.agg #[.int .i64 ((ctz (x) : Nat) : Int), .bool (onB (x)), .int .i64 ((n : Nat) : Int), .int .u64 ((x : Nat) : Int)])] w fun e w' => e = .returned (.string (ST n x)) ∧ Below w.heap.size w w' := by
  go_enter Tryd.func45, Tryd.ntmps45
  go_wp2_with (at_make; refine make_byte _ rfl _ _ rfl _ _ n rfl rfl (by omega) ?_; intro w1 hown1 hb1)
  have hown1 := Lib.hid hown1
  have hb1 := Lib.hid hb1
  go_loopw [10] (fun i wr => ∃ k : Nat, k ≤ n ∧ i = .int .i64 k ∧ Hid (OwnB wr (w.heap.size + 1) (.slice (some ⟨w.heap.size + 1, 0, none⟩) n n) (tx k x ++ List.replicate (n - k) 0)) ∧ Hid (Below (w.heap.size + 1) w1 wr)) (fun i _ => n - (intOf i).toNat)
  case atStart => exact ⟨0, by omega, rfl, Lib.hid (by simpa [tx] using hown1.out), Lib.hid (Below.refl _ _)⟩
  case round =>
    obtain ⟨k, hk, rfl, ho, hb⟩ := hrel
    by_cases hlt : k < n
    · have hlk : Hid ((tx k x ++ List.replicate (n - k) 0).length = n) := Lib.hid (by simp [tx_len]; omega)
      have hsp : Hid (List.replicate (n - k) (0 : UInt8) = 0 :: List.replicate (n - (k + 1)) 0) := Lib.hid (by
        rw [show n - k = (n - (k + 1)) + 1 from by omega]; rfl)
      obtain ⟨hce, hfr⟩ := ho.out.cell hlk.out k (by rw [hlk.out]; exact hlt)
      obtain ⟨y, hy⟩ : ∃ y, y = (((tx k x ++ List.replicate (n - k) 0)[k]'(by rw [hlk.out]; exact hlt)).toNat : Int) := ⟨_, rfl⟩
      rw [← hy] at hce
      have hb2 := hb.out
      have hcell : wr.cell? ⟨w.heap.size, 3, none⟩ = some (.int .u64 x) := by
        rw [hb2.cell (p := ⟨w.heap.size, 3, none⟩) (by simp), hb1.out.cell (p := ⟨w.heap.size, 3, none⟩) (by simp)]
        simp
      have hw1 := hb1.out.size
      clear hy hb2
      go_wp2
      have hst := Lib.hid (ho.out.stored hlk.out k (sgnB x k))
      rw [sgnB_val x k hx]
      go_roundw
      case rel =>
        refine ⟨k + 1, by omega, by go_num, Lib.hid ?_, Lib.hid ?_⟩
        · have h3 := hst.out.1
          rw [hsp.out, List.set_append_right _ _ (by rw [tx_len]; omega), tx_len, Nat.sub_self, List.set_cons_zero] at h3
          rw [tx_snocB, List.append_assoc]; exact h3
        · exact hb.out.grown hst.out.2 (by have := hb.out.size; simp at hw1; omega) (fun j e => by cases e; exact Nat.le_refl _)
      all_goals (simp [intOf] <;> omega)
    · obtain rfl : k = n := by omega
      have ho2 := ho.out
      simp only [Nat.sub_self, List.replicate_zero, List.append_nil] at ho2
      have hcv := str_byte _ _ _ _ k _ ho2 (tx_len k x)
      have hb2 := hb.out
      clear ho2
      go_wp2
      go_ret
      exact ⟨rfl, ((Below.refl _ _).alloc (Nat.le_refl _) _).trans ((hb1.out.mono (by simp)).trans (hb2.mono (by omega)))⟩

end Go.Proofs.YtcfeaaakfjilgabDoor
