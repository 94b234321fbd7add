/- slices.Repeat of the library at texts: one text, so many times. -/
import Derived.Test.YtkcoabdngjbhdabRep
import Derived.Test.YtkcoabdngjbhdabV1
import Derived.Laws.CopyRow
import Derived.Laws.CopyOwn
namespace Go.Proofs.Ytkcoabdngjbhdab
open Go Go.RowKit RM
def rrow (y z : Value) (k m : Nat) : Array Value := (List.replicate k y ++ List.replicate m z).toArray
theorem rrow_size (y z : Value) (k m : Nat) : (rrow y z k m).size = k + m := by simp [rrow]
theorem mul_any (a c : Nat) (w : World) (ha : a ≤ 1000) (hc : c ≤ 1000) : Calls Try.prog 81 #[.int .u64 a, .int .u64 c] w fun e w' => e = .returned (.tuple #[.int .u64 0, .int .u64 ((a * c : Nat) : Int)]) ∧ w = w' := by
  have hl : a * c ≤ 1000 * 1000 := Nat.mul_le_mul ha hc
  have hM := Any.bits_Mul { lays105 with } a c (by omega) (by omega) w
  rw [Nat.div_eq_of_lt (by omega : a * c < 18446744073709551616), Nat.mod_eq_of_lt (by omega : a * c < 18446744073709551616)] at hM
  exact hM.mono fun e w' ⟨h1, h2⟩ => ⟨by rw [h1]; rfl, h2.symm⟩
set_option maxRecDepth 100000 in
theorem copy_first (w : World) (g g0 c cap : Nat) (y z : Value) (ty : TypeId) (hy : y.oneCell' = true) (hu : Try.prog.underlying 22 = some (.slice 9)) (h : w.heap[g]? = some (.cells (rrow y z 0 c) 9 (0, 0))) (hc : 1 ≤ c) (h0 : w.cell? ⟨g0, 0, none⟩ = some y) :
    (Builtin.copy_ #[22, 22] ty #[.slice (some ⟨g, 0, none⟩) c c, .slice (some ⟨g0, 0, none⟩) 1 cap]).run Try.prog w = .ok (.int .i64 1) (w.setRow g (rrow y z 1 (c - 1))) := by
  have := run_copy_row (P := Try.prog) w 22 22 ty 9 g 0 c c ⟨g0, 0, none⟩ 1 cap (rrow y z 0 c) 9 [y] hu (by kernel_rfl) h (by rw [List.length_singleton]; exact (Nat.min_eq_left hc).symm) (fun j v hj => by
    match j, hj with
    | 0, hj => simp at hj; subst hj; simpa [Addr.add] using h0
    | j + 1, hj => simp at hj) (by simp [rrow_size]; omega) (by simpa using hy)
  rw [this]
  congr 2
  unfold rrow
  obtain ⟨c, rfl⟩ : ∃ d, c = d + 1 := ⟨c - 1, by omega⟩
  simp [List.replicate_succ]
set_option maxRecDepth 100000 in
theorem copy_more (w : World) (g c k m : Nat) (y z : Value) (ty : TypeId) (hy : y.oneCell' = true) (hu : Try.prog.underlying 22 = some (.slice 9)) (h : w.heap[g]? = some (.cells (rrow y z k (c - k)) 9 (0, 0))) (hk : k < c) (hm : m = Nat.min k (c - k)) :
    (Builtin.copy_ #[22, 22] ty #[.slice (some ⟨g, k, none⟩) (c - k) (c - k), .slice (some ⟨g, 0, none⟩) k c]).run Try.prog w = .ok (.int .i64 m) (w.setRow g (rrow y z (k + m) (c - (k + m)))) := by
  have hm1 : m ≤ k := by rw [hm]; exact Nat.min_le_left _ _
  have hm2 : m ≤ c - k := by rw [hm]; exact Nat.min_le_right _ _
  have := run_copy_row (P := Try.prog) w 22 22 ty 9 g k (c - k) (c - k) ⟨g, 0, none⟩ k c (rrow y z k (c - k)) 9 (List.replicate m y) hu (by kernel_rfl) h (by simp; exact hm) (fun j v hj => by
    rw [List.getElem?_replicate] at hj
    split at hj
    · cases hj
      rename_i hjm
      have e : (⟨g, 0, none⟩ : Addr).add j = ⟨g, j, none⟩ := by unfold Addr.add; split <;> simp_all
      rw [e, hb_cell h j]
      unfold rrow
      rw [List.getElem?_toArray, List.getElem?_append_left (by simp; omega), List.getElem?_replicate, if_pos (by omega)]
    · cases hj) (by rw [List.length_replicate, rrow_size]; omega) (fun v hv => by rw [List.mem_replicate] at hv; rw [hv.2]; exact hy)
  rw [this, List.length_replicate]
  congr 2
  unfold rrow
  have e1 : (List.replicate k y ++ List.replicate (c - k) z).take k = List.replicate k y := List.take_left' (by simp)
  have e2 : (List.replicate k y ++ List.replicate (c - k) z).drop (k + m) = List.replicate (c - (k + m)) z := by
    rw [List.drop_append, List.length_replicate, List.drop_replicate, List.drop_replicate]
    have h1 : k - (k + m) = 0 := by omega
    have h2 : c - k - (k + m - k) = c - (k + m) := by omega
    rw [h1, h2]; rfl
  show (List.take k (List.replicate k y ++ List.replicate (c - k) z) ++ List.replicate m y ++ List.drop (k + m) (List.replicate k y ++ List.replicate (c - k) z)).toArray = _
  rw [e1, e2, List.replicate_append_replicate]
theorem row_own (w : World) (g c B : Nat) (y : ByteArray) (h : w.heap[g]? = some (.cells (rrow (.string y) (.string ⟨#[]⟩) c (c - c)) 9 (0, 0))) (hB : B ≤ g) (hc : c ≤ 1000) : OwnT w B (.slice (some ⟨g, 0, none⟩) c c) (List.replicate c y) := by
  refine ⟨by simp [vtxt], .inr ⟨g, c, _, by simp, hB, h, by simp, by unfold maxLen; omega, by simp [rrow], ?_⟩⟩
  simp [rrow, vtxt]
theorem row_new (w : World) (g c B : Nat) (y : ByteArray) (h : OwnT w B (.slice (some ⟨g, 0, none⟩) c c) (List.replicate c ⟨#[]⟩)) : w.heap[g]? = some (.cells (rrow (.string y) (.string ⟨#[]⟩) 0 c) 9 (0, 0)) := by
  obtain ⟨_, h2⟩ := h
  rcases h2 with ⟨e, _⟩ | ⟨g', cap', cur, e, hb, hh, hnc, hc, hs, ht⟩
  · cases e
  · have e' : g = g' ∧ c = cap' := by simp at e; exact ⟨e.1, e.2⟩
    obtain ⟨rfl, rfl⟩ := e'
    rw [hh]
    congr 2
    have : cur.toList = List.replicate c (.string ⟨#[]⟩) := by
      rw [List.length_replicate, List.take_of_length_le (by rw [Array.length_toList, hs]; exact Nat.le_refl _)] at ht
      rw [ht]; simp [vtxt]
    unfold rrow
    rw [← this]; simp
set_option maxHeartbeats 1000000 in
theorem rep_any (g0 cap c : Nat) (y : ByteArray) (w : World) (hc1 : 1 ≤ c) (hc : c ≤ 1000) (hl : g0 < w.heap.size) (h0 : w.cell? ⟨g0, 0, none⟩ = some (.string y)) :
    Calls Try.prog 47 #[.slice (some ⟨g0, 0, none⟩) 1 cap, .int .i64 c] w fun e w' => ∃ u, e = .returned u ∧ OwnT w' w.heap.size u (List.replicate c y) ∧ Below w.heap.size w w' := by
  have hM := Lib.hid (fun w => mul_any 1 c w (by omega) hc)
  rw [Nat.one_mul] at hM
  have hneg : ¬ (c : Int) < 0 := by omega
  have hwc : IntKind.u64.wrap (c : Int) = c := by rw [IntKind.wrap_u64]; omega
  have hwi : IntKind.i64.wrap (c : Int) = c := by rw [IntKind.wrap_i64]; omega
  have hle : decide ((c : Int) > 9223372036854775807) = false := by simp; omega
  go_enter Try.func47, Try.ntmps47
  go_wp2_with fail
  refine (hM.out _).mono ?_; rintro e w' ⟨rfl, rfl⟩
  go_wp2_with (at_make; refine make_txt _ rfl _ _ rfl _ _ c rfl rfl (by omega) ?_; intro w1 hown1 hb1; have R1 := Lib.hid (row_new w1 _ c _ y hown1); replace hb1 := Lib.hid hb1; have k0 : w1.cell? ⟨g0, 0, none⟩ = some (.string y) := (hb1.out.cell (p := ⟨g0, 0, none⟩) hl).trans h0; have hcp := fun ty => copy_first w1 w.heap.size g0 c cap (.string y) (.string ⟨#[]⟩) ty rfl Try.underlying22 R1.out hc1 k0)
  go_loopw [8] (fun n wr => ∃ k : Nat, 1 ≤ k ∧ k ≤ c ∧ n = .int .i64 k ∧ Hid (wr.heap[w.heap.size]? = some (.cells (rrow (.string y) (.string ⟨#[]⟩) k (c - k)) 9 (0, 0))) ∧ Hid (Below w.heap.size w wr)) (fun n _ => c - (intOf n).toNat)
  case atStart => exact ⟨1, Nat.le_refl _, hc1, rfl, Lib.hid (setRow_heap w1 _ _ _ _ _ R1.out), Lib.hid (below_setRow hb1.out (Nat.le_refl _) _)⟩
  case round =>
    obtain ⟨k, hk1, hk, rfl, R, hb⟩ := hrel
    clear hcp k0 R1 hb1
    by_cases hlt : k < c
    · have hcp := fun ty => copy_more wr.drew w.heap.size c k (Nat.min k (c - k)) (.string y) (.string ⟨#[]⟩) ty rfl Try.underlying22 R.out hlt rfl
      have hM1 : 1 ≤ Nat.min k (c - k) := Nat.le_min.2 ⟨hk1, by omega⟩
      have hM2 : Nat.min k (c - k) ≤ c - k := Nat.min_le_right _ _
      generalize Nat.min k (c - k) = M at *
      have hw : wrap64 ((k : Int) + (M : Int)) = ((k + M : Nat) : Int) := by unfold wrap64; omega
      go_wp2_with fail
      go_region
      go_wp2_with fail
      refine ⟨⟨k + M, by omega, by omega, by congr 1, Lib.hid (setRow_heap wr.drew _ _ _ _ _ R.out), Lib.hid (below_setRow hb.out.drew (Nat.le_refl _) _)⟩, by simp [intOf]; omega⟩
    · obtain rfl : k = c := by omega
      have hO := Lib.hid (row_own wr w.heap.size k w.heap.size y R.out (Nat.le_refl _) hc)
      go_wp2_with fail
      go_ret; exact ⟨_, rfl, hO.out, hb.out⟩
end Go.Proofs.Ytkcoabdngjbhdab
