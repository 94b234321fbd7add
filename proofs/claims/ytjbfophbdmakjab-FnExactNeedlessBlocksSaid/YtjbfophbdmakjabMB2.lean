/- Marks of a row of blocks. -/
import Derived.Test.YtjbfophbdmakjabMB1
namespace Go.Proofs.Ytjbfophbdmakjab
open Go Go.RowKit RM
def mkB (s : Int) (i : Nat) : Blk := ⟨s + 4 * (i : Int), s + 4 * (i : Int) + 1, s + 4 * (i : Int) + 1 + 1, s + 4 * (i : Int) + 1 + 1 + 1⟩
def marksB (s : Int) (n : Nat) : List Blk := (List.range n).map (mkB s)
theorem marksB_len (s : Int) (n : Nat) : (marksB s n).length = n := by simp [marksB]
theorem marksB_step (s : Int) (bs : List Blk) (k : Nat) (hk : k < bs.length) : (marksB s k ++ bs.drop k).set k (mkB s k) = marksB s (k + 1) ++ bs.drop (k + 1) := by
  have hd : bs.drop k = bs[k] :: bs.drop (k + 1) := List.drop_eq_getElem_cons _
  rw [hd, List.set_append_right _ _ (by rw [marksB_len]; exact Nat.le_refl _), marksB_len, Nat.sub_self, List.set_cons_zero]
  unfold marksB
  rw [List.range_succ, List.map_append, List.append_assoc]; rfl
set_option maxHeartbeats 1000000 in
theorem markBlockS_some (g n cap B : Nat) (s : Int) (bs : List Blk) (w : World) (hx : bs.length = n) (hn : n ≤ 2000000) (hs0 : 0 ≤ s) (hs1 : s ≤ 3000000) (hw : OwnG blkE w B (.slice (some ⟨g, 0, none⟩) n cap) bs) :
    Calls Try.prog 49 #[.slice (some ⟨g, 0, none⟩) n cap, .int .i64 s] w fun e w' => e = .returned (.int .i64 (s + 4 * (n : Int))) ∧ OwnG blkE w' B (.slice (some ⟨g, 0, none⟩) n cap) (marksB s n) ∧ w.grownBy w' (some g) := by
  replace hw := Lib.hid hw
  replace hx := Lib.hid hx
  go_enter Try.func49, Try.ntmps49
  go_wp2_with fail
  go_loopw [1, 5] (fun m i wr => ∃ k : Nat, k ≤ n ∧ i = .int .i64 k ∧ m = .int .i64 (s + 4 * (k : Int)) ∧ Hid (OwnG blkE wr B (.slice (some ⟨g, 0, none⟩) n cap) (marksB s k ++ bs.drop k)) ∧ Hid (w.grownBy wr (some g))) (fun _ i _ => n - (intOf i).toNat)
  case atStart => exact ⟨0, by omega, rfl, by simp, Lib.hid (by simpa [marksB] using hw.out), Lib.hid (World.grownBy.refl _ _)⟩
  case round =>
    obtain ⟨k, hk, rfl, rfl, ho, hg⟩ := hrel
    by_cases hlt : k < n
    · have hlen : Hid ((marksB s k ++ bs.drop k).length = n) := Lib.hid (by rw [List.length_append, marksB_len, List.length_drop, hx.out]; omega)
      have hst := Lib.hid (ho.out.blkStored hlen.out.symm k (by rw [hlen.out]; exact hlt) (s + 4 * (k : Int)) (s + 4 * (k : Int) + 1) (s + 4 * (k : Int) + 1 + 1) (s + 4 * (k : Int) + 1 + 1 + 1))
      have hsp := Lib.hid (marksB_step s bs k (by rw [hx.out]; exact hlt))
      obtain ⟨d0, d1, d2, d3⟩ := blk_cells (fun k' hk' o ho' => ho.out.cells hlen.out.symm k' hk' o ho') k (by rw [hlen.out]; exact hlt)
      have hfz := fun j => ho.out.frozen hlen.out.symm j
      have hgl := (ho.out.lt _ rfl).2
      generalize (marksB s k ++ bs.drop k)[k]'(by rw [hlen.out]; exact hlt) = y at d0 d1 d2 d3
      have e1 : IntKind.i64.wrap (s + 4 * (k : Int) + 1) = s + 4 * (k : Int) + 1 := by rw [IntKind.wrap_i64]; omega
      have e2 : IntKind.i64.wrap (s + 4 * (k : Int) + 1 + 1) = s + 4 * (k : Int) + 1 + 1 := by rw [IntKind.wrap_i64]; omega
      have e3 : IntKind.i64.wrap (s + 4 * (k : Int) + 1 + 1 + 1) = s + 4 * (k : Int) + 1 + 1 + 1 := by rw [IntKind.wrap_i64]; omega
      have e4 : IntKind.i64.wrap (s + 4 * (k : Int) + 1 + 1 + 1 + 1) = s + 4 * (k : Int) + 1 + 1 + 1 + 1 := by rw [IntKind.wrap_i64]; omega
      go_wp2_with fail
      go_roundw
      case rel => exact ⟨k + 1, by omega, by go_num, by congr 1; omega, by rw [← hsp.out]; exact Lib.hid hst.out.1, Lib.hid (hg.out.trans hst.out.2)⟩
      all_goals (simp [intOf] <;> omega)
    · obtain rfl : k = n := by omega
      have ho2 := ho.out
      rw [List.drop_eq_nil_of_le (by rw [hx.out]; exact Nat.le_refl _), List.append_nil] at ho2
      replace ho2 := Lib.hid ho2
      go_wp2_with fail
      go_ret; exact ⟨rfl, ho2.out, hg.out⟩
end Go.Proofs.Ytjbfophbdmakjab
