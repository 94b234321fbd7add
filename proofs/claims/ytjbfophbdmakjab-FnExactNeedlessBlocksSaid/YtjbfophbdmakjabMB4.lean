/- Marks of bolts: made and asked for. -/
import Derived.Test.YtjbfophbdmakjabMB3
namespace Go.Proofs.Ytjbfophbdmakjab
open Go Go.RowKit RM
theorem ne_base {u v : Value} {c : Nat} (hv : ∀ k, v.ownBlock = some k → k < c) (hu : ∀ k, u.ownBlock = some k → c ≤ k) : v.ownBlock = none ∨ v.ownBlock ≠ u.ownBlock := by
  cases e : v.ownBlock with
  | none => left; rfl
  | some a =>
    right
    intro e2
    have := hu a e2.symm
    have := hv a e
    omega
theorem markBolts_at (v : Value) (s : Nat) (ps : List Int) (bs : List Blk) (w6 w : World) (hp : ps.length ≤ 1048576) (hq : bs.length ≤ 1048576) (hs : s ≤ w.heap.size) (h6 : OwnBo w6 s v ps bs) (h : OwnBo w s v ps bs) :
    Calls Try.prog 17 #[v, .int .i64 1] w fun e w' => e = .returned (.int .i64 (1 + (ps.length : Int) + 4 * (bs.length : Int))) ∧ OwnBo w' s v (marks ps.length) (marksB (1 + (ps.length : Int)) bs.length) ∧ Mid s w6.heap.size w w' := by
  obtain ⟨pv, bv, rfl, hI, hG⟩ := h
  obtain ⟨pv6, bv6, e6, hI6, hG6⟩ := h6
  obtain ⟨rfl, rfl⟩ : pv = pv6 ∧ bv = bv6 := by simpa using e6
  have hne := own_ne_kind hG hI (by decide)
  have hIl := Lib.hid (fun k e => hI6.lt k e)
  have hGl := Lib.hid (fun k e => hG6.lt k e)
  have hIo := Lib.hid (fun k e => hI.lt k e)
  clear e6 hI6 hG6
  obtain ⟨w2, hw2⟩ : ∃ w2, Hid (w2 = w.alloc (.cells #[pv, bv] 31)) := ⟨_, Lib.hid rfl⟩
  have hb2 : Hid (Below w.heap.size w w2) := Lib.hid (by rw [hw2.out]; exact ba1 w _)
  have F := Lib.hid (show w2.heap[w.heap.size]? = some (.cells #[pv, bv] 31) by rw [hw2.out]; exact hb_new _ _)
  have hl2 := hb_lt F.out
  have hI2 : OwnI w2 s pv ps := by rw [hw2.out]; exact World.ownsRow.alloc hI _
  have hG2 : OwnG blkE w2 s bv bs := by rw [hw2.out]; exact hG.alloc _
  have hM := Lib.hid (markIntS_any pv ps s w2 (by omega) hI2)
  have hm2 := Lib.hid (Mid.of_below (s := s) (t := w6.heap.size) hb2.out)
  replace hG2 := Lib.hid hG2
  replace hne := Lib.hid hne
  clear hI hG hI2
  have f0 : w2.cell? ⟨w.heap.size, 0, none⟩ = some pv := hb_cell F.out 0
  go_enter Try.func17, Try.ntmps17
  go_wp2_with fail
  rw [← hw2.out]
  go_wp2_with fail
  refine hM.out.mono ?_; rintro e w3 ⟨rfl, hI3, hg3⟩
  have F3 := Lib.hid (show w3.heap[w.heap.size]? = some (.cells #[pv, bv] 31) from (hg3.block _ hl2 (fun e => by have := hIo.out _ e.symm; omega)).trans F.out)
  have hG3 := hG2.out.kept hg3 hne.out
  have hm3 := Lib.hid (hm2.out.trans (Mid.grown hg3 (fun k e => hIl.out k e)))
  have hB := Lib.hid (markBlockS_any bv s (1 + (ps.length : Int)) bs w3 (by omega) (by omega) (by omega) hG3)
  have f1 : w3.cell? ⟨w.heap.size, 1, none⟩ = some bv := hb_cell F3.out 1
  replace hI3 := Lib.hid hI3
  clear hg3 hG3 f0
  go_wp2_with fail
  refine hB.out.mono ?_; rintro e w4 ⟨rfl, hG4, hg4⟩
  have hI4 : OwnI w4 s pv (marks ps.length) := World.ownsRow.kept hI3.out hg4 (by
    rcases hne.out with h | h
    · cases hpv : pv.ownBlock with
      | none => left; rfl
      | some k => right; rw [h]; simp
    · right; exact fun e => h e.symm)
  have hm4 := Lib.hid (hm3.out.trans (Mid.grown hg4 (fun k e => hGl.out k e)))
  replace hI4 := Lib.hid hI4
  replace hG4 := Lib.hid hG4
  clear hg4
  go_wp2_with fail
  go_ret; exact ⟨rfl, ⟨_, _, rfl, hI4.out, hG4.out⟩, hm4.out⟩
end Go.Proofs.Ytjbfophbdmakjab
