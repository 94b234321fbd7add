/- The laws' helpers for bolts: copied, compared, marked, held. -/
import Derived.Test.YtcfeaaakfjilgaaD3
import Derived.Test.YtcfeaaakfjilgaaArgs
namespace Go.Proofs.Ytcfeaaakfjilgaa
open Go Go.RowKit RM
theorem bt2 {w a b : World} {B : Nat} (h : Below B w a) (k : Below a.heap.size a b) (hB : B ≤ a.heap.size) : Below B w b := h.trans (k.mono hB)
/-- the blocks that came in -/
def ArgK (w : World) (a : Option Addr) (bs : List Blk) : Prop :=
  bs = [] ∨ ∃ b off, a = some ⟨b, off, none⟩ ∧ b < w.heap.size ∧ ∀ i (h : i < bs.length), w.cell? ⟨b, off + i * 4, none⟩ = some (.int .i64 bs[i].a) ∧ w.cell? ⟨b, off + i * 4 + 1, none⟩ = some (.int .i64 bs[i].i) ∧ w.cell? ⟨b, off + i * 4 + 2, none⟩ = some (.int .i64 bs[i].b) ∧ w.cell? ⟨b, off + i * 4 + 3, none⟩ = some (.int .i64 bs[i].j)
theorem ArgK.below {w w' : World} {a : Option Addr} {bs : List Blk} (h : ArgK w a bs) (hb : Below w.heap.size w w') : ArgK w' a bs := by
  rcases h with h | ⟨b, off, e, hl, hc⟩
  · exact .inl h
  · refine .inr ⟨b, off, e, Nat.lt_of_lt_of_le hl hb.size, fun i hi => ?_⟩
    obtain ⟨h0, h1, h2, h3⟩ := hc i hi
    exact ⟨by rw [hb.cell (p := ⟨b, off + i * 4, none⟩) hl]; exact h0, by rw [hb.cell (p := ⟨b, off + i * 4 + 1, none⟩) hl]; exact h1, by rw [hb.cell (p := ⟨b, off + i * 4 + 2, none⟩) hl]; exact h2, by rw [hb.cell (p := ⟨b, off + i * 4 + 3, none⟩) hl]; exact h3⟩
/-- a block stored whole -/
theorem OwnG.blkStored {w : World} {B g n cap : Nat} {xs : List Blk} (h : OwnG blkE w B (.slice (some ⟨g, 0, none⟩) n cap) xs) (hn : n = xs.length) (k : Nat) (hk : k < xs.length) (a i b j : Int) :
    OwnG blkE ((((w.setCell ⟨g, k * 4, none⟩ (.int .i64 a)).setCell ⟨g, k * 4 + 1, none⟩ (.int .i64 i)).setCell ⟨g, k * 4 + 2, none⟩ (.int .i64 b)).setCell ⟨g, k * 4 + 3, none⟩ (.int .i64 j)) B (.slice (some ⟨g, 0, none⟩) n cap) (xs.set k ⟨a, i, b, j⟩) ∧
    w.grownBy ((((w.setCell ⟨g, k * 4, none⟩ (.int .i64 a)).setCell ⟨g, k * 4 + 1, none⟩ (.int .i64 i)).setCell ⟨g, k * 4 + 2, none⟩ (.int .i64 b)).setCell ⟨g, k * 4 + 3, none⟩ (.int .i64 j)) (some g) := by
  obtain ⟨y, hy⟩ : ∃ y, y = xs[k] := ⟨_, rfl⟩
  obtain ⟨s0, g0⟩ := h.stored hn k hk 0 (by decide) (.int .i64 a) ⟨a, y.i, y.b, y.j⟩ (by rw [← hy]; rfl)
  obtain ⟨s1, g1⟩ := s0.stored (by simpa using hn) k (by simpa using hk) 1 (by decide) (.int .i64 i) ⟨a, i, y.b, y.j⟩ (by simp [List.getElem_set_self]; rfl)
  rw [List.set_set] at s1
  obtain ⟨s2, g2⟩ := s1.stored (by simpa using hn) k (by simpa using hk) 2 (by decide) (.int .i64 b) ⟨a, i, b, y.j⟩ (by simp [List.getElem_set_self]; rfl)
  rw [List.set_set] at s2
  obtain ⟨s3, g3⟩ := s2.stored (by simpa using hn) k (by simpa using hk) 3 (by decide) (.int .i64 j) ⟨a, i, b, j⟩ (by simp [List.getElem_set_self]; rfl)
  rw [List.set_set] at s3
  exact ⟨s3, ((g0.trans g1).trans g2).trans g3⟩
theorem toBlock_any (a i b j : Int) (w : World) :
    Calls Try.prog 32 #[.agg #[.int .i64 a, .int .i64 i, .int .i64 b, .int .i64 j]] w fun e w' => e = .returned (.agg #[.int .i64 a, .int .i64 i, .int .i64 b, .int .i64 j]) ∧ Below w.heap.size w w' := by
  go_enter Try.func32, Try.ntmps32
  go_wp2_with fail
  refine bodyPost_ret (v := .agg #[.int .i64 a, .int .i64 i, .int .i64 b, .int .i64 j]) ?_ rfl ⟨rfl, ?_⟩
  · simp [results, Try.results32, go_sem]
  · exact ((ba1 w _).alloc (by simp) _).alloc (by simp; omega) _
theorem toBlockS_any (a : Option Addr) (n cap : Nat) (bs : List Blk) (w : World) (hn : n ≤ 1048576) (hx : bs.length = n) (h : ArgK w a bs) :
    Calls Try.prog 45 #[.slice a n cap] w fun e w' => ∃ v, e = .returned v ∧ OwnG blkE w' w.heap.size v bs ∧ Below w.heap.size w w' := by
  have h := Lib.hid h
  have hx := Lib.hid hx
  go_enter Try.func45, Try.ntmps45
  go_wp2_with (at_make; refine make_G blkE _ rfl _ _ 29 rfl Try.underlying29 _ _ n rfl rfl (by omega) ?_; intro w1 hown1 hb1)
  have hown1 := Lib.hid hown1
  have hb1 := Lib.hid hb1
  go_loopw [4] (fun i wr => ∃ k : Nat, k ≤ n ∧ i = .int .i64 k ∧ Hid (OwnG blkE wr w.heap.size (.slice (some ⟨w.heap.size, 0, none⟩) n n) (bs.take k ++ List.replicate (n - k) ⟨0, 0, 0, 0⟩)) ∧ Hid (Below w.heap.size w wr)) (fun i _ => n - (intOf i).toNat)
  case atStart => exact ⟨0, Nat.zero_le _, rfl, Lib.hid (by rw [List.take_zero, List.nil_append, Nat.sub_zero]; exact hown1.out), hb1⟩
  case round =>
    obtain ⟨k, hk, rfl, ho, hb⟩ := hrel
    clear hown1 hb1
    by_cases hlt : k < n
    · have hkx : k < bs.length := by rw [hx.out]; exact hlt
      obtain ⟨b, off, rfl, hl, hc⟩ : ∃ b off, a = some ⟨b, off, none⟩ ∧ b < w.heap.size ∧ Hid (∀ i (h : i < bs.length), w.cell? ⟨b, off + i * 4, none⟩ = some (.int .i64 bs[i].a) ∧ w.cell? ⟨b, off + i * 4 + 1, none⟩ = some (.int .i64 bs[i].i) ∧ w.cell? ⟨b, off + i * 4 + 2, none⟩ = some (.int .i64 bs[i].b) ∧ w.cell? ⟨b, off + i * 4 + 3, none⟩ = some (.int .i64 bs[i].j)) := by
        rcases h.out with e | e
        · rw [e] at hkx; simp at hkx
        · exact e
      have hlk : Hid ((bs.take k ++ List.replicate (n - k) (⟨0, 0, 0, 0⟩ : Blk)).length = n) := Lib.hid (by simp [hx.out]; omega)
      have hsp : Hid (List.replicate (n - k) (⟨0, 0, 0, 0⟩ : Blk) = ⟨0, 0, 0, 0⟩ :: List.replicate (n - (k + 1)) ⟨0, 0, 0, 0⟩) := Lib.hid (by
        rw [show n - k = (n - (k + 1)) + 1 from by omega]; rfl)
      have hmt : Hid (bs.take (k + 1) = bs.take k ++ [bs[k]]) := Lib.hid (List.take_succ_eq_append_getElem hkx)
      have htl : Hid ((bs.take k).length = k) := Lib.hid (by rw [List.length_take]; omega)
      obtain ⟨c0, c1, c2, c3⟩ := hc.out k hkx
      rw [← hb.out.cell (p := ⟨b, off + k * 4, none⟩) hl] at c0
      rw [← hb.out.cell (p := ⟨b, off + k * 4 + 1, none⟩) hl] at c1
      rw [← hb.out.cell (p := ⟨b, off + k * 4 + 2, none⟩) hl] at c2
      rw [← hb.out.cell (p := ⟨b, off + k * 4 + 3, none⟩) hl] at c3
      obtain ⟨ka, ki, kb, kj, hke⟩ : ∃ a i b j, bs[k] = ⟨a, i, b, j⟩ := ⟨_, _, _, _, rfl⟩
      rw [hke] at c0 c1 c2 c3 hmt
      clear hke
      have hgl := (ho.out.lt _ rfl).2
      go_wp2_with fail
      refine (toBlock_any ka ki kb kj wr).mono ?_; rintro e w2 ⟨rfl, hb2⟩
      have ho2 := Lib.hid (ho.out.below hb2)
      have hst := Lib.hid (ho2.out.blkStored hlk.out.symm k (by rw [hlk.out]; exact hlt) ka ki kb kj)
      have hbW := Lib.hid (bt2 hb.out hb2 hb.out.size)
      obtain ⟨d0, d1, d2, d3⟩ := blk_cells (fun k' hk' o ho' => ho2.out.cells hlk.out.symm k' hk' o ho') k (by rw [hlk.out]; exact hlt)
      have hfz := fun j => ho2.out.frozen hlk.out.symm j
      generalize (bs.take k ++ List.replicate (n - k) (⟨0, 0, 0, 0⟩ : Blk))[k]'(by rw [hlk.out]; exact hlt) = y at d0 d1 d2 d3
      go_wp2_with fail
      go_roundw
      case rel =>
        refine ⟨k + 1, by omega, by go_num, Lib.hid ?_, Lib.hid ?_⟩
        · have h3 := hst.out.1
          rw [hsp.out, List.set_append_right _ _ (by rw [htl.out]; exact Nat.le_refl _), htl.out, Nat.sub_self, List.set_cons_zero] at h3
          rw [hmt.out, List.append_assoc]; exact h3
        · exact hbW.out.grown hst.out.2 hbW.out.size (fun j e => by cases e; exact Nat.le_refl _)
      all_goals (simp [intOf] <;> omega)
    · obtain rfl : k = n := by omega
      have ho2 := ho.out
      rw [List.take_of_length_le (by rw [hx.out]; omega)] at ho2
      simp only [Nat.sub_self, List.replicate_zero, List.append_nil] at ho2
      have ho2 := Lib.hid ho2
      go_wp2_with fail
      go_ret
      exact ⟨_, rfl, ho2.out, hb.out⟩
/-- bolts in memory of the call's own, from block s on -/
def OwnBo (w : World) (s : Nat) (v : Value) (ps : List Int) (bs : List Blk) : Prop := ∃ pv bv, v = .agg #[pv, bv] ∧ OwnI w s pv ps ∧ OwnG blkE w s bv bs
theorem OwnBo.bo {w : World} {s : Nat} {v : Value} {ps : List Int} {bs : List Blk} (h : OwnBo w s v ps bs) : Bo w v ps bs := by
  obtain ⟨pv, bv, rfl, h1, h2⟩ := h
  exact ⟨pv, bv, rfl, h1.rd, h2.rd⟩
theorem OwnBo.below {w w' : World} {s : Nat} {v : Value} {ps : List Int} {bs : List Blk} (h : OwnBo w s v ps bs) (hb : Below w.heap.size w w') : OwnBo w' s v ps bs := by
  obtain ⟨pv, bv, rfl, h1, h2⟩ := h
  exact ⟨pv, bv, rfl, h1.below hb, h2.below hb⟩
theorem OwnBo.mono {w : World} {s t : Nat} {v : Value} {ps : List Int} {bs : List Blk} (h : OwnBo w s v ps bs) (ht : t ≤ s) : OwnBo w t v ps bs := by
  obtain ⟨pv, bv, rfl, h1, h2⟩ := h
  exact ⟨pv, bv, rfl, h1.mono ht, h2.mono ht⟩
theorem OwnBo.zero (w : World) (s : Nat) : OwnBo w s (.agg #[.slice none 0 0, .slice none 0 0]) [] [] := ⟨_, _, rfl, OwnI.nil _ _, OwnG.nil _ _⟩
theorem toBolts_any (a1 a2 : Option Addr) (n c n2 c2 : Nat) (ps : List Int) (bs : List Blk) (w : World) (hn : n ≤ 1048576) (hn2 : n2 ≤ 1048576) (h1 : ps.length = n) (h2 : bs.length = n2) (hA : ArgI w a1 ps) (hB : ArgK w a2 bs) :
    Calls Try.prog 14 #[.agg #[.slice a1 n c, .slice a2 n2 c2]] w fun e w' => ∃ v, e = .returned v ∧ OwnBo w' w.heap.size v ps bs ∧ Below w.heap.size w w' := by
  replace hA := Lib.hid hA
  replace hB := Lib.hid hB
  replace h1 := Lib.hid h1
  replace h2 := Lib.hid h2
  obtain ⟨w2, hw2⟩ : ∃ w2, Hid (w2 = ((w.alloc (.cells #[.slice a1 n c, .slice a2 n2 c2] 25)).alloc (.cells #[.slice none 0 0, .slice none 0 0] 31)).alloc (.cells #[.slice none 0 0, .slice none 0 0] 31)) := ⟨_, Lib.hid rfl⟩
  have hb2 : Hid (Below w.heap.size w w2) := Lib.hid (by rw [hw2.out]; exact ((ba1 w _).alloc (by simp) _).alloc (by simp; omega) _)
  have F := Lib.hid (show w2.heap[w.heap.size]? = some (.cells #[.slice a1 n c, .slice a2 n2 c2] 25) by rw [hw2.out]; exact hb_old _ (hb_old _ (hb_new _ _)))
  have R := Lib.hid (show w2.heap[w.heap.size + 1]? = some (.cells #[.slice none 0 0, .slice none 0 0] 31) by rw [hw2.out]; exact hb_old _ (hb_new' _ _ _ (by simp)))
  have O := Lib.hid (show w2.heap[w.heap.size + 1 + 1]? = some (.cells #[.slice none 0 0, .slice none 0 0] 31) by rw [hw2.out]; exact hb_new' _ _ _ (by simp))
  have hl2 : w.heap.size + 1 + 1 < w2.heap.size := hb_lt O.out
  have f0 : w2.cell? ⟨w.heap.size, 0, none⟩ = some (.slice a1 n c) := hb_cell F.out 0
  have HI := Lib.hid (toIntS_any a1 n c ps w2 hn h1.out (hA.out.below hb2.out))
  go_enter Try.func14, Try.ntmps14
  go_wp2_with fail
  rw [← hw2.out]
  refine HI.out.mono ?_; rintro e w3 ⟨pv, rfl, ho3, hb3⟩
  obtain ⟨p3, c3, rfl⟩ : ∃ p c, pv = .slice p n c := by
    obtain ⟨p, c, e, _⟩ := ho3.rd
    exact ⟨p, c, by rw [e, h1.out]⟩
  replace ho3 := Lib.hid ho3
  replace hb3 := Lib.hid hb3
  have F3 := Lib.hid (hb_below hb3.out (by omega) F.out)
  have R3 := Lib.hid (hb_below hb3.out (by omega) R.out)
  have O3 := Lib.hid (hb_below hb3.out (by omega) O.out)
  have f1 : w3.cell? ⟨w.heap.size, 1, none⟩ = some (.slice a2 n2 c2) := hb_cell F3.out 1
  have o0 : w3.cell? ⟨w.heap.size + 1 + 1, 0, none⟩ = some (.slice none 0 0) := hb_cell O3.out 0
  have z0 := hb_frozen O3.out
  have hl3 : w.heap.size + 1 + 1 < w3.heap.size := hb_lt O3.out
  clear f0
  go_wp2_with fail
  obtain ⟨w4, hw4⟩ : ∃ w4, Hid (w4 = w3.setCell ⟨w.heap.size + 1 + 1, 0, none⟩ (.slice p3 n c3)) := ⟨_, Lib.hid rfl⟩
  rw [← hw4.out]
  have R4 := Lib.hid (show w4.heap[w.heap.size + 1]? = some (.cells #[.slice none 0 0, .slice none 0 0] 31) by rw [hw4.out, hb_ne _ (by omega)]; exact R3.out)
  have O4 := Lib.hid (show w4.heap[w.heap.size + 1 + 1]? = some (.cells #[.slice p3 n c3, .slice none 0 0] 31) by rw [hw4.out]; exact hb_set O3.out _)
  have hbw4 := Lib.hid (show Below w.heap.size w w4 by rw [hw4.out]; exact (bt1 hb2.out hb3.out).setCell (by show w.heap.size ≤ w.heap.size + 1 + 1; omega) _)
  have hoi4 := Lib.hid (show OwnI w4 w2.heap.size (.slice p3 n c3) ps by
    rw [hw4.out]
    exact ownsRow_setCell_below (a := ⟨w.heap.size + 1 + 1, 0, none⟩) ho3.out (by show w.heap.size + 1 + 1 < _; omega) _)
  refine (toBlockS_any a2 n2 c2 bs w4 hn2 h2.out (hB.out.below hbw4.out)).mono ?_
  rintro e w5 ⟨bv, rfl, ho5, hb5⟩
  obtain ⟨p4, c4, rfl⟩ : ∃ p c, bv = .slice p n2 c := by
    obtain ⟨p, c, e, _⟩ := ho5.rd
    exact ⟨p, c, by rw [e, h2.out]⟩
  replace ho5 := Lib.hid ho5
  replace hb5 := Lib.hid hb5
  have hl4 : w.heap.size + 1 + 1 < w4.heap.size := hb_lt O4.out
  clear z0 o0
  have R5 := Lib.hid (hb_below (g := w.heap.size + 1) hb5.out (by omega) R4.out)
  have O5 := Lib.hid (hb_below hb5.out (by omega) O4.out)
  have r0 : w5.cell? ⟨w.heap.size + 1, 0, none⟩ = some (.slice none 0 0) := hb_cell R5.out 0
  have r1 : w5.cell? ⟨w.heap.size + 1, 1, none⟩ = some (.slice none 0 0) := hb_cell R5.out 1
  have zr := hb_frozen R5.out
  have o0 : w5.cell? ⟨w.heap.size + 1 + 1, 0, none⟩ = some (.slice p3 n c3) := hb_cell O5.out 0
  have o1 : w5.cell? ⟨w.heap.size + 1 + 1, 1, none⟩ = some (.slice none 0 0) := hb_cell O5.out 1
  have zo := hb_frozen O5.out
  have hl5 : w.heap.size + 1 + 1 < w5.heap.size := hb_lt O5.out
  have hl6 : w.heap.size + 1 < w5.heap.size := by omega
  have hm1 : ¬ w.heap.size + 1 + 1 = w.heap.size + 1 := by omega
  go_wp2_with fail
  refine bodyPost_ret (v := .agg #[.slice p3 n c3, .slice p4 n2 c4]) ?_ rfl ⟨_, rfl, ⟨_, _, rfl, ?_, ?_⟩, ?_⟩
  · simp [results, Try.results14, go_sem, hl6, hl5, r0, r1, hm1]
  · have h5 := hoi4.out.below hb5.out
    have k : ∀ (W : World) (a : Addr) (u : Value), OwnI W w2.heap.size (.slice p3 n c3) ps → a.block < w2.heap.size → OwnI (W.setCell a u) w2.heap.size (.slice p3 n c3) ps := fun W a u h ha => ownsRow_setCell_below h ha u
    exact (k _ _ _ (k _ _ _ (k _ _ _ h5 (by show w.heap.size + 1 + 1 < _; omega)) (by show w.heap.size + 1 < _; omega)) (by show w.heap.size + 1 < _; omega)).mono hb2.out.size
  · have k : ∀ (W : World) (a : Addr) (u : Value), OwnG blkE W w4.heap.size (.slice p4 n2 c4) bs → a.block < w4.heap.size → OwnG blkE (W.setCell a u) w4.heap.size (.slice p4 n2 c4) bs := fun W a u h ha => ownsRow_setCell_below h ha u
    exact (k _ _ _ (k _ _ _ (k _ _ _ ho5.out (by show w.heap.size + 1 + 1 < _; omega)) (by show w.heap.size + 1 < _; omega)) (by show w.heap.size + 1 < _; omega)).mono hbw4.out.size
  · exact (((bt1 hbw4.out hb5.out).setCell (by show w.heap.size ≤ w.heap.size + 1 + 1; omega) _).setCell (by show w.heap.size ≤ w.heap.size + 1; omega) _).setCell (by show w.heap.size ≤ w.heap.size + 1; omega) _
end Go.Proofs.Ytcfeaaakfjilgaa
