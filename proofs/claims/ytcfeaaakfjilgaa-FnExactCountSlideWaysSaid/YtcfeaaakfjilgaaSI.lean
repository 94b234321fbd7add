/- The model's search by slides: how far each state is. -/
import Derived.Test.YtcfeaaakfjilgaaSH
import Derived.Test.YtcfeaaakfjilgaaSC
import Derived.Deep.OwnRows
import Derived.Deep.RegionHeld3
import Derived.BigRegion
import Derived.BigQuiet
namespace Go.Proofs.Ytcfeaaakfjilgaa
set_option linter.unusedSimpArgs false
set_option linter.unusedVariables false
open Go Go.RowKit RM
theorem own_litT (w : World) (s : ByteArray) (B : Nat) (hB : B ≤ w.heap.size) : OwnT (w.alloc (.cells #[.string s] 9)) B (.slice (some ⟨w.heap.size, 0, none⟩) 1 1) [s] :=
  ⟨rfl, .inr ⟨_, 1, #[.string s], rfl, hB, hb_new _ _, Nat.le_refl _, by decide, rfl, rfl⟩⟩
theorem own_mk {w : World} {B g N : Nat} (h : w.heap[g]? = some (.cells (madeCells #[.int .i64 0] N) 3)) (hB : B ≤ g) (hN : N ≤ 2000000) : OwnI w B (.slice (some ⟨g, 0, none⟩) N N) (List.replicate N 0) := by
  have e : vint (List.replicate N 0) = (madeCells #[.int .i64 0] N).toList := by rw [toList_madeCells_one]; simp [vint]
  have e2 : (madeCells #[Value.int .i64 0] N).size = N := by
    have := congrArg List.length e; simpa [vint] using this.symm
  unfold OwnI World.ownsRow
  rw [List.length_replicate]
  refine ⟨by simp [vint], .inr ⟨g, N, _, rfl, hB, h, Nat.le_refl _, by unfold maxLen; omega, by rw [e2]; omega, ?_⟩⟩
  rw [e, List.take_of_length_le (by rw [Array.length_toList, e2]; omega)]
/-- what the search holds in memory -/
structure TF (B : Nat) (w0 w : World) (N gm : Nat) (q : Value) (Q : List ByteArray) (M : List Int) : Prop where
  mv : OwnI w B (.slice (some ⟨gm, 0, none⟩) N N) M
  qu : OwnT w B q Q
  bel : Below B w0 w
  le : B ≤ w.heap.size
structure TG (B : Nat) (w0 w : World) (N gm : Nat) (q : Value) (Q : List ByteArray) (M : List Int) (v : Value) (Bv : Nat) (ms : List (Int × Int)) : Prop where
  tf : TF B w0 w N gm q Q M
  sl : OwnG slE w Bv v ms
  hm : gm < Bv
section
variable {B : Nat} {w0 w w' : World} {N gm : Nat} {q q' : Value} {Q : List ByteArray} {M : List Int} {v : Value} {Bv : Nat} {ms : List (Int × Int)}
theorem TF.below (h : TF B w0 w N gm q Q M) (hb : Below w.heap.size w w') : TF B w0 w' N gm q Q M :=
  ⟨h.mv.below hb, h.qu.below hb, h.bel.trans (hb.mono h.le), Nat.le_trans h.le hb.size⟩
theorem TF.store (h : TF B w0 w N gm q Q M) (hM : M.length = N) (k : Nat) (y : Int) : TF B w0 (w.setCell ⟨gm, k, none⟩ (.int .i64 y)) N gm q Q (M.set k y) := by
  obtain ⟨hs, hg⟩ := h.mv.stored hM k y
  have hm := (h.mv.lt gm rfl)
  exact ⟨hs, h.qu.kept hg (own_ne_kind h.qu h.mv (by decide)), h.bel.setCell hm.1 _, by simpa using h.le⟩
theorem TF.push {z : ByteArray} (h : TF B w0 w N gm q Q M) (hq : OwnT w' B q' (Q ++ [z])) (hg : w.grownBy w' q.ownBlock) : TF B w0 w' N gm q' (Q ++ [z]) M :=
  ⟨h.mv.kept hg (own_ne_kind h.mv h.qu (by decide)), hq, h.bel.grown hg h.le fun k e => (h.qu.lt k e).1, Nat.le_trans h.le hg.size⟩
theorem TG.below (h : TG B w0 w N gm q Q M v Bv ms) (hb : Below w.heap.size w w') : TG B w0 w' N gm q Q M v Bv ms := ⟨h.tf.below hb, h.sl.below hb, h.hm⟩
theorem TG.store (h : TG B w0 w N gm q Q M v Bv ms) (hM : M.length = N) (k : Nat) (y : Int) : TG B w0 (w.setCell ⟨gm, k, none⟩ (.int .i64 y)) N gm q Q (M.set k y) v Bv ms :=
  ⟨h.tf.store hM k y, h.sl.grown (grown_set w gm k _) h.hm, h.hm⟩
theorem TG.push {z : ByteArray} (h : TG B w0 w N gm q Q M v Bv ms) (hq : OwnT w' B q' (Q ++ [z])) (hg : w.grownBy w' q.ownBlock) : TG B w0 w' N gm q' (Q ++ [z]) M v Bv ms :=
  ⟨h.tf.push hq hg, h.sl.kept hg (own_ne_kind h.sl h.tf.qu (by decide)), h.hm⟩
end
theorem keep5 {W a b : World} {x g3 g4 g5 o3 o4 o5 : Nat} {pv bv v3 v4 v5 : Value} (hb : Below a.heap.size a b)
    (h : (a.cell? ⟨x, 0, none⟩ = some pv ∧ a.cell? ⟨x, 1, none⟩ = some bv ∧ a.cell? ⟨g3, o3, none⟩ = some v3 ∧ a.cell? ⟨g4, o4, none⟩ = some v4 ∧ a.cell? ⟨g5, o5, none⟩ = some v5) ∧ (x < a.heap.size ∧ g3 < a.heap.size ∧ g4 < a.heap.size ∧ g5 < a.heap.size) ∧ Below W.heap.size W a) :
    (b.cell? ⟨x, 0, none⟩ = some pv ∧ b.cell? ⟨x, 1, none⟩ = some bv ∧ b.cell? ⟨g3, o3, none⟩ = some v3 ∧ b.cell? ⟨g4, o4, none⟩ = some v4 ∧ b.cell? ⟨g5, o5, none⟩ = some v5) ∧ (x < b.heap.size ∧ g3 < b.heap.size ∧ g4 < b.heap.size ∧ g5 < b.heap.size) ∧ Below W.heap.size W b := by
  obtain ⟨⟨h1, h2, h3, h4, h5⟩, ⟨l1, l2, l3, l4⟩, hB⟩ := h
  have hz := hb.size
  exact ⟨⟨by rw [hb.cell (p := ⟨x, 0, none⟩) l1]; exact h1, by rw [hb.cell (p := ⟨x, 1, none⟩) l1]; exact h2, by rw [hb.cell (p := ⟨g3, o3, none⟩) l2]; exact h3, by rw [hb.cell (p := ⟨g4, o4, none⟩) l3]; exact h4, by rw [hb.cell (p := ⟨g5, o5, none⟩) l4]; exact h5⟩, ⟨by omega, by omega, by omega, by omega⟩, bt1 hB hb⟩
theorem keep5B {W a : World} {x g3 g4 g5 o3 o4 o5 : Nat} {pv bv v3 v4 v5 : Value}
    (h : (a.cell? ⟨x, 0, none⟩ = some pv ∧ a.cell? ⟨x, 1, none⟩ = some bv ∧ a.cell? ⟨g3, o3, none⟩ = some v3 ∧ a.cell? ⟨g4, o4, none⟩ = some v4 ∧ a.cell? ⟨g5, o5, none⟩ = some v5) ∧ (x < a.heap.size ∧ g3 < a.heap.size ∧ g4 < a.heap.size ∧ g5 < a.heap.size) ∧ Below W.heap.size W a) : Below W.heap.size W a := h.2.2
set_option maxRecDepth 100000 in
set_option maxHeartbeats 4000000 in
theorem boFar_any (M : Nat) (v : Value) (ps : List Nat) (bs : List Blk) (d : List Nat) (w : World) (hG : GB ps bs) (h : Bo w v (ints ps) bs) (hdU : d ∈ allU ps bs) (hM1 : 1 ≤ M) :
    Calls Try.prog 42 #[v, .string (tS d)] w fun e w' => ∃ gm u, e = .returned (.tuple #[.slice (some ⟨gm, 0, none⟩) (pr ps ps.length) (pr ps ps.length), u]) ∧
      OwnI w' w.heap.size (.slice (some ⟨gm, 0, none⟩) (pr ps ps.length) (pr ps ps.length)) (mS ps (fin M (nbS ps bs) (allU ps bs) d).far) ∧ OwnT w' w.heap.size u ((fin M (nbS ps bs) (allU ps bs) d).q.map tS) ∧ Below w.heap.size w w' := by
  have h0 := Lib.hid h
  obtain ⟨pv, bv, rfl, -, -⟩ := h
  have hd := Lib.hid ((mem_U hG).1 hdU).1
  have hCnt := Lib.hid (fun w' hb => boCount_good _ ps bs bs w' hG (h0.out.below hb))
  have hNum := Lib.hid (fun w' hb t ht => boNumber_any _ ps bs t w' hG (h0.out.below hb) ht)
  have hSlv := Lib.hid (fun w' hb t ht => boSlides_any _ ps bs t w' hG (h0.out.below hb) ht)
  have hPut := Lib.hid (fun w' hb t b up ht hb' => boPut_at _ ps bs t b up w' hG (h0.out.below hb) ht hb')
  have hN9 := hG.n
  have hNp := pr_pos hG ps.length
  have hnd := nm_st hd.out
  have hone := Lib.hid (mS_one hG hd.out)
  have hsetS := Lib.hid (fun t ht f g D h ho => mS_set (t := t) hG ht f g D h ho)
  have hgetS := Lib.hid (fun t (ht : isSt ps t) f h => mS_get (t := t) ht f h)
  have hlenS := Lib.hid (fun f => mS_len ps f)
  have hltS := Lib.hid (fun t (ht : isSt ps t) => nm_st (t := t) ht)
  obtain ⟨N, hN⟩ : ∃ N, pr ps ps.length = N := ⟨_, rfl⟩
  rw [hN] at hCnt hN9 hNp hnd hone hlenS hltS ⊢
  replace hN := Lib.hid hN
  have hmk := run_make_row' (P := Try.prog) 22 3 (.int .i64 0) 8 Try.underlying22 intInfo rfl .i64 .i64 N (by omega) (by omega)
  obtain ⟨w2, hw2⟩ : ∃ w2, Hid (w2 = w.alloc (.cells #[pv, bv] 31)) := ⟨_, Lib.hid rfl⟩
  have hb2 : Hid (Below w.heap.size w w2) := Lib.hid (by rw [hw2.out]; exact ba1 w _)
  have F := Lib.hid (show w2.heap[w.heap.size]? = some (.cells #[pv, bv] 31) by rw [hw2.out]; exact hb_new _ _)
  have hl2 : w.heap.size < w2.heap.size := hb_lt F.out
  have f0 : w2.cell? ⟨w.heap.size, 0, none⟩ = some pv := hb_cell F.out 0
  have f1 : w2.cell? ⟨w.heap.size, 1, none⟩ = some bv := hb_cell F.out 1
  go_enter Try.func42, Try.ntmps42
  go_upto_region 1 with fail
  rw [← hw2.out]
  go_wp2_with fail
  refine (hCnt.out w2 hb2.out).mono ?_; rintro e w3 ⟨rfl, hb3⟩
  have F3 := Lib.hid (hb_below hb3 (hb_lt F.out) F.out)
  have hl3 : w.heap.size < w3.heap.size := hb_lt F3.out
  replace hb3 := Lib.hid (bt1 hb2.out hb3)
  clear f0 f1
  obtain ⟨w4, hw4⟩ : ∃ w4, Hid (w4 = w3.alloc (.cells (madeCells #[.int .i64 0] N) 3)) := ⟨_, Lib.hid rfl⟩
  have hb4 := Lib.hid (show Below w3.heap.size w3 w4 by rw [hw4.out]; exact ba1 w3 _)
  have hT0 := Lib.hid (show TF w3.heap.size w3 w4 N w3.heap.size (.slice none 0 0) [] (List.replicate N 0) by
    rw [hw4.out]; exact ⟨own_mk (hb_new _ _) (Nat.le_refl _) (by omega), OwnT.nil _ _, ba1 w3 _, by simp⟩)
  go_wp2_with fail
  rw [← hw4.out]
  obtain ⟨gm, hgm⟩ : ∃ gm, gm = w3.heap.size := ⟨_, rfl⟩
  rw [← hgm] at hT0 ⊢
  have hgm9 : w.heap.size < gm := by omega
  replace hgm := Lib.hid hgm
  go_loopw [7, 21] (fun _ i wr => ∃ k : Nat, k ≤ N ∧ i = .int .i64 k ∧ Hid (TF gm w3 wr N gm (.slice none 0 0) [] (List.replicate k (-1) ++ List.replicate (N - k) 0))) (fun _ i _ => N - (intOf i).toNat)
  case atStart => exact ⟨0, Nat.zero_le _, rfl, Lib.hid (by simpa using hT0.out)⟩
  case round =>
    obtain ⟨k, hk, rfl, hS⟩ := hrel
    by_cases hltk : k < N
    · have hlk : Hid ((List.replicate k (-1 : Int) ++ List.replicate (N - k) 0).length = N) := Lib.hid (by simp; omega)
      obtain ⟨c0, cf⟩ := hS.out.mv.cell hlk.out k (by rw [hlk.out]; exact hltk)
      obtain ⟨y, hy⟩ : ∃ y, Hid (y = (List.replicate k (-1 : Int) ++ List.replicate (N - k) 0)[k]'(by rw [hlk.out]; exact hltk)) := ⟨_, Lib.hid rfl⟩
      rw [← hy.out] at c0
      go_wp2_with fail
      go_roundw
      case rel =>
        refine ⟨k + 1, by omega, by go_num, Lib.hid ?_⟩
        have h9 := hS.out.store hlk.out k (-1)
        have e : (List.replicate k (-1 : Int) ++ List.replicate (N - k) 0).set k (-1) = List.replicate (k + 1) (-1) ++ List.replicate (N - (k + 1)) 0 := by
          rw [List.set_append_right _ _ (by simp), List.length_replicate, Nat.sub_self, show N - k = (N - (k + 1)) + 1 from by omega, List.replicate_succ, List.set_cons_zero, List.replicate_succ', List.append_assoc]; rfl
        rw [e] at h9; exact h9
      all_goals (simp [intOf] <;> omega)
    · obtain rfl : N = k := by omega
      have hS1 := hS.out
      rw [Nat.sub_self, List.replicate_zero, List.append_nil] at hS1
      replace hS1 := Lib.hid hS1
      clear hS
      have Fr := Lib.hid (hb_below (show Below w3.heap.size w3 wr by rw [← hgm.out]; exact hS1.out.bel) hl3 F3.out)
      have f0 : wr.cell? ⟨w.heap.size, 0, none⟩ = some pv := hb_cell Fr.out 0
      have f1 : wr.cell? ⟨w.heap.size, 1, none⟩ = some bv := hb_cell Fr.out 1
      have hbr := Lib.hid (show Below w.heap.size w wr from bt1 hb3.out (show Below w3.heap.size w3 wr by rw [← hgm.out]; exact hS1.out.bel))
      go_wp2_with fail
      refine (hNum.out wr hbr.out d hd.out).mono ?_; rintro e w5 ⟨rfl, hb5⟩
      have hS2 := Lib.hid (hS1.out.below hb5)
      obtain ⟨c0, cf⟩ := hS2.out.mv.cell (by simp) (nm ps d ps.length) (by simpa using hnd)
      rw [List.getElem_replicate] at c0
      clear hb5 hbr Fr f0 f1
      obtain ⟨w6, hw6⟩ : ∃ w6, Hid (w6 = w5.setCell ⟨gm, nm ps d ps.length, none⟩ (.int .i64 0)) := ⟨_, Lib.hid rfl⟩
      have hS3 := hS2.out.store (by simp) (nm ps d ps.length) 0
      rw [← hw6.out, hone.out] at hS3
      obtain ⟨w7, hw7⟩ : ∃ w7, Hid (w7 = w6.alloc (.cells #[.string (tS d)] 9)) := ⟨_, Lib.hid rfl⟩
      have hS4 := hS3.below (ba1 w6 (.cells #[.string (tS d)] 9))
      have hS5 := Lib.hid (show TF gm w3 w7 N gm (.slice (some ⟨w6.heap.size, 0, none⟩) 1 1) ((run M (nbS ps bs) d 0).q.map tS) (mS ps (run M (nbS ps bs) d 0).far) by
        rw [hw7.out]; exact ⟨hS4.mv, own_litT w6 (tS d) _ hS3.le, hS4.bel, hS4.le⟩)
      clear hS3 hS4 hS1 hS2
      go_upto_region 8 with fail
      rw [← hw6.out]
      go_wp2_with fail
      rw [← hw7.out]
      clear c0 cf
      go_loopw [8, 9] (fun q i wr => ∃ k : Nat, i = .int .i64 k ∧ k ≤ (run M (nbS ps bs) d k).q.length ∧ Hid (TF gm w3 wr N gm q ((run M (nbS ps bs) d k).q.map tS) (mS ps (run M (nbS ps bs) d k).far))) (fun _ i _ => 1001 - (intOf i).toNat)
      case atStart => exact ⟨0, rfl, Nat.zero_le _, hS5⟩
      case round =>
        obtain ⟨k, rfl, hkq, hS⟩ := hrel
        generalize wr = wo at *
        have hQN : (run M (nbS ps bs) d k).q.length ≤ 1000 := Nat.le_trans ((univS hG).len hdU M k) (U_len hG)
        have hbo := Lib.hid (show Below w3.heap.size w3 wo by rw [← hgm.out]; exact hS.out.bel)
        have Fo := Lib.hid (hb_below hbo.out hl3 F3.out)
        have hbw := Lib.hid (bt1 hb3.out hbo.out)
        rcases hS.out.qu.form with ⟨_, e⟩ | ⟨gq, cap, hqe, hgq, hgql, hqc, _, _⟩
        · exfalso
          have h1 := (run_ok M (nbS ps bs) d k).mem d
          rw [List.map_eq_nil_iff] at e; rw [e] at h1
          have := h1.2 (by rw [(run_ok M (nbS ps bs) d k).zero]; simp)
          cases this
        rw [List.length_map] at hqe
        subst hqe
        obtain ⟨l0, hl0⟩ : ∃ l, Hid (l = (run M (nbS ps bs) d k).q.length) := ⟨_, Lib.hid rfl⟩
        rw [← hl0.out] at hkq hQN ⊢
        have hS := Lib.hid (show TF gm w3 wo N gm (.slice (some ⟨gq, 0, none⟩) l0 cap) ((run M (nbS ps bs) d k).q.map tS) (mS ps (run M (nbS ps bs) d k).far) by rw [hl0.out]; exact hS.out)
        by_cases hkl : k < l0
        · have hklq : k < (run M (nbS ps bs) d k).q.length := by rw [← hl0.out]; exact hkl
          have a0 := hqc k (by simpa using hklq)
          obtain ⟨z, hz⟩ : ∃ z, Hid (z = (run M (nbS ps bs) d k).q[k]) := ⟨_, Lib.hid rfl⟩
          have hat : Hid ((run M (nbS ps bs) d k).q[k]? = some z) := Lib.hid (by rw [hz.out]; exact List.getElem?_eq_getElem hklq)
          have hzU := Lib.hid ((univS hG).sub hdU M k z (List.mem_of_getElem? hat.out))
          have hzS := Lib.hid ((mem_U hG).1 hzU.out).1
          rw [show ((run M (nbS ps bs) d k).q.map tS)[k]'(by simpa using hklq) = tS z from by rw [hz.out]; simp] at a0
          clear hqc
          obtain ⟨D, hD⟩ : ∃ D, Hid (D = (run M (nbS ps bs) d k).dst z) := ⟨_, Lib.hid rfl⟩
          have hDf : Hid ((run M (nbS ps bs) d k).far z = some D) := Lib.hid (by rw [hD.out]; exact (run_ok M (nbS ps bs) d k).dst (List.mem_of_getElem? hat.out))
          have hDk : D ≤ k := by rw [hD.out]; exact dst_le k k z hat.out
          have hzn : nm ps z ps.length < N := hltS.out z hzS.out
          obtain ⟨c0, cf⟩ := hS.out.mv.cell (hlenS.out _) (nm ps z ps.length) (by rw [hlenS.out]; exact hzn)
          rw [hgetS.out z hzS.out, hDf.out] at c0
          have c0 : wo.cell? ⟨gm, nm ps z ps.length, none⟩ = some (.int .i64 (D : Int)) := c0
          have f0 : wo.cell? ⟨w.heap.size, 0, none⟩ = some pv := hb_cell Fo.out 0
          have f1 : wo.cell? ⟨w.heap.size, 1, none⟩ = some bv := hb_cell Fo.out 1
          have lx : w.heap.size < wo.heap.size := hb_lt Fo.out
          have lgm : gm < wo.heap.size := (hS.out.mv.lt gm rfl).2
          have hSS : (wo.cell? ⟨w.heap.size, 0, none⟩ = some pv ∧ wo.cell? ⟨w.heap.size, 1, none⟩ = some bv ∧ wo.cell? ⟨gq, k, none⟩ = some (.string (tS z)) ∧ wo.cell? ⟨gm, nm ps z ps.length, none⟩ = some (.int .i64 (D : Int)) ∧ wo.cell? ⟨gm, nm ps z ps.length, none⟩ = some (.int .i64 (D : Int))) ∧ (w.heap.size < wo.heap.size ∧ gq < wo.heap.size ∧ gm < wo.heap.size ∧ gm < wo.heap.size) ∧ Below wo.heap.size wo wo := ⟨⟨f0, f1, a0, c0, c0⟩, ⟨lx, hgql, lgm, lgm⟩, Below.refl _ _⟩
          have hNz := Lib.hid (fun W hb => hNum.out W (bt1 hbw.out hb) z hzS.out)
          generalize hnz : nm ps z ps.length = nz at *
          generalize hsz : tS z = sz at *
          go_wp2_with fail
          go_region_held3 (fun v => (v.cell? ⟨w.heap.size, 0, none⟩ = some pv ∧ v.cell? ⟨w.heap.size, 1, none⟩ = some bv ∧ v.cell? ⟨gq, k, none⟩ = some (.string sz) ∧ v.cell? ⟨gm, nz, none⟩ = some (.int .i64 (D : Int)) ∧ v.cell? ⟨gm, nz, none⟩ = some (.int .i64 (D : Int))) ∧ (w.heap.size < v.heap.size ∧ gq < v.heap.size ∧ gm < v.heap.size ∧ gm < v.heap.size) ∧ Below wo.heap.size wo v) ((first | assumption | (refine ⟨⟨?_, ?_, ?_, ?_, ?_⟩, ⟨?_, ?_, ?_, ?_⟩, ?_⟩ <;> first | assumption | go_keep | omega | exact (Below.refl _ _).drew)))
            (first | (go_at_call 43; refine (hNz.out _ ?_).mono ?_; (exact keep5B (by assumption)); rintro e w' ⟨rfl, hb9⟩; have hbn := keep5 hb9 (by assumption)))
          have hSz := Lib.hid (fun W hb => hSlv.out W (bt1 hbw.out hb) z hzS.out)
          rw [hsz] at hSz
          obtain ⟨⟨f0b, f1b, a0b, c0b, -⟩, ⟨lxb, lqb, lgb, -⟩, hb10⟩ := id hbn
          clear hSS f0 f1 a0 c0
          go_wp2_with fail
          go_region_held3 (fun v => (v.cell? ⟨w.heap.size, 0, none⟩ = some pv ∧ v.cell? ⟨w.heap.size, 1, none⟩ = some bv ∧ v.cell? ⟨gq, k, none⟩ = some (.string sz) ∧ v.cell? ⟨gm, nz, none⟩ = some (.int .i64 (D : Int)) ∧ v.cell? ⟨gm, nz, none⟩ = some (.int .i64 (D : Int))) ∧ (w.heap.size < v.heap.size ∧ gq < v.heap.size ∧ gm < v.heap.size ∧ gm < v.heap.size) ∧ Below wo.heap.size wo v) ((first | assumption | (refine ⟨⟨?_, ?_, ?_, ?_, ?_⟩, ⟨?_, ?_, ?_, ?_⟩, ?_⟩ <;> first | assumption | go_keep | omega | exact hb10.drew)))
            (first | (go_at_call 50; refine (hSz.out _ ?_).mono ?_; (exact keep5B (by assumption)); rintro e w' ⟨u, rfl, hu, hb11⟩; have hu2 := Lib.hid (hu.mono (C := wo.heap.size) (keep5B (W := wo) (by assumption)).size); have hbn2 := keep5 hb11 (by assumption); obtain ⟨pu, cu, hue⟩ : ∃ p c, u = .slice p ((slS ps bs z).map slV).length c := (by obtain ⟨p, c, e, h⟩ := hu2.out.rd; exact ⟨p, c, e⟩); subst hue))
          have hb12 := Lib.hid (keep5B hbn2)
          have hG0 := Lib.hid (show TG gm w3 _ N gm (.slice (some ⟨gq, 0, none⟩) l0 cap) ((run M (nbS ps bs) d k).q.map tS) (mS ps (run M (nbS ps bs) d k).far) (.slice pu ((slS ps bs z).map slV).length cu) wo.heap.size ((slS ps bs z).map slV) from ⟨hS.out.below hb12.out, hu2.out, lgm⟩)
          have hms9 : ((slS ps bs z).map slV).length ≤ 1000 := by rw [List.length_map]; have := slK_len (ps := ps) (bs := bs) z ps.length; have := hG.l6; unfold slS; omega
          rw [List.length_map] at hG0 hms9
          obtain ⟨nu, hnu⟩ : ∃ nu, (slS ps bs z).length = nu := ⟨_, rfl⟩
          rw [hnu] at hG0 hms9 ⊢
          replace hnu := Lib.hid hnu
          clear hbn hbn2 hu hu2 hb9 hb11 f0b f1b a0b c0b lxb lqb lgb hb10 hb12
          go_wp2_with fail
          go_loopw [8, 57] (fun q i wr => ∃ j : Nat, j ≤ nu ∧ i = .int .i64 j ∧ Hid (TG gm w3 wr N gm q ((half M (nbS ps bs) d (D + 1) k z j).q.map tS) (mS ps (half M (nbS ps bs) d (D + 1) k z j).far) (.slice pu nu cu) wo.heap.size ((slS ps bs z).map slV))) (fun _ i _ => nu - (intOf i).toNat)
          case atStart => exact ⟨0, Nat.zero_le _, rfl, hG0⟩
          case round =>
            obtain ⟨j, hj, rfl, hT⟩ := hrel
            generalize wr = wi at *
            by_cases hlj : j < nu
            · have hjm : j < (slS ps bs z).length := by rw [hnu.out]; exact hlj
              have hjv : j < ((slS ps bs z).map slV).length := by rw [List.length_map]; exact hjm
              obtain ⟨gu, rfl, hgu, s0, s1⟩ := hT.out.sl.rg.sl hjv
              have hmem := List.getElem_mem hjm
              have hnbj : (nbS ps bs z)[j]? = some (mvS z (slS ps bs z)[j].1 (slS ps bs z)[j].2) := by unfold nbS; rw [List.getElem?_map, List.getElem?_eq_getElem hjm]; rfl
              rw [List.getElem_map] at s0 s1
              generalize (slS ps bs z)[j] = m at *
              obtain ⟨mb, mu⟩ := m
              obtain ⟨hmb, hcan⟩ := mem_sl.1 hmem
              dsimp only at hnbj
              replace s0 : wi.cell? ⟨gu, j * 2, none⟩ = some (.int .i64 (mb : Int)) := s0
              replace s1 : wi.cell? ⟨gu, j * 2 + 1, none⟩ = some (.int .i64 (byI mu)) := s1
              have hnxU := Lib.hid ((univS hG).cl z hzU.out _ (List.mem_of_getElem? hnbj))
              have hnxS := Lib.hid ((mem_U hG).1 hnxU.out).1
              have hstep := Lib.hid (half_succ (M := M) (n := D + 1) (k := k) (s0 := d) z j _ hnbj)
              have hbi := Lib.hid (show Below w3.heap.size w3 wi by rw [← hgm.out]; exact hT.out.tf.bel)
              have hbiw := Lib.hid (bt1 hb3.out hbi.out)
              have Fi := Lib.hid (hb_below hbi.out hl3 F3.out)
              have hgk := (half_ext (M := M) (nb := nbS ps bs) (s0 := d) (n := D + 1) (k := k) (s := z) j).get hat.out
              have hQ2 : (half M (nbS ps bs) d (D + 1) k z j).q.length ≤ 1000 := Nat.le_trans (nodup_sub_len (half_sb (M := M) (n := D + 1) (k := k) hM1 (univS hG) hdU hzU.out j).nd (half_sb (M := M) (n := D + 1) (k := k) hM1 (univS hG) hdU hzU.out j).sub) (U_len hG)
              have hPt := Lib.hid (fun W hb => (hPut.out W hb z mb mu hzS.out hmb).mono (R' := fun e w' => e = .returned (.tuple #[.string (tS (mvS z mb mu)), .bool true]) ∧ Below W.heap.size W w') (by rintro e w' ⟨t, rfl, h1, h2⟩; rw [hcan, h1 hcan]; exact ⟨rfl, h2⟩))
              have hNx := Lib.hid (fun W hb => hNum.out W hb _ hnxS.out)
              have hnt := hltS.out _ hnxS.out
              rw [hsz] at hPt
              rcases hT.out.tf.qu.form with ⟨_, e⟩ | ⟨gq2, cap2, hqe, hgq2, hgql2, hqc, _, _⟩
              · exfalso
                rw [List.map_eq_nil_iff] at e
                rw [e] at hgk; cases hgk
              rw [List.length_map] at hqe
              subst hqe
              obtain ⟨hkl2, hke⟩ := List.getElem?_eq_some_iff.1 hgk
              have a0 := hqc k (by simpa using hkl2)
              rw [show ((half M (nbS ps bs) d (D + 1) k z j).q.map tS)[k]'(by simpa using hkl2) = sz from by rw [← hsz]; simp [hke]] at a0
              obtain ⟨lq, hlq⟩ : ∃ l, Hid (l = (half M (nbS ps bs) d (D + 1) k z j).q.length) := ⟨_, Lib.hid rfl⟩
              replace hT := Lib.hid (show TG gm w3 wi N gm (.slice (some ⟨gq2, 0, none⟩) lq cap2) ((half M (nbS ps bs) d (D + 1) k z j).q.map tS) (mS ps (half M (nbS ps bs) d (D + 1) k z j).far) (.slice (some ⟨gu, 0, none⟩) nu cu) wo.heap.size ((slS ps bs z).map slV) by rw [hlq.out]; exact hT.out)
              rw [← hlq.out] at hkl2 hQ2 ⊢
              obtain ⟨w8, hw8⟩ : ∃ w8, Hid (w8 = wi.alloc (.cells #[.int .i64 (mb : Int), .int .i64 (byI mu)] 79)) := ⟨_, Lib.hid rfl⟩
              have hb8 := Lib.hid (show Below wi.heap.size wi w8 by rw [hw8.out]; exact ba1 wi _)
              have M8 := Lib.hid (show w8.heap[wi.heap.size]? = some (.cells #[.int .i64 (mb : Int), .int .i64 (byI mu)] 79) by rw [hw8.out]; exact hb_new _ _)
              have F8 := Lib.hid (hb_below hb8.out (hb_lt Fi.out) Fi.out)
              have hT8 := Lib.hid (hT.out.below hb8.out)
              have hbw8 := Lib.hid (bt2 hbiw.out hb8.out hbiw.out.size)
              have f0 : w8.cell? ⟨w.heap.size, 0, none⟩ = some pv := hb_cell F8.out 0
              have f1 : w8.cell? ⟨w.heap.size, 1, none⟩ = some bv := hb_cell F8.out 1
              have m0 : w8.cell? ⟨wi.heap.size, 0, none⟩ = some (.int .i64 (mb : Int)) := hb_cell M8.out 0
              have m1 : w8.cell? ⟨wi.heap.size, 1, none⟩ = some (.int .i64 (byI mu)) := hb_cell M8.out 1
              have a8 : w8.cell? ⟨gq2, k, none⟩ = some (.string sz) := by rw [hb8.out.cell (p := ⟨gq2, k, none⟩) hgql2]; exact a0
              have l1 := hb_lt F8.out
              have l2 := hb_lt M8.out
              have l3 : gq2 < w8.heap.size := Nat.lt_of_lt_of_le hgql2 hb8.out.size
              have hSS : (w8.cell? ⟨w.heap.size, 0, none⟩ = some pv ∧ w8.cell? ⟨w.heap.size, 1, none⟩ = some bv ∧ w8.cell? ⟨gq2, k, none⟩ = some (.string sz) ∧ w8.cell? ⟨wi.heap.size, 0, none⟩ = some (.int .i64 (mb : Int)) ∧ w8.cell? ⟨wi.heap.size, 1, none⟩ = some (.int .i64 (byI mu))) ∧ (w.heap.size < w8.heap.size ∧ gq2 < w8.heap.size ∧ wi.heap.size < w8.heap.size ∧ wi.heap.size < w8.heap.size) ∧ Below w8.heap.size w8 w8 := ⟨⟨f0, f1, a8, m0, m1⟩, ⟨l1, l3, l2, l2⟩, Below.refl _ _⟩
              have hPt8 := Lib.hid (fun W hb => hPt.out W (bt1 hbw8.out hb))
              have hNx8 := Lib.hid (fun W hb => hNx.out W (bt1 hbw8.out hb))
              clear hqc a0 hgk hke hnbj hmem hPt hNx
              generalize mvS z mb mu = nx at *
              go_upto_region 16 with fail
              rw [← hw8.out]
              go_region_held3 (fun v => (v.cell? ⟨w.heap.size, 0, none⟩ = some pv ∧ v.cell? ⟨w.heap.size, 1, none⟩ = some bv ∧ v.cell? ⟨gq2, k, none⟩ = some (.string sz) ∧ v.cell? ⟨wi.heap.size, 0, none⟩ = some (.int .i64 (mb : Int)) ∧ v.cell? ⟨wi.heap.size, 1, none⟩ = some (.int .i64 (byI mu))) ∧ (w.heap.size < v.heap.size ∧ gq2 < v.heap.size ∧ wi.heap.size < v.heap.size ∧ wi.heap.size < v.heap.size) ∧ Below w8.heap.size w8 v) ((first | assumption | (refine ⟨⟨?_, ?_, ?_, ?_, ?_⟩, ⟨?_, ?_, ?_, ?_⟩, ?_⟩ <;> first | assumption | go_keep | omega | exact (Below.refl _ _).drew)))
                (first | (go_at_call 51; refine (hPt8.out _ ?_).mono ?_; (exact keep5B (by assumption)); rintro e w' ⟨rfl, hb9⟩; have hbn := keep5 hb9 (by assumption)))
              obtain ⟨⟨g0, g1, -, -, -⟩, -, hb10⟩ := id hbn
              clear f0 f1 m0 m1 a8 hSS hb9
              replace hb10 := Lib.hid hb10
              replace hbn := Lib.hid hbn
              go_wp2_with fail
              refine (hNx8.out _ hb10.out).mono ?_; rintro e w10 ⟨rfl, hb11⟩
              have hT10 := Lib.hid ((hT8.out.below hb10.out).below hb11)
              clear g0 g1 hb11
              have hlz := hlenS.out (half M (nbS ps bs) d (D + 1) k z j).far
              obtain ⟨c0, cf⟩ := hT10.out.tf.mv.cell hlz (nm ps nx ps.length) (by rw [hlz]; exact hnt)
              rw [hgetS.out nx hnxS.out] at c0
              have hset := Lib.hid (fun g D' h ho => hsetS.out nx hnxS.out (half M (nbS ps bs) d (D + 1) k z j).far g D' h ho)
              have hD9 : D ≤ 1000 := by omega
              generalize hntv : nm ps nx ps.length = nt at *
              cases hf : (half M (nbS ps bs) d (D + 1) k z j).far nx with
              | some E =>
                rw [hf] at c0
                have c0 : w10.cell? ⟨gm, nt, none⟩ = some (.int .i64 (E : Int)) := c0
                have hE0 : decide ((E : Int) < 0) = false := by rw [decide_eq_false]; omega
                have hq : (half M (nbS ps bs) d (D + 1) k z (j + 1)).q = (half M (nbS ps bs) d (D + 1) k z j).q := by rw [hstep.out]; exact add_some hf
                have hfar : (half M (nbS ps bs) d (D + 1) k z (j + 1)).far = (half M (nbS ps bs) d (D + 1) k z j).far := by
                  rw [hstep.out]
                  rcases Sr.add_q (M := M) (n := D + 1) (w := (half M (nbS ps bs) d (D + 1) k z j).way z) (st := half M (nbS ps bs) d (D + 1) k z j) (t := nx) with ⟨h1, -⟩ | ⟨m, -, -, h2⟩
                  · rw [hf] at h1; cases h1
                  · exact h2
                rw [← hq, ← hfar] at hT10
                clear hq hfar hf
                go_wp2_with fail
                go_roundw
                case rel => exact ⟨j + 1, by omega, by go_num, hT10⟩
                all_goals (simp [intOf] <;> omega)
              | none =>
                rw [hf] at c0
                have c0 : w10.cell? ⟨gm, nt, none⟩ = some (.int .i64 (-1)) := c0
                have hq : Hid ((half M (nbS ps bs) d (D + 1) k z (j + 1)).q.map tS = (half M (nbS ps bs) d (D + 1) k z j).q.map tS ++ [tS nx]) := Lib.hid (by rw [hstep.out, add_none hf]; simp)
                have hfar : Hid ((mS ps (half M (nbS ps bs) d (D + 1) k z j).far).set nt ((D : Int) + 1) = mS ps (half M (nbS ps bs) d (D + 1) k z (j + 1)).far) := Lib.hid (by
                  have h1 := hset.out (half M (nbS ps bs) d (D + 1) k z (j + 1)).far (D + 1) (by rw [hstep.out]; unfold Sr.add; rw [hf]; simp) (fun u hu => by rw [hstep.out]; unfold Sr.add; rw [hf]; simp [hu])
                  rw [← h1]; congr 1)
                clear hf
                obtain ⟨w11, hw11⟩ : ∃ w11, Hid (w11 = w10.setCell ⟨gm, nt, none⟩ (.int .i64 ((D : Int) + 1))) := ⟨_, Lib.hid rfl⟩
                have hT11 := hT10.out.store hlz nt ((D : Int) + 1)
                rw [← hw11.out, hfar.out] at hT11
                replace hT11 := Lib.hid hT11
                go_upto_region 20 with fail
                rw [← hw11.out]
                clear c0 cf
                go_wp2_with (at_builtin; refine app_txt _ rfl _ _ rfl gm _ _ rfl ((hT11.out.below (ba1 w11 (.cells #[.string (tS nx)] 9))).tf.qu) w11.heap.size (tS nx) rfl (by simp) (by have := hlq.out; rw [List.length_map]; omega) (Nat.le_trans hT11.out.tf.le (by simp)) ?_; intro v' w12 ho12 hg12; have hT12 := (hT11.out.below (ba1 w11 (.cells #[.string (tS nx)] 9))).push ho12 hg12; rw [← hq.out] at hT12; clear ho12 hg12; have hT12 := Lib.hid hT12)
                go_roundw
                case rel => exact ⟨j + 1, by omega, by go_num, hT12⟩
                all_goals (simp [intOf] <;> omega)
            · have hje : nu ≤ j := by omega
              have hall : half M (nbS ps bs) d (D + 1) k z j = run M (nbS ps bs) d (k + 1) := half_all hat.out (by rw [hD.out]) j (by have := hnu.out; unfold nbS; rw [List.length_map]; omega)
              rw [hall] at hT
              clear hall
              replace hje := Lib.hid hje
              have hlen1 := (ext_step M (nbS ps bs) d k).q.length_le
              have hkq1 : k + 1 ≤ (run M (nbS ps bs) d (k + 1)).q.length := by have := hl0.out; omega
              replace hkq1 := Lib.hid hkq1
              go_wp2_with fail
              go_roundw
              case rel => exact ⟨k + 1, by go_num, hkq1.out, Lib.hid hT.out.tf⟩
              all_goals (simp [intOf] <;> omega)
        · have hend : (run M (nbS ps bs) d k).q[k]? = none := List.getElem?_eq_none (by have := hl0.out; omega)
          have hfin := (univS hG).fin_at hdU hend
          rw [hfin] at hS
          replace hfin := Lib.hid hfin
          replace hend := Lib.hid hend
          go_wp2_with fail
          go_ret2
          exact ⟨gm, _, rfl, hS.out.mv.mono (C := w.heap.size) (Nat.le_of_lt hgm9), hS.out.qu.mono (C := w.heap.size) (Nat.le_of_lt hgm9), hbw.out⟩
end Go.Proofs.Ytcfeaaakfjilgaa
