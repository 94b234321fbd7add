/- Needless blocks, by the program. -/
import Derived.Test.YtjbfophbdmakjabY3
namespace Go.Proofs.Ytjbfophbdmakjab
open Go Go.RowKit RM
def boolE : Elt Bool where
  e := 4
  n := 1
  bytes := 1
  z := .bool false
  d := false
  cells b := [.bool b]
  len _ := rfl
  one x u hu := by simp at hu; rcases hu with rfl; rfl
  pos := by decide
  zs := rfl
  info := by kernel_rfl
  small := by decide
theorem OwnG.bat {w : World} {B g n cap : Nat} {xs : List Bool} (h : OwnG boolE w B (.slice (some ⟨g, 0, none⟩) n cap) xs) (hn : n = xs.length) (k : Nat) (hk : k < xs.length) : w.cell? ⟨g, k, none⟩ = some (.bool xs[k]) := by
  have := h.cells hn k hk 0 (by decide)
  simpa [boolE] using this
theorem OwnG.bst {w : World} {B g n cap : Nat} {xs : List Bool} (h : OwnG boolE w B (.slice (some ⟨g, 0, none⟩) n cap) xs) (hn : n = xs.length) (k : Nat) (hk : k < xs.length) (b : Bool) :
    OwnG boolE (w.setCell ⟨g, k, none⟩ (.bool b)) B (.slice (some ⟨g, 0, none⟩) n cap) (xs.set k b) ∧ w.grownBy (w.setCell ⟨g, k, none⟩ (.bool b)) (some g) := by
  have := h.stored hn k hk 0 (by decide) (.bool b) b (by rfl)
  simpa [boolE] using this
/-- which blocks are needed, by the first states -/
def ndR (ps : List Nat) (bs : List Blk) (m j : Nat) : List Bool := (List.range m).map fun k => ((al ps ps.length).take j).any (lone bs k)
theorem ndR_len (ps : List Nat) (bs : List Blk) (m j : Nat) : (ndR ps bs m j).length = m := by simp [ndR]
theorem ndR_zero (ps : List Nat) (bs : List Blk) (m : Nat) : ndR ps bs m 0 = List.replicate m false := by
  apply List.ext_getElem
  · simp [ndR]
  · intro i h1 h2; simp [ndR]
theorem ndR_all (ps : List Nat) (bs : List Blk) (m j : Nat) (hj : (al ps ps.length).length ≤ j) (k : Nat) (hk : k < (ndR ps bs m j).length) : (ndR ps bs m j)[k] = (al ps ps.length).any (lone bs k) := by
  simp only [ndR, List.getElem_map, List.getElem_range]
  rw [List.take_of_length_le hj]
theorem agK_mem (bs : List Blk) (d : List Nat) (n : Nat) (x : Int) (h : x ∈ agK bs d n) : ∃ k : Nat, k < n ∧ x = (k : Int) := by
  induction n with
  | zero => simp [agK] at h
  | succ n ih =>
    rw [agK] at h
    rcases List.mem_append.1 h with h | h
    · obtain ⟨k, h1, h2⟩ := ih h; exact ⟨k, by omega, h2⟩
    · split at h
      · split at h
        · exact ⟨n, by omega, by simpa using h⟩
        · simp at h
      · simp at h
theorem ndR_step (ps : List Nat) (bs : List Blk) (m j : Nat) (hj : j < (al ps ps.length).length) : ndR ps bs m (j + 1) = (List.range m).map fun k => (((al ps ps.length).take j).any (lone bs k) || lone bs k (al ps ps.length)[j]) := by
  unfold ndR
  apply List.map_congr_left
  intro k _
  rw [List.take_succ_eq_append_getElem hj, List.any_append]; simp
theorem ndR_none (ps : List Nat) (bs : List Blk) (m j : Nat) (hj : j < (al ps ps.length).length) (h : (agn bs (al ps ps.length)[j]).length ≠ 1) : ndR ps bs m (j + 1) = ndR ps bs m j := by
  rw [ndR_step ps bs m j hj]
  unfold ndR
  apply List.map_congr_left
  intro k _
  have : lone bs k (al ps ps.length)[j] = false := by
    unfold lone
    rw [beq_eq_false_iff_ne]
    intro e; rw [e] at h; exact h rfl
  rw [this, Bool.or_false]
theorem ndR_one (ps : List Nat) (bs : List Blk) (m j k : Nat) (hj : j < (al ps ps.length).length) (hk : k < m) (h : agn bs (al ps ps.length)[j] = [(k : Int)]) : ndR ps bs m (j + 1) = (ndR ps bs m j).set k true := by
  rw [ndR_step ps bs m j hj]
  apply List.ext_getElem
  · simp [ndR]
  · intro i h1 h2
    rw [List.getElem_set]
    simp only [ndR, List.getElem_map, List.getElem_range]
    unfold lone
    rw [h]
    by_cases e : k = i
    · subst e; simp
    · rw [if_neg e]
      have : ([(k : Int)] == [(i : Int)]) = false := by simp; omega
      rw [this, Bool.or_false]
theorem ag_one (bs : List Blk) (d : List Nat) (h : (agn bs d).length = 1) : ∃ k : Nat, k < bs.length ∧ agn bs d = [(k : Int)] := by
  obtain ⟨x, hx⟩ := List.length_eq_one_iff.1 h
  obtain ⟨k, hk, rfl⟩ := agK_mem bs d bs.length x (by show x ∈ agn bs d; rw [hx]; simp)
  exact ⟨k, hk, hx⟩
theorem iNB_bad (v : Value) (psI : List Int) (bs : List Blk) (w : World) (h : Bo w v psI bs) (hg : goodBo psI bs = false) :
    Calls Try.prog 23 #[v] w fun e w' => RetI w [] false e w' := by
  have h0 := Lib.hid h
  obtain ⟨pv, bv, rfl, -, -⟩ := h
  obtain ⟨w2, hw2⟩ : ∃ w2, Hid (w2 = w.alloc (.cells #[pv, bv] 31)) := ⟨_, Lib.hid rfl⟩
  have hb2 : Hid (Below w.heap.size w w2) := Lib.hid (by rw [hw2.out]; exact ba1 w _)
  have F := Lib.hid (show w2.heap[w.heap.size]? = some (.cells #[pv, bv] 31) by rw [hw2.out]; exact hb_new _ _)
  have hA := Lib.hid (AreBolts_any _ psI bs w2 (h0.out.below hb2.out))
  rw [hg] at hA
  have f0 : w2.cell? ⟨w.heap.size, 0, none⟩ = some pv := hb_cell F.out 0
  have f1 : w2.cell? ⟨w.heap.size, 1, none⟩ = some bv := hb_cell F.out 1
  go_enter Try.func23, Try.ntmps23
  go_wp2_with fail
  rw [← hw2.out]
  go_wp2_with fail
  refine hA.out.mono ?_; rintro e w3 ⟨rfl, hb3⟩
  replace hb3 := Lib.hid (bt1 hb2.out hb3)
  go_wp2_with fail
  go_ret2; exact ⟨_, rfl, OwnI.nil _ _, hb3.out⟩
set_option maxHeartbeats 1000000 in
theorem iNB_yes (v : Value) (ps : List Nat) (bs : List Blk) (w : World) (hG : GB ps bs) (h : Bo w v (ints ps) bs) (hg : goodBo (ints ps) bs = true) :
    Calls Try.prog 23 #[v] w fun e w' => RetI w (nlK ps bs bs.length) true e w' := by
  have h0 := Lib.hid h
  obtain ⟨pv, bv, rfl, -, p, c, rfl, -, -⟩ := h
  obtain ⟨m, hmm⟩ : ∃ m, bs.length = m := ⟨_, rfl⟩
  rw [hmm] at h0 ⊢
  obtain ⟨w2, hw2⟩ : ∃ w2, Hid (w2 = w.alloc (.cells #[pv, .slice p m c] 31)) := ⟨_, Lib.hid rfl⟩
  have hb2 : Hid (Below w.heap.size w w2) := Lib.hid (by rw [hw2.out]; exact ba1 w _)
  have F := Lib.hid (show w2.heap[w.heap.size]? = some (.cells #[pv, .slice p m c] 31) by rw [hw2.out]; exact hb_new _ _)
  have hA := Lib.hid (AreBolts_any _ (ints ps) bs w2 (h0.out.below hb2.out))
  rw [hg] at hA
  have f0 : w2.cell? ⟨w.heap.size, 0, none⟩ = some pv := hb_cell F.out 0
  have f1 : w2.cell? ⟨w.heap.size, 1, none⟩ = some (.slice p m c) := hb_cell F.out 1
  have hT := Lib.hid (fun w' hb => allPlaces_any _ ps bs bs w' hG (h0.out.below hb))
  have hB := Lib.hid (fun w' d hb => blocksA_any _ ps bs d w' hG (h0.out.below hb))
  have hm := hG.b
  have hz := Lib.hid (ndR_zero ps bs m)
  have hal := Lib.hid (ndR_all ps bs m)
  have hno := Lib.hid (ndR_none ps bs m)
  have hon := Lib.hid (ndR_one ps bs m)
  have hln := Lib.hid (ndR_len ps bs m)
  have hag := Lib.hid (ag_one bs)
  rw [hmm] at hm hag
  have hall := al_len hG ps.length
  have hYtjbfophbdmakjab := hG.n
  rw [← hall] at hYtjbfophbdmakjab
  have hml := Lib.hid (fun k hk => al_mem_len hG ps.length k hk)
  have h6 := hG.l6
  clear hall hG hmm hg
  have hnn := Lib.hid (nlK_no ps bs)
  have hny := Lib.hid (nlK_yes ps bs)
  have hnl := Lib.hid (nlK_len ps bs)
  obtain ⟨AL, hAL⟩ : ∃ AL, al ps ps.length = AL := ⟨_, rfl⟩
  rw [hAL] at hYtjbfophbdmakjab hT hal hno hon hnn hny hml
  replace hAL := Lib.hid hAL
  obtain ⟨N, hN⟩ : ∃ N, AL.length = N := ⟨_, rfl⟩
  rw [hN] at hYtjbfophbdmakjab
  replace hN := Lib.hid hN
  go_enter Try.func23, Try.ntmps23
  go_wp2_with fail
  rw [← hw2.out]
  go_wp2_with fail
  refine hA.out.mono ?_; rintro e w3 ⟨rfl, hb3⟩
  have F3 := Lib.hid (hb_below hb3 (hb_lt F.out) F.out)
  replace hb3 := Lib.hid (bt1 hb2.out hb3)
  clear f0 f1
  have f1 : w3.cell? ⟨w.heap.size, 1, none⟩ = some (.slice p m c) := hb_cell F3.out 1
  go_wp2_with (at_make; refine make_G boolE _ rfl _ _ 78 rfl Try.underlying78 _ _ m rfl rfl (by omega) ?_; intro w4 hown4 hb4; have F4 := Lib.hid (hb_below hb4 (hb_lt F3.out) F3.out); have g0 : w4.cell? ⟨w.heap.size, 0, none⟩ = some pv := hb_cell F4.out 0; have g1 : w4.cell? ⟨w.heap.size, 1, none⟩ = some (.slice p m c) := hb_cell F4.out 1; replace hown4 := Lib.hid hown4; replace hb4 := Lib.hid hb4)
  have hl34 : w3.heap.size < w4.heap.size := (hown4.out.lt _ rfl).2
  refine (hT.out w4 (bt1 hb3.out hb4.out)).mono ?_; rintro e w5 ⟨u, rfl, ho5, hb5⟩
  obtain ⟨q, cq, rfl⟩ : ∃ p c, u = .slice p N c := by
    obtain ⟨p, c, e, _⟩ := ho5.rd
    exact ⟨p, c, by rw [e, hN.out]⟩
  have hown5 := Lib.hid (hown4.out.below hb5)
  have hl45 := hb5.size
  have hb35 := Lib.hid (bt1 hb4.out hb5)
  replace ho5 := Lib.hid ho5
  clear hb5 f1 g0 g1
  go_wp2_with fail
  go_loopw [20] (fun i wr => ∃ j : Nat, j ≤ N ∧ i = .int .i64 j ∧ Hid (OwnG boolE wr w3.heap.size (.slice (some ⟨w3.heap.size, 0, none⟩) m m) (ndR ps bs m j)) ∧ Hid (OwnG plcE wr w4.heap.size (.slice q N cq) AL) ∧ Hid (Below w3.heap.size w3 wr)) (fun i _ => N - (intOf i).toNat)
  case atStart => exact ⟨0, Nat.zero_le _, rfl, Lib.hid (by rw [hz.out]; exact hown5.out), ho5, hb35⟩
  case round =>
    obtain ⟨j, hj, rfl, hnd, hpl, hbr⟩ := hrel
    obtain ⟨wA, rfl⟩ : ∃ x, x = wr := ⟨_, rfl⟩
    have Fr := Lib.hid (hb_below hbr.out (hb_lt F3.out) F3.out)
    have hbwr := Lib.hid (bt1 hb3.out hbr.out)
    by_cases hlt : j < N
    · have hjl : j < AL.length := by rw [hN.out]; exact hlt
      obtain ⟨gs, rfl, hgs, e0, e1, e2, e3, e4, e5⟩ := hpl.out.rg.plc hjl
      have hno1 := Lib.hid (hno.out j hjl)
      have hon1 := Lib.hid (fun k => hon.out j k hjl)
      generalize AL[j] = d at *
      obtain ⟨w6, hw6⟩ : ∃ w6, Hid (w6 = wA.alloc (.cells #[.int .i64 ((pl (d) 0 : Nat) : Int), .int .i64 ((pl (d) 1 : Nat) : Int), .int .i64 ((pl (d) 2 : Nat) : Int), .int .i64 ((pl (d) 3 : Nat) : Int), .int .i64 ((pl (d) 4 : Nat) : Int), .int .i64 ((pl (d) 5 : Nat) : Int)] 66)) := ⟨_, Lib.hid rfl⟩
      have hb6 := Lib.hid (show Below wA.heap.size wA w6 by rw [hw6.out]; exact ba1 wA _)
      have f0 : wA.cell? ⟨w.heap.size, 0, none⟩ = some pv := hb_cell Fr.out 0
      have f1 : wA.cell? ⟨w.heap.size, 1, none⟩ = some (.slice p m c) := hb_cell Fr.out 1
      have lw := hb_lt Fr.out
      have mw : ¬ w.heap.size = wA.heap.size := by omega
      have hB6 := Lib.hid (hB.out w6 d (bt1 hbwr.out hb6.out))
      go_wp2_with fail
      rw [← hw6.out]
      refine hB6.out.mono ?_; rintro e w7 ⟨u7, rfl, ho7, hb7⟩
      have hnd7 := Lib.hid ((hnd.out.below hb6.out).below hb7)
      have hpl7 := Lib.hid ((hpl.out.below hb6.out).below hb7)
      have hbr7 := Lib.hid (bt2 (bt2 hbr.out hb6.out hbr.out.size) hb7 (bt2 hbr.out hb6.out hbr.out.size).size)
      obtain ⟨p7, c7, rfl, -, hr7⟩ := ho7.rd
      clear hb7 f0 f1
      by_cases hl1 : (agn bs d).length = 1
      · obtain ⟨k, hk, hk2⟩ := hag.out d hl1
        have hS := Lib.hid (hon1.out k hk hk2)
        rw [hk2] at hr7 ⊢
        obtain ⟨g7, rfl, hg7, hc7⟩ := hr7.at (k := 0) (by simp)
        have hc7' : w7.cell? ⟨g7, 0, none⟩ = some (.int .i64 (k : Int)) := hc7
        have hx := hln.out j
        have hcb := hnd7.out.bat hx.symm k (by rw [hx]; exact hk)
        have hfz := hnd7.out.frozen hx.symm
        have hst := Lib.hid (hnd7.out.bst hx.symm k (by rw [hx]; exact hk) true)
        generalize (ndR ps bs m j)[k]'(by rw [hx]; exact hk) = y at hcb
        clear hl1 hk2 hr7 hc7 hx
        go_wp2_with fail
        go_roundw
        case rel => exact ⟨j + 1, by omega, by go_num, by rw [hS.out]; exact Lib.hid hst.out.1, Lib.hid (hpl7.out.grown hst.out.2 hl34), Lib.hid (hbr7.out.setCell (Nat.le_refl _) _)⟩
        all_goals (simp [intOf] <;> omega)
      · have hS := Lib.hid (hno1.out hl1)
        have hne := len_ne hl1
        clear hr7
        generalize (agn bs d).length = L at *
        clear hl1
        go_wp2_with fail
        go_roundw
        case rel => exact ⟨j + 1, by omega, by go_num, by rw [hS.out]; exact hnd7, hpl7, hbr7⟩
        all_goals (simp [intOf] <;> omega)
    · obtain rfl : j = N := by omega
      have hal2 := Lib.hid (hal.out j (by rw [hN.out]; exact Nat.le_refl _))
      have hx := Lib.hid (hln.out j)
      generalize ndR ps bs m j = X at *
      have hsA : w.heap.size ≤ wA.heap.size := hbwr.out.size
      go_wp2_with fail
      go_loopw [8, 38] (fun o i wr => ∃ k : Nat, k ≤ m ∧ i = .int .i64 k ∧ Hid (OwnI wr wA.heap.size o (nlK ps bs k)) ∧ Hid (Below wA.heap.size wA wr)) (fun _ i _ => m - (intOf i).toNat)
      case atStart => exact ⟨0, Nat.zero_le _, rfl, Lib.hid (OwnI.nil _ _), Lib.hid (Below.refl _ _)⟩
      case round =>
        obtain ⟨k, hk, rfl, ho, hbk⟩ := hrel
        obtain ⟨wB, rfl⟩ : ∃ x, x = wr := ⟨_, rfl⟩
        by_cases hkm : k < m
        · have hkx : k < X.length := by rw [hx.out]; exact hkm
          have hcb := (hnd.out.below hbk.out).bat hx.out.symm k hkx
          rw [hal2.out k hkx] at hcb
          have hlk := hnl.out k
          cases hc : AL.any (lone bs k) with
          | true =>
            rw [hc] at hcb
            have hS := Lib.hid (hnn.out k hc)
            clear hc
            go_wp2_with fail
            go_roundw
            case rel => exact ⟨k + 1, by omega, by go_num, by rw [hS.out]; exact ho, hbk⟩
            all_goals (simp [intOf] <;> omega)
          | false =>
            rw [hc] at hcb
            have hS := Lib.hid (hny.out k hc)
            clear hc
            go_wp2_with (at_builtin; refine app_int _ rfl _ _ rfl wA.heap.size _ _ rfl (ho.out.alloc _) wB.heap.size _ rfl (by simp; rfl) (by omega) (by have := hbk.out.size; simp; omega) ?_; intro v' w7 ho7 hg7; have hb7 := Lib.hid (bel_own (hbk.out.alloc hbk.out.size _) (ho.out.alloc _) hg7 (by have := hbk.out.size; simp; omega)); replace ho7 := Lib.hid ho7; clear hg7)
            go_roundw
            case rel => exact ⟨k + 1, by omega, by go_num, by rw [hS.out]; exact ho7, hb7⟩
            all_goals (simp [intOf] <;> omega)
        · obtain rfl : k = m := by omega
          have ho2 := Lib.hid (ho.out.mono hsA)
          go_wp2_with fail
          go_ret2; exact ⟨_, rfl, ho2.out, bt1 hbwr.out hbk.out⟩
theorem NeedlessBlocks_both (psI : List Int) (bs : List Blk) : ∃ (r : List Int) (ok : Bool), r.length ≤ 1000 ∧
    (∀ w v, Bo w v psI bs → Calls Try.prog 22 #[v] w fun e w' => RetI w r ok e w') ∧
    (∀ w v, Bo w v psI bs → Calls Try.prog 23 #[v] w fun e w' => RetI w r ok e w') := by
  rcases good_cases psI bs with hg | ⟨ps, rfl, hG, hg⟩
  · exact ⟨[], false, by simp, fun w v h => sNB_bad v psI bs w h hg, fun w v h => iNB_bad v psI bs w h hg⟩
  · exact ⟨nlK ps bs bs.length, true, by have := nlK_len ps bs bs.length; have := hG.b; omega, fun w v h => sNB_yes v ps bs w hG h hg, fun w v h => iNB_yes v ps bs w hG h hg⟩
end Go.Proofs.Ytjbfophbdmakjab
