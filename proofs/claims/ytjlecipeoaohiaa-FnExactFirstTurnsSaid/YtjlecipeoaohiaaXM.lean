/- All turns from a state, by the program. -/
import Derived.Test.YtjlecipeoaohiaaXL
namespace Go.Proofs.Ytjlecipeoaohiaa
open Go Go.RowKit RM
/-- a box and two states in memory -/
abbrev X3 (f g h k B : Nat) (P S : Int) (u : Value) (a b : Nat → Int) (W w : World) : Prop :=
  (w.cell? ⟨f, 0, none⟩ = some (.int .i64 P) ∧ w.cell? ⟨f, 1, none⟩ = some (.int .i64 S) ∧ w.cell? ⟨f, 2, none⟩ = some u) ∧
  (w.cell? ⟨g, 0, none⟩ = some (.int .i64 (a 0)) ∧ w.cell? ⟨g, 1, none⟩ = some (.int .i64 (a 1)) ∧ w.cell? ⟨g, 2, none⟩ = some (.int .i64 (a 2)) ∧ w.cell? ⟨g, 3, none⟩ = some (.int .i64 (a 3)) ∧ w.cell? ⟨g, 4, none⟩ = some (.int .i64 (a 4)) ∧ w.cell? ⟨g, 5, none⟩ = some (.int .i64 (a 5))) ∧
  w.cell? ⟨h, k, none⟩ = some (.int .i64 (b k)) ∧ f < w.heap.size ∧ g < w.heap.size ∧ h < w.heap.size ∧ Below B W w
theorem keepY {f g h k B : Nat} {P S : Int} {u : Value} {p q : Nat → Int} {W a b : World} (hB : B ≤ a.heap.size) (kk : Below a.heap.size a b) (hx : X3 f g h k B P S u p q W a) : X3 f g h k B P S u p q W b := by
  obtain ⟨⟨a0, a1, a2⟩, ⟨b0, b1, b2, b3, b4, b5⟩, c0, hf, hg, hh, hb⟩ := hx
  have e : ∀ g o, g < a.heap.size → b.cell? ⟨g, o, none⟩ = a.cell? ⟨g, o, none⟩ := fun g o hg => kk.cell (p := ⟨g, o, none⟩) hg
  have hs := kk.size
  exact ⟨⟨by rw [e _ _ hf]; exact a0, by rw [e _ _ hf]; exact a1, by rw [e _ _ hf]; exact a2⟩,
    ⟨by rw [e _ _ hg]; exact b0, by rw [e _ _ hg]; exact b1, by rw [e _ _ hg]; exact b2, by rw [e _ _ hg]; exact b3, by rw [e _ _ hg]; exact b4, by rw [e _ _ hg]; exact b5⟩,
    by rw [e _ _ hh]; exact c0, by omega, by omega, by omega, hb.trans (kk.mono hB)⟩
theorem keepYF {f g h k B : Nat} {P S : Int} {u : Value} {p q : Nat → Int} {W w : World} (h : X3 f g h k B P S u p q W w) : Below B W w := h.2.2.2.2.2.2
theorem keepYl {f g h k : Nat} {P S : Int} {u : Value} {p q : Nat → Int} {W w : World} (h : X3 f g h k W.heap.size P S u p q W w) : W.heap.size ≤ w.heap.size := h.2.2.2.2.2.2.size
theorem dF_on {p s : Nat} {d : List Nat} {k : Nat} (hd : stOk p s d) (hk : k < p) : updF (dF d) k (dF d k + 1) = dF (tuD d k true) := by
  have e : dF d k + 1 = ((d.getD k 0 + 1 : Nat) : Int) := by show ((d.getD k 0 : Nat) : Int) + 1 = _; omega
  rw [e, dF_set d k _ (by rw [hd.1]; exact hk)]; rfl
theorem dF_back {p s : Nat} {d : List Nat} {k : Nat} (hd : stOk p s d) (hk : k < p) (h1 : 1 ≤ d.getD k 0) : updF (dF d) k (dF d k - 1) = dF (tuD d k false) := by
  have e : dF d k - 1 = ((d.getD k 0 - 1 : Nat) : Int) := by show ((d.getD k 0 : Nat) : Int) - 1 = _; omega
  rw [e, dF_set d k _ (by rw [hd.1]; exact hk)]; rfl
set_option maxHeartbeats 4000000 in
set_option maxRecDepth 100000 in
theorem turns_any (v : Value) (p s : Nat) (rs : List ByteArray) (d : List Nat) (w : World) (hG : GX p s rs) (hd : stOk p s d) (h : RdX w v p s rs) :
    Calls Try.prog 57 #[v, bsV (dF d)] w fun e w' => ∃ u, e = .returned u ∧ OwnG tnE w' w.heap.size u ((tK s rs d (2 * p)).map (tnW d)) ∧ Below w.heap.size w w' := by
  have hRd := Lib.hid (fun w' (hb : Below w.heap.size w w') => h.below hb)
  obtain ⟨u, rfl, -⟩ := h
  have h6 := hG.p6
  have h5 := hG.s5
  have h2 := hG.s2
  have hVs := Lib.hid (fun k => stOk_getD hd (by omega) k)
  have ha := Lib.hid (show ∀ k, dF d k = ((d.getD k 0 : Nat) : Int) from fun k => rfl)
  obtain ⟨a, hda⟩ : ∃ a, Hid (a = dF d) := ⟨_, Lib.hid rfl⟩
  rw [← hda.out]
  obtain ⟨w1, hw1⟩ : ∃ w1, Hid (w1 = w.alloc (boxO p s u)) := ⟨_, Lib.hid rfl⟩
  obtain ⟨w2, hw2⟩ : ∃ w2, Hid (w2 = w1.alloc (bsO a)) := ⟨_, Lib.hid rfl⟩
  have hb1 : Hid (Below w.heap.size w w1) := Lib.hid (by rw [hw1.out]; exact ba1 w _)
  have hb2 : Hid (Below w.heap.size w w2) := Lib.hid (by rw [hw2.out]; exact hb1.out.alloc hb1.out.size _)
  have F2 := Lib.hid (show w2.heap[w.heap.size]? = some (boxO p s u) by rw [hw2.out]; exact hb_old _ (by rw [hw1.out]; exact hb_new _ _))
  have G2 := Lib.hid (show w2.heap[w.heap.size + 1]? = some (bsO a) by rw [hw2.out]; exact hb_new' _ _ _ (by rw [hw1.out]; simp))
  have l1 : w.heap.size < w2.heap.size := hb_lt F2.out
  have l2 : w.heap.size + 1 < w2.heap.size := hb_lt G2.out
  have f0 : w2.cell? ⟨w.heap.size, 0, none⟩ = some (.int .i64 p) := hb_cell F2.out 0
  go_enter Try.func57, Try.ntmps57
  go_wp2_with fail
  rw [← hw1.out, ← hw2.out]
  go_wp2_with fail
  go_loopw [5, 13] (fun o i wr => ∃ k : Nat, k ≤ p ∧ i = .int .i64 k ∧ Hid (OwnG tnE wr w2.heap.size o ((tK s rs d (2 * k)).map (tnW d))) ∧ Hid (Below w2.heap.size w2 wr)) (fun _ i _ => p - (intOf i).toNat)
  case atStart => exact ⟨0, Nat.zero_le _, rfl, Lib.hid (OwnG.nil _ _), Lib.hid (Below.refl _ _)⟩
  case round =>
    obtain ⟨k, hk, rfl, ho, hbr⟩ := hrel
    obtain ⟨wA, rfl⟩ : ∃ x, x = wr := ⟨_, rfl⟩
    by_cases hlt : k < p
    · go_wp2_with fail
      refine (turnWays_any _).mono ?_; rintro e w3 ⟨rfl, hb⟩
      replace ho := Lib.hid (ho.out.below hb)
      replace hbr := Lib.hid (bt2 hbr.out hb hbr.out.size)
      clear hb
      go_wp2_with fail
      go_loopw [5, 17] (fun o i wr => ∃ j : Nat, j ≤ 2 ∧ i = .int .i64 j ∧ Hid (OwnG tnE wr w2.heap.size o ((tK s rs d (2 * k + j)).map (tnW d))) ∧ Hid (Below w2.heap.size w2 wr)) (fun _ i _ => 2 - (intOf i).toNat)
      case atStart => exact ⟨0, Nat.zero_le _, by first | rfl | simp, ho, hbr⟩
      case round =>
        obtain ⟨j, hj, rfl, ho1, hbr1⟩ := hrel
        obtain ⟨wB, rfl⟩ : ∃ x, x = wr := ⟨_, rfl⟩
        have hsB : w2.heap.size ≤ wB.heap.size := hbr1.out.size
        by_cases hj2 : j = 2
        · subst hj2
          go_wp2_with fail
          go_roundw
          case rel => exact ⟨k + 1, by omega, by go_num, ho1, hbr1⟩
          all_goals (simp [intOf] <;> omega)
        · have F4 := Lib.hid (hb_below hbr1.out l1 F2.out)
          have G4 := Lib.hid (hb_below hbr1.out l2 G2.out)
          have hak : 0 ≤ a k ∧ a k ≤ 5 := by have e := ha.out k; have := hVs.out k; rw [← hda.out] at e; omega
          have hup : Hid (∃ up : Bool, (j = if up then 0 else 1) ∧ tK s rs d (2 * k + (j + 1)) = tK s rs d (2 * k + j) ++ (if tuB s rs d k up then [(k, up)] else [])) := Lib.hid (by
            have h01 : j = 0 ∨ j = 1 := by omega
            clear ho1 hj hj2
            rcases h01 with rfl | rfl
            · exact ⟨true, rfl, tK_on s rs d k⟩
            · exact ⟨false, rfl, tK_back s rs d k⟩)
          obtain ⟨up, hju, htk⟩ := hup.out
          replace htk := Lib.hid htk
          cases up with
          | true =>
            obtain rfl : j = 0 := hju
            have hix := ix0 wB
            obtain ⟨wC, hwC⟩ : ∃ x, Hid (x = wB.alloc (.cells #[.int .i64 1, .func (Fn.func 109) #[] #[]] 115)) := ⟨_, Lib.hid rfl⟩
            have hbC := Lib.hid (show Below w2.heap.size w2 wC by rw [hwC.out]; exact hbr1.out.alloc hsB _)
            have hoC := Lib.hid (show OwnG tnE wC w2.heap.size u5 _ by rw [hwC.out]; exact ho1.out.alloc _)
            have F5 := Lib.hid (hb_below hbC.out l1 F2.out)
            have G5 := Lib.hid (hb_below hbC.out l2 G2.out)
            have H5 := Lib.hid (show wC.heap[wB.heap.size]? = some _ by rw [hwC.out]; exact hb_new _ _)
            have q0 : wC.cell? ⟨wB.heap.size, 0, none⟩ = some (.int .i64 1) := hb_cell H5.out 0
            have q1 : wC.cell? ⟨wB.heap.size, 1, none⟩ = some (.func (Fn.func 109) #[] #[]) := hb_cell H5.out 1
            have g0 : wC.cell? ⟨w.heap.size + 1, 0, none⟩ = some (.int .i64 (a 0)) := hb_cell G5.out 0
            have g1 : wC.cell? ⟨w.heap.size + 1, 1, none⟩ = some (.int .i64 (a 1)) := hb_cell G5.out 1
            have g2 : wC.cell? ⟨w.heap.size + 1, 2, none⟩ = some (.int .i64 (a 2)) := hb_cell G5.out 2
            have g3 : wC.cell? ⟨w.heap.size + 1, 3, none⟩ = some (.int .i64 (a 3)) := hb_cell G5.out 3
            have g4 : wC.cell? ⟨w.heap.size + 1, 4, none⟩ = some (.int .i64 (a 4)) := hb_cell G5.out 4
            have g5 : wC.cell? ⟨w.heap.size + 1, 5, none⟩ = some (.int .i64 (a 5)) := hb_cell G5.out 5
            have hT := Lib.hid (fun w => turnedOn_any a k w (by omega) (by omega) (by omega))
            obtain ⟨b, hbb⟩ : ∃ b, Hid (b = updF a k (a k + 1)) := ⟨_, Lib.hid rfl⟩
            rw [← hbb.out] at hT
            go_upto_region 8 with fail
            rw [← hwC.out]
            go_wp2_with fail
            refine (hT.out _).mono ?_; rintro e wD ⟨rfl, hb⟩
            have hoD := Lib.hid (hoC.out.below hb)
            have hbD := Lib.hid (bt2 hbC.out hb hbC.out.size)
            have H6 := Lib.hid (hb_below hb (hb_lt H5.out) H5.out)
            clear hb g0 g1 g2 g3 g4 g5 q0 q1
            have hsD : w2.heap.size ≤ wD.heap.size := hbD.out.size
            obtain ⟨wE, hwE⟩ : ∃ x, Hid (x = wD.alloc (bsO b)) := ⟨_, Lib.hid rfl⟩
            have hbE := Lib.hid (show Below w2.heap.size w2 wE by rw [hwE.out]; exact hbD.out.alloc hsD _)
            have hoE := Lib.hid (show OwnG tnE wE w2.heap.size u5 _ by rw [hwE.out]; exact hoD.out.alloc _)
            have G6 := Lib.hid (hb_below hbE.out l2 G2.out)
            have H7 := Lib.hid (show wE.heap[wB.heap.size]? = some _ by rw [hwE.out]; exact hb_old _ H6.out)
            have J6 := Lib.hid (show wE.heap[wD.heap.size]? = some (bsO b) by rw [hwE.out]; exact hb_new _ _)
            have ck : wE.cell? ⟨w.heap.size + 1, k, none⟩ = some (.int .i64 (a k)) := bs_cell G6.out (by omega)
            have dk : wE.cell? ⟨wD.heap.size, k, none⟩ = some (.int .i64 (b k)) := bs_cell J6.out (by omega)
            have ik0 : (0 : Int) ≤ (k : Int) := by omega
            have ik6 : (k : Int) < 6 := by omega
            go_upto_region 9 with fail
            rw [← hwE.out]
            go_quiet (fail)
            go_wp2_with fail
            obtain ⟨wF, hwF⟩ : ∃ x, Hid (x = wE.drewN nq) := ⟨_, Lib.hid rfl⟩
            rw [← hwF.out]
            have hbF := Lib.hid (show Below w2.heap.size w2 wF by rw [hwF.out]; exact below_drewN hbE.out nq)
            have hoF := Lib.hid (show OwnG tnE wF w2.heap.size u5 _ by rw [hwF.out]; exact hoE.out.drewN nq)
            have F7 := Lib.hid (hb_below hbF.out l1 F2.out)
            have G7 := Lib.hid (hb_below hbF.out l2 G2.out)
            have J7 := Lib.hid (show wF.heap[wD.heap.size]? = some (bsO b) by rw [hwF.out]; exact hb_below (below_drewN (Below.refl wE.heap.size wE) nq) (hb_lt J6.out) J6.out)
            have H8 := Lib.hid (show wF.heap[wB.heap.size]? = some _ by rw [hwF.out]; exact hb_below (below_drewN (Below.refl wE.heap.size wE) nq) (hb_lt H7.out) H7.out)
            clear ck dk
            have c0 : wF.cell? ⟨w.heap.size, 0, none⟩ = some (.int .i64 p) := hb_cell F7.out 0
            have c1 : wF.cell? ⟨w.heap.size, 1, none⟩ = some (.int .i64 s) := hb_cell F7.out 1
            have c2 : wF.cell? ⟨w.heap.size, 2, none⟩ = some u := hb_cell F7.out 2
            have e0 : wF.cell? ⟨w.heap.size + 1, 0, none⟩ = some (.int .i64 (a 0)) := hb_cell G7.out 0
            have e1 : wF.cell? ⟨w.heap.size + 1, 1, none⟩ = some (.int .i64 (a 1)) := hb_cell G7.out 1
            have e2 : wF.cell? ⟨w.heap.size + 1, 2, none⟩ = some (.int .i64 (a 2)) := hb_cell G7.out 2
            have e3 : wF.cell? ⟨w.heap.size + 1, 3, none⟩ = some (.int .i64 (a 3)) := hb_cell G7.out 3
            have e4 : wF.cell? ⟨w.heap.size + 1, 4, none⟩ = some (.int .i64 (a 4)) := hb_cell G7.out 4
            have e5 : wF.cell? ⟨w.heap.size + 1, 5, none⟩ = some (.int .i64 (a 5)) := hb_cell G7.out 5
            have dk : wF.cell? ⟨wD.heap.size, k, none⟩ = some (.int .i64 (b k)) := bs_cell J7.out (by omega)
            have hrf : X3 w.heap.size (w.heap.size + 1) wD.heap.size k wF.heap.size p s u a b wF wF := ⟨⟨c0, c1, c2⟩, ⟨e0, e1, e2, e3, e4, e5⟩, dk, hb_lt F7.out, hb_lt G7.out, hb_lt J7.out, Below.refl _ _⟩
            have hbk := Lib.hid (show b k = a k + 1 by rw [hbb.out]; unfold updF; rw [if_pos rfl])
            have hakV := Lib.hid (show a k = ((d.getD k 0 : Nat) : Int) by rw [hda.out]; exact ha.out k)
            have hSd := Lib.hid (fun w => hasSide_any p s (b k) u w (vX s d k true) (by
              have hvk := hVs.out k; rw [hbk.out, hakV.out, Bool.eq_iff_iff]; simp only [vX, Bool.and_eq_true, decide_eq_true_eq, if_true, Bool.false_eq_true, if_false]; omega))
            cases hv : vX s d k true with
            | false =>
              have htF : tuB s rs d k true = false := by show (vX s d k true && _) = false; rw [hv]; rfl
              rw [htF, if_neg (by simp), List.append_nil] at htk
              rw [hv] at hSd
              refine wp_region_held_drew (S := (fun v => X3 w.heap.size (w.heap.size + 1) wD.heap.size k wF.heap.size p s u a b wF v)) (by kernel_rfl) ?_ (fun hHeld => ?_)
              · exact ⟨⟨c0, c1, c2⟩, ⟨e0, e1, e2, e3, e4, e5⟩, dk, hb_lt F7.out, hb_lt G7.out, hb_lt J7.out, (Below.refl _ _).drew⟩
              (refine wpAnyH_take (i := 0) (v := ?_) rfl (by kernel_rfl) (by kernel_rfl) (by kernel_rfl) (fun _ _ _ h => h) (Or.inl ⟨by rfl, ?_⟩) (by assumption) ?_; rotate_left 1; focus (intro w hSw; obtain ⟨⟨s0, s1, s2⟩, -, s9, -⟩ := hSw; (try simp only [List.getElem_toArray, List.getElem_cons_zero, List.getElem_cons_succ]); go_simp; try with_reducible rfl); (try simp only [List.getElem_toArray, List.getElem_cons_zero, List.getElem_cons_succ, Act.put, List.setIfInBounds_toArray, List.set_cons_zero, List.set_cons_succ]))
              (refine wpAnyH_take (i := 1) (v := ?_) rfl (by kernel_rfl) (by kernel_rfl) (by kernel_rfl) (fun _ _ _ h => h) (Or.inl ⟨by rfl, ?_⟩) (by assumption) ?_; rotate_left 1; focus (intro w hSw; obtain ⟨⟨s0, s1, s2⟩, -, s9, -⟩ := hSw; (try simp only [List.getElem_toArray, List.getElem_cons_zero, List.getElem_cons_succ]); go_simp; try with_reducible rfl); (try simp only [List.getElem_toArray, List.getElem_cons_zero, List.getElem_cons_succ, Act.put, List.setIfInBounds_toArray, List.set_cons_zero, List.set_cons_succ]))
              (refine wpAnyH_take (i := 2) (v := ?_) rfl (by kernel_rfl) (by kernel_rfl) (by kernel_rfl) (fun _ _ _ h => h) (Or.inl ⟨by rfl, ?_⟩) (by assumption) ?_; rotate_left 1; focus (intro w hSw; obtain ⟨⟨s0, s1, s2⟩, -, s9, -⟩ := hSw; (try simp only [List.getElem_toArray, List.getElem_cons_zero, List.getElem_cons_succ]); go_simp; try with_reducible rfl); (try simp only [List.getElem_toArray, List.getElem_cons_zero, List.getElem_cons_succ, Act.put, List.setIfInBounds_toArray, List.set_cons_zero, List.set_cons_succ]))
              (refine wpAnyH_take (i := 3) (v := ?_) rfl (by kernel_rfl) (by kernel_rfl) (by kernel_rfl) (fun _ _ _ h => h) (Or.inl ⟨by rfl, ?_⟩) (by assumption) ?_; rotate_left 1; focus (intro w hSw; obtain ⟨⟨s0, s1, s2⟩, -, s9, -⟩ := hSw; (try simp only [List.getElem_toArray, List.getElem_cons_zero, List.getElem_cons_succ]); go_simp; try with_reducible rfl); (try simp only [List.getElem_toArray, List.getElem_cons_zero, List.getElem_cons_succ, Act.put, List.setIfInBounds_toArray, List.set_cons_zero, List.set_cons_succ]))
              (refine wpAnyH_take (i := 4) (v := ?_) rfl (by kernel_rfl) (by kernel_rfl) (by kernel_rfl) (fun _ _ _ h => h) (Or.inl ⟨by rfl, ?_⟩) (by assumption) ?_; rotate_left 1; focus (intro w hSw; obtain ⟨⟨s0, s1, s2⟩, -, s9, -⟩ := hSw; (try simp only [List.getElem_toArray, List.getElem_cons_zero, List.getElem_cons_succ]); go_simp; try with_reducible rfl); (try simp only [List.getElem_toArray, List.getElem_cons_zero, List.getElem_cons_succ, Act.put, List.setIfInBounds_toArray, List.set_cons_zero, List.set_cons_succ]))
              refine wpAnyH_ready (rs := [5]) (by kernel_rfl) (by simp) ?_
              refine AllReadyH.cons rfl (fun K hK => ?_) AllReadyH.nil
              go_simp
              refine (hSd.out _).mono ?_; rintro e wG ⟨rfl, hb9⟩
              have hS2 := keepY (keepYl hHeld) hb9 hHeld
              refine hK.out _ _ hS2 (fun hHeld2 => ?_)
              clear hK K
              (try simp only [List.getElem_toArray, List.getElem_cons_zero, List.getElem_cons_succ, Act.put, List.setIfInBounds_toArray, List.set_cons_zero, List.set_cons_succ])
              (refine wpAnyH_take (i := 6) (v := ?_) rfl (by kernel_rfl) (by kernel_rfl) (by kernel_rfl) (fun _ _ _ h => h) (Or.inl ⟨by rfl, ?_⟩) (by assumption) ?_; rotate_left 1; focus (intro w hSw; obtain ⟨⟨s0, s1, s2⟩, -, s9, -⟩ := hSw; (try simp only [List.getElem_toArray, List.getElem_cons_zero, List.getElem_cons_succ]); go_simp; try with_reducible rfl); (try simp only [List.getElem_toArray, List.getElem_cons_zero, List.getElem_cons_succ, Act.put, List.setIfInBounds_toArray, List.set_cons_zero, List.set_cons_succ]))
              (refine wpAnyH_take (i := 7) (v := undef) rfl (by kernel_rfl) (by kernel_rfl) (by kernel_rfl) (fun _ _ _ h => h) (Or.inr ⟨by rfl, rfl⟩) (by assumption) ?_; (try simp only [List.getElem_toArray, List.getElem_cons_zero, List.getElem_cons_succ, Act.put, List.setIfInBounds_toArray, List.set_cons_zero, List.set_cons_succ]))
              (refine wpAnyH_take (i := 8) (v := undef) rfl (by kernel_rfl) (by kernel_rfl) (by kernel_rfl) (fun _ _ _ h => h) (Or.inr ⟨by rfl, rfl⟩) (by assumption) ?_; (try simp only [List.getElem_toArray, List.getElem_cons_zero, List.getElem_cons_succ, Act.put, List.setIfInBounds_toArray, List.set_cons_zero, List.set_cons_succ]))
              (refine wpAnyH_take (i := 9) (v := undef) rfl (by kernel_rfl) (by kernel_rfl) (by kernel_rfl) (fun _ _ _ h => h) (Or.inr ⟨by rfl, rfl⟩) (by assumption) ?_; (try simp only [List.getElem_toArray, List.getElem_cons_zero, List.getElem_cons_succ, Act.put, List.setIfInBounds_toArray, List.set_cons_zero, List.set_cons_succ]))
              (refine wpAnyH_take (i := 10) (v := undef) rfl (by kernel_rfl) (by kernel_rfl) (by kernel_rfl) (fun _ _ _ h => h) (Or.inr ⟨by rfl, rfl⟩) (by assumption) ?_; (try simp only [List.getElem_toArray, List.getElem_cons_zero, List.getElem_cons_succ, Act.put, List.setIfInBounds_toArray, List.set_cons_zero, List.set_cons_succ]))
              (refine wpAnyH_take (i := 11) (v := undef) rfl (by kernel_rfl) (by kernel_rfl) (by kernel_rfl) (fun _ _ _ h => h) (Or.inr ⟨by rfl, rfl⟩) (by assumption) ?_; (try simp only [List.getElem_toArray, List.getElem_cons_zero, List.getElem_cons_succ, Act.put, List.setIfInBounds_toArray, List.set_cons_zero, List.set_cons_succ]))
              (refine wpAnyH_take (i := 12) (v := undef) rfl (by kernel_rfl) (by kernel_rfl) (by kernel_rfl) (fun _ _ _ h => h) (Or.inr ⟨by rfl, rfl⟩) (by assumption) ?_; (try simp only [List.getElem_toArray, List.getElem_cons_zero, List.getElem_cons_succ, Act.put, List.setIfInBounds_toArray, List.set_cons_zero, List.set_cons_succ]))
              (refine wpAnyH_take (i := 13) (v := ?_) rfl (by kernel_rfl) (by kernel_rfl) (by kernel_rfl) (fun _ _ _ h => h) (Or.inl ⟨by rfl, ?_⟩) (by assumption) ?_; rotate_left 1; focus (intro w hSw; obtain ⟨⟨s0, s1, s2⟩, -, s9, -⟩ := hSw; (try simp only [List.getElem_toArray, List.getElem_cons_zero, List.getElem_cons_succ]); go_simp; try with_reducible rfl); (try simp only [List.getElem_toArray, List.getElem_cons_zero, List.getElem_cons_succ, Act.put, List.setIfInBounds_toArray, List.set_cons_zero, List.set_cons_succ]))
              refine wpAnyH_done (by kernel_rfl) ?_ _
              have hfin := Lib.hid (keepYF hS2)
              have hoG := Lib.hid (hoF.out.below hfin.out)
              have hbG := Lib.hid (bt2 hbF.out hfin.out hbF.out.size)
              clear hS2 hHeld hHeld2 hb9 hrf c0 c1 c2 e0 e1 e2 e3 e4 e5 dk
              go_wp2_with fail
              go_roundw
              case rel => exact ⟨0 + 1, by omega, (by first | rfl | go_num), by rw [htk.out]; exact hoG, hbG⟩
              all_goals (simp [intOf] <;> omega)
            | true =>
              have htT : tuB s rs d k true = fitX (rs.getD (k * (s - 1) + loX d k true) ⟨#[]⟩) d := by show (vX s d k true && _) = _; rw [hv]; rfl
              have hlo : loX d k true = d.getD k 0 := rfl
              have hmn : min (a k) (b k) = ((loX d k true : Nat) : Int) := by rw [hbk.out, hakV.out, hlo]; omega
              have hll := loX_lt (k := k) (up := true) hd h2 hv
              have hix := idx_lt hlt hll
              have hRu := Lib.hid (fun w' (hb : Below w.heap.size w w') => rule_any p s k (loX d k true) rs _ w' h2 h5 h6 hlt hll hG.len (hRd.out w' hb))
              have hkx : k * (s - 1) + loX d k true < rs.length := by rw [hG.len]; exact hix
              rw [htT] at htk
              rw [getD_at rs _ _ hkx] at htk hRu
              obtain ⟨hrp, hro⟩ := rule_facts hG hkx
              have hFi := Lib.hid (fun w => fits_any d s (rs[k * (s - 1) + loX d k true]) w (by omega) h5 hro)
              rw [← hda.out] at hFi
              generalize rs[k * (s - 1) + loX d k true] = R at *
              rw [hmn]
              clear hmn hlo htT hix hkx hrp hro
              rw [hv] at hSd
              generalize loX d k true = LO at *
              generalize fitX R d = FB at *
              go_region_held3 (fun v => X3 w.heap.size (w.heap.size + 1) wD.heap.size k wF.heap.size p s u a b wF v) ((first | assumption | (refine ⟨⟨?_, ?_, ?_⟩, ⟨?_, ?_, ?_, ?_, ?_, ?_⟩, ?_, ?_, ?_, ?_, ?_⟩ <;> first | assumption | go_keep | omega | exact (Below.refl _ _).drew)))
                (first | (go_at_call 95; with_reducible refine (hSd.out _).mono ?_; rintro e w' ⟨rfl, hb9⟩; have hbn := keepY (keepYl (by assumption)) hb9 (by assumption)) | (go_at_call 77; with_reducible refine (hRu.out _ ((hb2.out.trans (hbF.out.mono (by omega))).trans ((keepYF (by assumption)).mono (by omega)))).mono ?_; rintro e w' ⟨rfl, hb9⟩; have hbn := keepY (keepYl (by assumption)) hb9 (by assumption)) | (go_at_call 98; with_reducible refine (hFi.out _).mono ?_; rintro e w' ⟨rfl, hb9⟩; have hbn := keepY (keepYl (by assumption)) hb9 (by assumption)))
              rename World => wG
              have hfin := Lib.hid (show Below wF.heap.size wF wG from keepYF (by assumption))
              have hoG := Lib.hid (hoF.out.below hfin.out)
              have hbG := Lib.hid (bt2 hbF.out hfin.out hbF.out.size)
              have hsG : w2.heap.size ≤ wG.heap.size := hbG.out.size
              have H9 := Lib.hid (hb_below hfin.out (hb_lt H8.out) H8.out)
              have J9 := Lib.hid (hb_below hfin.out (hb_lt J7.out) J7.out)
              clear hrf c0 c1 c2 e0 e1 e2 e3 e4 e5 dk
              have hel : Hid (tnW d (k, true) = ((k : Int), 1, b)) := Lib.hid (by rw [hbb.out, hda.out, dF_on hd hlt]; rfl)
              have hlen9 : Hid (((tK s rs d (2 * k + 0)).map (tnW d)).length ≤ 1000000) := Lib.hid (by rw [List.length_map]; have := tK_len s rs d (2 * k + 0); omega)
              cases FB with
              | false =>
                rw [if_neg (by simp), List.append_nil] at htk
                go_wp2_with fail
                go_roundw
                case rel => exact ⟨0 + 1, by omega, (by first | rfl | go_num), by rw [htk.out]; exact hoG, hbG⟩
                all_goals (simp [intOf] <;> omega)
              | true =>
                rw [if_pos rfl] at htk
                have q0 : wG.cell? ⟨wB.heap.size, 0, none⟩ = some (.int .i64 1) := hb_cell H9.out 0
                have t0 : wG.cell? ⟨wD.heap.size, 0, none⟩ = some (.int .i64 (b 0)) := hb_cell J9.out 0
                have t1 : wG.cell? ⟨wD.heap.size, 1, none⟩ = some (.int .i64 (b 1)) := hb_cell J9.out 1
                have t2 : wG.cell? ⟨wD.heap.size, 2, none⟩ = some (.int .i64 (b 2)) := hb_cell J9.out 2
                have t3 : wG.cell? ⟨wD.heap.size, 3, none⟩ = some (.int .i64 (b 3)) := hb_cell J9.out 3
                have t4 : wG.cell? ⟨wD.heap.size, 4, none⟩ = some (.int .i64 (b 4)) := hb_cell J9.out 4
                have t5 : wG.cell? ⟨wD.heap.size, 5, none⟩ = some (.int .i64 (b 5)) := hb_cell J9.out 5
                have htk2 : Hid ((tK s rs d (2 * k + (0 + 1))).map (tnW d) = (tK s rs d (2 * k + 0)).map (tnW d) ++ [((k : Int), 1, b)]) := Lib.hid (by rw [htk.out, List.map_append, ← hel.out]; rfl)
                go_wp2_with (at_builtin; refine app_tn _ rfl _ _ rfl w2.heap.size _ _ rfl (hoG.out.alloc _) wG.heap.size (k : Int) (1) b rfl (hb_new _ _) hlen9.out (by simp; omega) ?_; intro v' w7 ho7 hg7 _; have hb7 := Lib.hid (bel_ownG (hbG.out.alloc hsG _) (hoG.out.alloc _) hg7 (by simp; omega)); replace ho7 := Lib.hid ho7; clear hg7)
                go_roundw
                case rel => exact ⟨0 + 1, by omega, (by first | rfl | go_num), by rw [htk2.out]; exact ho7, hb7⟩
                all_goals (simp [intOf] <;> omega)
          | false =>
            obtain rfl : j = 1 := hju
            have hix := ix1 wB
            obtain ⟨wC, hwC⟩ : ∃ x, Hid (x = wB.alloc (.cells #[.int .i64 (-1), .func (Fn.func 110) #[] #[]] 115)) := ⟨_, Lib.hid rfl⟩
            have hbC := Lib.hid (show Below w2.heap.size w2 wC by rw [hwC.out]; exact hbr1.out.alloc hsB _)
            have hoC := Lib.hid (show OwnG tnE wC w2.heap.size u5 _ by rw [hwC.out]; exact ho1.out.alloc _)
            have F5 := Lib.hid (hb_below hbC.out l1 F2.out)
            have G5 := Lib.hid (hb_below hbC.out l2 G2.out)
            have H5 := Lib.hid (show wC.heap[wB.heap.size]? = some _ by rw [hwC.out]; exact hb_new _ _)
            have q0 : wC.cell? ⟨wB.heap.size, 0, none⟩ = some (.int .i64 (-1)) := hb_cell H5.out 0
            have q1 : wC.cell? ⟨wB.heap.size, 1, none⟩ = some (.func (Fn.func 110) #[] #[]) := hb_cell H5.out 1
            have g0 : wC.cell? ⟨w.heap.size + 1, 0, none⟩ = some (.int .i64 (a 0)) := hb_cell G5.out 0
            have g1 : wC.cell? ⟨w.heap.size + 1, 1, none⟩ = some (.int .i64 (a 1)) := hb_cell G5.out 1
            have g2 : wC.cell? ⟨w.heap.size + 1, 2, none⟩ = some (.int .i64 (a 2)) := hb_cell G5.out 2
            have g3 : wC.cell? ⟨w.heap.size + 1, 3, none⟩ = some (.int .i64 (a 3)) := hb_cell G5.out 3
            have g4 : wC.cell? ⟨w.heap.size + 1, 4, none⟩ = some (.int .i64 (a 4)) := hb_cell G5.out 4
            have g5 : wC.cell? ⟨w.heap.size + 1, 5, none⟩ = some (.int .i64 (a 5)) := hb_cell G5.out 5
            have hT := Lib.hid (fun w => turnedBack_any a k w (by omega) (by omega) (by omega))
            obtain ⟨b, hbb⟩ : ∃ b, Hid (b = updF a k (a k - 1)) := ⟨_, Lib.hid rfl⟩
            rw [← hbb.out] at hT
            go_upto_region 8 with fail
            rw [← hwC.out]
            go_wp2_with fail
            refine (hT.out _).mono ?_; rintro e wD ⟨rfl, hb⟩
            have hoD := Lib.hid (hoC.out.below hb)
            have hbD := Lib.hid (bt2 hbC.out hb hbC.out.size)
            have H6 := Lib.hid (hb_below hb (hb_lt H5.out) H5.out)
            clear hb g0 g1 g2 g3 g4 g5 q0 q1
            have hsD : w2.heap.size ≤ wD.heap.size := hbD.out.size
            obtain ⟨wE, hwE⟩ : ∃ x, Hid (x = wD.alloc (bsO b)) := ⟨_, Lib.hid rfl⟩
            have hbE := Lib.hid (show Below w2.heap.size w2 wE by rw [hwE.out]; exact hbD.out.alloc hsD _)
            have hoE := Lib.hid (show OwnG tnE wE w2.heap.size u5 _ by rw [hwE.out]; exact hoD.out.alloc _)
            have G6 := Lib.hid (hb_below hbE.out l2 G2.out)
            have H7 := Lib.hid (show wE.heap[wB.heap.size]? = some _ by rw [hwE.out]; exact hb_old _ H6.out)
            have J6 := Lib.hid (show wE.heap[wD.heap.size]? = some (bsO b) by rw [hwE.out]; exact hb_new _ _)
            have ck : wE.cell? ⟨w.heap.size + 1, k, none⟩ = some (.int .i64 (a k)) := bs_cell G6.out (by omega)
            have dk : wE.cell? ⟨wD.heap.size, k, none⟩ = some (.int .i64 (b k)) := bs_cell J6.out (by omega)
            have ik0 : (0 : Int) ≤ (k : Int) := by omega
            have ik6 : (k : Int) < 6 := by omega
            go_upto_region 9 with fail
            rw [← hwE.out]
            go_quiet (fail)
            go_wp2_with fail
            obtain ⟨wF, hwF⟩ : ∃ x, Hid (x = wE.drewN nq) := ⟨_, Lib.hid rfl⟩
            rw [← hwF.out]
            have hbF := Lib.hid (show Below w2.heap.size w2 wF by rw [hwF.out]; exact below_drewN hbE.out nq)
            have hoF := Lib.hid (show OwnG tnE wF w2.heap.size u5 _ by rw [hwF.out]; exact hoE.out.drewN nq)
            have F7 := Lib.hid (hb_below hbF.out l1 F2.out)
            have G7 := Lib.hid (hb_below hbF.out l2 G2.out)
            have J7 := Lib.hid (show wF.heap[wD.heap.size]? = some (bsO b) by rw [hwF.out]; exact hb_below (below_drewN (Below.refl wE.heap.size wE) nq) (hb_lt J6.out) J6.out)
            have H8 := Lib.hid (show wF.heap[wB.heap.size]? = some _ by rw [hwF.out]; exact hb_below (below_drewN (Below.refl wE.heap.size wE) nq) (hb_lt H7.out) H7.out)
            clear ck dk
            have c0 : wF.cell? ⟨w.heap.size, 0, none⟩ = some (.int .i64 p) := hb_cell F7.out 0
            have c1 : wF.cell? ⟨w.heap.size, 1, none⟩ = some (.int .i64 s) := hb_cell F7.out 1
            have c2 : wF.cell? ⟨w.heap.size, 2, none⟩ = some u := hb_cell F7.out 2
            have e0 : wF.cell? ⟨w.heap.size + 1, 0, none⟩ = some (.int .i64 (a 0)) := hb_cell G7.out 0
            have e1 : wF.cell? ⟨w.heap.size + 1, 1, none⟩ = some (.int .i64 (a 1)) := hb_cell G7.out 1
            have e2 : wF.cell? ⟨w.heap.size + 1, 2, none⟩ = some (.int .i64 (a 2)) := hb_cell G7.out 2
            have e3 : wF.cell? ⟨w.heap.size + 1, 3, none⟩ = some (.int .i64 (a 3)) := hb_cell G7.out 3
            have e4 : wF.cell? ⟨w.heap.size + 1, 4, none⟩ = some (.int .i64 (a 4)) := hb_cell G7.out 4
            have e5 : wF.cell? ⟨w.heap.size + 1, 5, none⟩ = some (.int .i64 (a 5)) := hb_cell G7.out 5
            have dk : wF.cell? ⟨wD.heap.size, k, none⟩ = some (.int .i64 (b k)) := bs_cell J7.out (by omega)
            have hrf : X3 w.heap.size (w.heap.size + 1) wD.heap.size k wF.heap.size p s u a b wF wF := ⟨⟨c0, c1, c2⟩, ⟨e0, e1, e2, e3, e4, e5⟩, dk, hb_lt F7.out, hb_lt G7.out, hb_lt J7.out, Below.refl _ _⟩
            have hbk := Lib.hid (show b k = a k - 1 by rw [hbb.out]; unfold updF; rw [if_pos rfl])
            have hakV := Lib.hid (show a k = ((d.getD k 0 : Nat) : Int) by rw [hda.out]; exact ha.out k)
            have hSd := Lib.hid (fun w => hasSide_any p s (b k) u w (vX s d k false) (by
              have hvk := hVs.out k; rw [hbk.out, hakV.out, Bool.eq_iff_iff]; simp only [vX, Bool.and_eq_true, decide_eq_true_eq, if_true, Bool.false_eq_true, if_false]; omega))
            cases hv : vX s d k false with
            | false =>
              have htF : tuB s rs d k false = false := by show (vX s d k false && _) = false; rw [hv]; rfl
              rw [htF, if_neg (by simp), List.append_nil] at htk
              rw [hv] at hSd
              refine wp_region_held_drew (S := (fun v => X3 w.heap.size (w.heap.size + 1) wD.heap.size k wF.heap.size p s u a b wF v)) (by kernel_rfl) ?_ (fun hHeld => ?_)
              · exact ⟨⟨c0, c1, c2⟩, ⟨e0, e1, e2, e3, e4, e5⟩, dk, hb_lt F7.out, hb_lt G7.out, hb_lt J7.out, (Below.refl _ _).drew⟩
              (refine wpAnyH_take (i := 0) (v := ?_) rfl (by kernel_rfl) (by kernel_rfl) (by kernel_rfl) (fun _ _ _ h => h) (Or.inl ⟨by rfl, ?_⟩) (by assumption) ?_; rotate_left 1; focus (intro w hSw; obtain ⟨⟨s0, s1, s2⟩, -, s9, -⟩ := hSw; (try simp only [List.getElem_toArray, List.getElem_cons_zero, List.getElem_cons_succ]); go_simp; try with_reducible rfl); (try simp only [List.getElem_toArray, List.getElem_cons_zero, List.getElem_cons_succ, Act.put, List.setIfInBounds_toArray, List.set_cons_zero, List.set_cons_succ]))
              (refine wpAnyH_take (i := 1) (v := ?_) rfl (by kernel_rfl) (by kernel_rfl) (by kernel_rfl) (fun _ _ _ h => h) (Or.inl ⟨by rfl, ?_⟩) (by assumption) ?_; rotate_left 1; focus (intro w hSw; obtain ⟨⟨s0, s1, s2⟩, -, s9, -⟩ := hSw; (try simp only [List.getElem_toArray, List.getElem_cons_zero, List.getElem_cons_succ]); go_simp; try with_reducible rfl); (try simp only [List.getElem_toArray, List.getElem_cons_zero, List.getElem_cons_succ, Act.put, List.setIfInBounds_toArray, List.set_cons_zero, List.set_cons_succ]))
              (refine wpAnyH_take (i := 2) (v := ?_) rfl (by kernel_rfl) (by kernel_rfl) (by kernel_rfl) (fun _ _ _ h => h) (Or.inl ⟨by rfl, ?_⟩) (by assumption) ?_; rotate_left 1; focus (intro w hSw; obtain ⟨⟨s0, s1, s2⟩, -, s9, -⟩ := hSw; (try simp only [List.getElem_toArray, List.getElem_cons_zero, List.getElem_cons_succ]); go_simp; try with_reducible rfl); (try simp only [List.getElem_toArray, List.getElem_cons_zero, List.getElem_cons_succ, Act.put, List.setIfInBounds_toArray, List.set_cons_zero, List.set_cons_succ]))
              (refine wpAnyH_take (i := 3) (v := ?_) rfl (by kernel_rfl) (by kernel_rfl) (by kernel_rfl) (fun _ _ _ h => h) (Or.inl ⟨by rfl, ?_⟩) (by assumption) ?_; rotate_left 1; focus (intro w hSw; obtain ⟨⟨s0, s1, s2⟩, -, s9, -⟩ := hSw; (try simp only [List.getElem_toArray, List.getElem_cons_zero, List.getElem_cons_succ]); go_simp; try with_reducible rfl); (try simp only [List.getElem_toArray, List.getElem_cons_zero, List.getElem_cons_succ, Act.put, List.setIfInBounds_toArray, List.set_cons_zero, List.set_cons_succ]))
              (refine wpAnyH_take (i := 4) (v := ?_) rfl (by kernel_rfl) (by kernel_rfl) (by kernel_rfl) (fun _ _ _ h => h) (Or.inl ⟨by rfl, ?_⟩) (by assumption) ?_; rotate_left 1; focus (intro w hSw; obtain ⟨⟨s0, s1, s2⟩, -, s9, -⟩ := hSw; (try simp only [List.getElem_toArray, List.getElem_cons_zero, List.getElem_cons_succ]); go_simp; try with_reducible rfl); (try simp only [List.getElem_toArray, List.getElem_cons_zero, List.getElem_cons_succ, Act.put, List.setIfInBounds_toArray, List.set_cons_zero, List.set_cons_succ]))
              refine wpAnyH_ready (rs := [5]) (by kernel_rfl) (by simp) ?_
              refine AllReadyH.cons rfl (fun K hK => ?_) AllReadyH.nil
              go_simp
              refine (hSd.out _).mono ?_; rintro e wG ⟨rfl, hb9⟩
              have hS2 := keepY (keepYl hHeld) hb9 hHeld
              refine hK.out _ _ hS2 (fun hHeld2 => ?_)
              clear hK K
              (try simp only [List.getElem_toArray, List.getElem_cons_zero, List.getElem_cons_succ, Act.put, List.setIfInBounds_toArray, List.set_cons_zero, List.set_cons_succ])
              (refine wpAnyH_take (i := 6) (v := ?_) rfl (by kernel_rfl) (by kernel_rfl) (by kernel_rfl) (fun _ _ _ h => h) (Or.inl ⟨by rfl, ?_⟩) (by assumption) ?_; rotate_left 1; focus (intro w hSw; obtain ⟨⟨s0, s1, s2⟩, -, s9, -⟩ := hSw; (try simp only [List.getElem_toArray, List.getElem_cons_zero, List.getElem_cons_succ]); go_simp; try with_reducible rfl); (try simp only [List.getElem_toArray, List.getElem_cons_zero, List.getElem_cons_succ, Act.put, List.setIfInBounds_toArray, List.set_cons_zero, List.set_cons_succ]))
              (refine wpAnyH_take (i := 7) (v := undef) rfl (by kernel_rfl) (by kernel_rfl) (by kernel_rfl) (fun _ _ _ h => h) (Or.inr ⟨by rfl, rfl⟩) (by assumption) ?_; (try simp only [List.getElem_toArray, List.getElem_cons_zero, List.getElem_cons_succ, Act.put, List.setIfInBounds_toArray, List.set_cons_zero, List.set_cons_succ]))
              (refine wpAnyH_take (i := 8) (v := undef) rfl (by kernel_rfl) (by kernel_rfl) (by kernel_rfl) (fun _ _ _ h => h) (Or.inr ⟨by rfl, rfl⟩) (by assumption) ?_; (try simp only [List.getElem_toArray, List.getElem_cons_zero, List.getElem_cons_succ, Act.put, List.setIfInBounds_toArray, List.set_cons_zero, List.set_cons_succ]))
              (refine wpAnyH_take (i := 9) (v := undef) rfl (by kernel_rfl) (by kernel_rfl) (by kernel_rfl) (fun _ _ _ h => h) (Or.inr ⟨by rfl, rfl⟩) (by assumption) ?_; (try simp only [List.getElem_toArray, List.getElem_cons_zero, List.getElem_cons_succ, Act.put, List.setIfInBounds_toArray, List.set_cons_zero, List.set_cons_succ]))
              (refine wpAnyH_take (i := 10) (v := undef) rfl (by kernel_rfl) (by kernel_rfl) (by kernel_rfl) (fun _ _ _ h => h) (Or.inr ⟨by rfl, rfl⟩) (by assumption) ?_; (try simp only [List.getElem_toArray, List.getElem_cons_zero, List.getElem_cons_succ, Act.put, List.setIfInBounds_toArray, List.set_cons_zero, List.set_cons_succ]))
              (refine wpAnyH_take (i := 11) (v := undef) rfl (by kernel_rfl) (by kernel_rfl) (by kernel_rfl) (fun _ _ _ h => h) (Or.inr ⟨by rfl, rfl⟩) (by assumption) ?_; (try simp only [List.getElem_toArray, List.getElem_cons_zero, List.getElem_cons_succ, Act.put, List.setIfInBounds_toArray, List.set_cons_zero, List.set_cons_succ]))
              (refine wpAnyH_take (i := 12) (v := undef) rfl (by kernel_rfl) (by kernel_rfl) (by kernel_rfl) (fun _ _ _ h => h) (Or.inr ⟨by rfl, rfl⟩) (by assumption) ?_; (try simp only [List.getElem_toArray, List.getElem_cons_zero, List.getElem_cons_succ, Act.put, List.setIfInBounds_toArray, List.set_cons_zero, List.set_cons_succ]))
              (refine wpAnyH_take (i := 13) (v := ?_) rfl (by kernel_rfl) (by kernel_rfl) (by kernel_rfl) (fun _ _ _ h => h) (Or.inl ⟨by rfl, ?_⟩) (by assumption) ?_; rotate_left 1; focus (intro w hSw; obtain ⟨⟨s0, s1, s2⟩, -, s9, -⟩ := hSw; (try simp only [List.getElem_toArray, List.getElem_cons_zero, List.getElem_cons_succ]); go_simp; try with_reducible rfl); (try simp only [List.getElem_toArray, List.getElem_cons_zero, List.getElem_cons_succ, Act.put, List.setIfInBounds_toArray, List.set_cons_zero, List.set_cons_succ]))
              refine wpAnyH_done (by kernel_rfl) ?_ _
              have hfin := Lib.hid (keepYF hS2)
              have hoG := Lib.hid (hoF.out.below hfin.out)
              have hbG := Lib.hid (bt2 hbF.out hfin.out hbF.out.size)
              clear hS2 hHeld hHeld2 hb9 hrf c0 c1 c2 e0 e1 e2 e3 e4 e5 dk
              go_wp2_with fail
              go_roundw
              case rel => exact ⟨1 + 1, by omega, (by first | rfl | go_num), by rw [htk.out]; exact hoG, hbG⟩
              all_goals (simp [intOf] <;> omega)
            | true =>
              have htT : tuB s rs d k false = fitX (rs.getD (k * (s - 1) + loX d k false) ⟨#[]⟩) d := by show (vX s d k false && _) = _; rw [hv]; rfl
              have hV1 : 1 ≤ d.getD k 0 := by have e := hv; simp only [vX, Bool.false_eq_true, if_false, decide_eq_true_eq] at e; exact e
              have hlo : loX d k false = d.getD k 0 - 1 := rfl
              have hmn : min (a k) (b k) = ((loX d k false : Nat) : Int) := by rw [hbk.out, hakV.out, hlo]; omega
              have hll := loX_lt (k := k) (up := false) hd h2 hv
              have hix := idx_lt hlt hll
              have hRu := Lib.hid (fun w' (hb : Below w.heap.size w w') => rule_any p s k (loX d k false) rs _ w' h2 h5 h6 hlt hll hG.len (hRd.out w' hb))
              have hkx : k * (s - 1) + loX d k false < rs.length := by rw [hG.len]; exact hix
              rw [htT] at htk
              rw [getD_at rs _ _ hkx] at htk hRu
              obtain ⟨hrp, hro⟩ := rule_facts hG hkx
              have hFi := Lib.hid (fun w => fits_any d s (rs[k * (s - 1) + loX d k false]) w (by omega) h5 hro)
              rw [← hda.out] at hFi
              generalize rs[k * (s - 1) + loX d k false] = R at *
              rw [hmn]
              clear hmn hlo htT hix hkx hrp hro
              rw [hv] at hSd
              generalize loX d k false = LO at *
              generalize fitX R d = FB at *
              go_region_held3 (fun v => X3 w.heap.size (w.heap.size + 1) wD.heap.size k wF.heap.size p s u a b wF v) ((first | assumption | (refine ⟨⟨?_, ?_, ?_⟩, ⟨?_, ?_, ?_, ?_, ?_, ?_⟩, ?_, ?_, ?_, ?_, ?_⟩ <;> first | assumption | go_keep | omega | exact (Below.refl _ _).drew)))
                (first | (go_at_call 95; with_reducible refine (hSd.out _).mono ?_; rintro e w' ⟨rfl, hb9⟩; have hbn := keepY (keepYl (by assumption)) hb9 (by assumption)) | (go_at_call 77; with_reducible refine (hRu.out _ ((hb2.out.trans (hbF.out.mono (by omega))).trans ((keepYF (by assumption)).mono (by omega)))).mono ?_; rintro e w' ⟨rfl, hb9⟩; have hbn := keepY (keepYl (by assumption)) hb9 (by assumption)) | (go_at_call 98; with_reducible refine (hFi.out _).mono ?_; rintro e w' ⟨rfl, hb9⟩; have hbn := keepY (keepYl (by assumption)) hb9 (by assumption)))
              rename World => wG
              have hfin := Lib.hid (show Below wF.heap.size wF wG from keepYF (by assumption))
              have hoG := Lib.hid (hoF.out.below hfin.out)
              have hbG := Lib.hid (bt2 hbF.out hfin.out hbF.out.size)
              have hsG : w2.heap.size ≤ wG.heap.size := hbG.out.size
              have H9 := Lib.hid (hb_below hfin.out (hb_lt H8.out) H8.out)
              have J9 := Lib.hid (hb_below hfin.out (hb_lt J7.out) J7.out)
              clear hrf c0 c1 c2 e0 e1 e2 e3 e4 e5 dk
              have hel : Hid (tnW d (k, false) = ((k : Int), (-1), b)) := Lib.hid (by rw [hbb.out, hda.out, dF_back hd hlt hV1]; rfl)
              have hlen9 : Hid (((tK s rs d (2 * k + 1)).map (tnW d)).length ≤ 1000000) := Lib.hid (by rw [List.length_map]; have := tK_len s rs d (2 * k + 1); omega)
              cases FB with
              | false =>
                rw [if_neg (by simp), List.append_nil] at htk
                go_wp2_with fail
                go_roundw
                case rel => exact ⟨1 + 1, by omega, (by first | rfl | go_num), by rw [htk.out]; exact hoG, hbG⟩
                all_goals (simp [intOf] <;> omega)
              | true =>
                rw [if_pos rfl] at htk
                have q0 : wG.cell? ⟨wB.heap.size, 0, none⟩ = some (.int .i64 (-1)) := hb_cell H9.out 0
                have t0 : wG.cell? ⟨wD.heap.size, 0, none⟩ = some (.int .i64 (b 0)) := hb_cell J9.out 0
                have t1 : wG.cell? ⟨wD.heap.size, 1, none⟩ = some (.int .i64 (b 1)) := hb_cell J9.out 1
                have t2 : wG.cell? ⟨wD.heap.size, 2, none⟩ = some (.int .i64 (b 2)) := hb_cell J9.out 2
                have t3 : wG.cell? ⟨wD.heap.size, 3, none⟩ = some (.int .i64 (b 3)) := hb_cell J9.out 3
                have t4 : wG.cell? ⟨wD.heap.size, 4, none⟩ = some (.int .i64 (b 4)) := hb_cell J9.out 4
                have t5 : wG.cell? ⟨wD.heap.size, 5, none⟩ = some (.int .i64 (b 5)) := hb_cell J9.out 5
                have htk2 : Hid ((tK s rs d (2 * k + (1 + 1))).map (tnW d) = (tK s rs d (2 * k + 1)).map (tnW d) ++ [((k : Int), (-1), b)]) := Lib.hid (by rw [htk.out, List.map_append, ← hel.out]; rfl)
                go_wp2_with (at_builtin; refine app_tn _ rfl _ _ rfl w2.heap.size _ _ rfl (hoG.out.alloc _) wG.heap.size (k : Int) ((-1)) b rfl (hb_new _ _) hlen9.out (by simp; omega) ?_; intro v' w7 ho7 hg7 _; have hb7 := Lib.hid (bel_ownG (hbG.out.alloc hsG _) (hoG.out.alloc _) hg7 (by simp; omega)); replace ho7 := Lib.hid ho7; clear hg7)
                go_roundw
                case rel => exact ⟨1 + 1, by omega, (by first | rfl | go_num), by rw [htk2.out]; exact ho7, hb7⟩
                all_goals (simp [intOf] <;> omega)
    · obtain rfl : k = p := by omega
      go_wp2_with fail
      go_ret
      exact ⟨_, rfl, ho.out.mono (by omega), hb2.out.trans (hbr.out.mono (by omega))⟩
end Go.Proofs.Ytjlecipeoaohiaa
