/- All slides from a state, by the program. -/
import Derived.Test.YtcfeaaakfjilgaaJ4
namespace Go.Proofs.Ytcfeaaakfjilgaa
open Go Go.RowKit RM
/-- what is kept while one slide is tried: the bolts' box, the state's, the slide's, and all below -/
theorem keepM {W a b : World} {gb ga gm k : Nat} {b0 b1 a0 a1 a2 a3 a4 a5 ak m0 m1 : Value} (hb : Below a.heap.size a b)
    (h : (a.cell? ⟨gb, 0, none⟩ = some b0 ∧ a.cell? ⟨gb, 1, none⟩ = some b1) ∧ (a.cell? ⟨ga, 0, none⟩ = some a0 ∧ a.cell? ⟨ga, 1, none⟩ = some a1 ∧ a.cell? ⟨ga, 2, none⟩ = some a2 ∧ a.cell? ⟨ga, 3, none⟩ = some a3 ∧ a.cell? ⟨ga, 4, none⟩ = some a4 ∧ a.cell? ⟨ga, 5, none⟩ = some a5) ∧ a.cell? ⟨ga, k, none⟩ = some ak ∧ (a.cell? ⟨gm, 0, none⟩ = some m0 ∧ a.cell? ⟨gm, 1, none⟩ = some m1) ∧ gb < a.heap.size ∧ ga < a.heap.size ∧ gm < a.heap.size ∧ Below W.heap.size W a) :
    (b.cell? ⟨gb, 0, none⟩ = some b0 ∧ b.cell? ⟨gb, 1, none⟩ = some b1) ∧ (b.cell? ⟨ga, 0, none⟩ = some a0 ∧ b.cell? ⟨ga, 1, none⟩ = some a1 ∧ b.cell? ⟨ga, 2, none⟩ = some a2 ∧ b.cell? ⟨ga, 3, none⟩ = some a3 ∧ b.cell? ⟨ga, 4, none⟩ = some a4 ∧ b.cell? ⟨ga, 5, none⟩ = some a5) ∧ b.cell? ⟨ga, k, none⟩ = some ak ∧ (b.cell? ⟨gm, 0, none⟩ = some m0 ∧ b.cell? ⟨gm, 1, none⟩ = some m1) ∧ gb < b.heap.size ∧ ga < b.heap.size ∧ gm < b.heap.size ∧ Below W.heap.size W b := by
  obtain ⟨⟨h0, h1⟩, ⟨c0, c1, c2, c3, c4, c5⟩, ck, ⟨d0, d1⟩, l1, l2, l3, hB⟩ := h
  have eb : ∀ o, b.cell? ⟨gb, o, none⟩ = a.cell? ⟨gb, o, none⟩ := fun o => hb.cell (p := ⟨gb, o, none⟩) l1
  have ea : ∀ o, b.cell? ⟨ga, o, none⟩ = a.cell? ⟨ga, o, none⟩ := fun o => hb.cell (p := ⟨ga, o, none⟩) l2
  have em : ∀ o, b.cell? ⟨gm, o, none⟩ = a.cell? ⟨gm, o, none⟩ := fun o => hb.cell (p := ⟨gm, o, none⟩) l3
  exact ⟨⟨(eb 0).trans h0, (eb 1).trans h1⟩, ⟨(ea 0).trans c0, (ea 1).trans c1, (ea 2).trans c2, (ea 3).trans c3, (ea 4).trans c4, (ea 5).trans c5⟩, (ea k).trans ck, ⟨(em 0).trans d0, (em 1).trans d1⟩, Nat.lt_of_lt_of_le l1 hb.size, Nat.lt_of_lt_of_le l2 hb.size, Nat.lt_of_lt_of_le l3 hb.size, bt1 hB hb⟩
theorem keepMF {W a : World} {gb ga gm k : Nat} {b0 b1 a0 a1 a2 a3 a4 a5 ak m0 m1 : Value}
    (h : (a.cell? ⟨gb, 0, none⟩ = some b0 ∧ a.cell? ⟨gb, 1, none⟩ = some b1) ∧ (a.cell? ⟨ga, 0, none⟩ = some a0 ∧ a.cell? ⟨ga, 1, none⟩ = some a1 ∧ a.cell? ⟨ga, 2, none⟩ = some a2 ∧ a.cell? ⟨ga, 3, none⟩ = some a3 ∧ a.cell? ⟨ga, 4, none⟩ = some a4 ∧ a.cell? ⟨ga, 5, none⟩ = some a5) ∧ a.cell? ⟨ga, k, none⟩ = some ak ∧ (a.cell? ⟨gm, 0, none⟩ = some m0 ∧ a.cell? ⟨gm, 1, none⟩ = some m1) ∧ gb < a.heap.size ∧ ga < a.heap.size ∧ gm < a.heap.size ∧ Below W.heap.size W a) : Below W.heap.size W a := h.2.2.2.2.2.2.2
set_option maxHeartbeats 4000000 in
set_option maxRecDepth 100000 in
theorem slides_any (v : Value) (ps : List Nat) (bs : List Blk) (d : List Nat) (w : World) (hG : GB ps bs) (h : Bo w v (ints ps) bs) (hd : isSt ps d) :
    Calls Try.prog 78 #[v, (.agg #[.int .i64 ((pl (d) 0 : Nat) : Int), .int .i64 ((pl (d) 1 : Nat) : Int), .int .i64 ((pl (d) 2 : Nat) : Int), .int .i64 ((pl (d) 3 : Nat) : Int), .int .i64 ((pl (d) 4 : Nat) : Int), .int .i64 ((pl (d) 5 : Nat) : Int)])] w fun e w' => ∃ u, e = .returned u ∧ OwnG slE w' w.heap.size u ((slS ps bs d).map slV) ∧ Below w.heap.size w w' := by
  have h0 := Lib.hid h
  obtain ⟨pv, bv, rfl, ⟨p, c, rfl, -, -⟩, -⟩ := h
  have hln : (ints ps).length = ps.length := by simp
  rw [hln] at h0 ⊢; clear hln
  have h6 := hG.l6
  obtain ⟨n, hn⟩ : ∃ n, ps.length = n := ⟨_, rfl⟩
  rw [hn] at h0 h6 ⊢
  have hdl := Lib.hid (show d.length = n by rw [hd.1, hn])
  have hHas := Lib.hid (fun w' hb (B : Nat) (hB : B < n) y => (hasB_nat (ps := ps) B (by rw [hn]; exact hB) y) ▸ hasP_any _ (B : Int) y (ints ps) bs w' (h0.out.below hb))
  have hAlw := Lib.hid (fun w' hb d' => allows_any _ ps bs d' w' hG (h0.out.below hb))
  have hcan := Lib.hid (fun (B : Nat) (hB : B < n) up => can_eq (bs := bs) hd B (by rw [hn]; exact hB) up)
  have hpk := Lib.hid (fun (B : Nat) (hB : B < n) => (⟨hG.p B (by rw [hn]; exact hB), hd.2 B (by rw [hn]; exact hB)⟩ : (2 ≤ ps.getD B 1 ∧ ps.getD B 1 ≤ 5) ∧ d.getD B 0 < ps.getD B 1))
  have hfin : Hid (slK ps bs d n = slS ps bs d) := Lib.hid (by unfold slS; rw [hn])
  replace hn := Lib.hid hn
  have hk0 : Hid ((slK ps bs d 0).map slV = []) := Lib.hid rfl
  have hks := Lib.hid (fun k => slK_succ (ps := ps) (bs := bs) d k)
  have hkl := Lib.hid (fun k => slK_len (ps := ps) (bs := bs) d k)
  have hpl := Lib.hid (fun b j => slP_len ps bs d b j)
  clear hG hd
  obtain ⟨w2, hw2⟩ : ∃ w2, Hid (w2 = (w.alloc (.cells #[.slice p n c, bv] 31)).alloc (.cells #[.int .i64 ((pl (d) 0 : Nat) : Int), .int .i64 ((pl (d) 1 : Nat) : Int), .int .i64 ((pl (d) 2 : Nat) : Int), .int .i64 ((pl (d) 3 : Nat) : Int), .int .i64 ((pl (d) 4 : Nat) : Int), .int .i64 ((pl (d) 5 : Nat) : Int)] 68)) := ⟨_, Lib.hid rfl⟩
  have hb2 : Hid (Below w.heap.size w w2) := Lib.hid (by rw [hw2.out]; exact (ba1 w _).alloc (by simp) _)
  have F := Lib.hid (show w2.heap[w.heap.size]? = some (.cells #[.slice p n c, bv] 31) by rw [hw2.out]; exact hb_old _ (hb_new _ _))
  have A := Lib.hid (show w2.heap[w.heap.size + 1]? = some (.cells #[.int .i64 ((pl (d) 0 : Nat) : Int), .int .i64 ((pl (d) 1 : Nat) : Int), .int .i64 ((pl (d) 2 : Nat) : Int), .int .i64 ((pl (d) 3 : Nat) : Int), .int .i64 ((pl (d) 4 : Nat) : Int), .int .i64 ((pl (d) 5 : Nat) : Int)] 68) by rw [hw2.out]; exact hb_new' _ _ _ (by simp))
  have hl2 : w.heap.size + 1 < w2.heap.size := hb_lt A.out
  have f0 : w2.cell? ⟨w.heap.size, 0, none⟩ = some (.slice p n c) := hb_cell F.out 0
  go_enter Try.func78, Try.ntmps78
  go_wp2_with fail
  rw [← hw2.out]
  go_loopw [5, 13] (fun o i wr => ∃ k : Nat, k ≤ n ∧ i = .int .i64 k ∧ Hid (OwnG slE wr w2.heap.size o ((slK ps bs d k).map slV)) ∧ Hid (Below w2.heap.size w2 wr)) (fun _ i _ => n - (intOf i).toNat)
  case atStart => exact ⟨0, Nat.zero_le _, rfl, Lib.hid (by rw [hk0.out]; exact OwnG.nil _ _), Lib.hid (Below.refl _ _)⟩
  case round =>
    obtain ⟨k, hk, rfl, ho, hbr⟩ := hrel
    obtain ⟨wA, rfl⟩ : ∃ x, x = wr := ⟨_, rfl⟩
    by_cases hlt : k < n
    · have hkk := Lib.hid (hkl.out k)
      have hk6 : k < 6 := by omega
      go_wp2_with fail
      go_loopw [5, 17] (fun o y wr => ∃ j : Nat, j ≤ 2 ∧ y = .int .i64 j ∧ Hid (OwnG slE wr w2.heap.size o ((slK ps bs d k ++ slP ps bs d k j).map slV)) ∧ Hid (Below w2.heap.size w2 wr)) (fun _ y _ => 2 - (intOf y).toNat)
      case atStart => exact ⟨0, by omega, rfl, Lib.hid (by rw [show slP ps bs d k 0 = [] from rfl, List.append_nil]; exact ho.out), hbr⟩
      case round =>
        obtain ⟨j, hj, rfl, ho1, hbr1⟩ := hrel
        obtain ⟨wB, rfl⟩ : ∃ x, x = wr := ⟨_, rfl⟩
        have hsB : w2.heap.size ≤ wB.heap.size := hbr1.out.size
        by_cases hj2 : j = 2
        · subst hj2
          have hnx : Hid (slK ps bs d k ++ slP ps bs d k 2 = slK ps bs d (k + 1)) := Lib.hid (hks.out k).symm
          rw [hnx.out] at ho1
          go_wp2_with fail
          go_roundw
          case rel => exact ⟨k + 1, by omega, by go_num, ho1, hbr1⟩
          all_goals (simp [intOf] <;> omega)
        · have hup : Hid (∃ up : Bool, slP ps bs d k (j + 1) = slP ps bs d k j ++ (if canS ps bs d k up then [(k, up)] else []) ∧ (j = 0 ∧ byI up = 1 ∨ j = 1 ∧ byI up = -1)) := Lib.hid (by
            have h01 : j = 0 ∨ j = 1 := by omega
            clear ho1 hj hj2
            rcases h01 with rfl | rfl
            · exact ⟨true, rfl, .inl ⟨rfl, rfl⟩⟩
            · exact ⟨false, rfl, .inr ⟨rfl, rfl⟩⟩)
          obtain ⟨up, hsl, hjy⟩ := hup.out
          have FB := Lib.hid (hb_below hbr1.out (by omega) F.out)
          have AB := Lib.hid (hb_below hbr1.out hl2 A.out)
          have hbwB := Lib.hid (bt1 hb2.out hbr1.out)
          obtain ⟨y, hy⟩ : ∃ y, Hid (y = byI up) := ⟨_, Lib.hid rfl⟩
          have hyb : y = 1 ∨ y = -1 := by rw [hy.out]; omega
          have hjy' : (j = 0 ∧ y = 1) ∨ (j = 1 ∧ y = -1) := by rw [hy.out]; exact hjy
          have hpj := Lib.hid (hpl.out k j)
          have hlen9 : Hid (((slK ps bs d k ++ slP ps bs d k j).map slV).length ≤ 1000000) := Lib.hid (by
            have h1 := hkk.out; have h2 := hpj.out
            rw [List.length_map, List.length_append]; omega)
          have hmv : Hid (slV (k, up) = ((k : Int), y)) := Lib.hid (by rw [hy.out]; rfl)
          obtain ⟨⟨hC2, hC5⟩, hdC⟩ := hpk.out k hlt
          have hcs := hcan.out k hlt up
          have hPd : plS d k up = ((pl d k : Nat) : Int) + y := by rw [hy.out]; rfl
          have hpl0 : pl d k = d.getD k 0 := rfl
          rw [← hpl0] at hdC
          have ea : IntKind.i64.wrap (((pl d k : Nat) : Int) + y) = plS d k up := by rw [hPd, IntKind.wrap_i64]; omega
          have hP5 : plS d k up ≤ 5 := by rw [hPd]; omega
          obtain ⟨w5, hw5⟩ : ∃ w5, Hid (w5 = wB.alloc (.cells #[.int .i64 (k : Int), .int .i64 y] 79)) := ⟨_, Lib.hid rfl⟩
          have hb5 := Lib.hid (show Below wB.heap.size wB w5 by rw [hw5.out]; exact ba1 wB _)
          have M5 := Lib.hid (show w5.heap[wB.heap.size]? = some (.cells #[.int .i64 (k : Int), .int .i64 y] 79) by rw [hw5.out]; exact hb_new _ _)
          have F5 := Lib.hid (hb_below hb5.out (hb_lt FB.out) FB.out)
          have A5 := Lib.hid (hb_below hb5.out (hb_lt AB.out) AB.out)
          have hbw5 := Lib.hid (bt1 hbwB.out hb5.out)
          have hb25 := Lib.hid (bt2 hbr1.out hb5.out hsB)
          have ho5 := Lib.hid (ho1.out.below hb5.out)
          have hH := Lib.hid (fun w' hb => hHas.out w' hb k hlt (plS d k up))
          have hSl := Lib.hid (fun (h0 : 0 ≤ plS d k up) w' => slid_any d k (plS d k up).toNat y w' (by rw [hdl.out]; exact hlt) hk6 (by rw [← hPd]; omega) (by omega))
          have c5 : ((w5.cell? ⟨w.heap.size, 0, none⟩ = some (.slice p n c) ∧ w5.cell? ⟨w.heap.size, 1, none⟩ = some bv) ∧ (w5.cell? ⟨w.heap.size + 1, 0, none⟩ = some (.int .i64 ((pl d 0 : Nat) : Int)) ∧ w5.cell? ⟨w.heap.size + 1, 1, none⟩ = some (.int .i64 ((pl d 1 : Nat) : Int)) ∧ w5.cell? ⟨w.heap.size + 1, 2, none⟩ = some (.int .i64 ((pl d 2 : Nat) : Int)) ∧ w5.cell? ⟨w.heap.size + 1, 3, none⟩ = some (.int .i64 ((pl d 3 : Nat) : Int)) ∧ w5.cell? ⟨w.heap.size + 1, 4, none⟩ = some (.int .i64 ((pl d 4 : Nat) : Int)) ∧ w5.cell? ⟨w.heap.size + 1, 5, none⟩ = some (.int .i64 ((pl d 5 : Nat) : Int))) ∧ w5.cell? ⟨w.heap.size + 1, k, none⟩ = some (.int .i64 ((pl d k : Nat) : Int)) ∧ (w5.cell? ⟨wB.heap.size, 0, none⟩ = some (.int .i64 (k : Int)) ∧ w5.cell? ⟨wB.heap.size, 1, none⟩ = some (.int .i64 y)) ∧ w.heap.size < w5.heap.size ∧ w.heap.size + 1 < w5.heap.size ∧ wB.heap.size < w5.heap.size ∧ Below w5.heap.size w5 w5) :=
            ⟨⟨hb_cell F5.out 0, hb_cell F5.out 1⟩, ⟨hb_cell A5.out 0, hb_cell A5.out 1, hb_cell A5.out 2, hb_cell A5.out 3, hb_cell A5.out 4, hb_cell A5.out 5⟩, arc_cell A5.out k hk6, ⟨hb_cell M5.out 0, hb_cell M5.out 1⟩, hb_lt F5.out, hb_lt A5.out, hb_lt M5.out, Below.refl _ _⟩
          have ik : (k : Int) < 6 := by omega
          have ik0 : (0 : Int) ≤ (k : Int) := by omega
          obtain ⟨cn, hcn⟩ : ∃ cn, canS ps bs d k up = cn := ⟨_, rfl⟩
          rw [hcn] at hcs hsl
          replace hcn := Lib.hid hcn
          replace hsl := Lib.hid hsl
          replace hPd := Lib.hid hPd
          replace hpl0 := Lib.hid hpl0
          generalize plS d k up = P at *
          generalize ps.getD k 1 = C at *
          have ix0 : ∀ w, (Instr.index 123 (.agg #[.int .i64 1, .int .i64 (-1)]) (.int .i64 0)).run Try.prog w = .ok (.int .i64 1) w := fun _ => by kernel_rfl
          have ix1 : ∀ w, (Instr.index 123 (.agg #[.int .i64 1, .int .i64 (-1)]) (.int .i64 1)).run Try.prog w = .ok (.int .i64 (-1)) w := fun _ => by kernel_rfl
          rcases hjy' with ⟨rfl, rfl⟩ | ⟨rfl, rfl⟩
          · have m5 := c5
            replace c5 := Lib.hid c5
            obtain ⟨⟨q0, q1⟩, ⟨q2, q3, q4, q5, q6, q7⟩, qk, ⟨qm0, qm1⟩, l1, l2, l3, -⟩ := m5
            rcases hcs with ⟨rfl, hbad⟩ | ⟨hp0, hpC, hcf, hms, hds⟩
            · have hB0 : (decide (0 ≤ P) && decide (P < (C : Int))) = false := by
                rw [← Bool.not_eq_true, Bool.and_eq_true, decide_eq_true_eq, decide_eq_true_eq]; omega
              rw [hB0] at hH
              clear hB0
              have hsl2 : Hid (slP ps bs d k (0 + 1) = slP ps bs d k 0) := Lib.hid (by rw [hsl.out]; simp)
              go_wp2_with fail
              rw [← hw5.out]
              refine wp_region_held_drew (S := (fun v => (v.cell? ⟨w.heap.size, 0, none⟩ = some (.slice p n c) ∧ v.cell? ⟨w.heap.size, 1, none⟩ = some bv) ∧ (v.cell? ⟨w.heap.size + 1, 0, none⟩ = some (.int .i64 ((pl d 0 : Nat) : Int)) ∧ v.cell? ⟨w.heap.size + 1, 1, none⟩ = some (.int .i64 ((pl d 1 : Nat) : Int)) ∧ v.cell? ⟨w.heap.size + 1, 2, none⟩ = some (.int .i64 ((pl d 2 : Nat) : Int)) ∧ v.cell? ⟨w.heap.size + 1, 3, none⟩ = some (.int .i64 ((pl d 3 : Nat) : Int)) ∧ v.cell? ⟨w.heap.size + 1, 4, none⟩ = some (.int .i64 ((pl d 4 : Nat) : Int)) ∧ v.cell? ⟨w.heap.size + 1, 5, none⟩ = some (.int .i64 ((pl d 5 : Nat) : Int))) ∧ v.cell? ⟨w.heap.size + 1, k, none⟩ = some (.int .i64 ((pl d k : Nat) : Int)) ∧ (v.cell? ⟨wB.heap.size, 0, none⟩ = some (.int .i64 (k : Int)) ∧ v.cell? ⟨wB.heap.size, 1, none⟩ = some (.int .i64 1)) ∧ w.heap.size < v.heap.size ∧ w.heap.size + 1 < v.heap.size ∧ wB.heap.size < v.heap.size ∧ Below w5.heap.size w5 v)) (by kernel_rfl) (keepM ((Below.refl _ _).drew) c5.out) (fun hHeld0 => ?_)
              refine wpAnyH_take (i := 0) (oi := _) (v := ?_) rfl (by kernel_rfl) (by kernel_rfl) (by kernel_rfl) (fun _ _ _ h => h) (Or.inl ⟨by rfl, ?_⟩) (by assumption) ?_
              rotate_left
              · intro w hSw; (try dsimp only at hSw); go_simp; (try with_reducible rfl)
              (try simp only [Act.put, List.setIfInBounds_toArray, List.set_cons_zero, List.set_cons_succ])
              refine wpAnyH_take (i := 1) (oi := _) (v := ?_) rfl (by kernel_rfl) (by kernel_rfl) (by kernel_rfl) (fun _ _ _ h => h) (Or.inl ⟨by rfl, ?_⟩) (by assumption) ?_
              rotate_left
              · intro w hSw; (try dsimp only at hSw); go_simp; (try with_reducible rfl)
              (try simp only [Act.put, List.setIfInBounds_toArray, List.set_cons_zero, List.set_cons_succ])
              refine wpAnyH_take (i := 2) (oi := _) (v := ?_) rfl (by kernel_rfl) (by kernel_rfl) (by kernel_rfl) (fun _ _ _ h => h) (Or.inl ⟨by rfl, ?_⟩) (by assumption) ?_
              rotate_left
              · intro w hSw; (try dsimp only at hSw); go_simp; (try with_reducible rfl)
              (try simp only [Act.put, List.setIfInBounds_toArray, List.set_cons_zero, List.set_cons_succ])
              refine wpAnyH_take (i := 3) (oi := _) (v := ?_) rfl (by kernel_rfl) (by kernel_rfl) (by kernel_rfl) (fun _ _ _ h => h) (Or.inl ⟨by rfl, ?_⟩) (by assumption) ?_
              rotate_left
              · intro w hSw; (try dsimp only at hSw); go_simp; (try with_reducible rfl)
              (try simp only [Act.put, List.setIfInBounds_toArray, List.set_cons_zero, List.set_cons_succ])
              refine wpAnyH_take (i := 4) (oi := _) (v := ?_) rfl (by kernel_rfl) (by kernel_rfl) (by kernel_rfl) (fun _ _ _ h => h) (Or.inl ⟨by rfl, ?_⟩) (by assumption) ?_
              rotate_left
              · intro w hSw; (try dsimp only at hSw); go_simp; (try with_reducible rfl)
              (try simp only [Act.put, List.setIfInBounds_toArray, List.set_cons_zero, List.set_cons_succ])
              refine wpAnyH_take (i := 5) (oi := _) (v := ?_) rfl (by kernel_rfl) (by kernel_rfl) (by kernel_rfl) (fun _ _ _ h => h) (Or.inl ⟨by rfl, ?_⟩) (by assumption) ?_
              rotate_left
              · intro w hSw; (try dsimp only at hSw); go_simp; (try with_reducible rfl)
              (try simp only [Act.put, List.setIfInBounds_toArray, List.set_cons_zero, List.set_cons_succ])
              refine wpAnyH_take (i := 6) (oi := _) (v := ?_) rfl (by kernel_rfl) (by kernel_rfl) (by kernel_rfl) (fun _ _ _ h => h) (Or.inl ⟨by rfl, ?_⟩) (by assumption) ?_
              rotate_left
              · intro w hSw; (try dsimp only at hSw); go_simp; (try with_reducible rfl)
              (try simp only [Act.put, List.setIfInBounds_toArray, List.set_cons_zero, List.set_cons_succ])
              refine wpAnyH_ready (rs := [7]) (by kernel_rfl) (by simp) ?_
              refine AllReadyH.cons (o := _) rfl (fun K hK => ?_) AllReadyH.nil
              go_simp
              refine (hH.out _ (bt1 hbw5.out (keepMF hHeld0))).mono ?_; rintro e w' ⟨rfl, hb9⟩
              refine hK.out _ _ (keepM hb9 hHeld0) (fun hHeld => ?_)
              clear hK
              (try simp only [Act.put, List.setIfInBounds_toArray, List.set_cons_zero, List.set_cons_succ])
              refine wpAnyH_take (i := 8) (oi := _) (v := ?_) rfl (by kernel_rfl) (by kernel_rfl) (by kernel_rfl) (fun _ _ _ h => h) (Or.inl ⟨by rfl, ?_⟩) (by assumption) ?_
              rotate_left
              · intro w hSw; (try dsimp only at hSw); go_simp; (try with_reducible rfl)
              (try simp only [Act.put, List.setIfInBounds_toArray, List.set_cons_zero, List.set_cons_succ])
              refine wpAnyH_take (i := 9) (oi := _) (v := undef) rfl (by kernel_rfl) (by kernel_rfl) (by kernel_rfl) (fun _ _ _ h => h) (Or.inr ⟨by rfl, rfl⟩) (by assumption) ?_
              (try simp only [Act.put, List.setIfInBounds_toArray, List.set_cons_zero, List.set_cons_succ])
              refine wpAnyH_take (i := 10) (oi := _) (v := undef) rfl (by kernel_rfl) (by kernel_rfl) (by kernel_rfl) (fun _ _ _ h => h) (Or.inr ⟨by rfl, rfl⟩) (by assumption) ?_
              (try simp only [Act.put, List.setIfInBounds_toArray, List.set_cons_zero, List.set_cons_succ])
              refine wpAnyH_take (i := 11) (oi := _) (v := undef) rfl (by kernel_rfl) (by kernel_rfl) (by kernel_rfl) (fun _ _ _ h => h) (Or.inr ⟨by rfl, rfl⟩) (by assumption) ?_
              (try simp only [Act.put, List.setIfInBounds_toArray, List.set_cons_zero, List.set_cons_succ])
              refine wpAnyH_take (i := 12) (oi := _) (v := undef) rfl (by kernel_rfl) (by kernel_rfl) (by kernel_rfl) (fun _ _ _ h => h) (Or.inr ⟨by rfl, rfl⟩) (by assumption) ?_
              (try simp only [Act.put, List.setIfInBounds_toArray, List.set_cons_zero, List.set_cons_succ])
              refine wpAnyH_take (i := 13) (oi := _) (v := undef) rfl (by kernel_rfl) (by kernel_rfl) (by kernel_rfl) (fun _ _ _ h => h) (Or.inr ⟨by rfl, rfl⟩) (by assumption) ?_
              (try simp only [Act.put, List.setIfInBounds_toArray, List.set_cons_zero, List.set_cons_succ])
              refine wpAnyH_take (i := 14) (oi := _) (v := ?_) rfl (by kernel_rfl) (by kernel_rfl) (by kernel_rfl) (fun _ _ _ h => h) (Or.inl ⟨by rfl, ?_⟩) (by assumption) ?_
              rotate_left
              · intro w hSw; (try dsimp only at hSw); go_simp; (try with_reducible rfl)
              (try simp only [Act.put, List.setIfInBounds_toArray, List.set_cons_zero, List.set_cons_succ])
              refine wpAnyH_done (by kernel_rfl) ?_ _
              have hfin9 := Lib.hid (keepMF hHeld)
              have ho9 := Lib.hid (ho5.out.below hfin9.out)
              have hb29 := Lib.hid (bt2 hb25.out hfin9.out hb25.out.size)
              go_wp2_with fail
              go_roundw
              case rel => exact ⟨0 + 1, by omega, by go_num, by rw [hsl2.out]; exact ho9, hb29⟩
              all_goals (simp [intOf] <;> omega)
            · have hB0 : (decide (0 ≤ P) && decide (P < (C : Int))) = true := by simp; omega
              rw [hB0] at hH
              clear hB0
              replace hSl := Lib.hid (hSl.out hp0)
              have hA9 := Lib.hid (fun w' hb => hAlw.out w' hb (d.set k P.toNat))
              rw [← hms, ← hcf] at hA9
              rw [← hms] at hSl
              generalize mvS d k up = dm at *
              replace hcf := Lib.hid hcf
              replace hms := Lib.hid hms
              replace hds := Lib.hid hds
              cases cn
              · have hsl2 : Hid (slP ps bs d k (0 + 1) = slP ps bs d k 0) := Lib.hid (by rw [hsl.out]; simp)
                go_wp2_with fail
                rw [← hw5.out]
                go_region_held3 (fun v => (v.cell? ⟨w.heap.size, 0, none⟩ = some (.slice p n c) ∧ v.cell? ⟨w.heap.size, 1, none⟩ = some bv) ∧ (v.cell? ⟨w.heap.size + 1, 0, none⟩ = some (.int .i64 ((pl d 0 : Nat) : Int)) ∧ v.cell? ⟨w.heap.size + 1, 1, none⟩ = some (.int .i64 ((pl d 1 : Nat) : Int)) ∧ v.cell? ⟨w.heap.size + 1, 2, none⟩ = some (.int .i64 ((pl d 2 : Nat) : Int)) ∧ v.cell? ⟨w.heap.size + 1, 3, none⟩ = some (.int .i64 ((pl d 3 : Nat) : Int)) ∧ v.cell? ⟨w.heap.size + 1, 4, none⟩ = some (.int .i64 ((pl d 4 : Nat) : Int)) ∧ v.cell? ⟨w.heap.size + 1, 5, none⟩ = some (.int .i64 ((pl d 5 : Nat) : Int))) ∧ v.cell? ⟨w.heap.size + 1, k, none⟩ = some (.int .i64 ((pl d k : Nat) : Int)) ∧ (v.cell? ⟨wB.heap.size, 0, none⟩ = some (.int .i64 (k : Int)) ∧ v.cell? ⟨wB.heap.size, 1, none⟩ = some (.int .i64 1)) ∧ w.heap.size < v.heap.size ∧ w.heap.size + 1 < v.heap.size ∧ wB.heap.size < v.heap.size ∧ Below w5.heap.size w5 v) ((first | assumption | (refine ⟨⟨?_, ?_⟩, ⟨?_, ?_, ?_, ?_, ?_, ?_⟩, ?_, ⟨?_, ?_⟩, ?_, ?_, ?_, ?_⟩ <;> first | assumption | go_keep | omega | exact (Below.refl _ _).drew)))
                  (first | (go_at_call 94; refine (hH.out _ (bt1 hbw5.out (keepMF (by assumption)))).mono ?_; rintro e w' ⟨rfl, hb9⟩; have hbn := keepM hb9 (by assumption)) | (go_at_call 54; refine (hSl.out _).mono ?_; rintro e w' ⟨rfl, hb9⟩; have hbn := keepM hb9 (by assumption)) | (go_at_call 87; refine (hA9.out _ (bt1 hbw5.out (keepMF (by assumption)))).mono ?_; rintro e w' ⟨rfl, hb9⟩; have hbn := keepM hb9 (by assumption)))
                all_goals
                  have hfin9 := Lib.hid (keepMF (by assumption))
                  have ho9 := Lib.hid (ho5.out.below hfin9.out)
                  have hb29 := Lib.hid (bt2 hb25.out hfin9.out hb25.out.size)
                  go_wp2_with fail
                  go_roundw
                  case rel => exact ⟨0 + 1, by omega, by go_num, by rw [hsl2.out]; exact ho9, hb29⟩
                  all_goals (simp [intOf] <;> omega)
              · have hsl2 : Hid ((slK ps bs d k ++ slP ps bs d k 0).map slV ++ [((k : Int), 1)] = (slK ps bs d k ++ slP ps bs d k (0 + 1)).map slV) := Lib.hid (by rw [hsl.out, ← hmv.out]; simp)
                go_wp2_with fail
                rw [← hw5.out]
                go_region_held3 (fun v => (v.cell? ⟨w.heap.size, 0, none⟩ = some (.slice p n c) ∧ v.cell? ⟨w.heap.size, 1, none⟩ = some bv) ∧ (v.cell? ⟨w.heap.size + 1, 0, none⟩ = some (.int .i64 ((pl d 0 : Nat) : Int)) ∧ v.cell? ⟨w.heap.size + 1, 1, none⟩ = some (.int .i64 ((pl d 1 : Nat) : Int)) ∧ v.cell? ⟨w.heap.size + 1, 2, none⟩ = some (.int .i64 ((pl d 2 : Nat) : Int)) ∧ v.cell? ⟨w.heap.size + 1, 3, none⟩ = some (.int .i64 ((pl d 3 : Nat) : Int)) ∧ v.cell? ⟨w.heap.size + 1, 4, none⟩ = some (.int .i64 ((pl d 4 : Nat) : Int)) ∧ v.cell? ⟨w.heap.size + 1, 5, none⟩ = some (.int .i64 ((pl d 5 : Nat) : Int))) ∧ v.cell? ⟨w.heap.size + 1, k, none⟩ = some (.int .i64 ((pl d k : Nat) : Int)) ∧ (v.cell? ⟨wB.heap.size, 0, none⟩ = some (.int .i64 (k : Int)) ∧ v.cell? ⟨wB.heap.size, 1, none⟩ = some (.int .i64 1)) ∧ w.heap.size < v.heap.size ∧ w.heap.size + 1 < v.heap.size ∧ wB.heap.size < v.heap.size ∧ Below w5.heap.size w5 v) ((first | assumption | (refine ⟨⟨?_, ?_⟩, ⟨?_, ?_, ?_, ?_, ?_, ?_⟩, ?_, ⟨?_, ?_⟩, ?_, ?_, ?_, ?_⟩ <;> first | assumption | go_keep | omega | exact (Below.refl _ _).drew)))
                  (first | (go_at_call 94; refine (hH.out _ (bt1 hbw5.out (keepMF (by assumption)))).mono ?_; rintro e w' ⟨rfl, hb9⟩; have hbn := keepM hb9 (by assumption)) | (go_at_call 54; refine (hSl.out _).mono ?_; rintro e w' ⟨rfl, hb9⟩; have hbn := keepM hb9 (by assumption)) | (go_at_call 87; refine (hA9.out _ (bt1 hbw5.out (keepMF (by assumption)))).mono ?_; rintro e w' ⟨rfl, hb9⟩; have hbn := keepM hb9 (by assumption)))
                all_goals
                  have hfin9 := Lib.hid (keepMF (by assumption))
                  have ho9 := Lib.hid (ho5.out.below hfin9.out)
                  have hb29 := Lib.hid (bt2 hb25.out hfin9.out hb25.out.size)
                  have hs29 := hb29.out.size
                  go_wp2_with (at_builtin; refine app_sl _ rfl _ _ rfl w2.heap.size _ _ rfl (ho9.out.alloc _) _ ((k : Int), 1) rfl (hb_new _ _) hlen9.out (by simp; omega) ?_; intro v' w7 ho7 hg7 _; have hb7 := Lib.hid (bel_ownG (hb29.out.alloc hs29 _) (ho9.out.alloc _) hg7 (by simp; omega)); replace ho7 := Lib.hid ho7; clear hg7)
                  go_roundw
                  case rel => exact ⟨0 + 1, by omega, by go_num, by rw [← hsl2.out]; exact ho7, hb7⟩
                  all_goals (simp [intOf] <;> omega)
          · have m5 := c5
            replace c5 := Lib.hid c5
            obtain ⟨⟨q0, q1⟩, ⟨q2, q3, q4, q5, q6, q7⟩, qk, ⟨qm0, qm1⟩, l1, l2, l3, -⟩ := m5
            rcases hcs with ⟨rfl, hbad⟩ | ⟨hp0, hpC, hcf, hms, hds⟩
            · have hB0 : (decide (0 ≤ P) && decide (P < (C : Int))) = false := by
                rw [← Bool.not_eq_true, Bool.and_eq_true, decide_eq_true_eq, decide_eq_true_eq]; omega
              rw [hB0] at hH
              clear hB0
              have hsl2 : Hid (slP ps bs d k (1 + 1) = slP ps bs d k 1) := Lib.hid (by rw [hsl.out]; simp)
              go_wp2_with fail
              rw [← hw5.out]
              refine wp_region_held_drew (S := (fun v => (v.cell? ⟨w.heap.size, 0, none⟩ = some (.slice p n c) ∧ v.cell? ⟨w.heap.size, 1, none⟩ = some bv) ∧ (v.cell? ⟨w.heap.size + 1, 0, none⟩ = some (.int .i64 ((pl d 0 : Nat) : Int)) ∧ v.cell? ⟨w.heap.size + 1, 1, none⟩ = some (.int .i64 ((pl d 1 : Nat) : Int)) ∧ v.cell? ⟨w.heap.size + 1, 2, none⟩ = some (.int .i64 ((pl d 2 : Nat) : Int)) ∧ v.cell? ⟨w.heap.size + 1, 3, none⟩ = some (.int .i64 ((pl d 3 : Nat) : Int)) ∧ v.cell? ⟨w.heap.size + 1, 4, none⟩ = some (.int .i64 ((pl d 4 : Nat) : Int)) ∧ v.cell? ⟨w.heap.size + 1, 5, none⟩ = some (.int .i64 ((pl d 5 : Nat) : Int))) ∧ v.cell? ⟨w.heap.size + 1, k, none⟩ = some (.int .i64 ((pl d k : Nat) : Int)) ∧ (v.cell? ⟨wB.heap.size, 0, none⟩ = some (.int .i64 (k : Int)) ∧ v.cell? ⟨wB.heap.size, 1, none⟩ = some (.int .i64 (-1))) ∧ w.heap.size < v.heap.size ∧ w.heap.size + 1 < v.heap.size ∧ wB.heap.size < v.heap.size ∧ Below w5.heap.size w5 v)) (by kernel_rfl) (keepM ((Below.refl _ _).drew) c5.out) (fun hHeld0 => ?_)
              refine wpAnyH_take (i := 0) (oi := _) (v := ?_) rfl (by kernel_rfl) (by kernel_rfl) (by kernel_rfl) (fun _ _ _ h => h) (Or.inl ⟨by rfl, ?_⟩) (by assumption) ?_
              rotate_left
              · intro w hSw; (try dsimp only at hSw); go_simp; (try with_reducible rfl)
              (try simp only [Act.put, List.setIfInBounds_toArray, List.set_cons_zero, List.set_cons_succ])
              refine wpAnyH_take (i := 1) (oi := _) (v := ?_) rfl (by kernel_rfl) (by kernel_rfl) (by kernel_rfl) (fun _ _ _ h => h) (Or.inl ⟨by rfl, ?_⟩) (by assumption) ?_
              rotate_left
              · intro w hSw; (try dsimp only at hSw); go_simp; (try with_reducible rfl)
              (try simp only [Act.put, List.setIfInBounds_toArray, List.set_cons_zero, List.set_cons_succ])
              refine wpAnyH_take (i := 2) (oi := _) (v := ?_) rfl (by kernel_rfl) (by kernel_rfl) (by kernel_rfl) (fun _ _ _ h => h) (Or.inl ⟨by rfl, ?_⟩) (by assumption) ?_
              rotate_left
              · intro w hSw; (try dsimp only at hSw); go_simp; (try with_reducible rfl)
              (try simp only [Act.put, List.setIfInBounds_toArray, List.set_cons_zero, List.set_cons_succ])
              refine wpAnyH_take (i := 3) (oi := _) (v := ?_) rfl (by kernel_rfl) (by kernel_rfl) (by kernel_rfl) (fun _ _ _ h => h) (Or.inl ⟨by rfl, ?_⟩) (by assumption) ?_
              rotate_left
              · intro w hSw; (try dsimp only at hSw); go_simp; (try with_reducible rfl)
              (try simp only [Act.put, List.setIfInBounds_toArray, List.set_cons_zero, List.set_cons_succ])
              refine wpAnyH_take (i := 4) (oi := _) (v := ?_) rfl (by kernel_rfl) (by kernel_rfl) (by kernel_rfl) (fun _ _ _ h => h) (Or.inl ⟨by rfl, ?_⟩) (by assumption) ?_
              rotate_left
              · intro w hSw; (try dsimp only at hSw); go_simp; (try with_reducible rfl)
              (try simp only [Act.put, List.setIfInBounds_toArray, List.set_cons_zero, List.set_cons_succ])
              refine wpAnyH_take (i := 5) (oi := _) (v := ?_) rfl (by kernel_rfl) (by kernel_rfl) (by kernel_rfl) (fun _ _ _ h => h) (Or.inl ⟨by rfl, ?_⟩) (by assumption) ?_
              rotate_left
              · intro w hSw; (try dsimp only at hSw); go_simp; (try with_reducible rfl)
              (try simp only [Act.put, List.setIfInBounds_toArray, List.set_cons_zero, List.set_cons_succ])
              refine wpAnyH_take (i := 6) (oi := _) (v := ?_) rfl (by kernel_rfl) (by kernel_rfl) (by kernel_rfl) (fun _ _ _ h => h) (Or.inl ⟨by rfl, ?_⟩) (by assumption) ?_
              rotate_left
              · intro w hSw; (try dsimp only at hSw); go_simp; (try with_reducible rfl)
              (try simp only [Act.put, List.setIfInBounds_toArray, List.set_cons_zero, List.set_cons_succ])
              refine wpAnyH_ready (rs := [7]) (by kernel_rfl) (by simp) ?_
              refine AllReadyH.cons (o := _) rfl (fun K hK => ?_) AllReadyH.nil
              go_simp
              refine (hH.out _ (bt1 hbw5.out (keepMF hHeld0))).mono ?_; rintro e w' ⟨rfl, hb9⟩
              refine hK.out _ _ (keepM hb9 hHeld0) (fun hHeld => ?_)
              clear hK
              (try simp only [Act.put, List.setIfInBounds_toArray, List.set_cons_zero, List.set_cons_succ])
              refine wpAnyH_take (i := 8) (oi := _) (v := ?_) rfl (by kernel_rfl) (by kernel_rfl) (by kernel_rfl) (fun _ _ _ h => h) (Or.inl ⟨by rfl, ?_⟩) (by assumption) ?_
              rotate_left
              · intro w hSw; (try dsimp only at hSw); go_simp; (try with_reducible rfl)
              (try simp only [Act.put, List.setIfInBounds_toArray, List.set_cons_zero, List.set_cons_succ])
              refine wpAnyH_take (i := 9) (oi := _) (v := undef) rfl (by kernel_rfl) (by kernel_rfl) (by kernel_rfl) (fun _ _ _ h => h) (Or.inr ⟨by rfl, rfl⟩) (by assumption) ?_
              (try simp only [Act.put, List.setIfInBounds_toArray, List.set_cons_zero, List.set_cons_succ])
              refine wpAnyH_take (i := 10) (oi := _) (v := undef) rfl (by kernel_rfl) (by kernel_rfl) (by kernel_rfl) (fun _ _ _ h => h) (Or.inr ⟨by rfl, rfl⟩) (by assumption) ?_
              (try simp only [Act.put, List.setIfInBounds_toArray, List.set_cons_zero, List.set_cons_succ])
              refine wpAnyH_take (i := 11) (oi := _) (v := undef) rfl (by kernel_rfl) (by kernel_rfl) (by kernel_rfl) (fun _ _ _ h => h) (Or.inr ⟨by rfl, rfl⟩) (by assumption) ?_
              (try simp only [Act.put, List.setIfInBounds_toArray, List.set_cons_zero, List.set_cons_succ])
              refine wpAnyH_take (i := 12) (oi := _) (v := undef) rfl (by kernel_rfl) (by kernel_rfl) (by kernel_rfl) (fun _ _ _ h => h) (Or.inr ⟨by rfl, rfl⟩) (by assumption) ?_
              (try simp only [Act.put, List.setIfInBounds_toArray, List.set_cons_zero, List.set_cons_succ])
              refine wpAnyH_take (i := 13) (oi := _) (v := undef) rfl (by kernel_rfl) (by kernel_rfl) (by kernel_rfl) (fun _ _ _ h => h) (Or.inr ⟨by rfl, rfl⟩) (by assumption) ?_
              (try simp only [Act.put, List.setIfInBounds_toArray, List.set_cons_zero, List.set_cons_succ])
              refine wpAnyH_take (i := 14) (oi := _) (v := ?_) rfl (by kernel_rfl) (by kernel_rfl) (by kernel_rfl) (fun _ _ _ h => h) (Or.inl ⟨by rfl, ?_⟩) (by assumption) ?_
              rotate_left
              · intro w hSw; (try dsimp only at hSw); go_simp; (try with_reducible rfl)
              (try simp only [Act.put, List.setIfInBounds_toArray, List.set_cons_zero, List.set_cons_succ])
              refine wpAnyH_done (by kernel_rfl) ?_ _
              have hfin9 := Lib.hid (keepMF hHeld)
              have ho9 := Lib.hid (ho5.out.below hfin9.out)
              have hb29 := Lib.hid (bt2 hb25.out hfin9.out hb25.out.size)
              go_wp2_with fail
              go_roundw
              case rel => exact ⟨1 + 1, by omega, by go_num, by rw [hsl2.out]; exact ho9, hb29⟩
              all_goals (simp [intOf] <;> omega)
            · have hB0 : (decide (0 ≤ P) && decide (P < (C : Int))) = true := by simp; omega
              rw [hB0] at hH
              clear hB0
              replace hSl := Lib.hid (hSl.out hp0)
              have hA9 := Lib.hid (fun w' hb => hAlw.out w' hb (d.set k P.toNat))
              rw [← hms, ← hcf] at hA9
              rw [← hms] at hSl
              generalize mvS d k up = dm at *
              replace hcf := Lib.hid hcf
              replace hms := Lib.hid hms
              replace hds := Lib.hid hds
              cases cn
              · have hsl2 : Hid (slP ps bs d k (1 + 1) = slP ps bs d k 1) := Lib.hid (by rw [hsl.out]; simp)
                go_wp2_with fail
                rw [← hw5.out]
                go_region_held3 (fun v => (v.cell? ⟨w.heap.size, 0, none⟩ = some (.slice p n c) ∧ v.cell? ⟨w.heap.size, 1, none⟩ = some bv) ∧ (v.cell? ⟨w.heap.size + 1, 0, none⟩ = some (.int .i64 ((pl d 0 : Nat) : Int)) ∧ v.cell? ⟨w.heap.size + 1, 1, none⟩ = some (.int .i64 ((pl d 1 : Nat) : Int)) ∧ v.cell? ⟨w.heap.size + 1, 2, none⟩ = some (.int .i64 ((pl d 2 : Nat) : Int)) ∧ v.cell? ⟨w.heap.size + 1, 3, none⟩ = some (.int .i64 ((pl d 3 : Nat) : Int)) ∧ v.cell? ⟨w.heap.size + 1, 4, none⟩ = some (.int .i64 ((pl d 4 : Nat) : Int)) ∧ v.cell? ⟨w.heap.size + 1, 5, none⟩ = some (.int .i64 ((pl d 5 : Nat) : Int))) ∧ v.cell? ⟨w.heap.size + 1, k, none⟩ = some (.int .i64 ((pl d k : Nat) : Int)) ∧ (v.cell? ⟨wB.heap.size, 0, none⟩ = some (.int .i64 (k : Int)) ∧ v.cell? ⟨wB.heap.size, 1, none⟩ = some (.int .i64 (-1))) ∧ w.heap.size < v.heap.size ∧ w.heap.size + 1 < v.heap.size ∧ wB.heap.size < v.heap.size ∧ Below w5.heap.size w5 v) ((first | assumption | (refine ⟨⟨?_, ?_⟩, ⟨?_, ?_, ?_, ?_, ?_, ?_⟩, ?_, ⟨?_, ?_⟩, ?_, ?_, ?_, ?_⟩ <;> first | assumption | go_keep | omega | exact (Below.refl _ _).drew)))
                  (first | (go_at_call 94; refine (hH.out _ (bt1 hbw5.out (keepMF (by assumption)))).mono ?_; rintro e w' ⟨rfl, hb9⟩; have hbn := keepM hb9 (by assumption)) | (go_at_call 54; refine (hSl.out _).mono ?_; rintro e w' ⟨rfl, hb9⟩; have hbn := keepM hb9 (by assumption)) | (go_at_call 87; refine (hA9.out _ (bt1 hbw5.out (keepMF (by assumption)))).mono ?_; rintro e w' ⟨rfl, hb9⟩; have hbn := keepM hb9 (by assumption)))
                all_goals
                  have hfin9 := Lib.hid (keepMF (by assumption))
                  have ho9 := Lib.hid (ho5.out.below hfin9.out)
                  have hb29 := Lib.hid (bt2 hb25.out hfin9.out hb25.out.size)
                  go_wp2_with fail
                  go_roundw
                  case rel => exact ⟨1 + 1, by omega, by go_num, by rw [hsl2.out]; exact ho9, hb29⟩
                  all_goals (simp [intOf] <;> omega)
              · have hsl2 : Hid ((slK ps bs d k ++ slP ps bs d k 1).map slV ++ [((k : Int), (-1))] = (slK ps bs d k ++ slP ps bs d k (1 + 1)).map slV) := Lib.hid (by rw [hsl.out, ← hmv.out]; simp)
                go_wp2_with fail
                rw [← hw5.out]
                go_region_held3 (fun v => (v.cell? ⟨w.heap.size, 0, none⟩ = some (.slice p n c) ∧ v.cell? ⟨w.heap.size, 1, none⟩ = some bv) ∧ (v.cell? ⟨w.heap.size + 1, 0, none⟩ = some (.int .i64 ((pl d 0 : Nat) : Int)) ∧ v.cell? ⟨w.heap.size + 1, 1, none⟩ = some (.int .i64 ((pl d 1 : Nat) : Int)) ∧ v.cell? ⟨w.heap.size + 1, 2, none⟩ = some (.int .i64 ((pl d 2 : Nat) : Int)) ∧ v.cell? ⟨w.heap.size + 1, 3, none⟩ = some (.int .i64 ((pl d 3 : Nat) : Int)) ∧ v.cell? ⟨w.heap.size + 1, 4, none⟩ = some (.int .i64 ((pl d 4 : Nat) : Int)) ∧ v.cell? ⟨w.heap.size + 1, 5, none⟩ = some (.int .i64 ((pl d 5 : Nat) : Int))) ∧ v.cell? ⟨w.heap.size + 1, k, none⟩ = some (.int .i64 ((pl d k : Nat) : Int)) ∧ (v.cell? ⟨wB.heap.size, 0, none⟩ = some (.int .i64 (k : Int)) ∧ v.cell? ⟨wB.heap.size, 1, none⟩ = some (.int .i64 (-1))) ∧ w.heap.size < v.heap.size ∧ w.heap.size + 1 < v.heap.size ∧ wB.heap.size < v.heap.size ∧ Below w5.heap.size w5 v) ((first | assumption | (refine ⟨⟨?_, ?_⟩, ⟨?_, ?_, ?_, ?_, ?_, ?_⟩, ?_, ⟨?_, ?_⟩, ?_, ?_, ?_, ?_⟩ <;> first | assumption | go_keep | omega | exact (Below.refl _ _).drew)))
                  (first | (go_at_call 94; refine (hH.out _ (bt1 hbw5.out (keepMF (by assumption)))).mono ?_; rintro e w' ⟨rfl, hb9⟩; have hbn := keepM hb9 (by assumption)) | (go_at_call 54; refine (hSl.out _).mono ?_; rintro e w' ⟨rfl, hb9⟩; have hbn := keepM hb9 (by assumption)) | (go_at_call 87; refine (hA9.out _ (bt1 hbw5.out (keepMF (by assumption)))).mono ?_; rintro e w' ⟨rfl, hb9⟩; have hbn := keepM hb9 (by assumption)))
                all_goals
                  have hfin9 := Lib.hid (keepMF (by assumption))
                  have ho9 := Lib.hid (ho5.out.below hfin9.out)
                  have hb29 := Lib.hid (bt2 hb25.out hfin9.out hb25.out.size)
                  have hs29 := hb29.out.size
                  go_wp2_with (at_builtin; refine app_sl _ rfl _ _ rfl w2.heap.size _ _ rfl (ho9.out.alloc _) _ ((k : Int), (-1)) rfl (hb_new _ _) hlen9.out (by simp; omega) ?_; intro v' w7 ho7 hg7 _; have hb7 := Lib.hid (bel_ownG (hb29.out.alloc hs29 _) (ho9.out.alloc _) hg7 (by simp; omega)); replace ho7 := Lib.hid ho7; clear hg7)
                  go_roundw
                  case rel => exact ⟨1 + 1, by omega, by go_num, by rw [← hsl2.out]; exact ho7, hb7⟩
                  all_goals (simp [intOf] <;> omega)
    · obtain rfl : k = n := by omega
      rw [hfin.out] at ho
      go_wp2_with fail
      go_ret; exact ⟨_, rfl, ho.out.mono (by omega), bt1 hb2.out hbr.out⟩
end Go.Proofs.Ytcfeaaakfjilgaa
