/- Bolts without a block, by the model. -/
import Derived.Test.YtjbfophbdmakjabY1
import Derived.Test.YtjbfophbdmakjabQ7
namespace Go.Proofs.Ytjbfophbdmakjab
open Go Go.RowKit RM
/-- 'append(list, b)' at blocks -/
theorem app_blk (w : World) {ops : Array Oper} {rest : List Oper} {o : Oper} {a : Act} {Q : Exit → Act → World → Prop} (hgd : o.guard = none) (s x : Operand)
    (ho : o.op = .call { callee := .builtin .append, args := #[s, x], argTypes := #[29, 29] })
    (B : Nat) (v : Value) (xs : List Blk) (hs : a.eval s = v) (hown : OwnG blkE w B v xs) (g : Nat) (y : Blk) (hx : a.eval x = .slice (some ⟨g, 0, none⟩) 1 1)
    (hcell : w.heap[g]? = some (.cells #[.int .i64 y.a, .int .i64 y.i, .int .i64 y.b, .int .i64 y.j] 89)) (hlen : xs.length ≤ 1000000) (hB : B ≤ w.heap.size)
    (h : ∀ v' w', OwnG blkE w' B v' (xs ++ [y]) → w.grownBy w' v.ownBlock → (v'.ownBlock = v.ownBlock ∨ v'.ownBlock = some w.heap.size) → wpList Try.prog ops Q rest (a.put o.dst v') w') : wpList Try.prog ops Q (o :: rest) a w := by
  refine app_G w hgd s x 29 ho Try.underlying29 B v xs hs hown g y hx (fun o u hu => ?_) hlen hB h
  have ho : o < 4 := by
    apply Nat.lt_of_not_le
    intro hle
    rw [List.getElem?_eq_none (by rw [blkE.len y]; exact hle)] at hu
    cases hu
  rw [hb_cell hcell]
  match o, ho with
  | 0, _ => exact hu
  | 1, _ => exact hu
  | 2, _ => exact hu
  | 3, _ => exact hu
theorem own_rd (v : Value) (ps : List Int) (w : World) (h1 : 1 ≤ ps.length) (h9 : ps.length ≤ 1000) (h : RdI w v ps) :
    Calls Try.prog 75 #[v] w fun e w' => ∃ v, e = .returned v ∧ OwnI w' w.heap.size v ps ∧ Below w.heap.size w w' := by
  obtain ⟨p, c, rfl, _, hr⟩ := h
  obtain ⟨g, rfl, hl, hc⟩ := hr (fun e => by rw [e] at h1; simp at h1)
  exact own_some ps g c ps.length w h9 (Lib.hid rfl) hl (Lib.hid hc)
set_option maxHeartbeats 1000000 in
set_option maxRecDepth 100000 in
theorem boWithout_any (v : Value) (ps : List Int) (bs : List Blk) (k : Int) (w : World) (h1 : 1 ≤ ps.length) (h9 : ps.length ≤ 1000) (hm : bs.length ≤ 1000) (h : Bo w v ps bs) :
    Calls Try.prog 51 #[v, .int .i64 k] w fun e w' => ∃ u, e = .returned u ∧ OwnBo w' w.heap.size u ps (woK bs k bs.length) ∧ Below w.heap.size w w' := by
  obtain ⟨pv, bv, rfl, hI, p, c, rfl, -, hr⟩ := h
  obtain ⟨m, hmm⟩ : ∃ m, bs.length = m := ⟨_, rfl⟩
  rw [hmm] at hm ⊢
  obtain ⟨w2, hw2⟩ : ∃ w2, Hid (w2 = (w.alloc (.cells #[pv, .slice p m c] 31)).alloc (.cells #[.slice none 0 0, .slice none 0 0] 31)) := ⟨_, Lib.hid rfl⟩
  have hb2 : Hid (Below w.heap.size w w2) := Lib.hid (by rw [hw2.out]; exact (ba1 w _).alloc (by simp) _)
  have F := Lib.hid (show w2.heap[w.heap.size]? = some (.cells #[pv, .slice p m c] 31) by rw [hw2.out]; exact hb_old _ (hb_new _ _))
  have R := Lib.hid (show w2.heap[w.heap.size + 1]? = some (.cells #[.slice none 0 0, .slice none 0 0] 31) by rw [hw2.out]; exact hb_new' _ _ _ (by simp))
  have hl2 : w.heap.size + 1 < w2.heap.size := hb_lt R.out
  have HI := Lib.hid (own_rd pv ps w2 h1 h9 (hI.below hb2.out))
  have hwl := Lib.hid (woK_len bs k)
  have hsn := Lib.hid (woK_ne bs k)
  have hsa := Lib.hid (woK_at bs k)
  have hs0 : Hid (woK bs k 0 = []) := Lib.hid rfl
  replace hr := Lib.hid hr
  replace hmm := Lib.hid hmm
  clear hI
  have f0 : w2.cell? ⟨w.heap.size, 0, none⟩ = some pv := hb_cell F.out 0
  go_enter Try.func51, Try.ntmps51
  go_wp2_with fail
  rw [← hw2.out]
  refine HI.out.mono ?_; rintro e w3 ⟨pw, rfl, ho3, hb3⟩
  obtain ⟨p3, n3, c3, rfl⟩ : ∃ p n c, pw = .slice p n c := by
    obtain ⟨p, c, e, _⟩ := ho3.rd
    exact ⟨p, _, c, e⟩
  replace ho3 := Lib.hid ho3
  replace hb3 := Lib.hid hb3
  have F3 := Lib.hid (hb_below hb3.out (by omega) F.out)
  have R3 := Lib.hid (hb_below hb3.out (by omega) R.out)
  obtain ⟨w4, hw4⟩ : ∃ w4, Hid (w4 = w3.alloc (.cells #[.slice p3 n3 c3, .slice none 0 0] 31)) := ⟨_, Lib.hid rfl⟩
  have hb4 := Lib.hid (show Below w3.heap.size w3 w4 by rw [hw4.out]; exact ba1 w3 _)
  have O4 := Lib.hid (show w4.heap[w3.heap.size]? = some (.cells #[.slice p3 n3 c3, .slice none 0 0] 31) by rw [hw4.out]; exact hb_new _ _)
  have F4 := Lib.hid (hb_below hb4.out (hb_lt F3.out) F3.out)
  have R4 := Lib.hid (hb_below hb4.out (hb_lt R3.out) R3.out)
  have ho4 := Lib.hid (ho3.out.below hb4.out)
  have hbw4 := Lib.hid (bt1 (bt1 hb2.out hb3.out) hb4.out)
  have hs23 := hb3.out.size
  have hl4 : w3.heap.size < w4.heap.size := hb_lt O4.out
  have hw4s : Hid (w4.heap.size = w3.heap.size + 1) := Lib.hid (by rw [hw4.out]; simp)
  clear f0
  have f1 : w3.cell? ⟨w.heap.size, 1, none⟩ = some (.slice p m c) := hb_cell F3.out 1
  have lw := hb_lt F3.out
  have mw : ¬ w.heap.size = w3.heap.size := by omega
  go_wp2_with fail
  rw [← hw4.out]
  go_loopw [15] (fun i wr => ∃ (j : Nat) (bv : Value), j ≤ m ∧ i = .int .i64 j ∧ Hid (wr.heap[w3.heap.size]? = some (.cells #[.slice p3 n3 c3, bv] 31)) ∧ Hid (OwnG blkE wr w4.heap.size bv (woK bs k j)) ∧ Hid (Below w3.heap.size w3 wr)) (fun i _ => m - (intOf i).toNat)
  case atStart => exact ⟨0, _, Nat.zero_le _, rfl, O4, Lib.hid (by rw [hs0.out]; exact OwnG.nil _ _), hb4⟩
  case round =>
    obtain ⟨j, bv, hj, rfl, hO, hG, hbr⟩ := hrel
    obtain ⟨wA, rfl⟩ : ∃ x, x = wr := ⟨_, rfl⟩
    have Fr := Lib.hid (hb_below hbr.out (hb_lt F3.out) F3.out)
    have Rr := Lib.hid (hb_below hbr.out (hb_lt R3.out) R3.out)
    have hbwr := Lib.hid (bt1 hb2.out (bt1 hb3.out hbr.out))
    have hor := Lib.hid (ho3.out.below hbr.out)
    have lO := hb_lt hO.out
    have lR := hb_lt Rr.out
    by_cases hlt : j < m
    · have hkx : j < bs.length := by rw [hmm.out]; exact hlt
      obtain ⟨g, rfl, hgl, e0, e1, e2, e3⟩ := (hr.out.below hbwr.out).blk hkx
      have hsn1 := Lib.hid (hsn.out j hkx)
      have hsa1 := Lib.hid (hsa.out j hkx)
      have hlen9 : Hid ((woK bs k j).length ≤ 1000000) := Lib.hid (by have := hwl.out j; omega)
      obtain ⟨y, hy⟩ : ∃ y, bs[j] = y := ⟨_, rfl⟩
      rw [hy] at e0 e1 e2 e3 hsn1
      obtain ⟨ka, ki, kb, kj⟩ := y
      clear hy hkx
      by_cases hjk : (j : Int) = k
      · have hnk : ((j : Int) != k) = false := by simp [hjk]
        have hS := Lib.hid (hsa1.out hjk)
        clear hjk hsn1 hsa1
        go_wp2_with fail
        go_roundw
        case rel => exact ⟨j + 1, bv, by omega, by go_num, Lib.hid (hb_old _ hO.out), Lib.hid (by rw [hS.out]; exact hG.out.alloc _), Lib.hid (hbr.out.alloc hbr.out.size _)⟩
        all_goals (simp [intOf] <;> omega)
      · have hnk : ((j : Int) != k) = true := by simp [hjk]
        have hS := Lib.hid (hsn1.out hjk)
        clear hjk hsn1 hsa1
        have o1 : wA.cell? ⟨w3.heap.size, 1, none⟩ = some bv := hb_cell hO.out 1
        have mO : ¬ w3.heap.size = wA.heap.size := by omega
        have hw4A : w4.heap.size ≤ wA.heap.size + 1 + 1 := by have := hw4s.out; have := hbr.out.size; omega
        go_wp2_with (at_builtin; refine app_blk _ rfl _ _ rfl w4.heap.size _ _ rfl ((hG.out.alloc _).alloc _) (wA.heap.size + 1) ⟨ka, ki, kb, kj⟩ rfl (hb_new' _ _ _ (by simp)) hlen9.out (by simp; omega) ?_; intro v' w7 ho7 hg7 _; obtain ⟨p9, n9, c9, rfl⟩ : ∃ p n c, v' = .slice p n c := (by obtain ⟨p, c, e, _⟩ := ho7.rd; exact ⟨p, _, c, e⟩); have hO7 := Lib.hid (show w7.heap[w3.heap.size]? = some (.cells #[.slice p3 n3 c3, bv] 31) from (hg7.block _ (by simp; omega) (fun e => by have := (hG.out.lt _ e.symm).1; omega)).trans (hb_old _ (hb_old _ hO.out))); have hb7 := Lib.hid (show Below w3.heap.size w3 w7 from bel_ownG ((hbr.out.alloc hbr.out.size _).alloc (by have := hbr.out.size; simp; omega) _) (((hG.out.mono (by omega : w3.heap.size ≤ w4.heap.size)).alloc _).alloc _) hg7 (by have := hbr.out.size; simp; omega)); replace ho7 := Lib.hid ho7; clear hg7; have p1 : w7.cell? ⟨w3.heap.size, 1, none⟩ = some bv := hb_cell hO7.out 1; have z7 := hb_frozen hO7.out; have l7 := hb_lt hO7.out)
        go_roundw
        case rel => exact ⟨j + 1, _, by omega, by go_num, Lib.hid (hb_set hO7.out _), Lib.hid (by rw [hS.out]; exact ownsRow_setCell_below (a := ⟨w3.heap.size, 1, none⟩) ho7.out hl4 _), Lib.hid (hb7.out.setCell (Nat.le_refl _) _)⟩
        all_goals (simp [intOf] <;> omega)
    · obtain rfl : j = m := by omega
      obtain ⟨pb, nb, cb, rfl⟩ : ∃ p n c, bv = .slice p n c := by
        obtain ⟨p, c, e, _⟩ := hG.out.rd
        exact ⟨p, _, c, e⟩
      have o0 : wA.cell? ⟨w3.heap.size, 0, none⟩ = some (.slice p3 n3 c3) := hb_cell hO.out 0
      have o1 : wA.cell? ⟨w3.heap.size, 1, none⟩ = some (.slice pb nb cb) := hb_cell hO.out 1
      have r0 : wA.cell? ⟨w.heap.size + 1, 0, none⟩ = some (.slice none 0 0) := hb_cell Rr.out 0
      have r1 : wA.cell? ⟨w.heap.size + 1, 1, none⟩ = some (.slice none 0 0) := hb_cell Rr.out 1
      have zr := hb_frozen Rr.out
      go_wp2_with fail
      refine bodyPost_ret (v := .agg #[.slice p3 n3 c3, .slice pb nb cb]) ?_ rfl ⟨_, rfl, ⟨_, _, rfl, ?_, ?_⟩, ?_⟩
      · simp [results, Try.results51, go_sem, lR, r0, r1]
      · have k : ∀ (W : World) (a : Addr) (u : Value), OwnI W w2.heap.size (.slice p3 n3 c3) ps → a.block < w2.heap.size → OwnI (W.setCell a u) w2.heap.size (.slice p3 n3 c3) ps := fun W a u h ha => ownsRow_setCell_below h ha u
        exact (k _ _ _ (k _ _ _ hor.out (by show w.heap.size + 1 < _; omega)) (by show w.heap.size + 1 < _; omega)).mono hb2.out.size
      · have k : ∀ (W : World) (a : Addr) (u : Value), OwnG blkE W w4.heap.size (.slice pb nb cb) (woK bs k j) → a.block < w4.heap.size → OwnG blkE (W.setCell a u) w4.heap.size (.slice pb nb cb) (woK bs k j) := fun W a u h ha => ownsRow_setCell_below h ha u
        exact (k _ _ _ (k _ _ _ hG.out (by show w.heap.size + 1 < _; omega)) (by show w.heap.size + 1 < _; omega)).mono hbw4.out.size
      · exact (hbwr.out.setCell (by show w.heap.size ≤ w.heap.size + 1; omega) _).setCell (by show w.heap.size ≤ w.heap.size + 1; omega) _
end Go.Proofs.Ytjbfophbdmakjab
