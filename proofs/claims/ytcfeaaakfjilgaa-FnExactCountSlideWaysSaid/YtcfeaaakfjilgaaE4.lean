/- The blocks that forbid a state, by the program; whether it is allowed. -/
import Derived.Test.YtcfeaaakfjilgaaE3
namespace Go.Proofs.Ytcfeaaakfjilgaa
open Go Go.RowKit RM
def agK (bs : List Blk) (d : List Nat) : Nat → List Int
  | 0 => []
  | k + 1 => agK bs d k ++ (match bs[k]? with | some b => if hit b d then [(k : Int)] else [] | none => [])
/-- the indices of the blocks that forbid a state -/
def agn (bs : List Blk) (d : List Nat) : List Int := agK bs d bs.length
theorem agK_hit (bs : List Blk) (d : List Nat) (k : Nat) (hk : k < bs.length) (h : hit bs[k] d = true) : agK bs d (k + 1) = agK bs d k ++ [(k : Int)] := by
  rw [agK, List.getElem?_eq_getElem hk]; simp [h]
theorem agK_miss (bs : List Blk) (d : List Nat) (k : Nat) (hk : k < bs.length) (h : hit bs[k] d = false) : agK bs d (k + 1) = agK bs d k := by
  rw [agK, List.getElem?_eq_getElem hk]; simp [h]
theorem agK_len (bs : List Blk) (d : List Nat) (k : Nat) : (agK bs d k).length ≤ k := by
  induction k with
  | zero => simp [agK]
  | succ k ih =>
    rw [agK, List.length_append]
    split
    · split <;> simp <;> omega
    · simp; omega
theorem agK_fr (bs : List Blk) (d : List Nat) (k : Nat) (hk : k ≤ bs.length) : (agK bs d k).length = 0 ↔ fr (bs.take k) d = true := by
  induction k with
  | zero => simp [agK, fr]
  | succ k ih =>
    have hl : k < bs.length := by omega
    have i := ih (by omega)
    cases h : hit bs[k] d with
    | true =>
      rw [agK_hit bs d k hl h]
      constructor
      · intro e; simp at e
      · intro e
        rw [List.take_succ_eq_append_getElem hl] at e
        unfold fr at e
        rw [List.all_append] at e
        simp [h] at e
    | false =>
      rw [agK_miss bs d k hl h, i]
      constructor
      · intro e; exact fr_snoc bs d k hl e h
      · intro e
        rw [List.take_succ_eq_append_getElem hl] at e
        unfold fr at e ⊢
        rw [List.all_append, Bool.and_eq_true] at e
        exact e.1
theorem agn_fr (bs : List Blk) (d : List Nat) : decide ((agn bs d).length = 0) = fr bs d := by
  have h := agK_fr bs d bs.length (Nat.le_refl _)
  rw [List.take_length] at h
  unfold agn
  cases e : fr bs d with
  | true => rw [e] at h; simp only [decide_eq_true_eq]; exact h.2 rfl
  | false => rw [e] at h; simp only [decide_eq_false_iff_not]; intro e2; exact absurd (h.1 e2) (by simp)
set_option maxHeartbeats 1000000 in
theorem blocksA_any (v : Value) (ps : List Nat) (bs : List Blk) (d : List Nat) (w : World) (hG : GB ps bs) (h : Bo w v (ints ps) bs) :
    Calls Try.prog 99 #[v, (.agg #[.int .i64 ((pl (d) 0 : Nat) : Int), .int .i64 ((pl (d) 1 : Nat) : Int), .int .i64 ((pl (d) 2 : Nat) : Int), .int .i64 ((pl (d) 3 : Nat) : Int), .int .i64 ((pl (d) 4 : Nat) : Int), .int .i64 ((pl (d) 5 : Nat) : Int)])] w fun e w' => ∃ u, e = .returned u ∧ OwnI w' w.heap.size u (agn bs d) ∧ Below w.heap.size w w' := by
  obtain ⟨pv, bv, rfl, -, ⟨p, c, rfl, hml, hr⟩⟩ := h
  obtain ⟨m, hm⟩ : ∃ m, bs.length = m := ⟨_, rfl⟩
  have hm40 := hG.b
  have h6 := hG.l6
  rw [hm] at hml hm40 ⊢
  replace hm := Lib.hid hm
  replace hG := Lib.hid hG
  obtain ⟨w2, hw2⟩ : ∃ w2, Hid (w2 = (w.alloc (.cells #[pv, .slice p m c] 31)).alloc (.cells #[.int .i64 ((pl (d) 0 : Nat) : Int), .int .i64 ((pl (d) 1 : Nat) : Int), .int .i64 ((pl (d) 2 : Nat) : Int), .int .i64 ((pl (d) 3 : Nat) : Int), .int .i64 ((pl (d) 4 : Nat) : Int), .int .i64 ((pl (d) 5 : Nat) : Int)] 68)) := ⟨_, Lib.hid rfl⟩
  have hb2 : Hid (Below w.heap.size w w2) := Lib.hid (by rw [hw2.out]; exact (ba1 w _).alloc (by simp) _)
  have F := Lib.hid (show w2.heap[w.heap.size]? = some (.cells #[pv, .slice p m c] 31) by rw [hw2.out]; exact hb_old _ (hb_new _ _))
  have A := Lib.hid (show w2.heap[w.heap.size + 1]? = some (.cells #[.int .i64 ((pl (d) 0 : Nat) : Int), .int .i64 ((pl (d) 1 : Nat) : Int), .int .i64 ((pl (d) 2 : Nat) : Int), .int .i64 ((pl (d) 3 : Nat) : Int), .int .i64 ((pl (d) 4 : Nat) : Int), .int .i64 ((pl (d) 5 : Nat) : Int)] 68) by rw [hw2.out]; exact hb_new' _ _ _ (by simp))
  have f1 : w2.cell? ⟨w.heap.size, 1, none⟩ = some (.slice p m c) := hb_cell F.out 1
  have hr2 := Lib.hid (hr.below hb2.out)
  have hl2 : w.heap.size + 1 < w2.heap.size := hb_lt A.out
  clear hr
  have hhit := Lib.hid (agK_hit bs d)
  have hmis := Lib.hid (agK_miss bs d)
  have hlen := Lib.hid (agK_len bs d)
  have hfin : Hid (agK bs d m = agn bs d) := Lib.hid (by unfold agn; rw [hm.out])
  go_enter Try.func99, Try.ntmps99
  go_wp2_with fail
  rw [← hw2.out]
  go_loopw [5, 6, 7, 11] (fun o _ _ i wr => ∃ k : Nat, k ≤ m ∧ i = .int .i64 k ∧ Hid (OwnI wr w2.heap.size o (agK bs d k)) ∧ Hid (Below w2.heap.size w2 wr)) (fun _ _ _ i _ => m - (intOf i).toNat)
  case atStart => exact ⟨0, Nat.zero_le _, rfl, Lib.hid (OwnI.nil _ _), Lib.hid (Below.refl _ _)⟩
  case round =>
    obtain ⟨k, hk, rfl, ho, hbr⟩ := hrel
    by_cases hlt : k < m
    · have hkx : k < bs.length := by rw [hm.out]; exact hlt
      obtain ⟨g, rfl, hgl, e0, e1, e2, e3⟩ := (hr2.out.below hbr.out).blk hkx
      have hh := Lib.hid (hhit.out k hkx)
      have hmi := Lib.hid (hmis.out k hkx)
      have hkl := Lib.hid (hlen.out k)
      obtain ⟨A', I, B, J, hke, hab, hA, hB, hI, hJ⟩ := hG.out.k bs[k] (List.getElem_mem _)
      have hit_eq : hit bs[k] d = (decide (((pl d A' : Nat) : Int) = (I : Int)) && decide (((pl d B : Nat) : Int) = (J : Int))) := by rw [hke]; rfl
      rw [hit_eq] at hh hmi
      rw [hke] at e0 e1 e2 e3
      clear hke hit_eq
      have hA6 : A' < 6 := by have := hG.out.l6; omega
      have hB6 : B < 6 := by have := hG.out.l6; omega
      have Ar := Lib.hid (hb_below hbr.out hl2 A.out)
      have hlr : w2.heap.size ≤ wr.heap.size := hbr.out.size
      obtain ⟨w5, hw5⟩ : ∃ w5, Hid (w5 = wr.alloc (.cells #[.int .i64 (A' : Int), .int .i64 (I : Int), .int .i64 (B : Int), .int .i64 (J : Int)] 51)) := ⟨_, Lib.hid rfl⟩
      have hb5 := Lib.hid (show Below wr.heap.size wr w5 by rw [hw5.out]; exact ba1 wr _)
      have K5 := Lib.hid (show w5.heap[wr.heap.size]? = some (.cells #[.int .i64 (A' : Int), .int .i64 (I : Int), .int .i64 (B : Int), .int .i64 (J : Int)] 51) by rw [hw5.out]; exact hb_new _ _)
      have A5 := Lib.hid (hb_below hb5.out (hb_lt Ar.out) Ar.out)
      have k0 : w5.cell? ⟨wr.heap.size, 0, none⟩ = some (.int .i64 (A' : Int)) := hb_cell K5.out 0
      have k1 : w5.cell? ⟨wr.heap.size, 1, none⟩ = some (.int .i64 (I : Int)) := hb_cell K5.out 1
      have k2 : w5.cell? ⟨wr.heap.size, 2, none⟩ = some (.int .i64 (B : Int)) := hb_cell K5.out 2
      have k3 : w5.cell? ⟨wr.heap.size, 3, none⟩ = some (.int .i64 (J : Int)) := hb_cell K5.out 3
      have cA := arc_cell A5.out A' hA6
      have cB := arc_cell A5.out B hB6
      have hAs : (A' : Int) < 6 := by omega
      have hBs : (B : Int) < 6 := by omega
      have hA0 : (0 : Int) ≤ (A' : Int) := by omega
      have hB0 : (0 : Int) ≤ (B : Int) := by omega
      have ho5 := Lib.hid (ho.out.below hb5.out)
      have hb25 := Lib.hid (bt2 hbr.out hb5.out hbr.out.size)
      generalize pl d A' = x at *
      generalize pl d B = y at *
      by_cases h1 : x = I
      · subst h1
        have q1 : ((x : Int) == (x : Int)) = true := by simp
        by_cases h2 : y = J
        · subst h2
          have q2 : ((y : Int) == (y : Int)) = true := by simp
          have hap : Hid (agK bs d (k + 1) = agK bs d k ++ [(k : Int)]) := Lib.hid (hh.out (by simp))
          go_wp2_with fail
          rw [← hw5.out]
          go_quiet (fail)
          obtain ⟨w6, hw6⟩ : ∃ w6, Hid (w6 = w5.drewN nq) := ⟨_, Lib.hid rfl⟩
          have ho6 := Lib.hid (show OwnI w6 w2.heap.size _ _ by rw [hw6.out]; exact ho5.out.drewN nq)
          have hb26 := Lib.hid (show Below w2.heap.size w2 w6 by rw [hw6.out]; exact below_drewN hb25.out nq)
          rw [← hw6.out]
          go_wp2_with (at_builtin; refine app_int _ rfl _ _ rfl w2.heap.size _ _ rfl (ho6.out.alloc _) w6.heap.size _ rfl (by simp; rfl) (by have := hkl.out; omega) (by have := hb26.out.size; simp; omega) ?_; intro v' w7 ho7 hg7; have hb7 := Lib.hid (bel_own (hb26.out.alloc hb26.out.size _) (ho6.out.alloc _) hg7 (by have := hb26.out.size; simp; omega)); replace ho7 := Lib.hid ho7; replace hg7 := Lib.hid hg7)
          go_roundw
          case rel => exact ⟨k + 1, by omega, by go_num, by rw [hap.out]; exact ho7, hb7⟩
          all_goals (simp [intOf] <;> omega)
        · have q2 : ((y : Int) == (J : Int)) = false := by simp; omega
          have hms : Hid (agK bs d (k + 1) = agK bs d k) := Lib.hid (hmi.out (by simp; omega))
          go_wp2_with fail
          rw [← hw5.out]
          go_quiet (fail)
          go_wp2_with fail
          go_roundw
          case rel => exact ⟨k + 1, by omega, by go_num, by rw [hms.out]; exact Lib.hid (ho5.out.drewN _), Lib.hid (below_drewN hb25.out _)⟩
          all_goals (simp [intOf] <;> omega)
      · have q1 : ((x : Int) == (I : Int)) = false := by simp; omega
        have hms : Hid (agK bs d (k + 1) = agK bs d k) := Lib.hid (hmi.out (by simp; omega))
        go_wp2_with fail
        rw [← hw5.out]
        go_quiet (fail)
        go_wp2_with fail
        go_roundw
        case rel => exact ⟨k + 1, by omega, by go_num, by rw [hms.out]; exact Lib.hid (ho5.out.drewN _), Lib.hid (below_drewN hb25.out _)⟩
        all_goals (simp [intOf] <;> omega)
    · obtain rfl : k = m := by omega
      have ho2 := Lib.hid ho.out
      rw [hfin.out] at ho2
      go_wp2_with fail
      go_ret; exact ⟨_, rfl, ho2.out.mono (by omega), bt1 hb2.out hbr.out⟩
theorem allows_any (v : Value) (ps : List Nat) (bs : List Blk) (d : List Nat) (w : World) (hG : GB ps bs) (h : Bo w v (ints ps) bs) :
    Calls Try.prog 87 #[v, (.agg #[.int .i64 ((pl (d) 0 : Nat) : Int), .int .i64 ((pl (d) 1 : Nat) : Int), .int .i64 ((pl (d) 2 : Nat) : Int), .int .i64 ((pl (d) 3 : Nat) : Int), .int .i64 ((pl (d) 4 : Nat) : Int), .int .i64 ((pl (d) 5 : Nat) : Int)])] w fun e w' => e = .returned (.bool (fr bs d)) ∧ Below w.heap.size w w' := by
  have h0 := Lib.hid h
  obtain ⟨pv, bv, rfl, -, -⟩ := h
  obtain ⟨w2, hw2⟩ : ∃ w2, Hid (w2 = (w.alloc (.cells #[pv, bv] 31)).alloc (.cells #[.int .i64 ((pl (d) 0 : Nat) : Int), .int .i64 ((pl (d) 1 : Nat) : Int), .int .i64 ((pl (d) 2 : Nat) : Int), .int .i64 ((pl (d) 3 : Nat) : Int), .int .i64 ((pl (d) 4 : Nat) : Int), .int .i64 ((pl (d) 5 : Nat) : Int)] 68)) := ⟨_, Lib.hid rfl⟩
  have hb2 : Hid (Below w.heap.size w w2) := Lib.hid (by rw [hw2.out]; exact (ba1 w _).alloc (by simp) _)
  have hA := Lib.hid (blocksA_any _ ps bs d w2 hG (h0.out.below hb2.out))
  have hF := Lib.hid (agn_fr bs d)
  have hln : Hid ((agn bs d).length ≤ 40) := Lib.hid (by have := agK_len bs d bs.length; have := hG.b; unfold agn; omega)
  clear hG
  generalize fr bs d = G at *
  generalize agn bs d = L at *
  obtain ⟨n, hn⟩ : ∃ n, L.length = n := ⟨_, rfl⟩
  rw [hn] at hF hln
  have hln2 := hln.out
  replace hn := Lib.hid hn
  go_enter Try.func87, Try.ntmps87
  go_wp2_with fail
  rw [← hw2.out]
  refine hA.out.mono ?_; rintro e w3 ⟨u, rfl, ho, hb3⟩
  obtain ⟨p, c, rfl⟩ : ∃ p c, u = .slice p n c := by
    obtain ⟨p, c, e, _⟩ := ho.rd
    exact ⟨p, c, by rw [e, hn.out]⟩
  clear ho
  replace hb3 := Lib.hid (bt1 hb2.out hb3)
  go_wp2_with fail
  go_ret; exact ⟨ret_bool (by rw [← hF.out]; by_cases e : n = 0 <;> simp [e]), hb3.out⟩
end Go.Proofs.Ytcfeaaakfjilgaa
