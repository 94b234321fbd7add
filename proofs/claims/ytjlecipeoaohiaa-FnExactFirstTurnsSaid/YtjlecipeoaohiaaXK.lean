/- The state that a text tells, by the program. -/
import Derived.Test.YtjlecipeoaohiaaXJ
namespace Go.Proofs.Ytjlecipeoaohiaa
open Go Go.RowKit RM
/-- the first k digits of a text -/
def tF (t : ByteArray) (k : Nat) : Nat → Int := fun q => if q < k then ((t.data.toList.getD q 0).toNat : Int) - 48 else 0
theorem tF_zero (t : ByteArray) : tF t 0 = fun _ => 0 := by funext q; unfold tF; rw [if_neg (by omega)]
theorem tF_step (t : ByteArray) (k : Nat) (h : k < t.size) : updF (tF t k) k ((t[k].toNat : Int) - 48) = tF t (k + 1) := by
  funext q
  unfold updF tF
  by_cases e : q = k
  · subst e; rw [if_pos rfl, if_pos (by omega), byte_getD t q h]
  · rw [if_neg e]
    by_cases e2 : q < k
    · rw [if_pos e2, if_pos (by omega)]
    · rw [if_neg e2, if_neg (by omega)]
theorem tF_end {p s : Nat} {d : List Nat} (hs : s ≤ 10) (h : stOk p s d) : tF (tS d) (tS d).size = dF d := by
  funext q
  unfold tF dF
  by_cases e : q < (tS d).size
  · rw [if_pos e, byte_getD (tS d) q e, tS_get d q e, u8_dig _ (by
      by_cases h1 : 1 ≤ s
      · have := stOk_getD h h1 q; omega
      · have hq : q < d.length := by rwa [tS_size] at e
        have := h.2 q hq; omega)]; omega
  · rw [if_neg e, List.getD_eq_getElem?_getD, List.getElem?_eq_none (by rw [tS_size] at e; omega)]; rfl
theorem bs_set {w : World} {g : Nat} {f : Nat → Int} (h : w.heap[g]? = some (bsO f)) {k : Nat} (hk : k < 6) (x : Int) : (w.setCell ⟨g, k, none⟩ (.int .i64 x)).heap[g]? = some (bsO (updF f k x)) := by
  rcases six hk with rfl | rfl | rfl | rfl | rfl | rfl <;> exact hb_set h _
theorem iter_other {w : World} {g k : Nat} {t : ByteArray} {q : Nat} (h : k ≠ g) : (w.iterAt g t q).heap[k]? = w.heap[k]? := by
  unfold World.iterAt
  simp [Array.getElem?_set_ne, h, Ne.symm h]
set_option maxRecDepth 100000 in
set_option maxHeartbeats 4000000 in
theorem stateOf_core (v : Value) (P S : Int) (rs : List ByteArray) (t : ByteArray) (w : World) (hz : ∀ s ∈ rs, s.size ≤ maxLen) (ht : t.size ≤ maxLen) (h : RdX w v P S rs) (G : Bool) (hG : (goodX P S rs && stB P.toNat S.toNat t) = G) :
    Calls Try.prog 56 #[v, .string t] w fun e w' => e = .returned (.tuple #[bsV (if G then tF t t.size else fun _ => 0), .bool G]) ∧ Below w.heap.size w w' := by
  have hIB := Lib.hid (fun w' (hb : Below w.heap.size w w') => iIB_any v P S rs w' hz (h.below hb))
  obtain ⟨u, rfl, -⟩ := h
  unfold maxLen at ht
  obtain ⟨RF, hRF⟩ : ∃ f : Nat → Int, Hid (f = if G then tF t t.size else fun _ => 0) := ⟨_, Lib.hid rfl⟩
  rw [← hRF.out]
  obtain ⟨w1, hw1⟩ : ∃ w1, Hid (w1 = (w.alloc (boxO P S u)).alloc (bsO (fun _ => 0))) := ⟨_, Lib.hid rfl⟩
  have hb1 : Hid (Below w.heap.size w w1) := Lib.hid (by rw [hw1.out]; exact (ba1 w _).alloc (by simp) _)
  have F1 := Lib.hid (show w1.heap[w.heap.size]? = some (boxO P S u) by rw [hw1.out]; exact hb_old _ (hb_new _ _))
  have R1 := Lib.hid (show w1.heap[w.heap.size + 1]? = some (bsO (fun _ => 0)) by rw [hw1.out]; exact hb_new' _ _ _ (by simp))
  have f0 : w1.cell? ⟨w.heap.size, 0, none⟩ = some (.int .i64 P) := hb_cell F1.out 0
  have f1 : w1.cell? ⟨w.heap.size, 1, none⟩ = some (.int .i64 S) := hb_cell F1.out 1
  have f2 : w1.cell? ⟨w.heap.size, 2, none⟩ = some u := hb_cell F1.out 2
  have l1 := hb_lt R1.out
  have l0 := hb_lt F1.out
  cases hg : goodX P S rs with
  | false =>
    rw [hg] at hIB hG
    rw [Bool.false_and] at hG
    subst hG
    have hR0 : RF = fun _ => 0 := hRF.out
    subst hR0
    clear hg
    go_enter Try.func56, Try.ntmps56
    go_wp2_with fail
    rw [← hw1.out]
    go_wp2_with fail
    refine (hIB.out _ hb1.out).mono ?_; rintro e w2 ⟨rfl, hb⟩
    have R2 := Lib.hid (hb_below hb l1 R1.out)
    have l2 := hb_lt R2.out
    have z2 := hb_frozen R2.out
    have r0 : w2.cell? ⟨w.heap.size + 1, 0, none⟩ = some (.int .i64 0) := hb_cell R2.out 0
    have r1 : w2.cell? ⟨w.heap.size + 1, 1, none⟩ = some (.int .i64 0) := hb_cell R2.out 1
    have r2 : w2.cell? ⟨w.heap.size + 1, 2, none⟩ = some (.int .i64 0) := hb_cell R2.out 2
    have r3 : w2.cell? ⟨w.heap.size + 1, 3, none⟩ = some (.int .i64 0) := hb_cell R2.out 3
    have r4 : w2.cell? ⟨w.heap.size + 1, 4, none⟩ = some (.int .i64 0) := hb_cell R2.out 4
    have r5 : w2.cell? ⟨w.heap.size + 1, 5, none⟩ = some (.int .i64 0) := hb_cell R2.out 5
    go_wp2_with fail
    refine bodyPost_ret (v := .tuple #[bsV (fun _ => 0), .bool false]) ?_ rfl ⟨rfl, ?_⟩
    · simp [results, Try.results56, go_sem, l2, r0, r1, r2, r3, r4, r5]
    · have h0 := bt1 hb1.out hb
      repeat (first | (with_reducible exact h0) | (with_reducible refine Below.setCell ?_ ?_ _; rotate_left; (show w.heap.size ≤ w.heap.size + 1; omega)))
  | true =>
    rw [hg] at hIB hG
    obtain ⟨p, s, rfl, rfl, hGX, -⟩ := GX.of hg
    have h6 := hGX.p6
    have h5 := hGX.s5
    have h2 := hGX.s2
    rw [Int.toNat_natCast, Int.toNat_natCast, Bool.true_and] at hG
    clear hg hGX
    by_cases hsz : t.size = p
    · have hneq : ((t.size : Int) != (p : Int)) = false := by rw [hsz]; simp
      have hby := Lib.hid (fun i hi => stB_byte (p := p) (s := s) (t := t) i hi)
      have hye := Lib.hid (stB_all (p := p) (s := s) (t := t) hsz)
      rw [hG] at hby hye
      have htp : t.size ≤ 6 := by omega
      replace hsz := Lib.hid hsz
      clear hG
      go_enter Try.func56, Try.ntmps56
      go_wp2_with fail
      rw [← hw1.out]
      go_wp2_with fail
      refine (hIB.out _ hb1.out).mono ?_; rintro e w2 ⟨rfl, hb⟩
      have F2 := Lib.hid (hb_below hb l0 F1.out)
      have R2 := Lib.hid (hb_below hb l1 R1.out)
      have g0 : w2.cell? ⟨w.heap.size, 0, none⟩ = some (.int .i64 p) := hb_cell F2.out 0
      have lR := hb_lt R2.out
      have hb2 := Lib.hid (bt1 hb1.out hb)
      clear hb
      obtain ⟨w3, hw3⟩ : ∃ w3, Hid (w3 = (w2.alloc (bsO (fun _ => 0))).iter t 0) := ⟨_, Lib.hid rfl⟩
      have hb3 := Lib.hid (show Below w2.heap.size w2 w3 by rw [hw3.out]; exact (ba1 w2 _).alloc (by simp) (.stringIter t 0))
      have A3 := Lib.hid (show w3.heap[w2.heap.size]? = some (bsO (tF t 0)) by rw [hw3.out, tF_zero]; exact hb_old (.stringIter t 0) (hb_new _ _))
      have I3 := Lib.hid (show w3.heap[w2.heap.size + 1]? = some (.stringIter t 0) by rw [hw3.out]; exact hb_new' (w2.alloc (bsO (fun _ => 0))) (.stringIter t 0) _ (by simp))
      have F3 := Lib.hid (hb_below hb3.out (by omega) F2.out)
      have R3 := Lib.hid (hb_below hb3.out lR R2.out)
      go_wp2_with fail
      rw [← hw3.out]
      clear g0
      go_loopw [7, 8] (fun _ _ wr => ∃ k : Nat, k ≤ t.size ∧ wr.heap[w2.heap.size + 1]? = some (.stringIter t k) ∧ Hid (wr.heap[w2.heap.size]? = some (bsO (tF t k))) ∧ Hid (∀ i (h : i < t.size), i < k → okd s t[i] = true) ∧ Hid (Below w2.heap.size w3 wr)) (fun _ _ wr => t.size - wr.iterPos (w2.heap.size + 1))
      case atStart => exact ⟨0, Nat.zero_le _, I3.out, A3, Lib.hid (fun i _ h => by omega), Lib.hid (Below.refl _ _)⟩
      case round =>
        obtain ⟨k, hkk, hit, hA, hf, hb⟩ := hrel
        have hlt0 := lt_of_block hit
        have hpos : wr.iterPos (w2.heap.size + 1) = k := iterPos_of hit
        by_cases hlt : k < t.size
        · have hnx := fun ty => Lib.run_next_any_at (P := Try.prog) wr (w2.heap.size + 1) t k ty hit hlt
          have hdec := Lib.hid (decode_ascii t k hlt)
          have hdh := Lib.hid (decode_high t k hlt)
          have hdl := decode_le t k
          have hbk := Lib.hid (hby.out k hlt)
          have hos := Lib.hid (okd_int s t[k])
          have hoa := Lib.hid (okd_asc (s := s) (by omega) (c := t[k]))
          have hst9 := Lib.hid (tF_step t k hlt)
          generalize Utf8.decode t k = D at *
          have hit2 := Lib.iterAt_heap wr (w2.heap.size + 1) t k (k + D.2) hit
          have hb2' := Lib.hid (Lib.below_iterAt (B := w2.heap.size) hb.out (k := w2.heap.size + 1) (by omega) t (k + D.2))
          have hA2 := Lib.hid (show (wr.iterAt (w2.heap.size + 1) t (k + D.2)).heap[w2.heap.size]? = some (bsO (tF t k)) from (iter_other (by omega)).trans hA.out)
          obtain ⟨W1, hW1⟩ : ∃ W1, W1 = wr.iterAt (w2.heap.size + 1) t (k + D.2) := ⟨_, rfl⟩
          rw [← hW1] at hnx hit2 hb2' hA2
          have hpos2 : W1.iterPos (w2.heap.size + 1) = k + D.2 := iterPos_of hit2
          clear hW1 hit hb hA
          have hst : Hid (okd s t[k] = true → ∀ i (h : i < t.size), i < k + 1 → okd s t[i] = true) := Lib.hid (fun h8 i hi h1 => by
            by_cases e : i = k
            · subst e; exact h8
            · exact hf.out i hi (by omega))
          have hu := t[k].toNat_lt
          obtain ⟨c, hc⟩ : ∃ c : Nat, D.1 = c := ⟨_, rfl⟩
          have hcr : Hid ((t[k].toNat = c ∧ D.2 = 1) ∨ (128 ≤ c ∧ 128 ≤ t[k].toNat ∧ okd s t[k] = false)) := Lib.hid (by
            by_cases ha : t[k].toNat < 128
            · left; have := hdec.out ha; rw [this] at hc; exact ⟨hc, by rw [this]⟩
            · right; have := hdh.out (by omega); refine ⟨by omega, by omega, ?_⟩
              rw [← Bool.not_eq_true]; intro h; have := hoa.out h; omega)
          rw [hc] at hnx hdl
          have hok : Hid (okd s t[k] = (decide (0 ≤ (c : Int) - 48) && decide ((c : Int) - 48 < (s : Int)))) := Lib.hid (by
            rcases hcr.out with ⟨h, h'⟩ | ⟨h, h', h''⟩
            · rw [hos.out, h, Bool.eq_iff_iff]
              simp only [Bool.and_eq_true, decide_eq_true_eq]; omega
            · rw [h'', decide_eq_false (show ¬ ((c : Int) - 48 < (s : Int)) by omega), Bool.and_false])
          have hH := Lib.hid (fun w => hasSide_any p s ((c : Int) - 48) u w _ hok.out.symm)
          have hSd := Lib.hid (fun w => sideOf_any (c : Int) w (by omega) (by omega))
          have hD2 : Hid (okd s t[k] = true → D.2 = 1 ∧ t[k].toNat = c) := Lib.hid (fun h => by
            rcases hcr.out with ⟨h1, h'⟩ | ⟨_, _, h''⟩
            · exact ⟨h', h1⟩
            · rw [h''] at h; cases h)
          have hbF : Hid (okd s t[k] = false → G = false) := Lib.hid (fun h => hbk.out h)
          have FW := Lib.hid (hb_below (g := w.heap.size) hb2'.out (by omega) F3.out)
          have RW := Lib.hid (hb_below (g := w.heap.size + 1) hb2'.out lR R3.out)
          have v0 : W1.cell? ⟨w.heap.size, 0, none⟩ = some (.int .i64 p) := hb_cell FW.out 0
          have v1 : W1.cell? ⟨w.heap.size, 1, none⟩ = some (.int .i64 s) := hb_cell FW.out 1
          have v2 : W1.cell? ⟨w.heap.size, 2, none⟩ = some u := hb_cell FW.out 2
          clear hc hok
          obtain ⟨OK, hOK⟩ : ∃ b, okd s t[k] = b := ⟨_, rfl⟩
          rw [hOK] at hst hH hD2 hbF hcr
          go_upto_region 7 with fail
          refine wp_region_still_tail 3 (by kernel_rfl) (by kernel_rfl) ?_
          simp only [List.take_succ_cons, List.take_zero, List.drop_succ_cons, List.drop_zero]
          repeat still_step
          still_call (hSd.out _)
          repeat still_step
          try refine wpStill_nil ?_
          change wpList _ _ _ _ _ W1.drew
          go_wp2_with fail
          refine (hH.out _).mono ?_; rintro e w9 ⟨rfl, hb9⟩
          have hsW : w2.heap.size + 1 < W1.heap.size := lt_of_block hit2
          have hb8 : Below w2.heap.size w3 w9 := (hb2'.out.drew).trans (hb9.mono (by simp; omega))
          have A9 := Lib.hid (show w9.heap[w2.heap.size]? = some (bsO (tF t k)) from (hb9.block _ (by simp; omega)).trans hA2.out)
          have I9 := Lib.hid (show w9.heap[w2.heap.size + 1]? = some (.stringIter t (k + D.2)) from (hb9.block _ (by simp; omega)).trans hit2)
          have R9 := Lib.hid (hb_below (g := w.heap.size + 1) hb8 lR R3.out)
          cases OK with
          | true =>
            obtain ⟨e1, e2⟩ := hD2.out rfl
            have hS := Lib.hid (hst.out rfl)
            rw [e1] at I9
            rw [e2] at hst9
            have a9 : w9.cell? ⟨w2.heap.size, k, none⟩ = some (.int .i64 (tF t k k)) := bs_cell A9.out (by omega)
            have z9 := hb_frozen A9.out
            have l9 := hb_lt A9.out
            have ik : (k : Int) < 6 := by omega
            have ik0 : (0 : Int) ≤ (k : Int) := by omega
            replace hb8 := Lib.hid hb8
            clear hb9 hit2 hpos2
            go_wp2_with fail
            refine (hSd.out _).mono ?_; rintro e w10 ⟨rfl, rfl⟩
            go_wp2_with fail
            go_roundw
            case rel =>
              refine ⟨k + 1, by omega, ?_, Lib.hid ?_, hS, Lib.hid (hb8.out.setCell (Nat.le_refl _) _)⟩
              · rw [hb_ne _ (by omega)]; exact I9.out
              · rw [← hst9.out]; exact bs_set A9.out (by omega) _
            case measure =>
              rw [hpos]
              have : ((w10.setCell ⟨w2.heap.size, k, none⟩ (.int .i64 ((c : Int) - 48))).iterPos (w2.heap.size + 1)) = k + 1 := iterPos_of (by rw [hb_ne _ (by omega)]; exact I9.out)
              show _ - World.iterPos _ _ < _
              rw [this]; omega
          | false =>
            have hF : G = false := hbF.out rfl
            subst hF
            have hR0 : RF = fun _ => 0 := hRF.out
            subst hR0
            clear hit2 hpos2
            have z2 := hb_frozen R9.out
            have l2 := hb_lt R9.out
            have r0 : w9.cell? ⟨w.heap.size + 1, 0, none⟩ = some (.int .i64 0) := hb_cell R9.out 0
            have r1 : w9.cell? ⟨w.heap.size + 1, 1, none⟩ = some (.int .i64 0) := hb_cell R9.out 1
            have r2 : w9.cell? ⟨w.heap.size + 1, 2, none⟩ = some (.int .i64 0) := hb_cell R9.out 2
            have r3 : w9.cell? ⟨w.heap.size + 1, 3, none⟩ = some (.int .i64 0) := hb_cell R9.out 3
            have r4 : w9.cell? ⟨w.heap.size + 1, 4, none⟩ = some (.int .i64 0) := hb_cell R9.out 4
            have r5 : w9.cell? ⟨w.heap.size + 1, 5, none⟩ = some (.int .i64 0) := hb_cell R9.out 5
            go_wp2_with fail
            refine bodyPost_ret (v := .tuple #[bsV (fun _ => 0), .bool false]) ?_ rfl ⟨rfl, ?_⟩
            · simp [results, Try.results56, go_sem, l2, r0, r1, r2, r3, r4, r5]
            · have h0 := (hb2.out.trans ((hb3.out.trans hb8).mono (by omega)) : Below w.heap.size w w9)
              repeat (first | (with_reducible exact h0) | (with_reducible refine Below.setCell ?_ ?_ _; rotate_left; (show w.heap.size ≤ w.heap.size + 1; omega)))
        · obtain rfl : k = t.size := by omega
          have hF : G = true := hye.out (fun i hi => hf.out i hi hi)
          subst hF
          have hR0 : RF = tF t t.size := hRF.out
          have hnx : ∀ ty, (Instr.next (.pointer (some ⟨w2.heap.size + 1, 0, none⟩)) true ty).run Try.prog wr = .ok (.tuple #[.bool false]) wr := fun ty => Lib.run_next_end_at (P := Try.prog) wr (w2.heap.size + 1) t _ ty hit hlt
          have RW := Lib.hid (hb_below (g := w.heap.size + 1) hb.out lR R3.out)
          rw [← hR0] at hA
          clear hR0 hRF
          have a0 : wr.cell? ⟨w2.heap.size, 0, none⟩ = some (.int .i64 (RF 0)) := hb_cell hA.out 0
          have a1 : wr.cell? ⟨w2.heap.size, 1, none⟩ = some (.int .i64 (RF 1)) := hb_cell hA.out 1
          have a2 : wr.cell? ⟨w2.heap.size, 2, none⟩ = some (.int .i64 (RF 2)) := hb_cell hA.out 2
          have a3 : wr.cell? ⟨w2.heap.size, 3, none⟩ = some (.int .i64 (RF 3)) := hb_cell hA.out 3
          have a4 : wr.cell? ⟨w2.heap.size, 4, none⟩ = some (.int .i64 (RF 4)) := hb_cell hA.out 4
          have a5 : wr.cell? ⟨w2.heap.size, 5, none⟩ = some (.int .i64 (RF 5)) := hb_cell hA.out 5
          have z2 := hb_frozen RW.out
          have l2 := hb_lt RW.out
          have r0 : wr.cell? ⟨w.heap.size + 1, 0, none⟩ = some (.int .i64 0) := hb_cell RW.out 0
          have r1 : wr.cell? ⟨w.heap.size + 1, 1, none⟩ = some (.int .i64 0) := hb_cell RW.out 1
          have r2 : wr.cell? ⟨w.heap.size + 1, 2, none⟩ = some (.int .i64 0) := hb_cell RW.out 2
          have r3 : wr.cell? ⟨w.heap.size + 1, 3, none⟩ = some (.int .i64 0) := hb_cell RW.out 3
          have r4 : wr.cell? ⟨w.heap.size + 1, 4, none⟩ = some (.int .i64 0) := hb_cell RW.out 4
          have r5 : wr.cell? ⟨w.heap.size + 1, 5, none⟩ = some (.int .i64 0) := hb_cell RW.out 5
          go_wp2_with fail
          refine bodyPost_ret (v := .tuple #[bsV RF, .bool true]) ?_ rfl ⟨rfl, ?_⟩
          · simp [results, Try.results56, go_sem, l2, r0, r1, r2, r3, r4, r5]
          · have h0 : Below w.heap.size w wr := hb2.out.trans ((hb3.out.trans hb.out).mono (by omega))
            repeat (first | (with_reducible exact h0) | (with_reducible refine Below.setCell ?_ ?_ _; rotate_left; (show w.heap.size ≤ w.heap.size + 1; omega)))
    · have hneq : ((t.size : Int) != (p : Int)) = true := by simp; omega
      have hF : G = false := by rw [← hG]; exact stB_len hsz
      subst hF
      have hR0 : RF = fun _ => 0 := hRF.out
      subst hR0
      clear hG
      go_enter Try.func56, Try.ntmps56
      go_wp2_with fail
      rw [← hw1.out]
      go_wp2_with fail
      refine (hIB.out _ hb1.out).mono ?_; rintro e w2 ⟨rfl, hb⟩
      have F2 := Lib.hid (hb_below hb l0 F1.out)
      have g0 : w2.cell? ⟨w.heap.size, 0, none⟩ = some (.int .i64 p) := hb_cell F2.out 0
      have R2 := Lib.hid (hb_below hb l1 R1.out)
      have z2 := hb_frozen R2.out
      have l2 := hb_lt R2.out
      have r0 : w2.cell? ⟨w.heap.size + 1, 0, none⟩ = some (.int .i64 0) := hb_cell R2.out 0
      have r1 : w2.cell? ⟨w.heap.size + 1, 1, none⟩ = some (.int .i64 0) := hb_cell R2.out 1
      have r2 : w2.cell? ⟨w.heap.size + 1, 2, none⟩ = some (.int .i64 0) := hb_cell R2.out 2
      have r3 : w2.cell? ⟨w.heap.size + 1, 3, none⟩ = some (.int .i64 0) := hb_cell R2.out 3
      have r4 : w2.cell? ⟨w.heap.size + 1, 4, none⟩ = some (.int .i64 0) := hb_cell R2.out 4
      have r5 : w2.cell? ⟨w.heap.size + 1, 5, none⟩ = some (.int .i64 0) := hb_cell R2.out 5
      go_wp2_with fail
      refine bodyPost_ret (v := .tuple #[bsV (fun _ => 0), .bool false]) ?_ rfl ⟨rfl, ?_⟩
      · simp [results, Try.results56, go_sem, l2, r0, r1, r2, r3, r4, r5]
      · have h0 := bt1 hb1.out hb
        repeat (first | (with_reducible exact h0) | (with_reducible refine Below.setCell ?_ ?_ _; rotate_left; (show w.heap.size ≤ w.heap.size + 1; omega)))
end Go.Proofs.Ytjlecipeoaohiaa
