/- The keys of a list of texts, by the program. -/
import Derived.Test.YtcfeaaakfjilgabDoorV4
namespace Go.Proofs.YtcfeaaakfjilgabDoor
open Go Go.RowKit RM
theorem isKC_any (n : Int) (w : World) : Calls Tryd.prog 79 #[.int .i64 n] w fun e w' => e = .returned (.bool (decide (1 ≤ n) && decide (n ≤ 10))) ∧ w = w' := by
  by_cases h1 : 1 ≤ n
  · by_cases h2 : n ≤ 10
    · have e1 : decide (n ≥ 1) = true := by simp; omega
      have e2 : decide (n ≤ 10) = true := by simp; omega
      rw [decide_eq_true h1, decide_eq_true h2]
      go_enter Tryd.func79, Tryd.ntmps79
      go_wp2_with fail
      go_ret; exact ⟨rfl, rfl⟩
    · have e1 : decide (n ≥ 1) = true := by simp; omega
      have e2 : decide (n ≤ 10) = false := by simp; omega
      rw [decide_eq_true h1, decide_eq_false h2]
      go_enter Tryd.func79, Tryd.ntmps79
      go_wp2_with fail
      go_ret; exact ⟨rfl, rfl⟩
  · have e1 : decide (n ≥ 1) = false := by simp; omega
    rw [decide_eq_false h1, Bool.false_and]
    go_enter Tryd.func79, Tryd.ntmps79
    go_wp2_with fail
    go_ret; exact ⟨rfl, rfl⟩
theorem OwnG.keyStored {w : World} {B g n cap : Nat} {xs : List (Nat × Nat)} (h : OwnG keyE w B (.slice (some ⟨g, 0, none⟩) n cap) xs) (hn : n = xs.length) (k : Nat) (hk : k < xs.length) (a i : Nat) :
    OwnG keyE ((w.setCell ⟨g, k * 2, none⟩ (.int .u64 a)).setCell ⟨g, k * 2 + 1, none⟩ (.int .u64 i)) B (.slice (some ⟨g, 0, none⟩) n cap) (xs.set k (a, i)) ∧
    w.grownBy ((w.setCell ⟨g, k * 2, none⟩ (.int .u64 a)).setCell ⟨g, k * 2 + 1, none⟩ (.int .u64 i)) (some g) := by
  obtain ⟨y, hy⟩ : ∃ y, y = xs[k] := ⟨_, rfl⟩
  obtain ⟨s0, g0⟩ := h.stored hn k hk 0 (by decide) (.int .u64 a) (a, y.2) (by rw [← hy]; rfl)
  obtain ⟨s1, g1⟩ := s0.stored (by simpa using hn) k (by simpa using hk) 1 (by decide) (.int .u64 i) (a, i) (by simp [List.getElem_set_self]; rfl)
  rw [List.set_set] at s1
  exact ⟨s1, g0.trans g1⟩
theorem key_cells {w : World} {g : Nat} {bs : List (Nat × Nat)} (h : ∀ k (hk : k < bs.length) o, o < keyE.n → w.cell? ⟨g, k * keyE.n + o, none⟩ = (keyE.cells bs[k])[o]?) (k : Nat) (hk : k < bs.length) :
    w.cell? ⟨g, k * 2, none⟩ = some (.int .u64 ((bs[k].1 : Nat) : Int)) ∧ w.cell? ⟨g, k * 2 + 1, none⟩ = some (.int .u64 ((bs[k].2 : Nat) : Int)) := ⟨h k hk 0 (by decide), h k hk 1 (by decide)⟩
theorem RG.ky {w : World} {p : Option Addr} {xs : List (Nat × Nat)} (h : RG keyE w p xs) {k : Nat} (hk : k < xs.length) : ∃ g, p = some ⟨g, 0, none⟩ ∧ g < w.heap.size ∧
    w.cell? ⟨g, k * 2, none⟩ = some (.int .u64 ((xs[k].1 : Nat) : Int)) ∧ w.cell? ⟨g, k * 2 + 1, none⟩ = some (.int .u64 ((xs[k].2 : Nat) : Int)) := by
  obtain ⟨g, rfl, hl, hc⟩ := h (fun e => by rw [e] at hk; simp at hk)
  exact ⟨g, rfl, hl, hc k hk 0 (by decide), hc k hk 1 (by decide)⟩
theorem okKey_false (n k : Nat) (s : ByteArray) (hn : n ≤ 10) (h : okKey s = false) : keyOk n k s = false := by
  rw [← Bool.not_eq_true, keyOk_iff]
  rintro ⟨h1, _, h3⟩
  unfold okKey at h
  rw [h3, Bool.and_true, decide_eq_false_iff_not] at h
  omega
theorem okKey_ok (n k : Nat) (s : ByteArray) (h1 : okKey s = true) (h2 : s.size = n) (hk : k < s.size) : keyOk n k s = !(tolX s.data.toList).testBit k := by
  have ht := tol_bit s.data.toList k (by rw [len_data]; exact hk)
  rw [byte_at s k hk] at ht
  rw [ht, Bool.not_not, Bool.eq_iff_iff, keyOk_iff, byte_getD s k hk]
  unfold okKey at h1
  rw [Bool.and_eq_true] at h1
  rw [beq_iff_eq]
  exact ⟨fun h => h.2.1, fun h => ⟨h2, h, h1.2⟩⟩
theorem bitN_one (m k : Nat) : (((bitN m k : Nat) : Int) == 1) = m.testBit k := by
  unfold bitN
  cases h : m.testBit k <;> simp
set_option maxHeartbeats 1000000 in
theorem keyringOf_any (v : Value) (ks : List ByteArray) (w : World) (hz : ∀ s ∈ ks, s.size ≤ maxLen) (h : RdT w v ks) :
    Calls Tryd.prog 66 #[v] w fun e w' => ∃ u, e = .returned (.tuple #[u, .bool (goodK ks)]) ∧ OwnG keyE w' w.heap.size u (if goodK ks then ks.map kp else []) ∧ Below w.heap.size w w' := by
  obtain ⟨p, c, rfl, hm, hr⟩ := h
  replace hr := Lib.hid hr
  obtain ⟨n, hn⟩ : ∃ n, ks.length = n := ⟨_, rfl⟩
  have hgl := Lib.hid (goodK_len ks)
  have hgn := Lib.hid (fun k (hk : k < ks.length) (h : keyOk n k ks[k] = false) => goodK_no ks k hk (by rw [hn]; exact h))
  have hgy := Lib.hid (fun (h1 : 1 ≤ n) (h2 : n ≤ 10) (h : ∀ k (hk : k < ks.length), keyOk n k ks[k] = true) => goodK_yes ks (by rw [hn]; exact h1) (by rw [hn]; exact h2) (fun k hk => by rw [hn]; exact h k hk))
  rw [hn] at hm hgl ⊢
  obtain ⟨RV, hRV⟩ : ∃ V : List (Nat × Nat), Hid (V = if goodK ks then ks.map kp else []) := ⟨_, Lib.hid rfl⟩
  rw [← hRV.out]
  generalize goodK ks = G at *
  unfold maxLen at hm
  have hI := Lib.hid (fun w => isKC_any (n : Int) w)
  by_cases hin : (1 : Int) ≤ (n : Int) ∧ (n : Int) ≤ 10
  · obtain ⟨i1, i2⟩ := hin
    rw [decide_eq_true i1, decide_eq_true i2] at hI
    replace hn := Lib.hid hn
    go_enter Tryd.func66, Tryd.ntmps66
    go_wp2_with fail
    refine (hI.out _).mono ?_; rintro e w' ⟨rfl, rfl⟩
    go_wp2_with (at_make; refine make_G keyE _ rfl _ _ 53 rfl Tryd.underlying53 _ _ n rfl rfl (by omega) ?_; intro w1 hown1 hb1; replace hown1 := Lib.hid hown1; replace hb1 := Lib.hid hb1)
    go_loopw [18] (fun i wr => ∃ k : Nat, k ≤ n ∧ i = .int .i64 k ∧ Hid (OwnG keyE wr w.heap.size (.slice (some ⟨w.heap.size, 0, none⟩) n n) ((ks.take k).map kp ++ List.replicate (n - k) (0, 0))) ∧ Hid (∀ j (hj : j < ks.length), j < k → keyOk n j ks[j] = true) ∧ Hid (Below w.heap.size w wr)) (fun i _ => n - (intOf i).toNat)
    case atStart => exact ⟨0, Nat.zero_le _, rfl, Lib.hid (by have h1 := hown1.out; rw [show keyE.d = (0, 0) from rfl] at h1; simpa using h1), Lib.hid (fun j _ h => by omega), hb1⟩
    case round =>
      obtain ⟨k, hk, rfl, ho, ha, hb⟩ := hrel
      clear hown1 hb1
      obtain ⟨wA, rfl⟩ : ∃ x, x = wr := ⟨_, rfl⟩
      by_cases hlt : k < n
      · have hkx : k < ks.length := by rw [hn.out]; exact hlt
        obtain ⟨g, rfl, -, hc⟩ := (hr.out.below hb.out).tx hkx
        have hno := Lib.hid (hgn.out k hkx)
        have hsz := hz _ (List.getElem_mem hkx)
        have hye : Hid (keyOk n k ks[k] = true → ∀ j (hj : j < ks.length), j < k + 1 → keyOk n j ks[j] = true) := Lib.hid (fun h9 j hj hj1 => by
          by_cases e : j = k
          · subst e; exact h9
          · exact ha.out j hj (by omega))
        have hmt : Hid ((ks.take (k + 1)).map kp = (ks.take k).map kp ++ [kp ks[k]]) := Lib.hid (by rw [List.take_succ_eq_append_getElem hkx, List.map_append]; rfl)
        have hF0 := Lib.hid (okKey_false n k ks[k] (by omega))
        have hF1 := Lib.hid (okKey_ok n k ks[k])
        have hKO := Lib.hid (fun w => keyOf_any ks[k] w hsz)
        have hkp : Hid (kp ks[k] = (tolX ks[k].data.toList, onX ks[k].data.toList)) := Lib.hid rfl
        have hbit := Lib.hid (and_bit_u64 (tolX ks[k].data.toList) k)
        have hone := Lib.hid (bitN_one (tolX ks[k].data.toList) k)
        have htl := Lib.hid (tol_lt ks[k].data.toList)
        have hld := Lib.hid (len_data ks[k])
        generalize ks[k] = s at *
        cases hok : okKey s with
        | false =>
          rw [hok] at hKO
          have hF : Hid (G = false) := Lib.hid (hno.out (hF0.out hok))
          go_wp2_with fail
          refine (hKO.out _).mono ?_; rintro e w2 ⟨rfl, hb2⟩
          go_wp2_with fail
          go_ret2; exact ⟨.slice none 0 0, by rw [hF.out]; rfl, by rw [hRV.out, hF.out]; exact OwnG.nil _ _, (bt1 hb.out hb2).alloc (bt1 hb.out hb2).size _⟩
        | true =>
          rw [hok, if_pos rfl, hkp.out] at hKO
          have hF1' := Lib.hid (hF1.out hok)
          have hkp2 := Lib.hid (hkp.out)
          clear hF1 hF0 hok hkp
          generalize tolX s.data.toList = TT at *
          generalize onX s.data.toList = OO at *
          by_cases hsn : s.size = n
          · have hks : k < s.size := by omega
            have hneq : ((s.size : Int) != (n : Int)) = false := by rw [hsn]; simp
            have hT9 : TT < 1048576 := by
              have h1 := htl.out
              rw [hld.out] at h1
              exact Nat.lt_of_lt_of_le h1 (Nat.pow_le_pow_right (by decide) (by omega : s.size ≤ 20))
            have hbv := hbit.out hT9
            have hKk := Lib.hid (hF1'.out hsn hks)
            replace hsn := Lib.hid hsn
            replace hT9 := Lib.hid hT9
            cases hbt : TT.testBit k with
            | true =>
              have hF : Hid (G = false) := Lib.hid (hno.out (by rw [hKk.out, hbt]; rfl))
              have hb1 : (((bitN TT k : Nat) : Int) == 1) = true := by rw [hone.out, hbt]
              go_wp2_with fail
              refine (hKO.out _).mono ?_; rintro e w2 ⟨rfl, hb2⟩
              go_wp2_with fail
              go_ret2; exact ⟨.slice none 0 0, by rw [hF.out]; rfl, by rw [hRV.out, hF.out]; exact OwnG.nil _ _, (bt1 hb.out hb2).alloc (bt1 hb.out hb2).size _⟩
            | false =>
              have hS := Lib.hid (hye.out (by rw [hKk.out, hbt]; rfl))
              have hb1 : (((bitN TT k : Nat) : Int) == 1) = false := by rw [hone.out, hbt]
              have hlk : Hid (((ks.take k).map kp ++ List.replicate (n - k) ((0, 0) : Nat × Nat)).length = n) := Lib.hid (by simp [hn.out]; omega)
              have htl2 : Hid (((ks.take k).map kp).length = k) := Lib.hid (by rw [List.length_map, List.length_take]; omega)
              have hsp : Hid (List.replicate (n - k) ((0, 0) : Nat × Nat) = (0, 0) :: List.replicate (n - (k + 1)) (0, 0)) := Lib.hid (by
                rw [show n - k = (n - (k + 1)) + 1 from by omega]; rfl)
              go_wp2_with fail
              refine (hKO.out _).mono ?_; rintro e w2 ⟨rfl, hb2⟩
              have ho2 := Lib.hid (ho.out.below hb2)
              have hbW := Lib.hid (bt1 hb.out hb2)
              have hst := Lib.hid (ho2.out.keyStored hlk.out.symm k (by rw [hlk.out]; exact hlt) TT OO)
              obtain ⟨d0, d1⟩ := key_cells (fun k' hk' o ho' => ho2.out.cells hlk.out.symm k' hk' o ho') k (by rw [hlk.out]; exact hlt)
              have hfz := fun j => ho2.out.frozen hlk.out.symm j
              generalize ((ks.take k).map kp ++ List.replicate (n - k) ((0, 0) : Nat × Nat))[k]'(by rw [hlk.out]; exact hlt) = y at d0 d1
              have lw : w.heap.size < w2.heap.size := (ho2.out.lt _ rfl).2
              have mw : ¬ w.heap.size = w2.heap.size := by omega
              clear hb2
              go_wp2_with fail
              go_roundw
              case rel =>
                refine ⟨k + 1, by omega, by go_num, Lib.hid ?_, hS, Lib.hid ?_⟩
                · have h3 := hst.out.1
                  rw [hsp.out, List.set_append_right _ _ (by rw [htl2.out]; exact Nat.le_refl _), htl2.out, Nat.sub_self, List.set_cons_zero] at h3
                  rw [hmt.out, hkp2.out, List.append_assoc]; exact OwnG.alloc h3 _
                · have hg3 := hbW.out.grown hst.out.2 hbW.out.size (fun j e => by cases e; exact Nat.le_refl _)
                  exact hg3.alloc hg3.size _
              all_goals (simp [intOf] <;> omega)
          · have hneq : ((s.size : Int) != (n : Int)) = true := by simp; omega
            have hF : Hid (G = false) := Lib.hid (hno.out (by
              rw [← Bool.not_eq_true, keyOk_iff]
              exact fun h => hsn h.1))
            replace hsn := Lib.hid hsn
            go_wp2_with fail
            refine (hKO.out _).mono ?_; rintro e w2 ⟨rfl, hb2⟩
            go_wp2_with fail
            go_ret2; exact ⟨.slice none 0 0, by rw [hF.out]; rfl, by rw [hRV.out, hF.out]; exact OwnG.nil _ _, (bt1 hb.out hb2).alloc (bt1 hb.out hb2).size _⟩
      · obtain rfl : k = n := by omega
        have hG : Hid (G = true) := Lib.hid (hgy.out (by omega) (by omega) (fun j hj => ha.out j hj (by rw [hn.out] at hj; omega)))
        have ho2 := ho.out
        rw [List.take_of_length_le (by rw [hn.out]; omega)] at ho2
        simp only [Nat.sub_self, List.replicate_zero, List.append_nil] at ho2
        replace ho2 := Lib.hid ho2
        go_wp2_with fail
        go_ret2; exact ⟨_, by rw [hG.out]; rfl, by rw [hRV.out, hG.out]; exact ho2.out, hb.out⟩
  · rw [show (decide ((1 : Int) ≤ (n : Int)) && decide ((n : Int) ≤ 10)) = false by rw [← Bool.not_eq_true, Bool.and_eq_true, decide_eq_true_eq, decide_eq_true_eq]; exact hin] at hI
    have hF : Hid (G = false) := Lib.hid (by
      rw [← Bool.not_eq_true]; intro h
      have := hgl.out h
      omega)
    go_enter Tryd.func66, Tryd.ntmps66
    go_wp2_with fail
    refine (hI.out _).mono ?_; rintro e w' ⟨rfl, rfl⟩
    go_wp2_with fail
    go_ret2; exact ⟨.slice none 0 0, by rw [hF.out]; rfl, by rw [hRV.out, hF.out]; exact OwnG.nil _ _, Below.refl _ _⟩
end Go.Proofs.YtcfeaaakfjilgabDoor
