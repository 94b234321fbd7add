/- The first list of fewest moves by keys: the model; both sides. -/
import Derived.Test.YtcfeaaakfjilgabDoorFO
import Derived.Deep.QuietTactic
import Derived.BigQuiet
namespace Go.Proofs.YtcfeaaakfjilgabDoor
set_option linter.unusedSimpArgs false
set_option linter.unusedVariables false
open Go Go.RowKit RM
theorem sFi_no (v : Value) (ks : List ByteArray) (a b : ByteArray) (w : World) (hz : ∀ s ∈ ks, s.size ≤ maxLen) (ha : a.size ≤ maxLen) (hb : b.size ≤ maxLen) (h : RdT w v ks) (hno : (askK ks a && askK ks b) = false) :
    Calls Tryd.prog 9 #[v, .string a, .string b] w fun e w' => RetI w [] false e w' := by
  have hA := Lib.hid (keTwo_any v ks a b w hz ha hb h)
  rw [hno] at hA
  go_enter Tryd.func9, Tryd.ntmps9
  go_wp2_with fail
  refine hA.out.mono ?_; rintro e w' ⟨rfl, rfl⟩
  go_wp2_with fail
  go_ret2; exact ⟨_, rfl, OwnI.nil _ _, Below.refl _ _⟩
set_option maxRecDepth 100000 in
set_option maxHeartbeats 2000000 in
theorem sFi_yes (v : Value) (ks : List ByteArray) (n x y : Nat) (w : World) (hz : ∀ s ∈ ks, s.size ≤ maxLen) (h : RdT w v ks) (h2 : n ≤ 10) (hx : x < 2 ^ n) (hy : y < 2 ^ n) (hn : ks.length = n) (hG : goodK ks = true) (ha : askK ks (ST n x) = true) (hb : askK ks (ST n y) = true) :
    Calls Tryd.prog 9 #[v, .string (ST n x), .string (ST n y)] w fun e w' => RetI w (kres ks n (kD n (fkS ks) y) x) (kD n (fkS ks) y x).isSome e w' := by
  have hml : ∀ x, (ST n x).size ≤ maxLen := fun x => by rw [ST_size]; unfold maxLen; omega
  have hA := Lib.hid (keTwo_any v ks (ST n x) (ST n y) w hz (hml x) (hml y) h)
  rw [ha, hb] at hA
  obtain ⟨N, hNd⟩ : ∃ N, Hid (N = 2 ^ n) := ⟨_, Lib.hid rfl⟩
  have hN : N ≤ 1024 := by rw [hNd.out]; exact Nat.pow_le_pow_right (n := 2) (by decide) h2
  have hxN : Hid (x < N) := Lib.hid (by rw [hNd.out]; exact hx)
  have hK := keys_keyd ks hG
  rw [hn] at hK
  have hD := Lib.hid (hK.dst hy)
  have hF := Lib.hid (keFar_any v ks n y w h h2 hy hn hG)
  have hNu := Lib.hid (fun z w (hz : z < N) => show Calls Tryd.prog 31 #[.string (ST n z)] w (fun e w' => e = .returned (.int .i64 (num z : Int)) ∧ w' = w) from (riNumber_ST n z w (by omega) (by rw [← hNd.out]; exact hz)).mono fun _ _ ⟨a, b⟩ => ⟨a, b.symm⟩)
  have hMo := Lib.hid (fun z w' (hb : Below w.heap.size w w') (hz : z < N) => keMoves_any v ks n z w' (h.below hb) h2 (by rw [← hNd.out]; exact hz) hn hG)
  have hMk := Lib.hid (fun z k w (hk : k < n) => riMove_ST n z k w (by omega) hk)
  have hxl := Lib.hid (fun z k (hz : z < N) (hk : k < n) => show z ^^^ 2 ^ k < N by rw [hNd.out] at hz ⊢; exact xor_lt' hz hk)
  have hnl := Lib.hid (fun z (hz : z < N) => show num z < N by rw [hNd.out] at hz ⊢; exact num_lt n z hz)
  have hsp := Lib.hid (fun z m hd => nkZ_spec ks n y z m hn hG hy hd)
  have hkm := Lib.hid (fun z (q : Int) (hq : q ∈ kmL ks z n) => show ∃ k : Nat, q = (k : Int) ∧ k < n ∧ fkS ks k z = true from by
    obtain ⟨k, hkl, hkn, e, hf⟩ := (kmL_mem ks z n (by omega) q).1 hq
    exact ⟨k, e, hkn, by rw [fkS_at ks k z hkl]; exact hf⟩)
  have hkl := Lib.hid (fun z => kmL_len ks z n)
  have hTL := Lib.hid (fun z (hz : z < N) (hne : z ≠ y) => ST_toList (by rw [← hNd.out]; exact hz) hy hne)
  rw [← hNd.out] at hF
  generalize hDd : kD n (fkS ks) y = D at *
  replace hDd := Lib.hid hDd
  obtain ⟨Rr, hRr⟩ : ∃ r, Hid (r = kres ks n D x) := ⟨_, Lib.hid rfl⟩
  obtain ⟨Br, hBr⟩ : ∃ b, Hid (b = (D x).isSome) := ⟨_, Lib.hid rfl⟩
  rw [← hRr.out, ← hBr.out]
  obtain ⟨sx, hsx⟩ : ∃ sx, Hid (sx = ST n x) := ⟨_, Lib.hid rfl⟩
  obtain ⟨sy, hsyy⟩ : ∃ sy, Hid (sy = ST n y) := ⟨_, Lib.hid rfl⟩
  have hNx := Lib.hid (fun w => hNu.out x w hxN.out)
  rw [← hsx.out] at hNx
  rw [← hsx.out, ← hsyy.out] at hA ⊢
  rw [← hsyy.out] at hF
  have hnx := hnl.out x hxN.out
  clear h hz hx hy hn hG hK ha hb hml
  go_enter Tryd.func9, Tryd.ntmps9
  go_wp2_with fail
  refine hA.out.mono ?_; rintro e w' ⟨rfl, rfl⟩
  go_wp2_with fail
  refine hF.out.mono ?_; rintro e w2 ⟨gm, gw, rfl, ho5, hb2⟩
  have hcell := Lib.hid (fun z (hz : z < N) wr (hbw : Below w2.heap.size w2 wr) => show wr.cell? ⟨gm, num z, none⟩ = some (.int .i64 (fI (D z))) by
    rw [hbw.cell (p := ⟨gm, num z, none⟩) (ho5.lt gm rfl).2]
    have := (ho5.cell (by simp) (num z) (by simpa using hnl.out z hz)).1
    simpa [gray_num] using this)
  have c0 := hcell.out x hxN.out w2 (Below.refl _ _)
  replace hb2 := Lib.hid hb2
  clear ho5
  go_wp2_with fail
  refine (hNx.out _).mono ?_; rintro e w3 ⟨rfl, rfl⟩
  cases hd : D x with
  | none =>
    rw [hd] at c0
    replace c0 : w3.cell? ⟨gm, num x, none⟩ = some (.int .i64 (-1)) := c0
    obtain rfl : Br = false := by rw [hBr.out, hd]; rfl
    obtain rfl : Rr = [] := by rw [hRr.out]; unfold kres; rw [hd]
    go_wp2_with fail
    go_ret2; exact ⟨_, rfl, OwnI.nil _ _, hb2.out⟩
  | some d0 =>
    rw [hd] at c0
    replace c0 : w3.cell? ⟨gm, num x, none⟩ = some (.int .i64 (d0 : Int)) := c0
    have hd0 : decide ((d0 : Int) < 0) = false := by simp
    have hd0N : d0 < N := by rw [hNd.out]; exact (hD.out.lt x d0 hd).2
    obtain rfl : Br = true := by rw [hBr.out, hd]; rfl
    have hL : Hid (Rr = kway ks n D d0 x) := Lib.hid (by rw [hRr.out]; unfold kres; rw [hd])
    have hLl : Hid (Rr.length = d0) := Lib.hid (by rw [hL.out, kway_len])
    go_wp2_with fail
    clear c0
    go_loopw [1, 10] (fun a o wr => ∃ (z d : Nat) (sz : ByteArray) (pre : List Int), z < N ∧ a = .string sz ∧ D z = some d ∧ Hid (sz = ST n z) ∧ Hid (Rr = pre ++ kway ks n D d z) ∧ Hid (OwnI wr w3.heap.size o pre) ∧ Hid (Below w3.heap.size w3 wr)) (fun _ o _ => 4097 - lenOf o)
    case atStart => exact ⟨x, d0, sx, [], hxN.out, rfl, hd, hsx, hL, OwnI.nil _ _, Lib.hid (Below.refl _ _)⟩
    case round =>
      obtain ⟨z, d, sz, pre, hzN, rfl, hdz, hsz, hpre, ho, hbw⟩ := hrel
      rename World => wr
      have hlo := ho.out.lenOf
      by_cases hzy : z = y
      · have hfin : Hid (Rr = pre) := Lib.hid (by
          rw [hzy, hD.out.zero] at hdz
          obtain rfl : d = 0 := (Option.some.inj hdz).symm
          rw [hpre.out]; simp [kway])
        have hse : sz = sy := by rw [hsz.out, hsyy.out, hzy]
        subst hse
        have heq : (sz.toList == sz.toList) = true := by simp
        clear hzy
        go_wp2_with fail
        go_ret2
        exact ⟨_, rfl, by rw [hfin.out]; exact ho.out.mono hb2.out.size, bt1 hb2.out hbw.out⟩
      · have htl : (sz.toList == sy.toList) = false := by rw [hsz.out, hsyy.out]; exact hTL.out z hzN hzy
        obtain ⟨m, rfl⟩ : ∃ m, d = m + 1 := by
          cases d with
          | zero => exact absurd (hD.out.only z hdz) hzy
          | succ m => exact ⟨m, rfl⟩
        have hspz := hsp.out z m (by first | exact hdz | (rw [hDd.out]; exact hdz))
        obtain ⟨k0, j0, hj0, e1, hk0n, hjk, hdk, hPk, hltk⟩ := hspz
        have hnext : Hid (Rr = (pre ++ [(k0 : Int)]) ++ kway ks n D m (z ^^^ 2 ^ k0)) := Lib.hid (by
          rw [hpre.out]
          show pre ++ (nkZ ks n D z :: kway ks n D m (z ^^^ 2 ^ (nkZ ks n D z).toNat)) = _
          rw [e1, Int.toNat_natCast]; simp)
        have hlen0 : Hid (pre.length + 1 ≤ 4096) := Lib.hid (by
          have e := congrArg List.length hnext.out
          rw [hLl.out] at e
          simp at e; omega)
        have hMz := Lib.hid (fun w' hb => hMo.out z w' hb hzN)
        have hNz := Lib.hid (fun w => hNu.out z w hzN)
        rw [← hsz.out] at hMz hNz
        have hmN : m < 1024 := by have := (hD.out.lt z _ hdz).2; rw [← hNd.out] at this; omega
        have hzz : num z < N := hnl.out z hzN
        obtain ⟨pm, hpm⟩ : ∃ pm, Hid (pm = kmL ks z n) := ⟨_, Lib.hid rfl⟩
        have hpl : pm.length ≤ 100 := by rw [hpm.out]; have := hkl.out z; omega
        have hj0 : j0 < pm.length := by rw [hpm.out]; exact hj0
        have hfacts : Hid (∀ j (hj : j < pm.length), ∃ k : Nat, pm[j] = (k : Int) ∧ k < n ∧ (j = j0 → k = k0) ∧ ((fI (D (z ^^^ 2 ^ k)) == (m : Int) + 1 - 1) = decide (j = j0) ∨ j0 < j)) := Lib.hid (fun j hj => by
          have hj' : j < (kmL ks z n).length := by rw [← hpm.out]; exact hj
          obtain ⟨k, e, hkn, hf⟩ := hkm.out z (pm[j]) (by rw [show pm[j] = (kmL ks z n)[j] from by simp only [hpm.out]]; exact List.getElem_mem _)
          have e3 : (kmL ks z n)[j] = (k : Int) := by rw [← e]; simp only [hpm.out]
          refine ⟨k, e, hkn, fun ej => ?_, ?_⟩
          · subst ej; rw [e3] at hjk; omega
          · by_cases ej : j = j0
            · left
              subst ej
              rw [e3] at hjk
              obtain rfl : k = k0 := by omega
              rw [hdk]
              show ((m : Int) == (m : Int) + 1 - 1) = _
              rw [decide_eq_true rfl, beq_iff_eq]; omega
            · by_cases hjj : j < j0
              · left
                have h9 := hltk j hj' hjj
                rw [e3] at h9
                obtain ⟨m', hm', hle⟩ := hD.out.next z (m + 1) hdz k hkn hf
                unfold nrP at h9
                rw [Int.toNat_natCast, hm', hdz] at h9
                have h10 : ¬ m' < m + 1 := of_decide_eq_false h9
                rw [hm', decide_eq_false ej]
                show ((m' : Int) == (m : Int) + 1 - 1) = false
                rw [beq_eq_false_iff_ne]; omega
              · right; omega)
        have hdzI : fI (D z) = (m : Int) + 1 := by rw [hdz]; show ((m + 1 : Nat) : Int) = _; omega
        replace hdk := Lib.hid hdk
        replace hdzI := Lib.hid hdzI
        clear e1 hjk hPk hltk hzy hdz
        go_wp2_with fail
        refine (hMz.out _ (bt1 hb2.out hbw.out)).mono ?_; rintro e w4 ⟨v4, rfl, hov, hb4⟩
        rw [← hpm.out] at hov
        have hpne : pm ≠ [] := by intro e; rw [e] at hj0; simp at hj0
        rcases hov.form with ⟨_, e⟩ | ⟨gv, capv, rfl, hgv, hgvl, hvc, _, _⟩
        · exact absurd e hpne
        clear hpne hvc
        replace hov := Lib.hid hov
        have hb3w := Lib.hid (hbw.out.trans (hb4.mono hbw.out.size))
        have ho3 := Lib.hid (ho.out.below hb4)
        have hs3 : w3.heap.size ≤ w4.heap.size := Nat.le_trans hbw.out.size hb4.size
        clear hb4
        go_wp2_with fail
        go_loopw [1, 10, 38] (fun s o i wi => ∃ j : Nat, i = .int .i64 j ∧ s = .string sz ∧ j ≤ j0 ∧ Hid (OwnI wi w3.heap.size o pre) ∧ Hid (Below w4.heap.size w4 wi)) (fun _ _ i _ => j0 + 1 - (intOf i).toNat)
        case atStart => exact ⟨0, rfl, rfl, Nat.zero_le _, ho3, Lib.hid (Below.refl _ _)⟩
        case round =>
          obtain ⟨j, rfl, rfl, hj, ho4, hb4⟩ := hrel
          rename World => wi
          have hjl : j < pm.length := by omega
          obtain ⟨k, ek, hkn, hkj, hcmp0⟩ := hfacts.out j hjl
          have ev := ((hov.out.below hb4.out).cell rfl j hjl).1
          rw [ek] at ev
          have hMj := Lib.hid (fun w => hMk.out z k w hkn)
          have hz2 := hxl.out z k hzN hkn
          obtain ⟨z2, hz2e⟩ : ∃ z2, Hid (z2 = z ^^^ 2 ^ k) := ⟨_, Lib.hid rfl⟩
          rw [← hz2e.out] at hMj hz2 hcmp0
          obtain ⟨st, hste⟩ : ∃ st, Hid (st = ST n z2) := ⟨_, Lib.hid rfl⟩
          have hNj := Lib.hid (fun w => hNu.out z2 w hz2)
          rw [← hste.out] at hMj hNj
          rw [← hsz.out] at hMj
          have ht2 : num z2 < N := hnl.out z2 hz2
          obtain ⟨q2, hq2⟩ : ∃ q2, Hid (q2 = fI (D z2)) := ⟨_, Lib.hid rfl⟩
          rw [← hq2.out] at hcmp0
          have hbi := bt1 hb3w.out hb4.out
          have hcl := Lib.hid (fun (W5 : World) (hW : Below wi.heap.size wi W5) => show W5.cell? ⟨gm, num z2, none⟩ = some (.int .i64 q2) ∧ W5.cell? ⟨gm, num z, none⟩ = some (.int .i64 ((m : Int) + 1)) from by
            have c1 := hcell.out z2 hz2 W5 (bt1 hbi hW)
            have c2 := hcell.out z hzN W5 (bt1 hbi hW)
            rw [← hq2.out] at c1
            rw [hdzI.out] at c2
            exact ⟨c1, c2⟩)
          have hb24 := Lib.hid hbi
          replace ek := Lib.hid ek
          clear hbi
          have hcmp1 : ((q2 == (m : Int) + 1 - 1) = decide (j = j0)) := hcmp0.resolve_right (by omega)
          clear hcmp0
          by_cases e : j = j0
          · have hkk := hkj e
            have hcmp : (q2 == (m : Int) + 1 - 1) = true := by rw [hcmp1, decide_eq_true e]
            have hnx := hnext.out
            rw [← hkk, ← hz2e.out] at hnx
            have hd2 := hdk.out
            rw [← hkk, ← hz2e.out] at hd2
            replace hnx := Lib.hid hnx
            replace hd2 := Lib.hid hd2
            have hz2 := Lib.hid hz2
            clear hkk e hcmp1 hkj
            go_wp2_with fail
            refine (hMj.out _).mono ?_; rintro e w5 ⟨rfl, qd, hw5⟩
            obtain ⟨c1, c2⟩ := hcl.out w5 (by rw [hw5]; exact below_drewN (Below.refl _ _) _)
            have hb45 := Lib.hid (show Below w4.heap.size w4 w5 by rw [hw5]; exact below_drewN hb4.out qd)
            have ho45 := ho4.out.drewN qd
            rw [← hw5] at ho45
            have ho45 := Lib.hid ho45
            clear hw5
            go_wp2_with fail
            go_quiet (first | (go_at_call 31; (with_reducible refine Calls.quiet_of_same (hNj.out _))) | (go_at_call 31; refine Calls.quiet_of_same (hNz.out _)))
            obtain ⟨W6, hW6⟩ : ∃ W6, W6 = w5.drewN nq := ⟨_, rfl⟩
            rw [← hW6]
            have hbq := Lib.hid (show Below w4.heap.size w4 W6 by rw [hW6]; exact below_drewN hb45.out nq)
            have ho6 := ho45.out.drewN nq
            rw [← hW6] at ho6
            have ho6 := Lib.hid ho6
            have hb26 := Lib.hid (hb3w.out.trans (hbq.out.mono hs3))
            have hs6 := hb26.out.size
            clear hW6
            go_wp2_with (at_builtin; refine app_int _ rfl _ _ rfl w3.heap.size _ _ rfl (ho6.out.alloc _) W6.heap.size _ rfl (by simp; rfl) (by have := hlen0.out; omega) (by simp; omega) ?_; intro v' w7 ho7 hg7; have hbw7 := Lib.hid (bel_own (hb26.out.alloc hb26.out.size _) (ho6.out.alloc _) hg7 (by simp; omega)); have ho7 := Lib.hid ho7; have hg7 := Lib.hid hg7)
            go_roundw
            case rel => exact ⟨z2, m, st, pre ++ [(k : Int)], hz2.out, rfl, hd2.out, hste, hnx, ho7, hbw7⟩
            case measure =>
              have e1 := ho7.out.lenOf
              have e2 := hlen0.out
              rw [List.length_append] at e1
              show 4097 - lenOf v' < 4097 - lenOf _
              simp at e1
              omega
          · have hj2 : j < j0 := by omega
            have hcmp : (q2 == (m : Int) + 1 - 1) = false := by rw [hcmp1, decide_eq_false e]
            clear e hz2 hcmp1 hkj
            go_wp2_with fail
            refine (hMj.out _).mono ?_; rintro e w5 ⟨rfl, qd, hw5⟩
            obtain ⟨c1, c2⟩ := hcl.out w5 (by rw [hw5]; exact below_drewN (Below.refl _ _) _)
            have hb45 := Lib.hid (show Below w4.heap.size w4 w5 by rw [hw5]; exact below_drewN hb4.out qd)
            have ho45 := ho4.out.drewN qd
            rw [← hw5] at ho45
            have ho45 := Lib.hid ho45
            clear hw5
            go_wp2_with fail
            go_quiet (first | (go_at_call 31; (with_reducible refine Calls.quiet_of_same (hNj.out _))) | (go_at_call 31; refine Calls.quiet_of_same (hNz.out _)))
            go_wp2_with fail
            go_roundw
            case rel => exact ⟨j + 1, by go_num, rfl, by omega, Lib.hid (ho45.out.drewN nq), Lib.hid (below_drewN hb45.out nq)⟩
            all_goals (simp [intOf] <;> omega)
theorem FirstKeyed_both (ks : List ByteArray) (hz : ∀ s ∈ ks, s.size ≤ maxLen) (a b : ByteArray) (ha : a.size ≤ maxLen) (hb : b.size ≤ maxLen) : ∃ (r : List Int) (ok : Bool), r.length ≤ 1024 ∧
    (∀ w v, RdT w v ks → Calls Tryd.prog 9 #[v, .string a, .string b] w fun e w' => RetI w r ok e w') ∧
    (∀ w v, TabOk w → RdT w v ks → Calls Tryd.prog 11 #[v, .string a, .string b] w fun e w' => RetI w r ok e w') := by
  cases hno : askK ks a && askK ks b with
  | false => exact ⟨[], false, by simp, fun w v h => sFi_no v ks a b w hz ha hb h hno, fun w v hT h => iFi_no v ks a b w hz ha hb h hT hno⟩
  | true =>
    rw [Bool.and_eq_true] at hno
    rcases key_cases ks a with h0 | ⟨n, x, h1, h2, hx, hn, hG, rfl, hka⟩
    · rw [h0] at hno; cases hno.1
    rcases key_cases ks b with h0 | ⟨m, y, h3, h4, hy, hm, _, rfl, hkb⟩
    · rw [h0] at hno; cases hno.2
    obtain rfl : n = m := by omega
    have hK := keys_keyd ks hG
    rw [hn] at hK
    refine ⟨_, _, ?_, fun w v h => sFi_yes v ks n x y w hz h h2 hx hy hn hG hka hkb, fun w v hT h => iFi_yes v ks n x y w hz h hT h1 h2 hx hy hn hG⟩
    refine kres_len ks n x _ 1024 (fun d e => ?_)
    have := ((hK.dst hy).lt x d e).2
    have : 2 ^ n ≤ 2 ^ 10 := Nat.pow_le_pow_right (by decide) h2
    omega
end Go.Proofs.YtcfeaaakfjilgabDoor
