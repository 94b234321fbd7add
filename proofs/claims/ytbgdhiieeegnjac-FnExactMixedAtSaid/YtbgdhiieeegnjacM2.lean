/- Chapter 2: the mixed digits with a rank: the model. -/
import Derived.Test.YtbgdhiieeegnjacM1
namespace Go.Proofs.Ytbgdhiieeegnjac
open Go Go.RowKit RM

theorem sMixed_nolim (p : Option Addr) (n cap : Nat) (r : Int) (w : World) (hA : Hid (∀ w', w = w' → Calls Try.prog 61 #[.slice p n cap] w' fun e w'' => e = .returned (.bool false) ∧ w' = w'')) :
    Calls Try.prog 30 #[.slice p n cap, .int .i64 r] w fun e w' => RetI w [] false e w' := by
  go_enter Try.func30, Try.ntmps30
  go_wp2_with fail
  refine (hA.out _ rfl).mono ?_; rintro e w' ⟨rfl, rfl⟩
  go_wp2_with fail
  go_ret2; exact ⟨_, rfl, OwnI.nil _ _, Below.refl _ _⟩

theorem sMixed_norank (p : Option Addr) (n cap : Nat) (r P : Int) (w : World) (h : r < 0 ∨ P ≤ r) (hP1 : 1 ≤ P) (hP2 : P ≤ 25600000000) (hA : Hid (∀ w', w = w' → Calls Try.prog 61 #[.slice p n cap] w' fun e w'' => e = .returned (.bool true) ∧ w' = w''))
    (hP : Hid (∀ w', w = w' → Calls Try.prog 62 #[.slice p n cap] w' fun e w'' => e = .returned (.int .i64 P) ∧ w' = w'')) :
    Calls Try.prog 30 #[.slice p n cap, .int .i64 r] w fun e w' => RetI w [] false e w' := by
  have hR := Lib.hid fun w => l1In_no r 0 (P - 1) w (by omega)
  clear h
  go_enter Try.func30, Try.ntmps30
  go_wp2_with fail
  refine (hA.out _ rfl).mono ?_; rintro e w' ⟨rfl, rfl⟩
  go_wp2_with fail
  refine (hP.out _ rfl).mono ?_; rintro e w' ⟨rfl, rfl⟩
  go_wp2_with fail
  refine (hR.out _).mono ?_; rintro e w' ⟨rfl, rfl⟩
  go_wp2_with fail
  go_ret2; exact ⟨_, rfl, OwnI.nil _ _, Below.refl _ _⟩

set_option maxHeartbeats 1000000 in
theorem sMixed_yes (xs : List Int) (b cap n : Nat) (r P : Int) (w : World) (h1 : 1 ≤ n) (h2 : n ≤ 8) (hncap : n ≤ cap) (hcap2 : cap ≤ 9223372036854775807) (hx : Hid (xs.length = n)) (hlm : Hid (lmB xs = true)) (hr0 : 0 ≤ r) (hr1 : r < P) (hP1 : 1 ≤ P) (hP2 : P ≤ 25600000000) (hPP : Hid (prd xs = P))
    (hb : b < w.heap.size)
    (hc : Hid (∀ i (h : i < xs.length), w.cell? ⟨b, i, none⟩ = some (.int .i64 xs[i])))
    (hA : Hid (∀ w', w = w' → Calls Try.prog 61 #[.slice (some ⟨b, 0, none⟩) n cap] w' fun e w'' => e = .returned (.bool true) ∧ w' = w''))
    (hP : Hid (∀ w', w = w' → Calls Try.prog 62 #[.slice (some ⟨b, 0, none⟩) n cap] w' fun e w'' => e = .returned (.int .i64 P) ∧ w' = w'')) :
    Calls Try.prog 30 #[.slice (some ⟨b, 0, none⟩) n cap, .int .i64 r] w fun e w' => RetI w (mxL xs r) true e w' := by
  have hR := Lib.hid fun w => l1In_yes r 0 (P - 1) w hr0 (by omega)
  have hml : Hid ((mxL xs r).length = n) := Lib.hid (by rw [mxL_len]; exact hx.out)
  go_enter Try.func30, Try.ntmps30
  go_wp2_with fail
  refine (hA.out _ rfl).mono ?_; rintro e w' ⟨rfl, rfl⟩
  go_wp2_with fail
  refine (hP.out _ rfl).mono ?_; rintro e w' ⟨rfl, rfl⟩
  go_wp2_with fail
  refine (hR.out _).mono ?_; rintro e w' ⟨rfl, rfl⟩
  go_wp2_with fail
  go_loopw [1, 6, 23] (fun rr oo i wr => ∃ (k : Nat) (z O : Int), k ≤ n ∧ i = .int .i64 k ∧ rr = .int .i64 z ∧ 0 ≤ z ∧ z < O ∧ O ≤ 25600000000 ∧ Hid (prd (xs.drop k) = O) ∧ Hid ((mxL xs r).drop k = mxL (xs.drop k) z) ∧
    Hid (OwnI wr w.heap.size oo ((mxL xs r).take k)) ∧ Hid (Below w.heap.size w wr)) (fun _ _ i _ => n - (intOf i).toNat)
  case atStart => exact ⟨0, r, P, by omega, rfl, rfl, hr0, hr1, hP2, hPP, rfl, OwnI.nil _ _, Below.refl _ _⟩
  case round =>
    obtain ⟨k, z, O, hk, rfl, rfl, hz0, hz1, hO2, hO, hd, ho, hbw⟩ := hrel
    by_cases hlt : k < n
    · have hkx : k < xs.length := by rw [hx.out]; exact hlt
      have hcw : Hid (∀ i (h : i < xs.length), wr.cell? ⟨b, i, none⟩ = some (.int .i64 xs[i])) := Lib.hid (fun i h => by
        rw [hbw.out.cell (p := ⟨b, i, none⟩) hb]; exact hc.out i h)
      obtain ⟨hl1, hl2⟩ := lm_at hlm.out k hkx
      obtain ⟨hq1, hq2⟩ := lm_prd hlm.out (k + 1)
      have hmd := Lib.hid (mx_drop xs k hkx z)
      have hpd := prd_drop xs k hkx
      rw [hO.out] at hpd
      have hPr : ∀ (p : Option Addr) (cp : Nat), (p = some ⟨b, k + 1, none⟩ ∨ n - (k + 1) = 0) → Calls Try.prog 62 #[.slice p (n - (k + 1)) cp] wr fun e w' => e = .returned (.int .i64 (prd (xs.drop (k + 1)))) ∧ wr = w' := by
        intro p cp hp
        by_cases h0 : n - (k + 1) = 0
        · rw [h0, List.drop_eq_nil_of_le (by rw [hx.out]; omega)]
          exact prod_nil _ _ _
        · obtain rfl := hp.resolve_right h0
          have hl8 := lm_parts hlm.out
          refine prod_some (xs.drop (k + 1)) b (k + 1) _ _ wr (by omega) (Lib.hid (by rw [List.length_drop, hx.out])) (Lib.hid ?_) (Lib.hid fun i h => ?_)
          · have := hl8.2.2
            rw [allBd_lim, List.all_eq_true] at this
            rw [List.all_eq_true]
            exact fun x hx => this x (List.mem_of_mem_drop hx)
          · rw [List.getElem_drop]
            exact hcw.out (k + 1 + i) (by rw [List.length_drop] at h; omega)
      obtain ⟨Q, hQ⟩ : ∃ Q, Q = prd (xs.drop (k + 1)) := ⟨_, rfl⟩
      rw [← hQ] at hq1 hq2 hpd hmd hPr
      have HQ := Lib.hid hQ.symm
      clear hQ
      have hzO : z ≤ 25600000000 := by omega
      rw [hpd] at hz1
      obtain ⟨n1, n2, n3, n4, _⟩ := mx_nums hl1 hl2 hq1 hq2 hz0 hz1
      obtain ⟨d, hd2⟩ : ∃ d, d = z / Q := ⟨_, rfl⟩
      obtain ⟨m, hm2⟩ : ∃ m, m = z % Q := ⟨_, rfl⟩
      rw [← hd2] at n1 n2 hmd
      rw [← hm2] at n3 n4 hmd
      have e1 := hd2.symm
      have e2 := hm2.symm
      clear hd2 hm2 hz1
      obtain ⟨hbk0, hbk1⟩ := bck_bd (d := d) n3 n4
      have hgd : Hid ((mxL xs r).take (k + 1) = (mxL xs r).take k ++ [d]) := Lib.hid (by
        have hkm : k < (mxL xs r).length := by rw [hml.out]; exact hlt
        have a := drop_step (mxL xs r) k hkm
        rw [hd.out, hmd.out] at a
        have b : (mxL xs r)[k] = d := (List.cons.inj a).1.symm
        rw [take_step _ k hkm, b])
      have hdn : Hid ((mxL xs r).drop (k + 1) = mxL (xs.drop (k + 1)) (bck d m Q)) := Lib.hid (by
        have hkm : k < (mxL xs r).length := by rw [hml.out]; exact hlt
        have a := drop_step (mxL xs r) k hkm
        rw [hd.out, hmd.out] at a
        exact (List.cons.inj a).2.symm)
      have hlen : Hid (((mxL xs r).take k).length ≤ 2000000) := Lib.hid (by rw [List.length_take, hml.out]; omega)
      have hQne : (Q == 0) = false := by simp; omega
      clear hpd hmd hd
      by_cases hcap : cap = k + 1
      · subst hcap
        have hPA := hPr (some ⟨b, 0, none⟩) 0 (Or.inr (by omega))
        rw [show n - (k + 1) = 0 from by omega] at hPA
        have hPA := Lib.hid hPA
        clear hPr
        go_wp2_with fail
        refine hPA.out.mono ?_; rintro e w' ⟨rfl, rfl⟩
        by_cases hodd : d % 2 = 1
        · have ho1 : (d % 2 == 1) = true := by rw [hodd]; rfl
          have hbk : bck d m Q = Q - 1 - m := by unfold bck; rw [if_pos hodd]
          rw [hbk] at hbk0 hbk1 hdn
          clear hbk hodd
          go_wp2_with (at_builtin; refine app_int _ rfl _ _ rfl w.heap.size _ _ rfl (ho.out.alloc _) wr.heap.size _ rfl (by simp; rfl) hlen.out (by have := hbw.out.size; simp; omega) ?_; intro v' w' ho' hg')
          have ho2 := Lib.hid ho'
          have hg2 := Lib.hid hg'
          clear ho' hg'
          go_roundw
          case rel =>
            refine ⟨k + 1, Q - 1 - m, Q, by omega, by go_num, rfl, hbk0, hbk1, hq2, HQ, hdn, Lib.hid ?_, Lib.hid ?_⟩
            · rw [hgd.out]; exact ho2.out
            · exact bel_own (hbw.out.alloc hbw.out.size _) (ho.out.alloc _) hg2.out (by have := hbw.out.size; simp; omega)
          all_goals (simp [intOf] <;> omega)
        · have ho1 : (d % 2 == 1) = false := by simpa using hodd
          have hbk : bck d m Q = m := by unfold bck; rw [if_neg hodd]
          rw [hbk] at hbk0 hbk1 hdn
          clear hbk hodd
          go_wp2_with (at_builtin; refine app_int _ rfl _ _ rfl w.heap.size _ _ rfl (ho.out.alloc _) wr.heap.size _ rfl (by simp; rfl) hlen.out (by have := hbw.out.size; simp; omega) ?_; intro v' w' ho' hg')
          have ho2 := Lib.hid ho'
          have hg2 := Lib.hid hg'
          clear ho' hg'
          go_roundw
          case rel =>
            refine ⟨k + 1, m, Q, by omega, by go_num, rfl, hbk0, hbk1, hq2, HQ, hdn, Lib.hid ?_, Lib.hid ?_⟩
            · rw [hgd.out]; exact ho2.out
            · exact bel_own (hbw.out.alloc hbw.out.size _) (ho.out.alloc _) hg2.out (by have := hbw.out.size; simp; omega)
          all_goals (simp [intOf] <;> omega)
      · have hPA := Lib.hid (hPr (some ⟨b, k + 1, none⟩) (cap - (k + 1)) (Or.inl rfl))
        clear hPr
        go_wp2_with fail
        refine hPA.out.mono ?_; rintro e w' ⟨rfl, rfl⟩
        by_cases hodd : d % 2 = 1
        · have ho1 : (d % 2 == 1) = true := by rw [hodd]; rfl
          have hbk : bck d m Q = Q - 1 - m := by unfold bck; rw [if_pos hodd]
          rw [hbk] at hbk0 hbk1 hdn
          clear hbk hodd
          go_wp2_with (at_builtin; refine app_int _ rfl _ _ rfl w.heap.size _ _ rfl (ho.out.alloc _) wr.heap.size _ rfl (by simp; rfl) hlen.out (by have := hbw.out.size; simp; omega) ?_; intro v' w' ho' hg')
          have ho2 := Lib.hid ho'
          have hg2 := Lib.hid hg'
          clear ho' hg'
          go_roundw
          case rel =>
            refine ⟨k + 1, Q - 1 - m, Q, by omega, by go_num, rfl, hbk0, hbk1, hq2, HQ, hdn, Lib.hid ?_, Lib.hid ?_⟩
            · rw [hgd.out]; exact ho2.out
            · exact bel_own (hbw.out.alloc hbw.out.size _) (ho.out.alloc _) hg2.out (by have := hbw.out.size; simp; omega)
          all_goals (simp [intOf] <;> omega)
        · have ho1 : (d % 2 == 1) = false := by simpa using hodd
          have hbk : bck d m Q = m := by unfold bck; rw [if_neg hodd]
          rw [hbk] at hbk0 hbk1 hdn
          clear hbk hodd
          go_wp2_with (at_builtin; refine app_int _ rfl _ _ rfl w.heap.size _ _ rfl (ho.out.alloc _) wr.heap.size _ rfl (by simp; rfl) hlen.out (by have := hbw.out.size; simp; omega) ?_; intro v' w' ho' hg')
          have ho2 := Lib.hid ho'
          have hg2 := Lib.hid hg'
          clear ho' hg'
          go_roundw
          case rel =>
            refine ⟨k + 1, m, Q, by omega, by go_num, rfl, hbk0, hbk1, hq2, HQ, hdn, Lib.hid ?_, Lib.hid ?_⟩
            · rw [hgd.out]; exact ho2.out
            · exact bel_own (hbw.out.alloc hbw.out.size _) (ho.out.alloc _) hg2.out (by have := hbw.out.size; simp; omega)
          all_goals (simp [intOf] <;> omega)
    · obtain rfl : k = n := by omega
      have ho2 := ho.out
      rw [List.take_of_length_le (by rw [hml.out]; exact Nat.le_refl _)] at ho2
      have ho2 := Lib.hid ho2
      go_wp2
      go_ret2
      exact ⟨_, rfl, ho2.out, hbw.out⟩
theorem iMixed_any (v : Value) (xs : List Int) (B : Nat) (r : Int) (w : World) (hn : xs.length ≤ 1048576) (h : OwnI w B v xs) :
    Calls Try.prog 31 #[v, .int .i64 r] w fun e w' => RetI w (mxA xs r) (mxB xs r) e w' := by
  have hA := fun w' (e : w = w') => areLim_any v xs B w' hn (e ▸ h)
  cases hb : lmB xs
  · obtain ⟨e1, e2⟩ := mx_no (r := r) hb
    rw [e1, e2]
    rw [hb] at hA
    rcases h.form with ⟨rfl, rfl⟩ | ⟨g, cap, rfl, _, _, hc, _, _⟩
    · exact iMixed_nolim _ _ _ r w (Lib.hid hA)
    · exact iMixed_nolim _ _ _ r w (Lib.hid hA)
  · rw [hb] at hA
    obtain ⟨h1, h2, h3⟩ := lm_parts hb
    have hp := lm_prd hb 0
    rw [List.drop_zero] at hp
    rcases h.form with ⟨rfl, rfl⟩ | ⟨g, cap, rfl, _, hl, hc, _, _⟩
    · simp at h1
    · have hP := fun w' (e : w = w') => countM_some xs g cap _ w' h2 (Lib.hid rfl) (Lib.hid (by rw [← allBd_lim]; exact h3)) (Lib.hid (e ▸ hc))
      by_cases hr : r < 0 ∨ prd xs ≤ r
      · obtain ⟨e1, e2⟩ := mx_out (l := xs) hr
        rw [e1, e2]
        exact iMixed_norank _ _ _ r _ w hr (Lib.hid hA) (Lib.hid hP)
      · obtain ⟨e1, e2⟩ := mx_yes hb (r := r) (by omega) (by omega)
        rw [e1, e2]
        exact iMixed_yes xs g cap _ r _ w h1 h2 (Lib.hid rfl) (Lib.hid hb) (by omega) (by omega) hp.1 hp.2 (Lib.hid rfl) hl (Lib.hid hc) (Lib.hid hA) (Lib.hid hP)

theorem sMixed_any (v : Value) (xs : List Int) (B : Nat) (r : Int) (w : World) (hn : xs.length ≤ 1048576) (h : OwnI w B v xs) :
    Calls Try.prog 30 #[v, .int .i64 r] w fun e w' => RetI w (mxA xs r) (mxB xs r) e w' := by
  have hA := fun w' (e : w = w') => nuLim_any v xs B w' hn (e ▸ h)
  cases hb : lmB xs
  · obtain ⟨e1, e2⟩ := mx_no (r := r) hb
    rw [e1, e2]
    rw [hb] at hA
    rcases h.form with ⟨rfl, rfl⟩ | ⟨g, cap, rfl, _, _, hc, _, _⟩
    · exact sMixed_nolim _ _ _ r w (Lib.hid hA)
    · exact sMixed_nolim _ _ _ r w (Lib.hid hA)
  · rw [hb] at hA
    obtain ⟨h1, h2, h3⟩ := lm_parts hb
    have hp := lm_prd hb 0
    rw [List.drop_zero] at hp
    rcases h.form with ⟨rfl, rfl⟩ | ⟨g, cap, rfl, _, hl, hc, _, _⟩
    · simp at h1
    · have hcap : xs.length ≤ cap ∧ cap ≤ 9223372036854775807 := by
        rcases h.2 with ⟨h1, _⟩ | ⟨g', cap', cur, h1, _, _, hn', hcm, _, _⟩
        · cases h1
        · cases h1; unfold maxLen at hcm; exact ⟨hn', by omega⟩
      have hP := fun w' (e : w = w') => prod_some xs g 0 cap _ w' h2 (Lib.hid rfl) (Lib.hid (by rw [← allBd_lim]; exact h3)) (Lib.hid fun i hi => by rw [Nat.zero_add]; exact (e ▸ hc) i hi)
      by_cases hr : r < 0 ∨ prd xs ≤ r
      · obtain ⟨e1, e2⟩ := mx_out (l := xs) hr
        rw [e1, e2]
        exact sMixed_norank _ _ _ r _ w hr hp.1 hp.2 (Lib.hid hA) (Lib.hid hP)
      · obtain ⟨e1, e2⟩ := mx_yes hb (r := r) (by omega) (by omega)
        rw [e1, e2]
        exact sMixed_yes xs g cap _ r _ w h1 h2 hcap.1 hcap.2 (Lib.hid rfl) (Lib.hid hb) (by omega) (by omega) hp.1 hp.2 (Lib.hid rfl) hl (Lib.hid hc) (Lib.hid hA) (Lib.hid hP)

theorem mxA_len (l : List Int) (r : Int) (h : l.length ≤ 1048576) : (mxA l r).length ≤ 1048576 := by
  unfold mxA
  split
  · rw [mxL_len]; exact h
  · simp
end Go.Proofs.Ytbgdhiieeegnjac
