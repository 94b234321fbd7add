/- The first way by pairs, and how often both rings are moved: the model, and the functions. -/
import Derived.Test.YtmbijomjilicgabDoorB16
import Derived.Deep.QuietTactic
import Derived.BigQuiet
namespace Go.Proofs.YtmbijomjilicgabDoor
open Go Go.RowKit RM

set_option maxRecDepth 100000 in
set_option maxHeartbeats 1000000 in
theorem sway_any (n x y : Nat) (w : World) (h2 : 2 ≤ n) (hn : n ≤ 12) (hx : x < 2 ^ n) (hy : y < 2 ^ n) :
    Calls Tryd.prog 29 #[.string (ST n x), .string (ST n y)] w fun e w' => ∃ v, e = .returned v ∧ OwnI w' w.heap.size v (fway n (num y) (dd (num y) (num x)) x) ∧ Below w.heap.size w w' := by
  have hq : 2 ^ n ≤ 2 ^ 12 := Nat.pow_le_pow_right (by omega) hn
  obtain ⟨N, hN⟩ : ∃ N, Hid (N = 2 ^ n) := ⟨_, Lib.hid rfl⟩
  have hsy := num_lt n y hy
  have hS := Lib.hid fun w => fm_any n y w h2 hn hy
  have hst := Lib.hid (fun z (hz : z < 2 ^ n) (hne : num z ≠ num y) => fway_step n (num y) z h2 hz hsy hne)
  have hsp := Lib.hid (fun z (hz : z < 2 ^ n) (hne : num z ≠ num y) => nrK_spec n (num y) z h2 hz hsy hne)
  have hxl := Lib.hid (fun z (k : Int) (hz : z < 2 ^ n) (hk : pcan n z k = true) => Nat.xor_lt_two_pow hz (msk_lt n k z h2 hk))
  have hML := Lib.hid (fun z w => twMoves_ST n z w h2 (by omega))
  have hMk := Lib.hid (fun z (k : Int) w (hk : pcan n z k = true) => twMake_ST n z k w h2 (by omega) hk)
  have hNu := Lib.hid (fun z w (hz : z < 2 ^ n) => show Calls Tryd.prog 55 #[.string (ST n z)] w (fun e w' => e = .returned (.int .i64 (num z : Int)) ∧ w' = w) from (riNumber_ST n z w (by omega) hz).mono fun _ _ ⟨a, b⟩ => ⟨a, b.symm⟩)
  have hTL := Lib.hid (fun z (hz : z < 2 ^ n) (hne : z ≠ y) => ST_toList hz hy hne)
  have hD := Lib.hid (dd_le hsy (num_lt n x hx))
  have hnl := Lib.hid (fun z (hz : z < 2 ^ n) => num_lt n z hz)
  have hfl := Lib.hid (fdL_len n y)
  rw [← hN.out] at hS hst hsp hxl hNu hTL hD hnl hfl
  obtain ⟨L, hL⟩ : ∃ L, Hid (L = fway n (num y) (dd (num y) (num x)) x) := ⟨_, Lib.hid rfl⟩
  obtain ⟨sx, hsx⟩ : ∃ sx, Hid (sx = ST n x) := ⟨_, Lib.hid rfl⟩
  obtain ⟨sy, hsyy⟩ : ∃ sy, Hid (sy = ST n y) := ⟨_, Lib.hid rfl⟩
  have hxN := Lib.hid (show x < N by rw [hN.out]; exact hx)
  have hN4 : N ≤ 4096 := by rw [hN.out]; omega
  have hyYtmbijomjilicgabDoor := Lib.hid (hnl.out y (show y < N by rw [hN.out]; exact hy))
  rw [← hL.out, ← hsx.out, ← hsyy.out]
  rw [← hsyy.out] at hS
  clear hq hsy hx hy
  go_enter Tryd.func29, Tryd.ntmps29
  go_wp2_with fail
  refine (hS.out _).mono ?_; rintro e w2 ⟨gm, gw, rfl, hof, hb2⟩
  have hgl := (hof.lt gm rfl).2
  have hof := Lib.hid hof
  have hb2 := Lib.hid hb2
  go_wp2_with fail
  go_loopw [0, 7] (fun s o wr => ∃ z sz pre, z < N ∧ s = .string sz ∧ Hid (sz = ST n z) ∧ Hid (L = pre ++ fway n (num y) (dd (num y) (num z)) z) ∧ Hid (OwnI wr w2.heap.size o pre) ∧ Hid (Below w2.heap.size w2 wr)) (fun _ o _ => 4097 - lenOf o)
  case atStart => exact ⟨x, sx, [], hxN.out, rfl, hsx, hL, OwnI.nil _ _, Below.refl _ _⟩
  case round =>
    obtain ⟨z, sz, pre, hzN, rfl, hsz, hpre, ho, hbw⟩ := hrel
    have hlo := ho.out.lenOf
    by_cases hzy : z = y
    · have hfin : Hid (L = pre) := Lib.hid (by rw [hpre.out, hzy, dd_self]; simp [fway])
      have hse : sz = sy := by rw [hsz.out, hsyy.out, hzy]
      subst hse
      have heq : (sz.toList == sz.toList) = true := by simp
      clear hzy
      go_wp2_with fail
      go_ret
      exact ⟨_, rfl, by rw [hfin.out]; exact ho.out.mono hb2.out.size, bt hb2.out hbw.out⟩
    · have hne : num z ≠ num y := fun e => hzy (num_inj e)
      have htl : (sz.toList == sy.toList) = false := by rw [hsz.out, hsyy.out]; exact hTL.out z hzN hzy
      obtain ⟨hcan0, hdec, j0, hj0, hjk, hlt0, hnl0⟩ := hsp.out z hzN hne
      have hstz := hst.out z hzN hne
      obtain ⟨k0, hk0⟩ : ∃ k, Hid (k = nrK n (num y) z) := ⟨_, Lib.hid rfl⟩
      rw [← hk0.out] at hcan0 hdec hstz hjk
      have hzl0 := hxl.out z k0 hzN hcan0
      have hnext : Hid (L = (pre ++ [k0]) ++ fway n (num y) (dd (num y) (num (z ^^^ msk k0))) (z ^^^ msk k0)) := Lib.hid (by rw [hpre.out, hstz]; simp)
      have hlen0 : Hid (pre.length + 1 ≤ 4096) := Lib.hid (by
        have e := congrArg List.length hnext.out
        have e2 := congrArg List.length hL.out
        rw [fway_len] at e2
        have := hD.out
        simp at e; omega)
      have hMz := Lib.hid (hML.out z)
      have hNz := Lib.hid (hNu.out z · hzN)
      rw [← hsz.out] at hMz hNz
      have hzz : num z < N := hnl.out z hzN
      obtain ⟨D, hDz⟩ : ∃ D, Hid (D = dd (num y) (num z)) := ⟨_, Lib.hid rfl⟩
      have hD1 : 1 ≤ D := by rw [hDz.out]; omega
      have hDN : D ≤ 4096 := by
        rw [hDz.out]; have := dd_le hyYtmbijomjilicgabDoor.out hzz; omega
      have hfacts := Lib.hid (And.intro hcan0 (And.intro hdec (And.intro hzl0 (And.intro hjk (And.intro hlt0 hnl0)))))
      have hj0 := hj0
      clear hcan0 hdec hstz hne hzl0 hjk hlt0 hnl0 hzy
      go_wp2_with fail
      refine (hMz.out _).mono ?_; rintro e w3 ⟨v, rfl, hov, hb3⟩
      have hpne : pmL n z ≠ [] := by intro e; rw [e] at hj0; simp at hj0
      rcases hov.form with ⟨_, e⟩ | ⟨gv, capv, rfl, hgv, hgvl, hvc, _, _⟩
      · exact absurd e hpne
      clear hpne hvc
      obtain ⟨pm, hpm⟩ : ∃ pm, Hid (pm = pmL n z) := ⟨_, Lib.hid rfl⟩
      have hpl : pm.length ≤ 100 := by rw [hpm.out]; have := pmL_le n z; omega
      have hj0 : j0 < pm.length := by rw [hpm.out]; exact hj0
      rw [← hpm.out] at hov
      rw [← hpm.out]
      have hov := Lib.hid hov
      have hb3w := Lib.hid (hbw.out.trans (hb3.mono hbw.out.size))
      have ho3 := Lib.hid (ho.out.below hb3)
      have hs3 : w2.heap.size ≤ w3.heap.size := Nat.le_trans hbw.out.size hb3.size
      have hb3 := Lib.hid hb3
      go_wp2_with fail
      go_loopw [0, 7, 22] (fun s o i wi => ∃ j : Nat, i = .int .i64 j ∧ s = .string sz ∧ j ≤ j0 ∧ Hid (OwnI wi w2.heap.size o pre) ∧ Hid (Below w3.heap.size w3 wi)) (fun _ _ i _ => j0 + 1 - (intOf i).toNat)
      case atStart => exact ⟨0, rfl, rfl, Nat.zero_le _, ho3, Below.refl _ _⟩
      case round =>
        obtain ⟨j, rfl, rfl, hj, ho4, hb4⟩ := hrel
        have hjl : j < pm.length := by omega
        obtain ⟨k, hk⟩ : ∃ k, Hid (k = pm[j]) := ⟨_, Lib.hid rfl⟩
        have ev := ((hov.out.below hb4.out).cell rfl j hjl).1
        rw [← hk.out] at ev
        have hcan : pcan n z k = true := pm_can n z k (by rw [hk.out, ← hpm.out]; exact List.getElem_mem _)
        have hMj := Lib.hid (hMk.out z k · hcan)
        have hz2 := hxl.out z k hzN hcan
        have hNj := Lib.hid (hNu.out (z ^^^ msk k) · hz2)
        obtain ⟨z2, hz2e⟩ : ∃ z2, Hid (z2 = z ^^^ msk k) := ⟨_, Lib.hid rfl⟩
        obtain ⟨st, hste⟩ : ∃ st, Hid (st = ST n z2) := ⟨_, Lib.hid rfl⟩
        rw [← hz2e.out] at hz2 hNj hMj
        rw [← hste.out] at hNj hMj
        rw [← hsz.out] at hMj
        have ht2 : num z2 < N := hnl.out z2 hz2
        have hxl2 := Lib.hid hz2
        obtain ⟨D1, hD1e⟩ : ∃ D1, Hid (D1 = dd (num y) (num z2)) := ⟨_, Lib.hid rfl⟩
        have hofr := (hof.out.below (hb3w.out)).below hb4.out
        have hcl := Lib.hid (fun (W5 : World) (hW : Below wr.heap.size wr W5) => show W5.cell? ⟨gm, num z2, none⟩ = some (.int .i64 D1) ∧ W5.cell? ⟨gm, num z, none⟩ = some (.int .i64 D) from by
          have c1 := ((hofr.below hW).cell hfl.out (num z2) (by rw [hfl.out]; exact ht2)).1
          have c2 := ((hofr.below hW).cell hfl.out (num z) (by rw [hfl.out]; exact hzz)).1
          rw [fdL_get] at c1 c2
          rw [← hD1e.out] at c1
          rw [← hDz.out] at c2
          exact ⟨c1, c2⟩)
        have hb24 := Lib.hid (hb3w.out.trans (hb4.out.mono hs3))
        have hofr := Lib.hid hofr
        clear hcan
        by_cases e : j = j0
        · have hkk : k = k0 := by
            have h := hfacts.out.2.2.2.1
            rw [hk.out, ← h]; simp only [hpm.out, e]
          have hcmp : ((D1 : Int) == (D : Int) - 1) = true := by
            have h := hfacts.out.2.1
            rw [← hkk, ← hz2e.out, ← hDz.out, ← hD1e.out] at h
            rw [beq_iff_eq]; omega
          have hnx := hnext.out
          rw [← hkk, ← hz2e.out] at hnx
          have hnx := Lib.hid hnx
          clear hkk e hz2
          go_wp2_with fail
          refine (hMj.out _).mono ?_; rintro e w5 ⟨rfl, qd, hw5⟩
          obtain ⟨c1, c2⟩ := hcl.out w5 (by rw [hw5]; exact below_q _ _)
          have hb45 := Lib.hid (show Below w3.heap.size w3 w5 by rw [hw5]; exact below_drewN hb4.out qd)
          have ho45 := ho4.out.drewN qd
          rw [← hw5] at ho45
          have ho45 := Lib.hid ho45
          clear hw5
          go_wp2_with fail
          go_quiet (first | (go_at_call 55; (with_reducible refine Calls.quiet_of_same (hNj.out _))) | (go_at_call 55; refine Calls.quiet_of_same (hNz.out _)))
          obtain ⟨W6, hW6⟩ : ∃ W6, W6 = w5.drewN nq := ⟨_, rfl⟩
          rw [← hW6]
          have hbq := Lib.hid (show Below w3.heap.size w3 W6 by rw [hW6]; exact below_drewN hb45.out nq)
          have ho6 := ho45.out.drewN nq
          rw [← hW6] at ho6
          have ho6 := Lib.hid ho6
          have hb26 := Lib.hid (hb3w.out.trans (hbq.out.mono hs3))
          have hs6 := hb26.out.size
          clear hW6
          go_wp2_with (at_builtin; refine app_int _ rfl _ _ rfl w2.heap.size _ _ rfl (ho6.out.alloc _) W6.heap.size _ rfl (by simp; rfl) (by have := hlen0.out; omega) (by simp; omega) ?_; intro v' w7 ho7 hg7; have hbw7 := Lib.hid (bel_own (hb26.out.alloc hb26.out.size _) (ho6.out.alloc _) hg7 (by simp; omega)); have ho7 := Lib.hid ho7; have hg7 := Lib.hid hg7)
          go_roundw
          case rel => exact ⟨z2, st, pre ++ [k], hxl2.out, rfl, hste, hnx, ho7, hbw7⟩
          case measure =>
            have e1 := ho7.out.lenOf
            have e2 := hlen0.out
            rw [List.length_append] at e1
            show 4097 - lenOf v' < 4097 - lenOf _
            simp at e1
            omega
        · have hj2 : j < j0 := by omega
          have hcmp : ((D1 : Int) == (D : Int) - 1) = false := by
            have h := hfacts.out.2.2.2.2.2 j (by rw [← hpm.out]; exact hjl) hj2
            have hkk : (pmL n z)[j]'(by rw [← hpm.out]; exact hjl) = k := by rw [hk.out]; simp only [hpm.out]
            rw [hkk, ← hz2e.out, ← hDz.out, ← hD1e.out] at h
            rw [beq_eq_false_iff_ne]; omega
          clear e hz2
          go_wp2_with fail
          refine (hMj.out _).mono ?_; rintro e w5 ⟨rfl, qd, hw5⟩
          obtain ⟨c1, c2⟩ := hcl.out w5 (by rw [hw5]; exact below_q _ _)
          have hb45 := Lib.hid (show Below w3.heap.size w3 w5 by rw [hw5]; exact below_drewN hb4.out qd)
          have ho45 := ho4.out.drewN qd
          rw [← hw5] at ho45
          have ho45 := Lib.hid ho45
          clear hw5
          go_wp2_with fail
          go_quiet (first | (go_at_call 55; (with_reducible refine Calls.quiet_of_same (hNj.out _))) | (go_at_call 55; refine Calls.quiet_of_same (hNz.out _)))
          go_wp2_with fail
          go_roundw
          case rel => exact ⟨j + 1, by go_num, rfl, by omega, Lib.hid (ho45.out.drewN nq), Lib.hid (below_drewN hb45.out nq)⟩
          all_goals (simp [intOf] <;> omega)

theorem fw_le (n x y : Nat) (hn : n ≤ 12) (hx : x < 2 ^ n) (hy : y < 2 ^ n) : (fway n (num y) (dd (num y) (num x)) x).length ≤ 4096 := by
  have hq : 2 ^ n ≤ 2 ^ 12 := Nat.pow_le_pow_right (by omega) hn
  have := dd_le (num_lt n y hy) (num_lt n x hx)
  rw [fway_len]; omega
theorem iFirstPairMoves_ST (n x y : Nat) (w : World) (h2 : 2 ≤ n) (hn : n ≤ 12) (hx : x < 2 ^ n) (hy : y < 2 ^ n) (hT : TabOk w) :
    Calls Tryd.prog 10 #[.string (ST n x), .string (ST n y)] w fun e w' => RetI w (fway n (num y) (dd (num y) (num x)) x) true e w' := by
  have hT := Lib.hid hT
  have hA := Lib.hid fun w hw => tp_ST n x y w h2 hn hx hy hw
  have hF := Lib.hid fun w hw => fpw_any n x y w h2 hn hx hy hw
  generalize fway n (num y) (dd (num y) (num x)) x = L at *
  generalize ST n x = a at *
  generalize ST n y = b at *
  go_enter Tryd.func10, Tryd.ntmps10
  go_wp2_with fail
  refine (hA.out _ hT.out).mono ?_; rintro e w1 ⟨rfl, hb⟩
  have hT1 := Lib.hid (hT.out.below hb)
  have hb := Lib.hid hb
  go_wp2_with fail
  refine (hF.out _ ((hT1.out.alloc _).alloc _)).mono ?_; rintro e w2 ⟨v, rfl, ho, hb2⟩
  have ho := Lib.hid ho
  have hb2 := Lib.hid hb2
  go_wp2_with fail
  go_ret2
  exact ⟨_, rfl, ho.out.mono (by have := hb.out.size; simp; omega), bt (bt (bt hb.out (ba _ _)) (ba _ _)) hb2.out⟩
theorem iFirstPairMoves_bad (a b : ByteArray) (w : World) (ha : a.size ≤ maxLen) (hb : b.size ≤ maxLen) (h : twoP a b = false) (hT : TabOk w) :
    Calls Tryd.prog 10 #[.string a, .string b] w fun e w' => RetI w [] false e w' := by
  have hA := Lib.hid fun w hw => tp_bad a b w ha hb h hw
  have hT := Lib.hid hT
  clear h
  go_enter Tryd.func10, Tryd.ntmps10
  go_wp2_with fail
  refine (hA.out _ hT.out).mono ?_; rintro e w1 ⟨rfl, hb⟩
  have hb := Lib.hid hb
  go_wp2_with fail
  go_ret2
  exact ⟨_, rfl, OwnI.nil _ _, bt (bt hb.out (ba _ _)) (ba _ _)⟩
theorem sFirstPairMoves_ST (n x y : Nat) (w : World) (h2 : 2 ≤ n) (hn : n ≤ 12) (hx : x < 2 ^ n) (hy : y < 2 ^ n) :
    Calls Tryd.prog 9 #[.string (ST n x), .string (ST n y)] w fun e w' => RetI w (fway n (num y) (dd (num y) (num x)) x) true e w' := by
  have hG := Lib.hid fun w => tt_yes n x y w h2 hn
  have hF := Lib.hid fun w => sway_any n x y w h2 hn hx hy
  generalize fway n (num y) (dd (num y) (num x)) x = L at *
  generalize ST n x = a at *
  generalize ST n y = b at *
  go_enter Tryd.func9, Tryd.ntmps9
  go_wp2_with fail
  refine (hG.out _).mono ?_; rintro e w1 ⟨rfl, rfl⟩
  go_wp2_with fail
  refine (hF.out _).mono ?_; rintro e w2 ⟨v, rfl, ho, hb2⟩
  have ho := Lib.hid ho
  have hb2 := Lib.hid hb2
  go_wp2_with fail
  go_ret2
  exact ⟨_, rfl, ho.out, hb2.out⟩
theorem sFirstPairMoves_bad (a b : ByteArray) (w : World) (ha : a.size ≤ maxLen) (hb : b.size ≤ maxLen) (h : twoP a b = false) :
    Calls Tryd.prog 9 #[.string a, .string b] w fun e w' => RetI w [] false e w' := by
  have hG := Lib.hid fun w => tt_no a b w ha hb h
  clear h
  go_enter Tryd.func9, Tryd.ntmps9
  go_wp2_with fail
  refine (hG.out _).mono ?_; rintro e w1 ⟨rfl, rfl⟩
  go_wp2_with fail
  go_ret2
  exact ⟨_, rfl, OwnI.nil _ _, Below.refl _ _⟩
theorem countEqual_nil (p : Option Addr) (cap : Nat) (m : Int) (w : World) :
    Calls Tryd.prog 32 #[.slice p 0 cap, .int .i64 m] w fun e w' => e = .returned (.int .i64 0) ∧ w = w' := by
  go_enter Tryd.func32, Tryd.ntmps32
  go_wp2
  go_loop [5, 10] (fun c i => i = .int .i64 0 ∧ c = .int .i64 0) (fun _ _ => 0)
  case atStart => exact ⟨rfl, rfl⟩
  case round =>
    obtain ⟨rfl, rfl⟩ := hrel
    go_wp2
    go_ret; exact ⟨rfl, rfl⟩
theorem countEqual_all (v : Value) (B : Nat) (ms : List Int) (m : Int) (w : World) (hN : ms.length ≤ 4096) (ho : OwnI w B v ms) :
    Calls Tryd.prog 32 #[v, .int .i64 m] w fun e w' => e = .returned (.int .i64 (cnt ms m : Int)) ∧ w = w' := by
  rcases ho.form with ⟨rfl, h0⟩ | ⟨g, cap, rfl, _, _, _, _, _⟩
  · subst h0; exact countEqual_nil none 0 m w
  · exact countEqual_any g cap B ms.length ms m w hN rfl ho
theorem iPairsUsed_ST (n x y : Nat) (w : World) (h2 : 2 ≤ n) (hn : n ≤ 12) (hx : x < 2 ^ n) (hy : y < 2 ^ n) (hT : TabOk w) :
    Calls Tryd.prog 15 #[.string (ST n x), .string (ST n y)] w fun e w' => AnsI w (cnt (fway n (num y) (dd (num y) (num x)) x) (-1) : Int) true e w' := by
  have hT := Lib.hid hT
  have hA := Lib.hid fun w hw => tp_ST n x y w h2 hn hx hy hw
  have hF := Lib.hid fun w hw => fpw_any n x y w h2 hn hx hy hw
  have hl := fw_le n x y hn hx hy
  generalize fway n (num y) (dd (num y) (num x)) x = L at *
  generalize ST n x = a at *
  generalize ST n y = b at *
  go_enter Tryd.func15, Tryd.ntmps15
  go_wp2_with fail
  refine (hA.out _ hT.out).mono ?_; rintro e w1 ⟨rfl, hb⟩
  have hT1 := Lib.hid (hT.out.below hb)
  have hb := Lib.hid hb
  go_wp2_with fail
  refine (hF.out _ ((hT1.out.alloc _).alloc _)).mono ?_; rintro e w2 ⟨v, rfl, ho, hb2⟩
  have hC := countEqual_all v _ L (-1) w2 hl ho
  have hb2 := Lib.hid hb2
  clear ho
  go_wp2_with fail
  refine hC.mono ?_; rintro e w3 ⟨rfl, rfl⟩
  go_wp2_with fail
  go_ret2
  exact ⟨rfl, bt (bt (bt hb.out (ba _ _)) (ba _ _)) hb2.out⟩
theorem iPairsUsed_bad (a b : ByteArray) (w : World) (ha : a.size ≤ maxLen) (hb : b.size ≤ maxLen) (h : twoP a b = false) (hT : TabOk w) :
    Calls Tryd.prog 15 #[.string a, .string b] w fun e w' => AnsI w 0 false e w' := by
  have hA := Lib.hid fun w hw => tp_bad a b w ha hb h hw
  have hT := Lib.hid hT
  clear h
  go_enter Tryd.func15, Tryd.ntmps15
  go_wp2_with fail
  refine (hA.out _ hT.out).mono ?_; rintro e w1 ⟨rfl, hb⟩
  have hb := Lib.hid hb
  go_wp2_with fail
  go_ret2
  exact ⟨rfl, bt (bt hb.out (ba _ _)) (ba _ _)⟩
theorem sPairsUsed_ST (n x y : Nat) (w : World) (h2 : 2 ≤ n) (hn : n ≤ 12) (hx : x < 2 ^ n) (hy : y < 2 ^ n) :
    Calls Tryd.prog 14 #[.string (ST n x), .string (ST n y)] w fun e w' => AnsI w (cnt (fway n (num y) (dd (num y) (num x)) x) (-1) : Int) true e w' := by
  have hG := Lib.hid fun w => tt_yes n x y w h2 hn
  have hF := Lib.hid fun w => sway_any n x y w h2 hn hx hy
  have hl := fw_le n x y hn hx hy
  generalize fway n (num y) (dd (num y) (num x)) x = ms at *
  generalize ST n x = a at *
  generalize ST n y = b at *
  go_enter Tryd.func14, Tryd.ntmps14
  go_wp2_with fail
  refine (hG.out _).mono ?_; rintro e w1 ⟨rfl, rfl⟩
  go_wp2_with fail
  refine (hF.out _).mono ?_; rintro e w2 ⟨v, rfl, ho, hb2⟩
  obtain ⟨N, hN⟩ : ∃ N, Hid (N = ms.length) := ⟨_, Lib.hid rfl⟩
  have hN4 : N ≤ 4096 := by rw [hN.out]; exact hl
  have hform : ∃ p cap, v = .slice p N cap ∧ Hid (∀ k (h : k < ms.length), ∃ g, p = some ⟨g, 0, none⟩ ∧ w2.cell? ⟨g, k, none⟩ = some (.int .i64 ms[k])) := by
    rcases ho.form with ⟨rfl, h0⟩ | ⟨g, cap, rfl, _, _, hc, _, _⟩
    · exact ⟨none, 0, by rw [hN.out, h0]; rfl, Lib.hid fun k h => by rw [h0] at h; simp at h⟩
    · exact ⟨_, cap, by rw [hN.out], Lib.hid fun k h => ⟨g, rfl, hc k h⟩⟩
  obtain ⟨p, cap, rfl, hce⟩ := hform
  have hb2 := Lib.hid hb2
  clear ho
  go_wp2_with fail
  go_loop [6, 17] (fun c i => ∃ k a : Nat, k ≤ N ∧ a ≤ k ∧ i = .int .i64 k ∧ c = .int .i64 (a : Int) ∧ Hid (cnt (ms.take k) (-1) = a)) (fun _ i => N - (intOf i).toNat)
  case atStart => exact ⟨0, 0, by omega, by omega, rfl, rfl, Lib.hid rfl⟩
  case round =>
    obtain ⟨k, a, hk, hak, rfl, rfl, hc⟩ := hrel
    by_cases hlt : k < N
    · have hkm : k < ms.length := by rw [← hN.out]; exact hlt
      obtain ⟨g, hpg, c0⟩ := hce.out k hkm
      subst hpg
      have hst := Lib.hid (cnt_take ms k (-1) hkm)
      obtain ⟨d, hd⟩ : ∃ d, Hid (d = ms[k]) := ⟨_, Lib.hid rfl⟩
      rw [← hd.out, hc.out] at hst
      rw [← hd.out] at c0
      by_cases e : d = -1
      · have h1 : (d == -1) = true := by simp [e]
        have hst2 : Hid (cnt (ms.take (k + 1)) (-1) = a + 1) := Lib.hid (by rw [hst.out, if_pos e])
        clear e
        go_wp2_with fail
        go_round
        case rel => exact ⟨k + 1, a + 1, by omega, by omega, by go_num, by go_num, hst2⟩
        all_goals (simp [intOf] <;> omega)
      · have h1 : (d == -1) = false := by simp [e]
        have hst2 : Hid (cnt (ms.take (k + 1)) (-1) = a) := Lib.hid (by rw [hst.out, if_neg e]; rfl)
        clear e
        go_wp2_with fail
        go_round
        case rel => exact ⟨k + 1, a, by omega, by omega, by go_num, rfl, hst2⟩
        all_goals (simp [intOf] <;> omega)
    · obtain rfl : N = k := by omega
      have HF : Hid (cnt ms (-1) = a) := Lib.hid (by rw [← hc.out, List.take_of_length_le (by rw [← hN.out]; exact Nat.le_refl _)])
      go_wp2_with fail
      go_ret2
      rw [HF.out]
      exact ⟨rfl, hb2.out⟩
theorem sPairsUsed_bad (a b : ByteArray) (w : World) (ha : a.size ≤ maxLen) (hb : b.size ≤ maxLen) (h : twoP a b = false) :
    Calls Tryd.prog 14 #[.string a, .string b] w fun e w' => AnsI w 0 false e w' := by
  have hG := Lib.hid fun w => tt_no a b w ha hb h
  clear h
  go_enter Tryd.func14, Tryd.ntmps14
  go_wp2_with fail
  refine (hG.out _).mono ?_; rintro e w1 ⟨rfl, rfl⟩
  go_wp2_with fail
  go_ret2
  exact ⟨rfl, Below.refl _ _⟩
end Go.Proofs.YtmbijomjilicgabDoor
