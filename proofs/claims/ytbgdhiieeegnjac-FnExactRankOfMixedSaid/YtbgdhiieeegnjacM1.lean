/- Chapter 2: the mixed digits with a rank, both ways. -/
import Derived.Test.YtbgdhiieeegnjacK6
namespace Go.Proofs.Ytbgdhiieeegnjac
open Go Go.RowKit RM

theorem mx_drop (xs : List Int) (k : Nat) (h : k < xs.length) (r : Int) :
    mxL (xs.drop k) r = (r / prd (xs.drop (k + 1))) :: mxL (xs.drop (k + 1)) (bck (r / prd (xs.drop (k + 1))) (r % prd (xs.drop (k + 1))) (prd (xs.drop (k + 1)))) := by
  rw [drop_step xs k h, mxL_cons]
theorem prd_drop (xs : List Int) (k : Nat) (h : k < xs.length) : prd (xs.drop k) = xs[k] * prd (xs.drop (k + 1)) := by rw [drop_step xs k h, prd_cons]
/-- what one digit comes to -/
theorem mx_nums {z O r : Int} (hz1 : 1 ≤ z) (hz2 : z ≤ 20) (hO1 : 1 ≤ O) (hO2 : O ≤ 25600000000) (hr0 : 0 ≤ r) (hr1 : r < z * O) :
    0 ≤ r / O ∧ r / O < 20 ∧ 0 ≤ r % O ∧ r % O < O ∧ (z * O) / z = O := by
  refine ⟨Int.ediv_nonneg hr0 (by omega), ?_, Int.emod_nonneg _ (by omega), Int.emod_lt_of_pos _ (by omega), ?_⟩
  · have : r < 20 * O := Int.lt_of_lt_of_le hr1 (Int.mul_le_mul_of_nonneg_right hz2 (by omega))
    exact Int.ediv_lt_of_lt_mul (by omega) this
  · rw [Int.mul_comm]; exact Int.mul_ediv_cancel _ (by omega)

/-- the answer: the digits, or none -/
def mxB (l : List Int) (r : Int) : Bool := lmB l && decide (0 ≤ r) && decide (r < prd l)
def mxA (l : List Int) (r : Int) : List Int := if mxB l r then mxL l r else []
theorem mx_no {l : List Int} {r : Int} (h : lmB l = false) : mxB l r = false ∧ mxA l r = [] := by
  have e : mxB l r = false := by unfold mxB; rw [h]; rfl
  exact ⟨e, by unfold mxA; rw [e]; rfl⟩
theorem mx_out {l : List Int} {r : Int} (h : r < 0 ∨ prd l ≤ r) : mxB l r = false ∧ mxA l r = [] := by
  have e : mxB l r = false := by
    unfold mxB
    rw [Bool.and_assoc]
    have : (decide (0 ≤ r) && decide (r < prd l)) = false := by simp; omega
    rw [this]; simp
  exact ⟨e, by unfold mxA; rw [e]; rfl⟩
theorem mx_yes {l : List Int} {r : Int} (h : lmB l = true) (h1 : 0 ≤ r) (h2 : r < prd l) : mxB l r = true ∧ mxA l r = mxL l r := by
  have e : mxB l r = true := by unfold mxB; rw [h]; simp [h1, h2]
  exact ⟨e, by unfold mxA; rw [e]; rfl⟩

theorem iMixed_nolim (p : Option Addr) (n cap : Nat) (r : Int) (w : World) (hA : Hid (∀ w', w = w' → Calls Try.prog 63 #[.slice p n cap] w' fun e w'' => e = .returned (.bool false) ∧ w' = w'')) :
    Calls Try.prog 31 #[.slice p n cap, .int .i64 r] w fun e w' => RetI w [] false e w' := by
  go_enter Try.func31, Try.ntmps31
  go_wp2_with fail
  refine (hA.out _ rfl).mono ?_; rintro e w' ⟨rfl, rfl⟩
  go_wp2_with fail
  go_ret2; exact ⟨_, rfl, OwnI.nil _ _, Below.refl _ _⟩

theorem iMixed_norank (p : Option Addr) (n cap : Nat) (r P : Int) (w : World) (h : r < 0 ∨ P ≤ r) (hA : Hid (∀ w', w = w' → Calls Try.prog 63 #[.slice p n cap] w' fun e w'' => e = .returned (.bool true) ∧ w' = w''))
    (hP : Hid (∀ w', w = w' → Calls Try.prog 64 #[.slice p n cap] w' fun e w'' => e = .returned (.int .i64 P) ∧ w' = w'')) :
    Calls Try.prog 31 #[.slice p n cap, .int .i64 r] w fun e w' => RetI w [] false e w' := by
  have hR := Lib.hid fun w => isRank_no r P w h
  clear h
  go_enter Try.func31, Try.ntmps31
  go_wp2_with fail
  refine (hA.out _ rfl).mono ?_; rintro e w' ⟨rfl, rfl⟩
  go_wp2_with fail
  refine (hP.out _ rfl).mono ?_; rintro e w' ⟨rfl, rfl⟩
  go_wp2_with fail
  refine (hR.out _).mono ?_; rintro e w' ⟨rfl, rfl⟩
  go_wp2_with fail
  go_ret2; exact ⟨_, rfl, OwnI.nil _ _, Below.refl _ _⟩

set_option maxHeartbeats 1000000 in
theorem iMixed_yes (xs : List Int) (b cap n : Nat) (r P : Int) (w : World) (h1 : 1 ≤ n) (h2 : n ≤ 8) (hx : Hid (xs.length = n)) (hlm : Hid (lmB xs = true)) (hr0 : 0 ≤ r) (hr1 : r < P) (hP1 : 1 ≤ P) (hP2 : P ≤ 25600000000) (hPP : Hid (prd xs = P))
    (hb : b < w.heap.size)
    (hc : Hid (∀ i (h : i < xs.length), w.cell? ⟨b, i, none⟩ = some (.int .i64 xs[i])))
    (hA : Hid (∀ w', w = w' → Calls Try.prog 63 #[.slice (some ⟨b, 0, none⟩) n cap] w' fun e w'' => e = .returned (.bool true) ∧ w' = w''))
    (hP : Hid (∀ w', w = w' → Calls Try.prog 64 #[.slice (some ⟨b, 0, none⟩) n cap] w' fun e w'' => e = .returned (.int .i64 P) ∧ w' = w'')) :
    Calls Try.prog 31 #[.slice (some ⟨b, 0, none⟩) n cap, .int .i64 r] w fun e w' => RetI w (mxL xs r) true e w' := by
  have hR := Lib.hid fun w => isRank_yes r P w hr0 hr1
  have hml : Hid ((mxL xs r).length = n) := Lib.hid (by rw [mxL_len]; exact hx.out)
  go_enter Try.func31, Try.ntmps31
  go_wp2_with fail
  refine (hA.out _ rfl).mono ?_; rintro e w' ⟨rfl, rfl⟩
  go_wp2_with fail
  refine (hP.out _ rfl).mono ?_; rintro e w' ⟨rfl, rfl⟩
  go_wp2_with fail
  refine (hR.out _).mono ?_; rintro e w' ⟨rfl, rfl⟩
  go_wp2_with fail
  refine (hP.out _ rfl).mono ?_; rintro e w' ⟨rfl, rfl⟩
  go_wp2_with (at_make; refine make_int _ rfl _ _ rfl _ _ n rfl rfl (by omega) ?_; intro w1 hown1 hb1)
  have hown1 := Lib.hid hown1
  have hb1 := Lib.hid hb1
  go_loopw [1, 6, 27] (fun rr oo i wr => ∃ (k : Nat) (z O : Int), k ≤ n ∧ i = .int .i64 k ∧ rr = .int .i64 z ∧ oo = .int .i64 O ∧ 0 ≤ z ∧ z < O ∧ O ≤ 25600000000 ∧ Hid (prd (xs.drop k) = O) ∧ Hid ((mxL xs r).drop k = mxL (xs.drop k) z) ∧
    Hid (OwnI wr w.heap.size (.slice (some ⟨w.heap.size, 0, none⟩) n n) ((mxL xs r).take k ++ List.replicate (n - k) 0)) ∧ Hid (Below w.heap.size w wr)) (fun _ _ i _ => n - (intOf i).toNat)
  case atStart => exact ⟨0, r, P, by omega, rfl, rfl, rfl, hr0, hr1, hP2, hPP, rfl, Lib.hid (by simpa using hown1.out), hb1⟩
  case round =>
    obtain ⟨k, z, O, hk, rfl, rfl, rfl, hz0, hz1, hO2, hO, hd, ho, hbw⟩ := hrel
    clear hown1 hb1
    by_cases hlt : k < n
    · have hkx : k < xs.length := by rw [hx.out]; exact hlt
      have hrd : wr.cell? ⟨b, k, none⟩ = some (.int .i64 xs[k]) := by
        rw [hbw.out.cell (p := ⟨b, k, none⟩) hb]; exact hc.out k hkx
      obtain ⟨hl1, hl2⟩ := lm_at hlm.out k hkx
      obtain ⟨hq1, hq2⟩ := lm_prd hlm.out (k + 1)
      have hmd := Lib.hid (mx_drop xs k hkx z)
      have hpd := prd_drop xs k hkx
      rw [hO.out] at hpd
      obtain ⟨Q, hQ⟩ : ∃ Q, Q = prd (xs.drop (k + 1)) := ⟨_, rfl⟩
      rw [← hQ] at hq1 hq2 hpd hmd
      have HQ := Lib.hid hQ.symm
      clear hQ
      rw [hpd] at hz1
      obtain ⟨n1, n2, n3, n4, n5⟩ := mx_nums hl1 hl2 hq1 hq2 hz0 hz1
      rw [← hpd] at n5 hz1
      obtain ⟨d, hd2⟩ : ∃ d, d = z / Q := ⟨_, rfl⟩
      obtain ⟨m, hm2⟩ : ∃ m, m = z % Q := ⟨_, rfl⟩
      have e2 : z.tmod Q = m := by rw [hm2]; exact Int.tmod_eq_emod_of_nonneg hz0
      rw [← hd2] at n1 n2 hmd
      rw [← hm2] at n3 n4 hmd
      have e1 := hd2.symm
      clear hd2 hm2
      obtain ⟨hbk0, hbk1⟩ := bck_bd (d := d) n3 n4
      have hB := Lib.hid fun w => back_any d m Q w n1 (by omega) n3 n4 (by omega)
      obtain ⟨z2, hz2⟩ : ∃ z2, z2 = bck d m Q := ⟨_, rfl⟩
      rw [← hz2] at hbk0 hbk1 hmd hB
      clear hz2
      have hB2 : Hid (∀ w, Calls Try.prog 65 #[.int .i64 d, .int .i64 m, .int .i64 Q] w fun e w' => e = .returned (.int .i64 z2) ∧ w' = w) := Lib.hid fun w => (hB.out w).mono fun _ _ ⟨a, b⟩ => ⟨a, b.symm⟩
      have hml2 : Hid (((mxL xs r).take k).length = k) := Lib.hid (by rw [List.length_take, hml.out]; omega)
      have hlk : Hid (((mxL xs r).take k ++ List.replicate (n - k) 0).length = n) := Lib.hid (by rw [List.length_append, hml2.out, List.length_replicate]; omega)
      have hsp : Hid (List.replicate (n - k) (0 : Int) = 0 :: List.replicate (n - (k + 1)) 0) := Lib.hid (by
        rw [show n - k = (n - (k + 1)) + 1 from by omega]; rfl)
      have hgd : Hid ((mxL xs r).take (k + 1) = (mxL xs r).take k ++ [d]) := Lib.hid (by
        have hkm : k < (mxL xs r).length := by rw [hml.out]; exact hlt
        have a := drop_step (mxL xs r) k hkm
        rw [hd.out, hmd.out] at a
        have b : (mxL xs r)[k] = d := (List.cons.inj a).1.symm
        rw [take_step _ k hkm, b])
      have hdn : Hid ((mxL xs r).drop (k + 1) = mxL (xs.drop (k + 1)) z2) := Lib.hid (by
        have hkm : k < (mxL xs r).length := by rw [hml.out]; exact hlt
        have a := drop_step (mxL xs r) k hkm
        rw [hd.out, hmd.out] at a
        exact (List.cons.inj a).2.symm)
      obtain ⟨hce, hfr⟩ := ho.out.cell hlk.out k (by rw [hlk.out]; exact hlt)
      obtain ⟨y, hy⟩ : ∃ y, y = ((mxL xs r).take k ++ List.replicate (n - k) 0)[k]'(by rw [hlk.out]; exact hlt) := ⟨_, rfl⟩
      rw [← hy] at hce
      have hst := Lib.hid (ho.out.stored hlk.out k d)
      have hzne : (xs[k] == 0) = false := by simp; omega
      have hQne : (Q == 0) = false := by simp; omega
      clear hy hpd hmd hd
      generalize xs[k] = y0 at *
      go_wp2_with fail
      simp only [n5, e1]
      go_quiet ((go_at_call 65; refine Calls.quiet_of_same (hB2.out _)))
      go_wp2
      go_roundw
      case rel =>
        refine ⟨k + 1, z2, Q, by omega, by go_num, rfl, rfl, hbk0, hbk1, hq2, HQ, hdn, Lib.hid ?_, Lib.hid ?_⟩
        · have h3 := hst.out.1
          rw [hsp.out, List.set_append_right _ _ (by rw [hml2.out]; exact Nat.le_refl _), hml2.out, Nat.sub_self, List.set_cons_zero] at h3
          rw [hgd.out, List.append_assoc]; exact h3.drewN _
        · exact below_drewN (hbw.out.grown hst.out.2 hbw.out.size (fun j e => by cases e; exact Nat.le_refl _)) _
      all_goals (simp [intOf] <;> omega)
    · obtain rfl : k = n := by omega
      have ho2 := ho.out
      rw [List.take_of_length_le (by rw [hml.out]; exact Nat.le_refl _)] at ho2
      simp only [Nat.sub_self, List.replicate_zero, List.append_nil] at ho2
      have ho2 := Lib.hid ho2
      go_wp2
      go_ret2
      exact ⟨_, rfl, ho2.out, hbw.out⟩
end Go.Proofs.Ytbgdhiieeegnjac
