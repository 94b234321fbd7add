/- Chapter 7: chances counted by the model. -/
import Derived.Test.YtfnhmacnghkgiaeDoorZC
namespace Go.Proofs.YtfnhmacnghkgiaeDoor
open Go Go.RowKit RM
set_option maxRecDepth 100000 in
set_option maxHeartbeats 4000000 in
theorem waChances_any (a L N : Nat) (w : World) (hL : 1 ≤ L) (hL2 : L < 4096) (ha : a ≤ L) (hN : N ≤ 40) :
    Calls Tryd.prog 35 #[.int .i64 a, .int .i64 L, .int .i64 N] w fun e w' => ∃ v, e = .returned v ∧ OwnI w' w.heap.size v (fnR (L + 1) (wk L 2 a N)) ∧ Below w.heap.size w w' := by
  have hz := Lib.hid (fnR_zero (L + 1))
  have hst : Hid ((fnR (L + 1) (fun _ => 0)).set a 1 = fnR (L + 1) (wk L 2 a 0)) := Lib.hid (by
    have := fnR_set (L + 1) (fun _ => 0) a 1
    rw [show (((1 : Nat) : Int)) = 1 from rfl] at this
    rw [this]; rfl)
  have hfin : Hid (∀ j, fnR (L + 1) (pw L 2 (wk L 2 a j) (L + 1)) = fnR (L + 1) (wk L 2 a (j + 1))) := Lib.hid fun j => fnR_congr _ _ _ fun i hi => pw_all L 2 _ i (by omega)
  have hini : Hid (∀ j, fnR (L + 1) (pw L 2 (wk L 2 a j) 0) = fnR (L + 1) (fun _ => 0)) := Lib.hid fun j => fnR_congr _ _ _ fun i _ => pw_zero L 2 _ i
  have hr1 := Lib.hid (row_first L 2)
  have hr2 := Lib.hid (row_last L 2)
  have hr3 := Lib.hid (row_mid L 2)
  have hbd : Hid (∀ j i, j ≤ 40 → wk L 2 a j i ≤ 1099511627776) := Lib.hid fun j i hj => Nat.le_trans (wk_le L 2 a hL (by omega) ha j i) (Nat.pow_le_pow_right (n := 2) (by omega) hj)
  have hbp : Hid (∀ j k i, j ≤ 40 → pw L 2 (wk L 2 a j) k i ≤ 4398046511104) := Lib.hid fun j k i hj => by
    have := pw_le L 2 (wk L 2 a j) 1099511627776 (by omega) (fun i => hbd.out j i hj) k i; omega
  have hw0 : wc L 2 0 = 2 := by unfold wc; rw [if_pos (Or.inl rfl)]
  have hwL : wc L 2 L = 2 := by unfold wc; rw [if_pos (Or.inr rfl)]
  have hw1 : Hid (∀ k, k ≠ 0 → k ≠ L → wc L 2 k = 1) := Lib.hid fun k h1 h2 => by unfold wc; rw [if_neg (by omega)]
  replace hw0 := Lib.hid hw0
  replace hwL := Lib.hid hwL
  have hfl := Lib.hid (fnR_len (L + 1))
  have hfg := Lib.hid (fnR_get (L + 1))
  obtain ⟨R, hR⟩ : ∃ R, R = L + 1 := ⟨_, rfl⟩
  have hRi : (L : Int) + 1 = (R : Int) := by omega
  rw [← hR] at hz hst hfin hini hr1 hr2 hr3 hfl hfg ⊢
  generalize wk L 2 a = f at *
  generalize hpw : pw L 2 = p at *
  clear hpw
  have hRb : R ≤ 4096 := by omega
  have hLR : L < R := by omega
  replace hR := Lib.hid hR
  go_enter Tryd.func35, Tryd.ntmps35
  have haR : decide ((a : Int) < (R : Int)) = true := by simp; omega
  go_wp2_with (at_make; refine make_int _ rfl _ _ rfl _ _ R rfl rfl (by omega) ?_; intro w1 hown1 hb1; rw [hz.out] at hown1; obtain ⟨c0, f0⟩ := hown1.cell (hfl.out _) a (by rw [hfl.out]; omega); have hs1 := hown1.stored (hfl.out _) a 1; rw [hst.out] at hs1; obtain ⟨ho1, hg1⟩ := hs1; have hb2 := Lib.hid (hb1.grown hg1 hb1.size (fun j e => by cases e; exact Nat.le_refl _)); replace ho1 := Lib.hid ho1; clear hown1 hb1 hg1)
  go_loopw [2, 7] (fun m v wr => ∃ j : Nat, j ≤ N ∧ m = .int .i64 ((N : Int) - j) ∧ Hid (OwnI wr w.heap.size v (fnR R (f j))) ∧ Hid (Below w.heap.size w wr)) (fun m _ _ => (intOf m).toNat)
  case atStart => exact ⟨0, Nat.zero_le _, by first | rfl | exact vi (by omega), ho1, hb2⟩
  case round =>
    obtain ⟨j, hj, rfl, ho, hb⟩ := hrel
    generalize wr = wl at *
    obtain ⟨g1, cap1, rfl, hg1, hg1l⟩ := own_some ho.out R (hfl.out _) (by omega)
    by_cases hlt : j < N
    · have d1 : decide ((0 : Int) < (N : Int) - (j : Int)) = true := by simp; omega
      have hfj := Lib.hid (hfin.out j)
      have hij := Lib.hid (hini.out j)
      have hbj : Hid (∀ i, f j i ≤ 1099511627776) := Lib.hid fun i => hbd.out j i (by omega)
      have hpj : Hid (∀ k i, p (f j) k i ≤ 4398046511104) := Lib.hid fun k i => hbp.out j k i (by omega)
      have r1 := hr1.out (f j)
      rw [hw0.out] at r1
      replace r1 := Lib.hid r1
      have r2 := hr2.out (f j)
      replace r2 := Lib.hid r2
      have r3 := hr3.out (f j)
      replace r3 := Lib.hid r3
      generalize hfn : f (j + 1) = fn at *
      replace hfn := Lib.hid hfn
      generalize f j = fj at *
      generalize p fj = pj at *
      go_wp2_with (at_make; refine make_int _ rfl _ _ rfl _ _ R rfl rfl (by omega) ?_; intro w3 hown3 hb3; rw [hz.out, ← hij.out] at hown3; have ho3 := Lib.hid (ho.out.below hb3); have hb4 := Lib.hid (bt1 hb.out hb3); replace hown3 := Lib.hid hown3; clear hb3)
      have hne : g1 ≠ wl.heap.size := by omega
      have hwl := hb.out.size
      go_loopw [26] (fun i wr => ∃ k : Nat, k ≤ R ∧ i = .int .i64 k ∧ Hid (OwnI wr wl.heap.size (.slice (some ⟨wl.heap.size, 0, none⟩) R R) (fnR R (pj k))) ∧ Hid (OwnI wr w.heap.size (.slice (some ⟨g1, 0, none⟩) R cap1) (fnR R fj)) ∧ Hid (Below w.heap.size w wr)) (fun i _ => R - (intOf i).toNat)
      case atStart => exact ⟨0, Nat.zero_le _, rfl, hown3, ho3, hb4⟩
      case round =>
        obtain ⟨k, hk, rfl, hq, ho5, hb5⟩ := hrel
        rename World => wq
        by_cases hkR : k < R
        · obtain ⟨c1, _⟩ := ho5.out.cell (hfl.out _) k (by rw [hfl.out]; exact hkR)
          rw [hfg.out] at c1
          have hfb := hbj.out k
          by_cases hk0 : k = 0
          · subst hk0
            obtain ⟨c2, f2⟩ := hq.out.cell (hfl.out _) 1 (by rw [hfl.out]; omega)
            rw [hfg.out] at c2
            have hpb := hpj.out 0 1
            obtain ⟨hq2, hgw⟩ := hq.out.stored (hfl.out _) 1 ((pj 0 1 + 2 * fj 0 : Nat) : Int)
            rw [← r1.out] at hq2
            have ho6 := own_keep ho5.out hne 1 (.int .i64 ((pj 0 1 + 2 * fj 0 : Nat) : Int))
            have hb6 := hb5.out.grown hgw hb5.out.size (fun j e => by cases e; exact hwl)
            generalize hA : pj 0 1 = A at *
            generalize hF : fj 0 = F at *
            have hsum : ((A + 2 * F : Nat) : Int) = (A : Int) + 2 * F := by omega
            rw [hsum] at hq2 ho6 hb6
            replace hq2 := Lib.hid hq2
            replace ho6 := Lib.hid ho6
            replace hb6 := Lib.hid hb6
            clear hA hF hgw
            have d2 : decide ((0 : Int) < (L : Int)) = true := by simp; omega
            have d3 : decide (0 < L) = true := by simp; omega
            have d4 : decide ((1 : Int) < (R : Int)) = true := by simp; omega
            have d5 : decide (1 < R) = true := by simp; omega
            go_wp2_with fail
            exact ⟨⟨1, by omega, rfl, hq2, ho6, hb6⟩, by simp [intOf]; omega⟩
          · obtain ⟨kk, hkk⟩ : ∃ kk, k = kk + 1 := ⟨k - 1, by omega⟩
            have e1 : (k : Int) - 1 = (kk : Int) := by omega
            have hkR2 : kk < R := by omega
            have d0 : ((k : Int) == 0) = false := by simp; omega
            have d1 : (k == 0) = false := by simp; omega
            have d2 : decide ((kk : Int) < (R : Int)) = true := by simp; omega
            have d3 : decide (kk < R) = true := by simp; omega
            obtain ⟨c2, f2⟩ := hq.out.cell (hfl.out _) kk (by rw [hfl.out]; omega)
            rw [hfg.out] at c2
            have hpb := hpj.out k kk
            by_cases hkL : k = L
            · obtain ⟨hq2, hgw⟩ := hq.out.stored (hfl.out _) kk ((pj k kk + 2 * fj k : Nat) : Int)
              have ho6 := own_keep ho5.out hne kk (.int .i64 ((pj k kk + 2 * fj k : Nat) : Int))
              have hb6 := hb5.out.grown hgw hb5.out.size (fun j e => by cases e; exact hwl)
              have hrow := r2.out kk (by omega)
              rw [show kk + 2 = k + 1 from by omega, show kk + 1 = k from by omega, hkL, hwL.out, ← hkL] at hrow
              rw [← hrow] at hq2
              clear hrow
              replace hkk := Lib.hid hkk
              generalize hA : pj k kk = A at *
              generalize hF : fj k = F at *
              have hsum : ((A + 2 * F : Nat) : Int) = (A : Int) + 2 * F := by omega
              rw [hsum] at hq2 ho6 hb6
              replace hq2 := Lib.hid hq2
              replace ho6 := Lib.hid ho6
              replace hb6 := Lib.hid hb6
              clear hA hF hgw
              have d4 : ((k : Int) == (L : Int)) = true := by simp; omega
              have d5 : (k == L) = true := by simp; omega
              replace hkL := Lib.hid hkL
              go_wp2_with fail
              exact ⟨⟨k + 1, by omega, by go_num, hq2, ho6, hb6⟩, by simp [intOf]; omega⟩
            · obtain ⟨hq2, hgw⟩ := hq.out.stored (hfl.out _) kk ((pj k kk + fj k : Nat) : Int)
              have ho6 := own_keep ho5.out hne kk (.int .i64 ((pj k kk + fj k : Nat) : Int))
              have hb6 := hb5.out.grown hgw hb5.out.size (fun j e => by cases e; exact hwl)
              obtain ⟨c3, f3⟩ := hq.out.cell (hfl.out _) (k + 1) (by rw [hfl.out]; omega)
              rw [hfg.out] at c3
              have hpc := hpj.out k (k + 1)
              obtain ⟨hq3, hgw3⟩ := hq2.stored (by rw [List.length_set]; exact hfl.out _) (k + 1) ((pj k (k + 1) + fj k : Nat) : Int)
              have hrow := r3.out kk
              rw [show kk + 2 = k + 1 from by omega, show kk + 1 = k from by omega, hw1.out k (by omega) hkL, Nat.one_mul] at hrow
              rw [← hrow] at hq3
              have ho7 := own_keep ho6 hne (k + 1) (.int .i64 ((pj k (k + 1) + fj k : Nat) : Int))
              have hb7 := hb6.grown hgw3 hb6.size (fun j e => by cases e; exact hwl)
              clear hrow hq2 ho6 hb6 hgw hgw3
              have n1 : ¬ k + 1 = kk := by omega
              have n2 : ¬ kk = k + 1 := by omega
              replace hkk := Lib.hid hkk
              generalize hA : pj k kk = A at *
              generalize hB : pj k (k + 1) = B at *
              generalize hF : fj k = F at *
              have hsum : ((A + F : Nat) : Int) = (A : Int) + F := by omega
              have hsum2 : ((B + F : Nat) : Int) = (B : Int) + F := by omega
              rw [hsum, hsum2] at hq3 ho7 hb7
              replace hq3 := Lib.hid hq3
              replace ho7 := Lib.hid ho7
              replace hb7 := Lib.hid hb7
              clear hA hB hF
              have d4 : ((k : Int) == (L : Int)) = false := by simp; omega
              have d5 : (k == L) = false := by simp; omega
              have d6 : decide ((k : Int) + 1 < (R : Int)) = true := by simp; omega
              have d7 : decide (k + 1 < R) = true := by simp; omega
              go_wp2_with fail
              exact ⟨⟨k + 1, by omega, by go_num, hq3, ho7, hb7⟩, by simp [intOf]; omega⟩
        · obtain rfl : k = R := by omega
          go_wp2_with fail
          exact ⟨⟨j + 1, by omega, vi (by omega), Lib.hid (by rw [hfn.out, ← hfj.out]; exact hq.out.mono hwl), hb5⟩, by simp [intOf]; omega⟩
    · obtain rfl : j = N := by omega
      have d1 : decide ((0 : Int) < (j : Int) - (j : Int)) = false := by simp
      go_wp2_with fail
      go_ret
      exact ⟨_, rfl, ho.out, hb.out⟩
end Go.Proofs.YtfnhmacnghkgiaeDoor
