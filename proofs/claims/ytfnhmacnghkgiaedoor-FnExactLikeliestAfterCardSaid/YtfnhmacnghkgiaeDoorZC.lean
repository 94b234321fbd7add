/- Chapter 7: walks counted by the model. -/
import Derived.Test.YtfnhmacnghkgiaeDoorZW
import Derived.Test.YtfnhmacnghkgiaeDoorZA
namespace Go.Proofs.YtfnhmacnghkgiaeDoor
open Go Go.RowKit RM
/-- a row of the numbers that a function has -/
def fnR (n : Nat) (f : Nat → Nat) : List Int := (List.range n).map fun (i : Nat) => ((f i : Nat) : Int)
theorem fnR_len (n : Nat) (f : Nat → Nat) : (fnR n f).length = n := by unfold fnR; simp
theorem fnR_get (n : Nat) (f : Nat → Nat) (k : Nat) (h : k < (fnR n f).length) : (fnR n f)[k] = ((f k : Nat) : Int) := by
  have hk : k < n := by rw [fnR_len] at h; exact h
  have e : (fnR n f)[k]? = some ((f k : Nat) : Int) := by
    unfold fnR; rw [List.getElem?_map, List.getElem?_range hk]; rfl
  rw [List.getElem?_eq_getElem h] at e; exact Option.some.inj e
theorem fnR_congr (n : Nat) (f g : Nat → Nat) (h : ∀ i, i < n → f i = g i) : fnR n f = fnR n g := by
  unfold fnR
  apply List.map_congr_left
  intro i hi
  rw [h i (List.mem_range.1 hi)]
theorem fnR_set (n : Nat) (f : Nat → Nat) (k v : Nat) : (fnR n f).set k ((v : Nat) : Int) = fnR n (fun i => if i = k then v else f i) := by
  apply List.ext_getElem?
  intro i
  rw [List.getElem?_set]
  unfold fnR
  rw [List.length_map, List.length_range]
  by_cases hi : i < n
  · rw [List.getElem?_map, List.getElem?_map, List.getElem?_range hi]
    by_cases e : k = i
    · subst e; rw [if_pos rfl, if_pos hi]; simp
    · rw [if_neg e]; simp; rw [if_neg (fun h => e h.symm)]
  · rw [List.getElem?_map, List.getElem?_map, List.getElem?_eq_none (by simp; omega)]
    by_cases e : k = i
    · subst e; rw [if_pos rfl, if_neg hi]; rfl
    · rw [if_neg e]; rfl
theorem fnR_zero (n : Nat) : List.replicate n (0 : Int) = fnR n (fun _ => 0) := by
  unfold fnR
  apply List.ext_getElem?
  intro i
  by_cases hi : i < n
  · rw [List.getElem?_replicate, if_pos hi, List.getElem?_map, List.getElem?_range hi]; rfl
  · rw [List.getElem?_replicate, if_neg hi, List.getElem?_map, List.getElem?_eq_none (by simp; omega)]; rfl
/-- what the first k have sent on -/
def pw (L d : Nat) (f : Nat → Nat) (k i : Nat) : Nat := (if i + 1 < k then wc L d (i + 1) * f (i + 1) else 0) + (if 1 ≤ i ∧ i ≤ k then wc L d (i - 1) * f (i - 1) else 0)
theorem pw_zero (L d : Nat) (f : Nat → Nat) (i : Nat) : pw L d f 0 i = 0 := by
  unfold pw; rw [if_neg (by omega), if_neg (by omega)]
theorem pw_all (L d : Nat) (f : Nat → Nat) (i : Nat) (h : i ≤ L) : pw L d f (L + 1) i = stepW L d f i := by
  unfold pw stepW
  rw [Nat.add_comm]
  congr 1
  · by_cases e : 1 ≤ i
    · rw [if_pos (by omega), if_pos (by omega)]
    · rw [if_neg (by omega), if_neg (by omega)]
  · by_cases e : i < L
    · rw [if_pos (by omega), if_pos e]
    · rw [if_neg (by omega), if_neg e]
theorem pw_up (L d : Nat) (f : Nat → Nat) (k : Nat) : pw L d f (k + 1) (k + 1) = pw L d f k (k + 1) + wc L d k * f k := by
  unfold pw
  rw [if_neg (by omega), if_pos (by omega), if_neg (by omega), if_neg (by omega)]; simp
theorem pw_down (L d : Nat) (f : Nat → Nat) (k : Nat) : pw L d f (k + 2) k = pw L d f (k + 1) k + wc L d (k + 1) * f (k + 1) := by
  unfold pw
  rw [if_pos (by omega), if_neg (show ¬ k + 1 < k + 1 by omega), Nat.zero_add, Nat.add_comm]
  congr 1
  by_cases e : 1 ≤ k
  · rw [if_pos (by omega), if_pos (by omega)]
  · rw [if_neg (by omega), if_neg (by omega)]
theorem pw_same (L d : Nat) (f : Nat → Nat) (k i : Nat) (h1 : i + 1 ≠ k) (h2 : i ≠ k + 1) : pw L d f (k + 1) i = pw L d f k i := by
  unfold pw
  congr 1
  · by_cases e : i + 1 < k
    · rw [if_pos (by omega), if_pos e]
    · rw [if_neg (by omega), if_neg e]
  · by_cases e : 1 ≤ i ∧ i ≤ k
    · rw [if_pos (by omega), if_pos e]
    · rw [if_neg (by omega), if_neg e]
theorem wc_le (L d k : Nat) (h : d ≤ 2) : wc L d k ≤ 2 := by unfold wc; split <;> omega
theorem pw_le (L d : Nat) (f : Nat → Nat) (b : Nat) (hd : d ≤ 2) (h : ∀ i, f i ≤ b) (k i : Nat) : pw L d f k i ≤ 4 * b := by
  have h1 : ∀ j, wc L d j * f j ≤ 2 * b := fun j => Nat.mul_le_mul (wc_le L d j hd) (h j)
  unfold pw
  have := h1 (i + 1)
  have := h1 (i - 1)
  split <;> split <;> omega
/-- rows before and behind one number's moves -/
theorem row_first (L d : Nat) (f : Nat → Nat) : fnR (L + 1) (pw L d f 1) = (fnR (L + 1) (pw L d f 0)).set 1 ((pw L d f 0 1 + wc L d 0 * f 0 : Nat) : Int) := by
  rw [fnR_set]
  apply fnR_congr
  intro i _
  by_cases e : i = 1
  · subst e; rw [if_pos rfl]; exact pw_up L d f 0
  · rw [if_neg e]; exact pw_same L d f 0 i (by omega) e
theorem row_last (L d : Nat) (f : Nat → Nat) (k : Nat) (hk : k + 1 = L) : fnR (L + 1) (pw L d f (k + 2)) = (fnR (L + 1) (pw L d f (k + 1))).set k ((pw L d f (k + 1) k + wc L d (k + 1) * f (k + 1) : Nat) : Int) := by
  rw [fnR_set]
  apply fnR_congr
  intro i hi
  by_cases e : i = k
  · subst e; rw [if_pos rfl]; exact pw_down L d f i
  · rw [if_neg e]; exact pw_same L d f (k + 1) i (by omega) (by omega)
theorem row_mid (L d : Nat) (f : Nat → Nat) (k : Nat) : fnR (L + 1) (pw L d f (k + 2)) = ((fnR (L + 1) (pw L d f (k + 1))).set k ((pw L d f (k + 1) k + wc L d (k + 1) * f (k + 1) : Nat) : Int)).set (k + 2) ((pw L d f (k + 1) (k + 2) + wc L d (k + 1) * f (k + 1) : Nat) : Int) := by
  rw [fnR_set, fnR_set]
  apply fnR_congr
  intro i hi
  by_cases e : i = k + 2
  · subst e; rw [if_pos rfl]; exact pw_up L d f (k + 1)
  · rw [if_neg e]
    by_cases e2 : i = k
    · subst e2; rw [if_pos rfl]; exact pw_down L d f i
    · rw [if_neg e2]; exact pw_same L d f (k + 1) i (by omega) (by omega)
theorem own_some {w : World} {B : Nat} {v : Value} {xs : List Int} (h : OwnI w B v xs) (n : Nat) (hn : xs.length = n) (h0 : 0 < n) : ∃ g c, v = .slice (some ⟨g, 0, none⟩) n c ∧ B ≤ g ∧ g < w.heap.size := by
  rcases h.form with ⟨rfl, rfl⟩ | ⟨g, cap, rfl, h1, h2, _⟩
  · simp at hn; omega
  · exact ⟨g, cap, by rw [hn], h1, h2⟩
theorem own_keep {w : World} {B g1 g2 n c : Nat} {xs : List Int} (h : OwnI w B (.slice (some ⟨g1, 0, none⟩) n c) xs) (hne : g1 ≠ g2) (k : Nat) (u : Value) : OwnI (w.setCell ⟨g2, k, none⟩ u) B (.slice (some ⟨g1, 0, none⟩) n c) xs :=
  h.kept (grown_set w g2 k u) (.inr (by simp [Value.ownBlock]; exact hne))
set_option maxRecDepth 100000 in
set_option maxHeartbeats 4000000 in
theorem waWalks_any (a L N : Nat) (w : World) (hL : 1 ≤ L) (hL2 : L < 4096) (ha : a ≤ L) (hN : N ≤ 40) :
    Calls Tryd.prog 29 #[.int .i64 a, .int .i64 L, .int .i64 N] w fun e w' => ∃ v, e = .returned v ∧ OwnI w' w.heap.size v (fnR (L + 1) (wk L 1 a N)) ∧ Below w.heap.size w w' := by
  have hz := Lib.hid (fnR_zero (L + 1))
  have hst : Hid ((fnR (L + 1) (fun _ => 0)).set a 1 = fnR (L + 1) (wk L 1 a 0)) := Lib.hid (by
    have := fnR_set (L + 1) (fun _ => 0) a 1
    rw [show (((1 : Nat) : Int)) = 1 from rfl] at this
    rw [this]; rfl)
  have hfin : Hid (∀ j, fnR (L + 1) (pw L 1 (wk L 1 a j) (L + 1)) = fnR (L + 1) (wk L 1 a (j + 1))) := Lib.hid fun j => fnR_congr _ _ _ fun i hi => pw_all L 1 _ i (by omega)
  have hini : Hid (∀ j, fnR (L + 1) (pw L 1 (wk L 1 a j) 0) = fnR (L + 1) (fun _ => 0)) := Lib.hid fun j => fnR_congr _ _ _ fun i _ => pw_zero L 1 _ i
  have hr1 := Lib.hid (row_first L 1)
  have hr2 := Lib.hid (row_last L 1)
  have hr3 := Lib.hid (row_mid L 1)
  have hbd : Hid (∀ j i, j ≤ 40 → wk L 1 a j i ≤ 1099511627776) := Lib.hid fun j i hj => Nat.le_trans (wk_le L 1 a hL (by omega) ha j i) (Nat.pow_le_pow_right (n := 2) (by omega) hj)
  have hbp : Hid (∀ j k i, j ≤ 40 → pw L 1 (wk L 1 a j) k i ≤ 4398046511104) := Lib.hid fun j k i hj => by
    have := pw_le L 1 (wk L 1 a j) 1099511627776 (by omega) (fun i => hbd.out j i hj) k i; omega
  have hw1 : Hid (∀ k, wc L 1 k = 1) := Lib.hid fun k => by unfold wc; split <;> rfl
  have hfl := Lib.hid (fnR_len (L + 1))
  have hfg := Lib.hid (fnR_get (L + 1))
  obtain ⟨R, hR⟩ : ∃ R, R = L + 1 := ⟨_, rfl⟩
  have hRi : (L : Int) + 1 = (R : Int) := by omega
  rw [← hR] at hz hst hfin hini hr1 hr2 hr3 hfl hfg ⊢
  generalize wk L 1 a = f at *
  generalize hpw : pw L 1 = p at *
  clear hpw
  have hRb : R ≤ 4096 := by omega
  have hLR : L < R := by omega
  replace hR := Lib.hid hR
  go_enter Tryd.func29, Tryd.ntmps29
  have haR : decide ((a : Int) < (R : Int)) = true := by simp; omega
  go_wp2_with (at_make; refine make_int _ rfl _ _ rfl _ _ R rfl rfl (by omega) ?_; intro w1 hown1 hb1; rw [hz.out] at hown1; obtain ⟨c0, f0⟩ := hown1.cell (hfl.out _) a (by rw [hfl.out]; omega); have hs1 := hown1.stored (hfl.out _) a 1; rw [hst.out] at hs1; obtain ⟨ho1, hg1⟩ := hs1; have hb2 := Lib.hid (hb1.grown hg1 hb1.size (fun j e => by cases e; exact Nat.le_refl _)); replace ho1 := Lib.hid ho1; clear hown1 hb1 hg1)
  go_loopw [2, 7] (fun m v wr => ∃ j : Nat, j ≤ N ∧ m = .int .i64 ((N : Int) - j) ∧ Hid (OwnI wr w.heap.size v (fnR R (f j))) ∧ Hid (Below w.heap.size w wr)) (fun m _ _ => (intOf m).toNat)
  case atStart => exact ⟨0, Nat.zero_le _, by first | rfl | exact vi (by omega), ho1, hb2⟩
  case round =>
    obtain ⟨j, hj, rfl, ho, hb⟩ := hrel
    generalize wr = wl at *
    obtain ⟨g1, cap1, rfl, hg1, hg1l⟩ := own_some ho.out R (hfl.out _) (by omega)
    by_cases hlt : j < N
    · have d1 : decide ((0 : Int) < (N : Int) - (j : Int)) = true := by simp; omega
      have hfj := Lib.hid (hfin.out j)
      have hij := Lib.hid (hini.out j)
      have hbj : Hid (∀ i, f j i ≤ 1099511627776) := Lib.hid fun i => hbd.out j i (by omega)
      have hpj : Hid (∀ k i, p (f j) k i ≤ 4398046511104) := Lib.hid fun k i => hbp.out j k i (by omega)
      have r1 := hr1.out (f j)
      simp only [hw1.out, Nat.one_mul] at r1
      replace r1 := Lib.hid r1
      have r2 := hr2.out (f j)
      simp only [hw1.out, Nat.one_mul] at r2
      replace r2 := Lib.hid r2
      have r3 := hr3.out (f j)
      simp only [hw1.out, Nat.one_mul] at r3
      replace r3 := Lib.hid r3
      generalize hfn : f (j + 1) = fn at *
      replace hfn := Lib.hid hfn
      generalize f j = fj at *
      generalize p fj = pj at *
      go_wp2_with (at_make; refine make_int _ rfl _ _ rfl _ _ R rfl rfl (by omega) ?_; intro w3 hown3 hb3; rw [hz.out, ← hij.out] at hown3; have ho3 := Lib.hid (ho.out.below hb3); have hb4 := Lib.hid (bt1 hb.out hb3); replace hown3 := Lib.hid hown3; clear hb3)
      have hne : g1 ≠ wl.heap.size := by omega
      have hwl := hb.out.size
      go_loopw [26] (fun i wr => ∃ k : Nat, k ≤ R ∧ i = .int .i64 k ∧ Hid (OwnI wr wl.heap.size (.slice (some ⟨wl.heap.size, 0, none⟩) R R) (fnR R (pj k))) ∧ Hid (OwnI wr w.heap.size (.slice (some ⟨g1, 0, none⟩) R cap1) (fnR R fj)) ∧ Hid (Below w.heap.size w wr)) (fun i _ => R - (intOf i).toNat)
      case atStart => exact ⟨0, Nat.zero_le _, rfl, hown3, ho3, hb4⟩
      case round =>
        obtain ⟨k, hk, rfl, hq, ho5, hb5⟩ := hrel
        rename World => wq
        by_cases hkR : k < R
        · obtain ⟨c1, _⟩ := ho5.out.cell (hfl.out _) k (by rw [hfl.out]; exact hkR)
          rw [hfg.out] at c1
          have hfb := hbj.out k
          by_cases hk0 : k = 0
          · subst hk0
            obtain ⟨c2, f2⟩ := hq.out.cell (hfl.out _) 1 (by rw [hfl.out]; omega)
            rw [hfg.out] at c2
            have hpb := hpj.out 0 1
            obtain ⟨hq2, hgw⟩ := hq.out.stored (hfl.out _) 1 ((pj 0 1 + fj 0 : Nat) : Int)
            rw [← r1.out] at hq2
            have ho6 := own_keep ho5.out hne 1 (.int .i64 ((pj 0 1 + fj 0 : Nat) : Int))
            have hb6 := hb5.out.grown hgw hb5.out.size (fun j e => by cases e; exact hwl)
            generalize hA : pj 0 1 = A at *
            generalize hF : fj 0 = F at *
            have hsum : ((A + F : Nat) : Int) = (A : Int) + F := by omega
            rw [hsum] at hq2 ho6 hb6
            replace hq2 := Lib.hid hq2
            replace ho6 := Lib.hid ho6
            replace hb6 := Lib.hid hb6
            clear hA hF hgw
            have d2 : decide ((0 : Int) < (L : Int)) = true := by simp; omega
            have d3 : decide (0 < L) = true := by simp; omega
            have d4 : decide ((1 : Int) < (R : Int)) = true := by simp; omega
            have d5 : decide (1 < R) = true := by simp; omega
            go_wp2_with fail
            exact ⟨⟨1, by omega, rfl, hq2, ho6, hb6⟩, by simp [intOf]; omega⟩
          · obtain ⟨kk, hkk⟩ : ∃ kk, k = kk + 1 := ⟨k - 1, by omega⟩
            have e1 : (k : Int) - 1 = (kk : Int) := by omega
            have hkR2 : kk < R := by omega
            have d0 : decide ((0 : Int) < (k : Int)) = true := by simp; omega
            have d1 : decide (0 < k) = true := by simp; omega
            have d2 : decide ((kk : Int) < (R : Int)) = true := by simp; omega
            have d3 : decide (kk < R) = true := by simp; omega
            obtain ⟨c2, f2⟩ := hq.out.cell (hfl.out _) kk (by rw [hfl.out]; omega)
            rw [hfg.out] at c2
            have hpb := hpj.out k kk
            obtain ⟨hq2, hgw⟩ := hq.out.stored (hfl.out _) kk ((pj k kk + fj k : Nat) : Int)
            have ho6 := own_keep ho5.out hne kk (.int .i64 ((pj k kk + fj k : Nat) : Int))
            have hb6 := hb5.out.grown hgw hb5.out.size (fun j e => by cases e; exact hwl)
            by_cases hkL : k = L
            · have hrow := r2.out kk (by omega)
              rw [show kk + 2 = k + 1 from by omega, show kk + 1 = k from by omega] at hrow
              rw [← hrow] at hq2
              clear hrow
              replace hkk := Lib.hid hkk
              generalize hA : pj k kk = A at *
              generalize hF : fj k = F at *
              have hsum : ((A + F : Nat) : Int) = (A : Int) + F := by omega
              rw [hsum] at hq2 ho6 hb6
              replace hq2 := Lib.hid hq2
              replace ho6 := Lib.hid ho6
              replace hb6 := Lib.hid hb6
              clear hA hF hgw
              have d4 : decide ((k : Int) < (L : Int)) = false := by simp; omega
              have d5 : decide (k < L) = false := by simp; omega
              replace hkL := Lib.hid hkL
              go_wp2_with fail
              exact ⟨⟨k + 1, by omega, by go_num, hq2, ho6, hb6⟩, by simp [intOf]; omega⟩
            · obtain ⟨c3, f3⟩ := hq.out.cell (hfl.out _) (k + 1) (by rw [hfl.out]; omega)
              rw [hfg.out] at c3
              have hpc := hpj.out k (k + 1)
              obtain ⟨hq3, hgw3⟩ := hq2.stored (by rw [List.length_set]; exact hfl.out _) (k + 1) ((pj k (k + 1) + fj k : Nat) : Int)
              have hrow := r3.out kk
              rw [show kk + 2 = k + 1 from by omega, show kk + 1 = k from by omega] at hrow
              rw [← hrow] at hq3
              have ho7 := own_keep ho6 hne (k + 1) (.int .i64 ((pj k (k + 1) + fj k : Nat) : Int))
              have hb7 := hb6.grown hgw3 hb6.size (fun j e => by cases e; exact hwl)
              clear hrow hq2 ho6 hb6 hgw hgw3
              have n1 : ¬ k + 1 = kk := by omega
              have n2 : ¬ kk = k + 1 := by omega
              replace hkk := Lib.hid hkk
              generalize hA : pj k kk = A at *
              generalize hB : pj k (k + 1) = B at *
              generalize hF : fj k = F at *
              have hsum : ((A + F : Nat) : Int) = (A : Int) + F := by omega
              have hsum2 : ((B + F : Nat) : Int) = (B : Int) + F := by omega
              rw [hsum, hsum2] at hq3 ho7 hb7
              replace hq3 := Lib.hid hq3
              replace ho7 := Lib.hid ho7
              replace hb7 := Lib.hid hb7
              clear hA hB hF
              have d4 : decide ((k : Int) < (L : Int)) = true := by simp; omega
              have d5 : decide (k < L) = true := by simp; omega
              have d6 : decide ((k : Int) + 1 < (R : Int)) = true := by simp; omega
              have d7 : decide (k + 1 < R) = true := by simp; omega
              go_wp2_with fail
              exact ⟨⟨k + 1, by omega, by go_num, hq3, ho7, hb7⟩, by simp [intOf]; omega⟩
        · obtain rfl : k = R := by omega
          go_wp2_with fail
          exact ⟨⟨j + 1, by omega, vi (by omega), Lib.hid (by rw [hfn.out, ← hfj.out]; exact hq.out.mono hwl), hb5⟩, by simp [intOf]; omega⟩
    · obtain rfl : j = N := by omega
      have d1 : decide ((0 : Int) < (j : Int) - (j : Int)) = false := by simp
      go_wp2_with fail
      go_ret
      exact ⟨_, rfl, ho.out, hb.out⟩
end Go.Proofs.YtfnhmacnghkgiaeDoor
