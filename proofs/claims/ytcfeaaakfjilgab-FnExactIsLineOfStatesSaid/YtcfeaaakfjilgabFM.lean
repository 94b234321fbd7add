/- How many links there are: LinksByKeys, on both sides. -/
import Derived.Test.YtcfeaaakfjilgabFL
import Derived.Test.YtcfeaaakfjilgabV6
import Derived.Test.YtcfeaaakfjilgabW3
import Derived.Test.YtcfeaaakfjilgabW7
import Derived.Test.YtcfeaaakfjilgabOnes
namespace Go.Proofs.Ytcfeaaakfjilgab
set_option linter.unusedSimpArgs false
set_option linter.unusedVariables false
open Go Go.RowKit RM
/-- how many rings can be moved, of the first states by number -/
def dgR (ks : List ByteArray) (n k : Nat) : List Int := (List.range k).map fun y => (((kmL ks (gray y) n).length : Nat) : Int)
theorem dgR_succ (ks : List ByteArray) (n k : Nat) : dgR ks n (k + 1) = dgR ks n k ++ [(((kmL ks (gray k) n).length : Nat) : Int)] := by
  unfold dgR; rw [List.range_succ, List.map_append]; rfl
theorem dgR_len (ks : List ByteArray) (n k : Nat) : (dgR ks n k).length = k := by simp [dgR]
theorem dgR_get (ks : List ByteArray) (n k y : Nat) (h : y < (dgR ks n k).length) : (dgR ks n k)[y] = (((kmL ks (gray y) n).length : Nat) : Int) := by simp [dgR]
set_option maxHeartbeats 1000000 in
theorem keDegrees_any (v : Value) (ks : List ByteArray) (n : Nat) (w : World) (h : RdT w v ks) (h2 : n ≤ 10) (hn : ks.length = n) (hG : goodK ks = true) :
    Calls Try.prog 26 #[v] w fun e w' => ∃ u, e = .returned u ∧ OwnI w' w.heap.size u (dgR ks n (2 ^ n)) ∧ Below w.heap.size w w' := by
  obtain ⟨N, hNd⟩ : ∃ N, Hid (N = 2 ^ n) := ⟨_, Lib.hid rfl⟩
  have hN : N ≤ 1024 := by rw [hNd.out]; exact Nat.pow_le_pow_right (n := 2) (by decide) h2
  have hX : (2 : Int) ^ n = (N : Int) := by rw [hNd.out]; simp
  have hSt := Lib.hid (fun m w (hm : m < N) => riState_any n m w (by omega) (by omega))
  have hMo := Lib.hid (fun m w' (hb : Below w.heap.size w w') (hm : m < N) => keMoves_any v ks n (gray m) w' (h.below hb) h2 (gray_lt n m (by rw [← hNd.out]; exact hm)) hn hG)
  have hst := Lib.hid (dgR_succ ks n)
  have hdl := Lib.hid (dgR_len ks n)
  have h00 : Hid (dgR ks n 0 = []) := Lib.hid rfl
  have hkl := Lib.hid (fun y => kmL_len ks (gray y) n)
  rw [← hNd.out]
  obtain ⟨p, c, rfl, -, -⟩ := h
  rw [hn] at *
  generalize dgR ks n = DQ at *
  clear hG
  go_enter Try.func26, Try.ntmps26
  go_wp2_with fail
  go_loopw [3, 4] (fun o i wr => ∃ k : Nat, k ≤ N ∧ i = .int .i64 k ∧ Hid (OwnI wr w.heap.size o (DQ k)) ∧ Hid (Below w.heap.size w wr)) (fun _ i _ => N - (intOf i).toNat)
  case atStart => exact ⟨0, Nat.zero_le _, rfl, Lib.hid (by rw [h00.out]; exact OwnI.nil _ _), Lib.hid (Below.refl _ _)⟩
  case round =>
    obtain ⟨k, hk, rfl, ho, hbr⟩ := hrel
    rename World => wA
    by_cases hlt : k < N
    · have hStk := Lib.hid (fun w => hSt.out k w hlt)
      have hMk := Lib.hid (fun w' hb => hMo.out k w' hb hlt)
      have hS := Lib.hid (hst.out k)
      have hln := hdl.out k
      have hklk := hkl.out k
      generalize kmL ks (gray k) n = L at *
      generalize ST n (gray k) = tx at *
      go_wp2_with fail
      refine (hStk.out _).mono ?_; rintro e w4 ⟨rfl, qd, rfl⟩
      obtain ⟨w5, hw5⟩ : ∃ w5, Hid (w5 = wA.drewN qd) := ⟨_, Lib.hid rfl⟩
      rw [← hw5.out]
      have hb5 := Lib.hid (show Below w.heap.size w w5 by rw [hw5.out]; exact below_drewN hbr.out qd)
      have ho5 := Lib.hid (show OwnI w5 w.heap.size _ (DQ k) by rw [hw5.out]; exact ho.out.below (below_drewN (Below.refl _ _) qd))
      clear hw5
      go_wp2_with fail
      refine (hMk.out _ hb5.out).mono ?_; rintro e w6 ⟨u, rfl, hou, hb6⟩
      obtain ⟨pv, capv, rfl, -, -⟩ := hou.rd
      obtain ⟨l, hl⟩ : ∃ l, Hid (L.length = l) := ⟨_, Lib.hid rfl⟩
      rw [hl.out] at hS hklk ⊢
      have ho6 := Lib.hid (ho5.out.below hb6)
      replace hb6 := Lib.hid (bt1 hb5.out hb6)
      have hs6 := hb6.out.size
      clear hou
      go_wp2_with (at_builtin; refine app_int _ rfl _ _ rfl w.heap.size _ _ rfl (ho6.out.alloc _) w6.heap.size _ rfl (by simp; rfl) (by omega) (by simp; omega) ?_; intro v' w7 ho7 hg7; have hb7 := Lib.hid (bel_own (hb6.out.alloc hb6.out.size _) (ho6.out.alloc _) hg7 (by simp; omega)); replace ho7 := Lib.hid ho7; clear hg7)
      go_roundw
      case rel => exact ⟨k + 1, by omega, by go_num, Lib.hid (by rw [hS.out]; exact ho7.out), hb7⟩
      all_goals (simp [intOf] <;> omega)
    · obtain rfl : k = N := by omega
      go_wp2_with fail
      go_ret; exact ⟨_, rfl, ho.out, hbr.out⟩
theorem tdiv_two (L : Nat) : Int.tdiv ((2 * L : Nat) : Int) 2 = (L : Int) := by
  rw [Int.natCast_mul]; exact Int.mul_tdiv_cancel_left _ (by decide)
theorem sLB_no (v : Value) (ks : List ByteArray) (w : World) (hz : ∀ s ∈ ks, s.size ≤ maxLen) (h : RdT w v ks) (hG : goodK ks = false) :
    Calls Try.prog 12 #[v] w fun e w' => e = .returned (.tuple #[.int .i64 0, .bool false]) ∧ Below w.heap.size w w' := by
  have hA := Lib.hid (keGood_any v ks w hz h)
  rw [hG] at hA
  go_enter Try.func12, Try.ntmps12
  go_wp2_with fail
  refine hA.out.mono ?_; rintro e w' ⟨rfl, rfl⟩
  go_wp2_with fail
  go_ret2; exact ⟨rfl, Below.refl _ _⟩
set_option maxHeartbeats 1000000 in
theorem sLB_yes (v : Value) (ks : List ByteArray) (n : Nat) (w : World) (hz : ∀ s ∈ ks, s.size ≤ maxLen) (h : RdT w v ks) (h2 : n ≤ 10) (hn : ks.length = n) (hG : goodK ks = true) :
    Calls Try.prog 12 #[v] w fun e w' => e = .returned (.tuple #[.int .i64 ((sumN (fun i => lkN n (ks.getD i ⟨#[]⟩)) n : Nat) : Int), .bool true]) ∧ Below w.heap.size w w' := by
  have hA := Lib.hid (keGood_any v ks w hz h)
  rw [hG] at hA
  have hDg := Lib.hid (keDegrees_any v ks n w h h2 hn hG)
  obtain ⟨N, hNd⟩ : ∃ N, Hid (N = 2 ^ n) := ⟨_, Lib.hid rfl⟩
  have hN : N ≤ 1024 := by rw [hNd.out]; exact Nat.pow_le_pow_right (n := 2) (by decide) h2
  have hsum := deg_sum ks hG ks.length (Nat.le_refl _)
  rw [hn, ← hNd.out] at hsum
  have hle := sumN_le (fun y => (kmL ks (gray y) n).length) 10 N (fun y _ => Nat.le_trans (kmL_len ks _ n) h2)
  obtain ⟨S, hS⟩ : ∃ S : Nat → Nat, S = sumN (fun y => (kmL ks (gray y) n).length) := ⟨_, rfl⟩
  have hS0 : Hid (S 0 = 0) := Lib.hid (by rw [hS]; rfl)
  have hSs : Hid (∀ k, S (k + 1) = S k + (kmL ks (gray k) n).length) := Lib.hid (fun k => by rw [hS]; rfl)
  have hSle : Hid (∀ k, k ≤ N → S k ≤ N * 10) := Lib.hid (fun k hk => by
    rw [hS]
    exact Nat.le_trans (sumN_le _ 10 k (fun y _ => Nat.le_trans (kmL_len ks _ n) h2)) (Nat.mul_le_mul_right _ hk))
  rw [← hS] at hsum hle
  generalize sumN (fun i => lkN n (ks.getD i ⟨#[]⟩)) n = R at *
  have hq := tdiv_two R
  rw [← hsum] at hq
  replace hsum := Lib.hid hsum
  rw [← hNd.out] at hDg
  have hdl := Lib.hid (dgR_len ks n N)
  have hdg := Lib.hid (fun y h => dgR_get ks n N y h)
  have hkl := Lib.hid (fun y => kmL_len ks (gray y) n)
  clear hS h hz hG hn
  generalize dgR ks n N = DQ at *
  go_enter Try.func12, Try.ntmps12
  go_wp2_with fail
  refine hA.out.mono ?_; rintro e w2 ⟨rfl, rfl⟩
  go_wp2_with fail
  refine hDg.out.mono ?_; rintro e w3 ⟨u, rfl, ho, hb⟩
  obtain ⟨p, c, rfl, hr⟩ : ∃ p c, u = .slice p N c ∧ ∀ k (hk : k < DQ.length), ∃ g, p = some ⟨g, 0, none⟩ ∧ w3.cell? ⟨g, k, none⟩ = some (.int .i64 DQ[k]) := by
    rcases ho.form with ⟨rfl, e⟩ | ⟨g, cap, rfl, _, _, hc, _, _⟩
    · exact ⟨none, 0, by have := hdl.out; rw [e] at this; rw [← this]; rfl, fun k hk => by rw [e] at hk; cases hk⟩
    · exact ⟨_, cap, by rw [hdl.out], fun k hk => ⟨g, rfl, hc k hk⟩⟩
  replace hr := Lib.hid hr
  clear ho
  go_wp2_with fail
  go_loopw [4, 13] (fun o i wr => ∃ k : Nat, k ≤ N ∧ i = .int .i64 k ∧ o = .int .i64 ((S k : Nat) : Int) ∧ wr = w3) (fun _ i _ => N - (intOf i).toNat)
  case atStart => exact ⟨0, Nat.zero_le _, rfl, by rw [hS0.out]; rfl, by first | rfl | trivial⟩
  case round =>
    obtain ⟨k, hk, rfl, rfl, rfl⟩ := hrel
    by_cases hlt : k < N
    · have hkx : k < DQ.length := by rw [hdl.out]; exact hlt
      obtain ⟨g, rfl, c0⟩ := hr.out k hkx
      rw [hdg.out k hkx] at c0
      have hSk := Lib.hid (hSs.out k)
      have hle1 := hSle.out k hk
      have hklk := hkl.out k
      generalize (kmL ks (gray k) n).length = l at *
      go_wp2_with fail
      go_roundw
      case rel => exact ⟨k + 1, by omega, by go_num, by rw [hSk.out]; go_num, by first | rfl | trivial⟩
      all_goals (simp [intOf] <;> omega)
    · obtain rfl : k = N := by omega
      have hle1 := hSle.out k hk
      have hR : R ≤ 1048576 := by have := hsum.out; omega
      go_wp2_with fail
      go_ret2; exact ⟨by first | rfl | (rw [hq]), hb⟩
theorem iLB_no (v : Value) (ks : List ByteArray) (w : World) (hz : ∀ s ∈ ks, s.size ≤ maxLen) (h : RdT w v ks) (hG : goodK ks = false) :
    Calls Try.prog 13 #[v] w fun e w' => e = .returned (.tuple #[.int .i64 0, .bool false]) ∧ Below w.heap.size w w' := by
  have hA := Lib.hid (keyringOf_any v ks w hz h)
  rw [hG] at hA
  go_enter Try.func13, Try.ntmps13
  go_wp2_with fail
  refine hA.out.mono ?_; rintro e w' ⟨u, rfl, -, hb⟩
  go_wp2_with fail
  go_ret2; exact ⟨rfl, hb⟩
theorem onesC_any (x : Nat) (w : World) (hx : x < 1048576) : Calls Try.prog 27 #[.int .u64 x] w fun e w' => e = .returned (.int .i64 ((pop x : Nat) : Int)) ∧ w = w' := by
  have h := Lib.hid (fun w => ones_any x w hx)
  generalize pop x = P at *
  go_enter Try.func27, Try.ntmps27
  go_wp2_with fail
  refine (h.out _).mono ?_; rintro e w' ⟨rfl, rfl⟩
  go_wp2_with fail
  go_ret; exact ⟨rfl, rfl⟩
set_option maxHeartbeats 1000000 in
theorem iLB_yes (v : Value) (ks : List ByteArray) (n : Nat) (w : World) (hz : ∀ s ∈ ks, s.size ≤ maxLen) (h : RdT w v ks) (hn : ks.length = n) (h2 : n ≤ 10) (hG : goodK ks = true) :
    Calls Try.prog 13 #[v] w fun e w' => e = .returned (.tuple #[.int .i64 ((sumN (fun i => lkN n (ks.getD i ⟨#[]⟩)) n : Nat) : Int), .bool true]) ∧ Below w.heap.size w w' := by
  have hA := Lib.hid (keyringOf_any v ks w hz h)
  rw [hG, if_pos rfl] at hA
  have hfact : Hid (∀ k (hk : k < n), tolX (ks.getD k ⟨#[]⟩).data.toList < 1048576 ∧ pop (tolX (ks.getD k ⟨#[]⟩).data.toList) < n ∧ lkN n (ks.getD k ⟨#[]⟩) = 2 ^ (n - 1 - pop (tolX (ks.getD k ⟨#[]⟩).data.toList))) := Lib.hid (fun k hk => by
    have hk' : k < ks.length := by omega
    obtain ⟨e1, e2, e3⟩ := (keyOk_iff _ _ _).1 (goodK_at ks hG k hk')
    rw [getD_at ks k _ hk']
    have hl : ks[k].data.toList.length = n := by rw [← hn, ← e1]; exact Array.length_toList
    have a := tol_lt ks[k].data.toList
    have b := pop_tol_lt ks[k].data.toList k (by omega) e2
    rw [hl] at a b
    exact ⟨Nat.lt_of_lt_of_le a (Nat.pow_le_pow_right (n := 2) (by decide) (by omega : n ≤ 20)), b, rfl⟩)
  have hOC := Lib.hid (fun x w hx => onesC_any x w hx)
  obtain ⟨S, hS⟩ : ∃ S : Nat → Nat, S = sumN (fun i => lkN n (ks.getD i ⟨#[]⟩)) := ⟨_, rfl⟩
  have hS0 : Hid (S 0 = 0) := Lib.hid (by rw [hS]; rfl)
  have hSs : Hid (∀ k, S (k + 1) = S k + lkN n (ks.getD k ⟨#[]⟩)) := Lib.hid (fun k => by rw [hS]; rfl)
  have hSle : Hid (∀ k, k ≤ n → S k ≤ k * 1024) := Lib.hid (fun k hk => by
    rw [hS]
    refine sumN_le _ 1024 k (fun y _ => ?_)
    show 2 ^ _ ≤ 2 ^ 10
    exact Nat.pow_le_pow_right (by decide) (by omega))
  rw [← hS]
  have hkl : Hid ((ks.map kp).length = n) := Lib.hid (by simp [hn])
  have hkg : Hid (∀ k (hk : k < (ks.map kp).length), (ks.map kp)[k].1 = tolX (ks.getD k ⟨#[]⟩).data.toList) := Lib.hid (fun k hk => by
    have hk' : k < ks.length := by simpa using hk
    rw [getD_at ks k _ hk']; simp [kp])
  generalize ks.map kp = KL at *
  clear hS h hz hG hn
  go_enter Try.func13, Try.ntmps13
  go_wp2_with fail
  refine hA.out.mono ?_; rintro e w2 ⟨u, rfl, ho, hb⟩
  obtain ⟨p, c, rfl, hr⟩ : ∃ p c, u = .slice p n c ∧ ∀ w', Below w2.heap.size w2 w' → ∀ k (hk : k < KL.length), ∃ g, p = some ⟨g, 0, none⟩ ∧ g < w'.heap.size ∧ w'.cell? ⟨g, k * 2, none⟩ = some (.int .u64 ((KL[k].1 : Nat) : Int)) ∧ w'.cell? ⟨g, k * 2 + 1, none⟩ = some (.int .u64 ((KL[k].2 : Nat) : Int)) := by
    obtain ⟨p, c, rfl, _, hr⟩ := ho.rd
    refine ⟨p, c, by rw [hkl.out], fun w' hb k hk => ?_⟩
    obtain ⟨g, rfl, hg, hc⟩ := (hr.below hb) (fun e => by rw [e] at hk; cases hk)
    exact ⟨g, rfl, hg, hc k hk 0 (by decide), hc k hk 1 (by decide)⟩
  replace hr := Lib.hid hr
  replace hb := Lib.hid hb
  clear ho
  go_wp2_with fail
  go_loopw [6, 18] (fun o i wr => ∃ k : Nat, k ≤ n ∧ i = .int .i64 k ∧ o = .int .i64 ((S k : Nat) : Int) ∧ Hid (Below w2.heap.size w2 wr)) (fun _ i _ => n - (intOf i).toNat)
  case atStart => exact ⟨0, Nat.zero_le _, rfl, by rw [hS0.out]; rfl, Lib.hid (Below.refl _ _)⟩
  case round =>
    obtain ⟨k, hk, rfl, rfl, hbr⟩ := hrel
    rename World => wA
    by_cases hlt : k < n
    · have hkx : k < KL.length := by rw [hkl.out]; exact hlt
      obtain ⟨g, rfl, hgl, c0, c1⟩ := hr.out wA hbr.out k hkx
      rw [hkg.out k hkx] at c0
      obtain ⟨f1, f2, f3⟩ := hfact.out k hlt
      have hSk := Lib.hid (hSs.out k)
      have hle1 := hSle.out k hk
      have hOCk := Lib.hid (fun w => hOC.out _ w f1)
      generalize tolX (ks.getD k ⟨#[]⟩).data.toList = T at *
      generalize KL[k].2 = O at *
      generalize pop T = P at *
      obtain ⟨sh, hsh⟩ : ∃ sh, Hid (n - 1 - P = sh) := ⟨_, Lib.hid rfl⟩
      rw [hsh.out] at f3
      have hsi : (n : Int) - 1 - (P : Int) = (sh : Int) := by have := hsh.out; omega
      have hs10 : sh ≤ 9 := by have := hsh.out; omega
      obtain ⟨X, hX⟩ : ∃ X, Hid (2 ^ sh = X) := ⟨_, Lib.hid rfl⟩
      have hXl : X ≤ 1024 := by rw [← hX.out]; exact Nat.pow_le_pow_right (n := 2) (by decide) (by omega : sh ≤ 10)
      have hXi : (2 : Int) ^ sh = (X : Int) := by rw [← hX.out]; simp
      rw [f3, hX.out] at hSk
      have hb5 := Lib.hid (bt1 hbr.out (ba1 wA (.cells #[.int .u64 (T : Int), .int .u64 (O : Int)] 48)))
      clear f1 f3
      go_wp2_with fail
      refine (hOCk.out _).mono ?_; rintro e w6 ⟨rfl, rfl⟩
      go_wp2_with fail
      go_roundw
      case rel => exact ⟨k + 1, by omega, by go_num, by rw [hSk.out]; go_num, hb5⟩
      all_goals (simp [intOf] <;> omega)
    · obtain rfl : k = n := by omega
      go_wp2_with fail
      go_ret2; exact ⟨rfl, bt1 hb.out hbr.out⟩
theorem LinksByKeys_both (ks : List ByteArray) (hz : ∀ s ∈ ks, s.size ≤ maxLen) : ∃ (r0 : Int) (r1 : Bool),
    (∀ w v, RdT w v ks → Calls Try.prog 12 #[v] w fun e w' => e = .returned (.tuple #[.int .i64 r0, .bool r1]) ∧ Below w.heap.size w w') ∧
    (∀ w v, RdT w v ks → Calls Try.prog 13 #[v] w fun e w' => e = .returned (.tuple #[.int .i64 r0, .bool r1]) ∧ Below w.heap.size w w') := by
  cases hG : goodK ks with
  | false => exact ⟨0, false, fun w v h => sLB_no v ks w hz h hG, fun w v h => iLB_no v ks w hz h hG⟩
  | true =>
    obtain ⟨h1, h2⟩ := goodK_len ks hG
    exact ⟨_, true, fun w v h => sLB_yes v ks _ w hz h h2 rfl hG, fun w v h => iLB_yes v ks _ w hz h rfl h2 hG⟩
end Go.Proofs.Ytcfeaaakfjilgab
