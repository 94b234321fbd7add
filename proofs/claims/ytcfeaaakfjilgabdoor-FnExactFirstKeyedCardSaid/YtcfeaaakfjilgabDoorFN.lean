/- The first ring whose move leads nearer: mathematics, and the program's look. -/
import Derived.Test.YtcfeaaakfjilgabDoorV18
import Derived.Test.YtcfeaaakfjilgabDoorW8
import Derived.Test.YtcfeaaakfjilgabDoorV15
import Derived.Test.YtcfeaaakfjilgabDoorVM
import Derived.BigQuiet
import Derived.Deep.QuietTactic
namespace Go.Proofs.YtcfeaaakfjilgabDoor
set_option linter.unusedSimpArgs false
set_option linter.unusedVariables false
open Go Go.RowKit RM
/-- a move leads nearer -/
def nrP (D : Nat → Option Nat) (x : Nat) (z : Int) : Bool := decide ((D (x ^^^ 2 ^ z.toNat)).getD 0 < (D x).getD 0)
def nkZ (ks : List ByteArray) (n : Nat) (D : Nat → Option Nat) (x : Nat) : Int := ((kmL ks x n).find? (nrP D x)).getD 0
theorem nkZ_spec (ks : List ByteArray) (n y x m : Nat) (hn : ks.length = n) (hG : goodK ks = true) (hy : y < 2 ^ n) (hd : kD n (fkS ks) y x = some (m + 1)) :
    ∃ (k j : Nat) (hj : j < (kmL ks x n).length), nkZ ks n (kD n (fkS ks) y) x = (k : Int) ∧ k < n ∧ (kmL ks x n)[j] = (k : Int) ∧ kD n (fkS ks) y (x ^^^ 2 ^ k) = some m ∧ nrP (kD n (fkS ks) y) x (k : Int) = true ∧ ∀ i (h : i < (kmL ks x n).length), i < j → nrP (kD n (fkS ks) y) x (kmL ks x n)[i] = false := by
  have hK := keys_keyd ks hG
  rw [hn] at hK
  have hD := hK.dst hy
  obtain ⟨k0, hk0, hf0, hd0⟩ := hD.prev x m hd
  rw [hK.own k0 hk0] at hf0
  have hm0 : (k0 : Int) ∈ kmL ks x n := (kmL_mem ks x n (by omega) _).2 ⟨k0, by omega, hk0, rfl, by rw [← fkS_at ks k0 x (by omega)]; exact hf0⟩
  have hp0 : nrP (kD n (fkS ks) y) x (k0 : Int) = true := by
    unfold nrP
    rw [Int.toNat_natCast, hd0, hd]
    exact decide_eq_true (Nat.lt_succ_self m)
  have hex : ∃ z, (kmL ks x n).find? (nrP (kD n (fkS ks) y) x) = some z := by
    cases h : (kmL ks x n).find? (nrP (kD n (fkS ks) y) x) with
    | some z => exact ⟨z, rfl⟩
    | none =>
      have := List.find?_eq_none.1 h _ hm0
      exact absurd hp0 this
  obtain ⟨z, hz⟩ := hex
  obtain ⟨hP, j, hj, hjz, hlt⟩ := List.find?_eq_some_iff_getElem.1 hz
  obtain ⟨k, hkl, hkn, rfl, hfk⟩ := (kmL_mem ks x n (by omega) z).1 (by rw [← hjz]; exact List.getElem_mem _)
  obtain ⟨m', hm', hle⟩ := hD.next x (m + 1) hd k hkn (by rw [fkS_at ks k x hkl]; exact hfk)
  have hlt2 : m' < m + 1 := by
    unfold nrP at hP
    rw [Int.toNat_natCast, hm', hd] at hP
    exact of_decide_eq_true hP
  obtain ⟨m2, hm2, hle2⟩ := hD.next _ m' hm' k hkn (by rw [hK.own k hkn, fkS_at ks k x hkl]; exact hfk)
  rw [xor_twice, hd] at hm2
  have := Option.some.inj hm2
  obtain rfl : m' = m := by omega
  refine ⟨k, j, hj, by unfold nkZ; rw [hz]; rfl, hkn, hjz, hm', hP, fun i hi hij => ?_⟩
  have := hlt i hij
  simpa using this
/-- the first list of fewest moves -/
def kway (ks : List ByteArray) (n : Nat) (D : Nat → Option Nat) : Nat → Nat → List Int
  | 0, _ => []
  | d + 1, x => nkZ ks n D x :: kway ks n D d (x ^^^ 2 ^ (nkZ ks n D x).toNat)
theorem kway_len (ks : List ByteArray) (n : Nat) (D : Nat → Option Nat) : ∀ d x, (kway ks n D d x).length = d := by
  intro d
  induction d with
  | zero => intro x; rfl
  | succ d ih => intro x; show (kway ks n D d _).length + 1 = d + 1; rw [ih]
set_option maxRecDepth 100000 in
set_option maxHeartbeats 1000000 in
theorem kcloser_any (n x k N c g bf ba y mx my : Nat) (w : World) (hn : n ≤ 10) (hk : k < n) (hx : x < N) (hN : N ≤ 1024) (hy : x ^^^ 2 ^ k = y) (hyN : y < N)
    (hf : w.cell? ⟨bf, 0, none⟩ = some (.slice (some ⟨g, 0, none⟩) N c)) (ha : w.cell? ⟨ba, 0, none⟩ = some (.int .u64 x)) (cy : w.cell? ⟨g, y * 2, none⟩ = some (.int .i64 (my : Int))) (cx : w.cell? ⟨g, x * 2, none⟩ = some (.int .i64 (mx : Int))) :
    Calls Tryd.prog 63 #[.int .i64 k, .pointer (some ⟨bf, 0, none⟩), .pointer (some ⟨ba, 0, none⟩)] w fun e w' => e = .returned (.bool (decide (my < mx))) ∧ Below w.heap.size w w' := by
  have hp := wrap_pow k (by omega : k < 20)
  have hxk : bits BinOp.xor IntKind.u64 (x : Int) ((2 : Int) ^ k) = (y : Int) := by
    have h1 : 2 ^ k < 1048576 := Nat.pow_lt_pow_right (a := 2) (by omega) (by omega : k < 20)
    rw [← pow_int, bits_xor_u64_nat x (2 ^ k) (by omega) (by omega), hy]
  have hd : decide ((my : Int) < (mx : Int)) = decide (my < mx) := by rw [decide_eq_decide]; omega
  have hk0 : decide ((k : Int) < 0) = false := by rw [decide_eq_false_iff_not]; omega
  clear hy
  go_enter Tryd.func63, Tryd.ntmps63
  go_wp2_with fail
  go_quiet (fail)
  go_wp2_with fail
  go_ret; exact ⟨by first | rfl | rw [hd], by first | exact Below.refl _ _ | exact below_drewN (Below.refl _ _) _⟩
theorem kixf_any (gv L cap B bp ba j : Nat) (pm : List Int) (P : Int → Bool) (w : World) (hL : L ≤ 4096) (hml : pm.length = L) (hj : j < L) (ho : OwnI w B (.slice (some ⟨gv, 0, none⟩) L cap) pm)
    (hP : Hid (∀ h : j < pm.length, P pm[j] = true)) (hnP : Hid (∀ i (h : i < pm.length), i < j → P pm[i] = false))
    (hF : Hid (∀ i (h : i < pm.length) w', Below w.heap.size w w' → Calls Tryd.prog 63 #[.int .i64 pm[i], .pointer (some ⟨bp, 0, none⟩), .pointer (some ⟨ba, 0, none⟩)] w' fun e w'' => e = .returned (.bool (P pm[i])) ∧ Below w'.heap.size w' w'')) :
    Calls Tryd.prog 62 #[.slice (some ⟨gv, 0, none⟩) L cap, .func (.func 63) #[] #[.pointer (some ⟨bp, 0, none⟩), .pointer (some ⟨ba, 0, none⟩)]] w fun e w' => e = .returned (.int .i64 (j : Int)) ∧ Below w.heap.size w w' := by
  have ho := Lib.hid ho
  go_enter Tryd.func62, Tryd.ntmps62
  go_wp2_with fail
  go_loopw [8] (fun i wr => ∃ k : Nat, k ≤ j ∧ i = .int .i64 k ∧ Hid (Below w.heap.size w wr)) (fun i _ => j + 1 - (intOf i).toNat)
  case atStart => exact ⟨0, Nat.zero_le _, rfl, Below.refl _ _⟩
  case round =>
    obtain ⟨k, hk, rfl, hb⟩ := hrel
    have hkL : k < L := by omega
    have hkm : k < pm.length := by rw [hml]; exact hkL
    have c0 := ((ho.out.below hb.out).cell hml k hkm).1
    have hFk := Lib.hid (hF.out k hkm _ hb.out)
    have hPk := Lib.hid (fun h => hnP.out k hkm h)
    have hPj := hP.out
    obtain ⟨d, hd⟩ : ∃ d, Hid (d = pm[k]) := ⟨_, Lib.hid rfl⟩
    rw [← hd.out] at c0 hFk hPk
    by_cases e : k = j
    · have hPt : Hid (P d = true) := Lib.hid (by rw [hd.out]; subst e; exact hPj hkm)
      rw [hPt.out] at hFk
      have HE := Lib.hid e
      clear hPj e
      go_wp2_with fail
      refine hFk.out.mono ?_; rintro e' w2 ⟨rfl, hb2⟩
      have hb2 := Lib.hid hb2
      go_wp2_with fail
      go_ret
      exact ⟨ret_int (by rw [HE.out]), hb.out.trans (hb2.out.mono hb.out.size)⟩
    · have hPf : Hid (P d = false) := Lib.hid (hPk.out (by omega))
      rw [hPf.out] at hFk
      clear hPj
      go_wp2_with fail
      refine hFk.out.mono ?_; rintro e' w2 ⟨rfl, hb2⟩
      have hb2 := Lib.hid hb2
      go_wp2_with fail
      go_roundw
      case rel => exact ⟨k + 1, by omega, by go_num, Lib.hid (hb.out.trans (hb2.out.mono hb.out.size))⟩
      all_goals (simp [intOf] <;> omega)
set_option maxRecDepth 100000 in
theorem knearer_core (u : Value) (p0 : Option Addr) (n0 c0 n x j : Nat) (pm : List Int) (P : Int → Bool) (mk : Int) (w : World) (hpm : Hid (pm.length ≤ 10)) (hj : j < pm.length) (hmk : Hid (pm[j] = mk)) (hP : Hid (P pm[j] = true)) (hnP : Hid (∀ i (h : i < pm.length), i < j → P pm[i] = false))
    (hPM : Hid (∀ w', Below w.heap.size w w' → Calls Tryd.prog 61 #[u, .int .u64 x] w' fun e w'' => ∃ v, e = .returned v ∧ OwnI w'' w'.heap.size v pm ∧ Below w'.heap.size w' w''))
    (hF : Hid (∀ bp ba i (h : i < pm.length) w', Below w.heap.size w w' → w'.cell? ⟨bp, 0, none⟩ = some (.slice p0 n0 c0) → w'.cell? ⟨ba, 0, none⟩ = some (.int .u64 x) → Calls Tryd.prog 63 #[.int .i64 pm[i], .pointer (some ⟨bp, 0, none⟩), .pointer (some ⟨ba, 0, none⟩)] w' fun e w'' => e = .returned (.bool (P pm[i])) ∧ Below w'.heap.size w' w'')) :
    Calls Tryd.prog 36 #[u, .slice p0 n0 c0, .int .u64 x] w fun e w' => e = .returned (.int .i64 mk) ∧ Below w.heap.size w w' := by
  have hmf : ∀ (fn : Fn) (first cap : Array Value) (w : World), (Instr.makeFunc fn first cap).run Tryd.prog w = .ok (.func fn first cap) w := fun _ _ _ _ => rfl
  have hpne : pm ≠ [] := by intro e; rw [e] at hj; simp at hj
  obtain ⟨w2, hw2⟩ : ∃ w2, Hid (w2 = (w.alloc (.cells #[.slice p0 n0 c0] 61)).alloc (.cells #[.int .u64 x] 56)) := ⟨_, Lib.hid rfl⟩
  have hb2 := Lib.hid (show Below w.heap.size w w2 by rw [hw2.out]; exact bt1 (ba1 w _) (ba1 _ _))
  have B2 := Lib.hid (show w2.heap[w.heap.size]? = some (.cells #[.slice p0 n0 c0] 61) by rw [hw2.out]; exact hb_old _ (hb_new _ _))
  have A2 := Lib.hid (show w2.heap[w.heap.size + 1]? = some (.cells #[.int .u64 x] 56) by rw [hw2.out]; exact hb_new' _ _ _ (by simp))
  have hM2 := Lib.hid (hPM.out w2 hb2.out)
  have a0 : w2.cell? ⟨w.heap.size + 1, 0, none⟩ = some (.int .u64 x) := hb_cell A2.out 0
  have l0 := hb_lt A2.out
  go_enter Tryd.func36, Tryd.ntmps36
  go_wp2_with fail
  rw [← hw2.out]
  refine hM2.out.mono ?_; rintro e w1 ⟨v, rfl, ho, hb1⟩
  have B1 := Lib.hid (hb_below hb1 (hb_lt B2.out) B2.out)
  have A1 := Lib.hid (hb_below hb1 (hb_lt A2.out) A2.out)
  have hbb := bt1 hb2.out hb1
  rcases ho.form with ⟨_, e⟩ | ⟨gv, capv, rfl, hgv, hgvl, hvc, _, _⟩
  · exact absurd e hpne
  have hix := Lib.hid (kixf_any gv pm.length capv _ w.heap.size (w.heap.size + 1) j pm P w1 (by have := hpm.out; omega) rfl hj ho (Lib.hid fun _ => hP.out) hnP (Lib.hid fun i h w' hbw => hF.out _ _ i h w' (hbb.trans (hbw.mono hbb.size)) (by rw [hbw.cell (p := ⟨w.heap.size, 0, none⟩) (hb_lt B1.out)]; exact hb_cell B1.out 0) (by rw [hbw.cell (p := ⟨w.heap.size + 1, 0, none⟩) (hb_lt A1.out)]; exact hb_cell A1.out 0)))
  have ho := Lib.hid ho
  have hbb := Lib.hid hbb
  have hb1 := Lib.hid hb1
  clear hvc hpne a0
  go_wp2_with fail
  refine hix.out.mono ?_; rintro e w3 ⟨rfl, hb3⟩
  obtain ⟨cj, _⟩ := (ho.out.below hb3).cell rfl j hj
  rw [hmk.out] at cj
  have hb3 := Lib.hid hb3
  go_wp2_with fail
  go_ret
  exact ⟨rfl, bt1 hbb.out hb3.out⟩
/-- the first ring toward y, when the search from y has found R -/
theorem knearer_any (u : Value) (ks : List ByteArray) (B n x y m N g c Bf : Nat) (R : List (Nat × Nat)) (w : World) (hoK : OwnG keyE w B u (ks.map kp)) (hoR : OwnG kwE w Bf (.slice (some ⟨g, 0, none⟩) N c) R) (h2 : n ≤ 10) (hx : x < 2 ^ n) (hy : y < 2 ^ n) (hn : ks.length = n) (hG : goodK ks = true) (hN : N = 2 ^ n) (hRl : R.length = N)
    (hRR : ∀ s (hl : s < R.length), (∀ m, kD n (fkS ks) y s = some m → R[s].1 = m ∧ 1 ≤ R[s].2 ∧ R[s].2 ≤ 9223372036854775808) ∧ (kD n (fkS ks) y s = none → R[s] = (0, 0))) (hd : kD n (fkS ks) y x = some (m + 1)) :
    Calls Tryd.prog 36 #[u, .slice (some ⟨g, 0, none⟩) N c, .int .u64 x] w fun e w' => e = .returned (.int .i64 (nkZ ks n (kD n (fkS ks) y) x)) ∧ Below w.heap.size w w' := by
  obtain ⟨k, j, hj, e1, hkn, hjk, hdk, hPk, hlt⟩ := nkZ_spec ks n y x m hn hG hy hd
  have hmov : ∀ s (hs : s < N), ∀ w', Below w.heap.size w w' → w'.cell? ⟨g, s * 2, none⟩ = some (.int .i64 (((kD n (fkS ks) y s).getD 0 : Nat) : Int)) := fun s hs w' hb => by
    have hsR : s < R.length := by rw [hRl]; exact hs
    have c0 := (hoR.below hb).cells hRl.symm s hsR 0 (by decide)
    have e : R[s].1 = (kD n (fkS ks) y s).getD 0 := by
      cases hd : kD n (fkS ks) y s with
      | none => rw [(hRR s hsR).2 hd]; rfl
      | some d => rw [((hRR s hsR).1 d hd).1]; rfl
    rw [← e]; exact c0
  have hN2 : N ≤ 1024 := by rw [hN]; exact Nat.pow_le_pow_right (n := 2) (by decide) h2
  refine knearer_core u _ _ _ n x j (kmL ks x n) (nrP (kD n (fkS ks) y) x) _ w (Lib.hid (Nat.le_trans (kmL_len ks x n) h2)) hj (Lib.hid (by rw [hjk, e1])) (Lib.hid (by rw [hjk]; exact hPk)) (Lib.hid hlt) (Lib.hid fun w' hb => moves_any u ks B n x w' (hoK.below hb) h2 hx hn hG) (Lib.hid fun bp ba i hi w' hb hf ha => ?_)
  obtain ⟨k', hkl', hkn', e2, _⟩ := (kmL_mem ks x n (by omega) _).1 (List.getElem_mem hi)
  rw [e2]
  have hyy : x ^^^ 2 ^ k' < N := by rw [hN]; exact xor_lt' hx hkn'
  exact kcloser_any n x k' N c g bp ba _ _ _ w' h2 hkn' (by rw [hN]; exact hx) hN2 rfl hyy hf ha (hmov _ hyy w' hb) (hmov _ (by rw [hN]; exact hx) w' hb)
end Go.Proofs.YtcfeaaakfjilgabDoor
