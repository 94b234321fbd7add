/- Whether all states are one line: IsLineOfStates, on both sides. -/
import Derived.Test.YtcfeaaakfjilgabFR
import Derived.Test.YtcfeaaakfjilgabFM
import Derived.Test.YtcfeaaakfjilgabGP
namespace Go.Proofs.Ytcfeaaakfjilgab
set_option linter.unusedSimpArgs false
set_option linter.unusedVariables false
open Go Go.RowKit RM
/-- how many states have one move alone, of the first by number or by signs; none of these has more than two -/
theorem parts_one {n : Nat} {D : Nat → Nat → Option Nat} (hE : Eqv (2 ^ n) D) {c : Nat} (h : Parts (2 ^ n) D c) : c = 1 ↔ cntR n (D 0) = 2 ^ n := by
  have h0 : 0 < 2 ^ n := Nat.pow_pos (by decide)
  have hall : (cntR n (D 0) = 2 ^ n) ↔ ∀ x, x < 2 ^ n → rch D 0 x := by
    unfold cntR rch
    constructor
    · intro e x hx
      have e2 := List.length_filter_eq_length_iff.1 (e.trans (List.length_range).symm) x (List.mem_range.2 hx)
      exact e2
    · intro hx
      rw [List.length_filter_eq_length_iff.2 (fun a ha => hx a (List.mem_range.1 ha)), List.length_range]
  rw [hall]
  constructor
  · rintro rfl
    obtain ⟨l, h1, h2, h3⟩ := h
    obtain ⟨y, rfl⟩ := List.length_eq_one_iff.1 h3
    intro x hx
    obtain ⟨y1, hy1, r1⟩ := h2 0 h0
    obtain ⟨y2, hy2, r2⟩ := h2 x hx
    rw [List.mem_singleton.1 hy1] at r1
    rw [List.mem_singleton.1 hy2] at r2
    have hy := h1.lt y (List.mem_singleton.2 rfl)
    exact hE.trans 0 y x h0 hy hx (hE.symm y 0 hy h0 r1) r2
  · intro hx
    refine Parts.uniq hE h ⟨[0], ⟨fun x hx => by rw [List.mem_singleton.1 hx]; exact h0, List.pairwise_singleton _ _⟩, fun x hxl => ⟨0, List.mem_singleton.2 rfl, hx x hxl⟩, rfl⟩
/-- what the rounds find: by signs -/
def degK (ks : List ByteArray) (n x : Nat) : Nat := (kmL ks x n).length
theorem deg_le (ks : List ByteArray) (n x : Nat) (h2 : n ≤ 10) : degK ks n x ≤ 10 := Nat.le_trans (kmL_len ks x n) h2
def endsN (f : Nat → Nat) (k : Nat) : Nat := sumN (fun y => if decide (f y = 1) then 1 else 0) k
theorem ends_yes (f : Nat → Nat) (k : Nat) (h : f k = 1) : endsN f (k + 1) = endsN f k + 1 := by
  show endsN f k + (if decide (f k = 1) then 1 else 0) = _
  rw [h]; rfl
theorem ends_no (f : Nat → Nat) (k : Nat) (h : f k ≠ 1) : endsN f (k + 1) = endsN f k := by
  show endsN f k + (if decide (f k = 1) then 1 else 0) = _
  rw [decide_eq_false h]; rfl
theorem ends_le (f : Nat → Nat) (k : Nat) : endsN f k ≤ k := by
  induction k with
  | zero => exact Nat.le_refl _
  | succ k ih =>
    by_cases h : f k = 1
    · rw [ends_yes f k h]; omega
    · rw [ends_no f k h]; omega
theorem ends_gray (f : Nat → Nat) (n : Nat) : endsN (fun y => f (gray y)) (2 ^ n) = endsN f (2 ^ n) := sumN_gray (fun x => decide (f x = 1)) n
/-- the answer -/
def lineB (ks : List ByteArray) (n : Nat) : Bool := (List.range (2 ^ n)).all (fun x => decide (degK ks n x ≤ 2)) && decide (endsN (degK ks n) (2 ^ n) = 2) && decide (cntR n (kD n (fkS ks) 0) = 2 ^ n)
theorem line_many (ks : List ByteArray) (n x : Nat) (hx : x < 2 ^ n) (h : 2 < degK ks n x) : lineB ks n = false := by
  unfold lineB
  have : (List.range (2 ^ n)).all (fun x => decide (degK ks n x ≤ 2)) = false := by
    rw [← Bool.not_eq_true]; intro h2
    have := List.all_eq_true.1 h2 x (List.mem_range.2 hx)
    have := of_decide_eq_true this
    omega
  rw [this]; rfl
theorem line_few (ks : List ByteArray) (n : Nat) (h : ∀ x, x < 2 ^ n → degK ks n x ≤ 2) : lineB ks n = (decide (endsN (degK ks n) (2 ^ n) = 2) && decide (cntR n (kD n (fkS ks) 0) = 2 ^ n)) := by
  unfold lineB
  have : (List.range (2 ^ n)).all (fun x => decide (degK ks n x ≤ 2)) = true := List.all_eq_true.2 (fun x hx => decide_eq_true (h x (List.mem_range.1 hx)))
  rw [this]; rfl
theorem sIL_no (v : Value) (ks : List ByteArray) (w : World) (hz : ∀ s ∈ ks, s.size ≤ maxLen) (h : RdT w v ks) (hG : goodK ks = false) :
    Calls Try.prog 14 #[v] w fun e w' => e = .returned (.tuple #[.bool false, .bool false]) ∧ Below w.heap.size w w' := by
  have hA := Lib.hid (keGood_any v ks w hz h)
  rw [hG] at hA
  go_enter Try.func14, Try.ntmps14
  go_wp2_with fail
  refine hA.out.mono ?_; rintro e w' ⟨rfl, rfl⟩
  go_wp2_with fail
  go_ret2; exact ⟨rfl, Below.refl _ _⟩
set_option maxHeartbeats 1000000 in
theorem sIL_yes (v : Value) (ks : List ByteArray) (n : Nat) (w : World) (hz : ∀ s ∈ ks, s.size ≤ maxLen) (h : RdT w v ks) (h2 : n ≤ 10) (hn : ks.length = n) (hG : goodK ks = true) :
    Calls Try.prog 14 #[v] w fun e w' => e = .returned (.tuple #[.bool (lineB ks n), .bool true]) ∧ Below w.heap.size w w' := by
  have hA := Lib.hid (keGood_any v ks w hz h)
  rw [hG] at hA
  have hDg := Lib.hid (keDegrees_any v ks n w h h2 hn hG)
  have hPa := Lib.hid (fun w' (hb : Below w.heap.size w w') => keParts_any v ks n w' (h.below hb) h2 hn hG)
  have hE := (keys_keyd ks hG).eqv
  rw [hn] at hE
  have hone := Lib.hid (fun c (h : Parts (2 ^ n) (kD n (fkS ks)) c) => parts_one hE h)
  obtain ⟨N, hNd⟩ : ∃ N, Hid (N = 2 ^ n) := ⟨_, Lib.hid rfl⟩
  have hN : N ≤ 1024 := by rw [hNd.out]; exact Nat.pow_le_pow_right (n := 2) (by decide) h2
  have hmany := Lib.hid (fun x hx h => line_many ks n x hx h)
  have hfew := Lib.hid (fun h => line_few ks n h)
  have heg := ends_gray (degK ks n) n
  rw [← hNd.out] at hDg hPa hone hmany hfew heg
  have hdl := Lib.hid (dgR_len ks n N)
  have hdg : Hid (∀ y h, (dgR ks n N)[y]'h = ((degK ks n (gray y) : Nat) : Int)) := Lib.hid (fun y h => dgR_get ks n N y h)
  obtain ⟨f, hf⟩ : ∃ f : Nat → Nat, Hid (f = fun y => degK ks n (gray y)) := ⟨_, Lib.hid rfl⟩
  have hfy : ∀ y, degK ks n (gray y) = f y := fun y => by rw [hf.out]
  have hdg' : Hid (∀ y h, (dgR ks n N)[y]'h = ((f y : Nat) : Int)) := Lib.hid (fun y h => by rw [← hfy]; exact hdg.out y h)
  have hmany' : Hid (∀ y, y < N → 2 < f y → lineB ks n = false) := Lib.hid (fun y hy h => hmany.out (gray y) (by rw [hNd.out]; exact gray_lt n y (by rw [← hNd.out]; exact hy)) (by rw [hfy]; exact h))
  have hfew' : Hid ((∀ y, y < N → f y ≤ 2) → lineB ks n = (decide (endsN f N = 2) && decide (cntR n (kD n (fkS ks) 0) = N))) := Lib.hid (fun h => by
    have e : endsN f N = endsN (degK ks n) N := by rw [← heg, hf.out]
    rw [e]
    refine hfew.out (fun x hx => ?_)
    have := h (num x) (by rw [hNd.out]; exact num_lt n x (by rw [← hNd.out]; exact hx))
    rw [← hfy, gray_num] at this; exact this)
  have hfl : Hid (∀ y, f y ≤ 10) := Lib.hid (fun y => by rw [← hfy]; exact deg_le ks n _ h2)
  have hey := Lib.hid (ends_yes f)
  have heo := Lib.hid (ends_no f)
  have hel := Lib.hid (ends_le f)
  have he0 : Hid (endsN f 0 = 0) := Lib.hid rfl
  generalize endsN f = E at *
  generalize cntR n (kD n (fkS ks) 0) = C at *
  generalize lineB ks n = B at *
  clear hfy heg hmany hfew hdg hf h hz hG hn hE
  generalize dgR ks n N = DQ at *
  generalize kD n (fkS ks) = D at *
  go_enter Try.func14, Try.ntmps14
  go_wp2_with fail
  refine hA.out.mono ?_; rintro e w2 ⟨rfl, rfl⟩
  go_wp2_with fail
  refine hDg.out.mono ?_; rintro e w3 ⟨u, rfl, ho, hb⟩
  obtain ⟨p, c, rfl, hr⟩ : ∃ p c, u = .slice p N c ∧ ∀ k (hk : k < DQ.length), ∃ g, p = some ⟨g, 0, none⟩ ∧ w3.cell? ⟨g, k, none⟩ = some (.int .i64 DQ[k]) := by
    rcases ho.form with ⟨rfl, e⟩ | ⟨g, cap, rfl, _, _, hc, _, _⟩
    · exact ⟨none, 0, by have := hdl.out; rw [e] at this; rw [← this]; rfl, fun k hk => by rw [e] at hk; cases hk⟩
    · exact ⟨_, cap, by rw [hdl.out], fun k hk => ⟨g, rfl, hc k hk⟩⟩
  replace hr := Lib.hid hr
  have hPa3 := Lib.hid (hPa.out w3 hb)
  replace hb := Lib.hid hb
  clear ho
  go_wp2_with fail
  go_loopw [4, 13] (fun o i wr => ∃ k : Nat, k ≤ N ∧ i = .int .i64 k ∧ o = .int .i64 ((E k : Nat) : Int) ∧ Hid (∀ y, y < k → f y ≤ 2) ∧ wr = w3) (fun _ i _ => N - (intOf i).toNat)
  case atStart => exact ⟨0, Nat.zero_le _, rfl, by rw [he0.out]; rfl, Lib.hid (fun y h => by omega), by first | rfl | trivial⟩
  case round =>
    obtain ⟨k, hk, rfl, rfl, hall, rfl⟩ := hrel
    by_cases hlt : k < N
    · have hkx : k < DQ.length := by rw [hdl.out]; exact hlt
      obtain ⟨g, rfl, c0⟩ := hr.out k hkx
      rw [hdg'.out k hkx] at c0
      have hEl := hel.out k
      have hye := Lib.hid (hey.out k)
      have hno := Lib.hid (heo.out k)
      have hmk := Lib.hid (hmany'.out k hlt)
      have hfk : Hid (∀ q, f k = q → q ≤ 2 → ∀ y, y < k + 1 → f y ≤ 2) := Lib.hid (fun q e hq y hy => by
        by_cases e2 : y = k
        · subst e2; omega
        · exact hall.out y (by omega))
      have hfl' := hfl.out k
      obtain ⟨q, hq⟩ : ∃ q, Hid (f k = q) := ⟨_, Lib.hid rfl⟩
      rw [hq.out] at c0 hfl' hye hno hmk
      by_cases h1 : 2 < q
      · have hB := hmk.out h1
        have f1 : decide ((2 : Int) < (q : Int)) = true := by rw [decide_eq_true_eq]; omega
        go_wp2_with fail
        go_ret2; exact ⟨by rw [hB]; rfl, hb.out⟩
      · have f1 : decide ((2 : Int) < (q : Int)) = false := by rw [decide_eq_false_iff_not]; omega
        have hall2 := Lib.hid (hfk.out q hq.out (by omega))
        by_cases h3 : q = 1
        · have hS := Lib.hid (hye.out h3)
          subst h3
          go_wp2_with fail
          go_roundw
          case rel => exact ⟨k + 1, by omega, by go_num, by rw [hS.out]; go_num, hall2, by first | rfl | trivial⟩
          all_goals (simp [intOf] <;> omega)
        · have hS := Lib.hid (hno.out h3)
          have f2 : ((q : Int) == (1 : Int)) = false := by rw [beq_eq_false_iff_ne]; omega
          go_wp2_with fail
          go_roundw
          case rel => exact ⟨k + 1, by omega, by go_num, by rw [hS.out], hall2, by first | rfl | trivial⟩
          all_goals (simp [intOf] <;> omega)
    · obtain rfl : k = N := by omega
      have hB := Lib.hid (hfew'.out hall.out)
      have hEl := hel.out k
      generalize E k = e2 at *
      by_cases h3 : e2 = 2
      · subst h3
        go_wp2_with fail
        refine hPa3.out.mono ?_; rintro e w4 ⟨c4, hc4, rfl, hb4⟩
        have h1c := hone.out c4 hc4
        have hd : ((c4 : Int) == 1) = decide (C = k) := by rw [Bool.eq_iff_iff, beq_iff_eq, decide_eq_true_eq, ← h1c]; omega
        go_wp2_with fail
        go_ret2; exact ⟨by rw [hB.out]; simp [hd], bt1 hb.out hb4⟩
      · have f2 : ((e2 : Int) == (2 : Int)) = false := by rw [beq_eq_false_iff_ne]; omega
        have hBf : B = false := by rw [hB.out, decide_eq_false h3]; rfl
        go_wp2_with fail
        go_ret2; exact ⟨by rw [hBf]; rfl, by first | exact hb.out | exact below_drewN hb.out _⟩
theorem iIL_no (v : Value) (ks : List ByteArray) (w : World) (hz : ∀ s ∈ ks, s.size ≤ maxLen) (h : RdT w v ks) (hG : goodK ks = false) :
    Calls Try.prog 15 #[v] w fun e w' => e = .returned (.tuple #[.bool false, .bool false]) ∧ Below w.heap.size w w' := by
  have hA := Lib.hid (keyringOf_any v ks w hz h)
  rw [hG] at hA
  go_enter Try.func15, Try.ntmps15
  go_wp2_with fail
  refine hA.out.mono ?_; rintro e w' ⟨u, rfl, -, hb⟩
  go_wp2_with fail
  go_ret2; exact ⟨rfl, hb⟩
set_option maxHeartbeats 1000000 in
theorem iIL_yes (v : Value) (ks : List ByteArray) (n : Nat) (w : World) (hz : ∀ s ∈ ks, s.size ≤ maxLen) (h : RdT w v ks) (hn : ks.length = n) (h1 : 1 ≤ n) (h2 : n ≤ 10) (hG : goodK ks = true) :
    Calls Try.prog 15 #[v] w fun e w' => e = .returned (.tuple #[.bool (lineB ks n), .bool true]) ∧ Below w.heap.size w w' := by
  have hA := Lib.hid (keyringOf_any v ks w hz h)
  rw [hG, if_pos rfl] at hA
  obtain ⟨N, hNd⟩ : ∃ N, Hid (N = 2 ^ n) := ⟨_, Lib.hid rfl⟩
  have hN : N ≤ 1024 := by rw [hNd.out]; exact Nat.pow_le_pow_right (n := 2) (by decide) h2
  have hN0 : Hid (0 < N) := Lib.hid (by rw [hNd.out]; exact Nat.pow_pos (by decide))
  have hC := Lib.hid (fun p c w => count_any p n c w h2)
  have hSe := Lib.hid (fun u B w (ho : OwnG keyE w B u (ks.map kp)) => search_any u ks B n 0 w ho h1 h2 (Nat.pow_pos (by decide)) hn hG)
  have hSt := Lib.hid (fun u B R w ho (hl : R.length = N) => statesIn_any u B N R w ho hl hN)
  have hMv := Lib.hid (fun u B x w (ho : OwnG keyE w B u (ks.map kp)) (hx : x < N) => moves_any u ks B n x w ho h2 (by rw [← hNd.out]; exact hx) hn hG)
  have hcnt := Lib.hid (fun R hl hR => cnt_stL n (kD n (fkS ks) 0) R hl hR)
  have hkl : Hid ((ks.map kp).length = n) := Lib.hid (by simp [hn])
  have hmany' := Lib.hid (fun x hx h => line_many ks n x hx h)
  have hfew' := Lib.hid (fun h => line_few ks n h)
  rw [← hNd.out] at hC hSe hcnt hmany' hfew'
  have hfl := Lib.hid (fun x => deg_le ks n x h2)
  have hey := Lib.hid (ends_yes (degK ks n))
  have heo := Lib.hid (ends_no (degK ks n))
  have hel := Lib.hid (ends_le (degK ks n))
  have he0 : Hid (endsN (degK ks n) 0 = 0) := Lib.hid rfl
  have hdeg : Hid (∀ x, (kmL ks x n).length = degK ks n x) := Lib.hid (fun x => rfl)
  generalize endsN (degK ks n) = E at *
  generalize cntR n (kD n (fkS ks) 0) = C at *
  generalize lineB ks n = B at *
  generalize kD n (fkS ks) 0 = D at *
  generalize ks.map kp = KL at *
  generalize degK ks n = f at *
  clear hz h hG
  go_enter Try.func15, Try.ntmps15
  go_wp2_with fail
  refine hA.out.mono ?_; rintro e w2 ⟨u, rfl, ho, hb⟩
  obtain ⟨p, c, rfl, -, -⟩ := ho.rd
  rw [hkl.out] at ho ⊢
  replace ho := Lib.hid ho
  replace hb := Lib.hid hb
  go_wp2_with fail
  refine (hC.out _ _ _).mono ?_; rintro e w3 ⟨rfl, rfl⟩
  go_wp2_with fail
  go_loopw [6, 18] (fun o i wr => ∃ k : Nat, k ≤ N ∧ i = .int .u64 k ∧ o = .int .i64 ((E k : Nat) : Int) ∧ Hid (∀ y, y < k → f y ≤ 2) ∧ Hid (Below w2.heap.size w2 wr)) (fun _ i _ => N - (intOf i).toNat)
  case atStart => exact ⟨0, Nat.zero_le _, rfl, by rw [he0.out]; rfl, Lib.hid (fun y h => by omega), Lib.hid (Below.refl _ _)⟩
  case round =>
    obtain ⟨k, hk, rfl, rfl, hall, hbr⟩ := hrel
    rename World => wA
    by_cases hlt : k < N
    · have hoA := Lib.hid (ho.out.below hbr.out)
      have hMk := Lib.hid (hMv.out _ _ k wA hoA.out hlt)
      have hEl := hel.out k
      have hye := Lib.hid (hey.out k)
      have hno := Lib.hid (heo.out k)
      have hmk := Lib.hid (hmany'.out k hlt)
      have hfk : Hid (∀ q, f k = q → q ≤ 2 → ∀ y, y < k + 1 → f y ≤ 2) := Lib.hid (fun q e hq y hy => by
        by_cases e2 : y = k
        · subst e2; omega
        · exact hall.out y (by omega))
      have hfl' := hfl.out k
      obtain ⟨q, hq⟩ : ∃ q, Hid (f k = q) := ⟨_, Lib.hid rfl⟩
      rw [hq.out] at hfl' hye hno hmk
      go_wp2_with fail
      refine hMk.out.mono ?_; rintro e w5 ⟨uu, rfl, hou, hb5⟩
      obtain ⟨pv, capv, rfl, -, -⟩ := hou.rd
      rw [hdeg.out k, hq.out]
      replace hb5 := Lib.hid (bt1 hbr.out hb5)
      clear hou
      by_cases h1 : 2 < q
      · have hB := hmk.out h1
        have f1 : decide ((2 : Int) < (q : Int)) = true := by rw [decide_eq_true_eq]; omega
        go_wp2_with fail
        go_ret2; exact ⟨by rw [hB]; rfl, bt1 hb.out hb5.out⟩
      · have f1 : decide ((2 : Int) < (q : Int)) = false := by rw [decide_eq_false_iff_not]; omega
        have hall2 := Lib.hid (hfk.out q hq.out (by omega))
        by_cases h3 : q = 1
        · have hS := Lib.hid (hye.out h3)
          subst h3
          go_wp2_with fail
          go_roundw
          case rel => exact ⟨k + 1, by omega, by go_num, by rw [hS.out]; go_num, hall2, hb5⟩
          all_goals (simp [intOf] <;> omega)
        · have hS := Lib.hid (hno.out h3)
          have f2 : ((q : Int) == (1 : Int)) = false := by rw [beq_eq_false_iff_ne]; omega
          go_wp2_with fail
          go_roundw
          case rel => exact ⟨k + 1, by omega, by go_num, by rw [hS.out], hall2, hb5⟩
          all_goals (simp [intOf] <;> omega)
    · obtain rfl : k = N := by omega
      have hB := Lib.hid (hfew'.out hall.out)
      have hEl := hel.out k
      have hoA := Lib.hid (ho.out.below hbr.out)
      have hSA := Lib.hid (hSe.out _ _ wA hoA.out)
      have hbA := Lib.hid (bt1 hb.out hbr.out)
      generalize E k = e2 at *
      by_cases h3 : e2 = 2
      · subst h3
        go_wp2_with fail
        refine hSA.out.mono ?_; rintro e w4 ⟨u4, R, rfl, ho4, hRl, hRR, hb4⟩
        have hS4 := Lib.hid (hSt.out u4 _ R w4 ho4 hRl)
        have hc4 := Lib.hid (hcnt.out R hRl hRR)
        replace hb4 := Lib.hid (bt1 hbA.out hb4)
        clear hRR ho4
        go_wp2_with fail
        refine hS4.out.mono ?_; rintro e w6 ⟨u6, rfl, ho6, hb6⟩
        obtain ⟨p6, c6, rfl, -, -⟩ := ho6.rd
        rw [hc4.out]
        have hCle : C ≤ k := by rw [← hc4.out]; exact stL_len R k
        replace hb6 := Lib.hid (bt1 hb4.out hb6)
        clear ho6
        have hw : IntKind.u64.wrap (C : Int) = (C : Int) := by rw [IntKind.wrap_u64]; omega
        go_wp2_with fail
        refine (hC.out _ _ _).mono ?_; rintro e w7 ⟨rfl, rfl⟩
        have hd : ((C : Int) == (k : Int)) = decide (C = k) := by rw [Bool.eq_iff_iff, beq_iff_eq, decide_eq_true_eq]; omega
        go_wp2_with fail
        go_ret2; exact ⟨by rw [hB.out]; simp [hd], hb6.out⟩
      · have f2 : ((e2 : Int) == (2 : Int)) = false := by rw [beq_eq_false_iff_ne]; omega
        have hBf : B = false := by rw [hB.out, decide_eq_false h3]; rfl
        go_wp2_with fail
        go_ret2; exact ⟨by rw [hBf]; rfl, hbA.out⟩
theorem IsLineOfStates_both (ks : List ByteArray) (hz : ∀ s ∈ ks, s.size ≤ maxLen) : ∃ (r0 : Bool) (r1 : Bool),
    (∀ w v, RdT w v ks → Calls Try.prog 14 #[v] w fun e w' => e = .returned (.tuple #[.bool r0, .bool r1]) ∧ Below w.heap.size w w') ∧
    (∀ w v, RdT w v ks → Calls Try.prog 15 #[v] w fun e w' => e = .returned (.tuple #[.bool r0, .bool r1]) ∧ Below w.heap.size w w') := by
  cases hG : goodK ks with
  | false => exact ⟨false, false, fun w v h => sIL_no v ks w hz h hG, fun w v h => iIL_no v ks w hz h hG⟩
  | true =>
    obtain ⟨h1, h2⟩ := goodK_len ks hG
    exact ⟨_, true, fun w v h => sIL_yes v ks _ w hz h h2 rfl hG, fun w v h => iIL_yes v ks _ w hz h rfl h1 h2 hG⟩
end Go.Proofs.Ytcfeaaakfjilgab
