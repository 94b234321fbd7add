/- The state behind a move by keys, on both sides. -/
import Derived.Test.YthddgnimkbjadaaDoorV12
import Derived.Test.YthddgnimkbjadaaDoorShelf
import Derived.Test.YthddgnimkbjadaaDoorS4
import Derived.Test.YthddgnimkbjadaaDoorI3
namespace Go.Proofs.YthddgnimkbjadaaDoor
open Go Go.RowKit RM
theorem sMK_no (v : Value) (ks : List ByteArray) (s : ByteArray) (k : Int) (w : World) (hz : ∀ s ∈ ks, s.size ≤ maxLen) (hs : s.size ≤ maxLen) (h : RdT w v ks) (hwk : (Lit.int .i64 k).wf = true) (hno : askK ks s = false ∨ k < 0 ∨ (ks.length : Int) ≤ k) :
    Calls Tryd.prog 17 #[v, .string s, .int .i64 k] w fun e w' => e = .returned (.tuple #[.string ⟨#[]⟩, .bool false]) ∧ Below w.heap.size w w' := by
  have hA := Lib.hid (keAsked_any v ks s w hz hs h)
  obtain ⟨p, c, rfl, hm, -⟩ := h
  cases hk : askK ks s with
  | false =>
    rw [hk] at hA
    clear hno hk
    generalize ks.length = n at *
    go_enter Tryd.func17, Tryd.ntmps17
    go_wp2_with fail
    refine hA.out.mono ?_; rintro e w' ⟨rfl, rfl⟩
    go_wp2_with fail
    go_ret2; exact ⟨rfl, Below.refl _ _⟩
  | true =>
    rw [hk] at hA hno
    have hno' : k < 0 ∨ (ks.length : Int) ≤ k := by
      rcases hno with h | h
      · cases h
      · exact h
    clear hno hk
    generalize ks.length = n at *
    unfold maxLen at hm
    have hI := Lib.hid (fun w => l1In_no k 0 ((n : Int) - 1) w (by omega))
    go_enter Tryd.func17, Tryd.ntmps17
    go_wp2_with fail
    refine hA.out.mono ?_; rintro e w' ⟨rfl, rfl⟩
    go_wp2_with fail
    refine (hI.out _).mono ?_; rintro e w' ⟨rfl, rfl⟩
    go_wp2_with fail
    go_ret2; exact ⟨rfl, Below.refl _ _⟩
theorem sMK_yes (v : Value) (ks : List ByteArray) (n x k : Nat) (key : ByteArray) (w : World) (hz : ∀ s ∈ ks, s.size ≤ maxLen) (h : RdT w v ks) (h2 : n ≤ 10) (hx : x < 2 ^ n) (hn : ks.length = n) (hG : goodK ks = true) (ha : askK ks (ST n x) = true) (hk : k < ks.length) (hkey : ks[k] = key) :
    Calls Tryd.prog 17 #[v, .string (ST n x), .int .i64 k] w fun e w' => e = .returned (.tuple #[.string (if fitN key.data.toList x then ST n (x ^^^ 2 ^ k) else ⟨#[]⟩), .bool (fitN key.data.toList x)]) ∧ Below w.heap.size w w' := by
  have hA := Lib.hid (keAsked_any v ks (ST n x) w hz (by rw [ST_size]; unfold maxLen; omega) h)
  rw [ha] at hA
  have hkk := (keyOk_iff _ _ _).1 (goodK_at ks hG k hk)
  rw [hkey] at hkk
  have hF := Lib.hid (fun w => keFits_any key n x w (by rw [hkk.1, hn]) hkk.2.2 hx (by omega))
  obtain ⟨p, c, rfl, hm, hr⟩ := h
  obtain ⟨g, rfl, hgl, hc⟩ := hr.tx hk
  rw [hkey] at hc
  rw [hn] at hk hA ⊢
  have hI := Lib.hid (fun w => l1In_yes (k : Int) 0 ((n : Int) - 1) w (by omega) (by omega))
  have hM := Lib.hid (fun w => riMove_ST n x k w (by omega) hk)
  generalize ST n (x ^^^ 2 ^ k) = t at *
  obtain ⟨RV, hRV⟩ : ∃ V, Hid (V = if fitN key.data.toList x then t else ⟨#[]⟩) := ⟨_, Lib.hid rfl⟩
  rw [← hRV.out]
  generalize fitN key.data.toList x = F at *
  generalize ST n x = s at *
  clear hr hm hkk hn hz ha hkey hG hx
  cases F with
  | false =>
    go_enter Tryd.func17, Tryd.ntmps17
    go_wp2_with fail
    refine hA.out.mono ?_; rintro e w' ⟨rfl, rfl⟩
    go_wp2_with fail
    refine (hI.out _).mono ?_; rintro e w' ⟨rfl, rfl⟩
    go_wp2_with fail
    refine (hF.out _).mono ?_; rintro e w' ⟨rfl, hb⟩
    go_wp2_with fail
    go_ret2; exact ⟨by rw [hRV.out]; rfl, hb⟩
  | true =>
    go_enter Tryd.func17, Tryd.ntmps17
    go_wp2_with fail
    refine hA.out.mono ?_; rintro e w' ⟨rfl, rfl⟩
    go_wp2_with fail
    refine (hI.out _).mono ?_; rintro e w' ⟨rfl, rfl⟩
    go_wp2_with fail
    refine (hF.out _).mono ?_; rintro e w' ⟨rfl, hb⟩
    go_wp2_with fail
    refine (hM.out _).mono ?_; rintro e w2 ⟨rfl, q, rfl⟩
    go_wp2_with fail
    go_ret2; exact ⟨by rw [hRV.out]; rfl, below_drewN hb q⟩
theorem contains_km (ks : List ByteArray) (x n : Nat) (k : Int) (hn : ks.length = n) : (kmL ks x n).contains k = true ↔ ∃ j, ∃ h : j < ks.length, k = (j : Int) ∧ fitN ks[j].data.toList x = true := by
  rw [List.contains_iff_mem, kmL_mem ks x n (by omega)]
  constructor
  · rintro ⟨j, h, _, e, f⟩; exact ⟨j, h, e, f⟩
  · rintro ⟨j, h, e, f⟩; exact ⟨j, h, by omega, e, f⟩
theorem contains_own (v : Value) (xs : List Int) (B : Nat) (x : Int) (w : World) (hl : xs.length ≤ 1000) (h : OwnI w B v xs) :
    Calls Tryd.prog 28 #[v, .int .i64 x] w fun e w' => e = .returned (.bool (xs.contains x)) ∧ w = w' := by
  rcases h.form with ⟨rfl, rfl⟩ | ⟨g, cap, rfl, _, _, hc, _, _⟩
  · exact (contains_empty none 0 x w).mono fun e w' ⟨a, b⟩ => ⟨a, b.symm⟩
  · refine (contains_int g 0 xs.length cap xs x w (Nat.le_refl _) (by omega) (fun j hj => by rw [Nat.zero_add, hc j hj]; simp [List.getD, List.getElem?_eq_getElem hj])).mono fun e w' ⟨a, b⟩ => ⟨?_, b.symm⟩
    rw [a, List.take_length]
theorem iMK_no (v : Value) (ks : List ByteArray) (s : ByteArray) (k : Int) (w : World) (hz : ∀ s ∈ ks, s.size ≤ maxLen) (hs : s.size ≤ maxLen) (h : RdT w v ks) (hT : TabOk w) (hno : askK ks s = false) :
    Calls Tryd.prog 18 #[v, .string s, .int .i64 k] w fun e w' => e = .returned (.tuple #[.string ⟨#[]⟩, .bool false]) ∧ Below w.heap.size w w' := by
  have hA := Lib.hid (keyedBar_no v ks s w hz hs h hT hno)
  rw [← bz0] at hA
  go_enter Tryd.func18, Tryd.ntmps18
  go_wp2_with fail
  refine hA.out.mono ?_; rintro e w' ⟨rfl, hb⟩
  go_wp2_with fail
  go_ret2; exact ⟨rfl, by first | exact hb.alloc hb.size _ | exact (hb.alloc hb.size _).drew⟩
set_option maxHeartbeats 1000000 in
theorem iMK_yes (v : Value) (ks : List ByteArray) (n x : Nat) (k : Int) (r : ByteArray) (w : World) (hz : ∀ s ∈ ks, s.size ≤ maxLen) (h : RdT w v ks) (hT : TabOk w) (h1 : 1 ≤ n) (h2 : n ≤ 10) (hx : x < 2 ^ n) (hn : ks.length = n) (hG : goodK ks = true)
    (hr0 : (kmL ks x n).contains k = false → r = ⟨#[]⟩) (hr1 : (kmL ks x n).contains k = true → ∃ j : Nat, k = (j : Int) ∧ j < n ∧ r = ST n (x ^^^ 2 ^ j)) :
    Calls Tryd.prog 18 #[v, .string (ST n x), .int .i64 k] w fun e w' => e = .returned (.tuple #[.string r, .bool ((kmL ks x n).contains k)]) ∧ Below w.heap.size w w' := by
  have hA := Lib.hid (keyedBar_yes v ks n x w hz h hT h1 h2 hx hn hG)
  have hM := Lib.hid (fun u B w ho => moves_any u ks B n x w ho h2 hx hn hG)
  have hx20 : x < 1048576 := Nat.lt_of_lt_of_le hx (Nat.pow_le_pow_right (by decide) (by omega : n ≤ 20))
  have hlen := kmL_len ks x n
  generalize kmL ks x n = L at *
  have hC := Lib.hid (fun u B w ho => contains_own u L B k w (by omega) ho)
  generalize L.contains k = C at *
  generalize ks.map kp = KL at *
  generalize ST n x = s at *
  clear h hz hn hG
  replace hT := Lib.hid hT
  go_enter Tryd.func18, Tryd.ntmps18
  go_wp2_with fail
  refine hA.out.mono ?_; rintro e w3 ⟨u, rfl, ho, hb⟩
  replace ho := Lib.hid ho
  replace hb := Lib.hid hb
  obtain ⟨w4, hw4⟩ : ∃ w4, Hid (w4 = w3.alloc (.cells #[.int .i64 ((ctz x : Nat) : Int), .bool (onB x), .int .i64 (n : Int), .int .u64 (x : Int)] 45)) := ⟨_, Lib.hid rfl⟩
  have hb4 := Lib.hid (show Below w3.heap.size w3 w4 by rw [hw4.out]; exact ba1 w3 _)
  have X4 := Lib.hid (show w4.heap[w3.heap.size]? = some (.cells #[.int .i64 ((ctz x : Nat) : Int), .bool (onB x), .int .i64 (n : Int), .int .u64 (x : Int)] 45) by rw [hw4.out]; exact hb_new _ _)
  have hM4 := Lib.hid (hM.out u _ w4 (ho.out.below hb4.out))
  go_wp2_with fail
  rw [← hw4.out]
  refine hM4.out.mono ?_; rintro e w5 ⟨u5, rfl, ho5, hb5⟩
  have hC5 := Lib.hid (hC.out u5 _ w5 ho5)
  have X5 := Lib.hid (hb_below hb5 (hb_lt X4.out) X4.out)
  have hbw5 := Lib.hid (bt1 (bt1 hb.out hb4.out) hb5)
  have hT5 := Lib.hid (hT.out.below hbw5.out)
  clear ho5 hb5
  have x0 : w5.cell? ⟨w3.heap.size, 0, none⟩ = some (.int .i64 ((ctz x : Nat) : Int)) := hb_cell X5.out 0
  have x1 : w5.cell? ⟨w3.heap.size, 1, none⟩ = some (.bool (onB x)) := hb_cell X5.out 1
  have x2 : w5.cell? ⟨w3.heap.size, 2, none⟩ = some (.int .i64 (n : Int)) := hb_cell X5.out 2
  have x3 : w5.cell? ⟨w3.heap.size, 3, none⟩ = some (.int .u64 (x : Int)) := hb_cell X5.out 3
  go_wp2_with fail
  refine hC5.out.mono ?_; rintro e w' ⟨rfl, rfl⟩
  cases C with
  | false =>
    have hr := Lib.hid (hr0 rfl)
    go_wp2_with fail
    go_ret2; exact ⟨by rw [hr.out]; rfl, hbw5.out⟩
  | true =>
    obtain ⟨j, rfl, hj, hr⟩ := hr1 rfl
    replace hr := Lib.hid hr
    have hMv := Lib.hid (moved_any n x j w5 hx20 (by omega) hT5.out)
    have hx2 : x ^^^ 2 ^ j < 1048576 := Nat.xor_lt_two_pow (n := 20) hx20 (Nat.pow_lt_pow_right (by decide) (by omega))
    have hTx := Lib.hid (fun w => text_any n (x ^^^ 2 ^ j) w hx2 (by omega))
    generalize x ^^^ 2 ^ j = y at *
    generalize ST n y = t at *
    clear hr0 hr1
    go_wp2_with fail
    refine hMv.out.mono ?_; rintro e w6 ⟨rfl, hb6⟩
    go_wp2_with fail
    refine (hTx.out _).mono ?_; rintro e w7 ⟨rfl, hb7⟩
    go_wp2_with fail
    go_ret2; exact ⟨by rw [hr.out]; rfl, bt1 (bt1 hbw5.out hb6) hb7⟩
theorem MoveKeyed_both (ks : List ByteArray) (hz : ∀ s ∈ ks, s.size ≤ maxLen) (s : ByteArray) (k : Int) (hs : s.size ≤ maxLen) (wk : (Lit.int .i64 k).wf = true) : ∃ (r0 : ByteArray) (r1 : Bool),
    (∀ w v, RdT w v ks → Calls Tryd.prog 17 #[v, .string s, .int .i64 k] w fun e w' => e = .returned (.tuple #[.string r0, .bool r1]) ∧ Below w.heap.size w w') ∧
    (∀ w v, TabOk w → RdT w v ks → Calls Tryd.prog 18 #[v, .string s, .int .i64 k] w fun e w' => e = .returned (.tuple #[.string r0, .bool r1]) ∧ Below w.heap.size w w') := by
  rcases key_cases ks s with ha | ⟨n, x, h1, h2, hx, hn, hG, rfl, ha⟩
  · exact ⟨⟨#[]⟩, false, fun w v h => sMK_no v ks s k w hz hs h wk (.inl ha), fun w v hT h => iMK_no v ks s k w hz hs h hT ha⟩
  · have hcm := contains_km ks x n k hn
    by_cases hk : k < 0 ∨ (n : Int) ≤ k
    · have hc : (kmL ks x n).contains k = false := by
        rw [← Bool.not_eq_true, hcm]
        rintro ⟨j, hj, e, _⟩; omega
      refine ⟨⟨#[]⟩, false, fun w v h => sMK_no v ks _ k w hz hs h wk (.inr (by rw [hn]; exact hk)), fun w v hT h => ?_⟩
      have := iMK_yes v ks n x k ⟨#[]⟩ w hz h hT h1 h2 hx hn hG (fun _ => rfl) (fun h => by rw [hc] at h; cases h)
      rw [hc] at this; exact this
    · obtain ⟨j, rfl⟩ : ∃ j : Nat, k = (j : Int) := ⟨k.toNat, by omega⟩
      have hj : j < ks.length := by omega
      have hc : (kmL ks x n).contains (j : Int) = fitN ks[j].data.toList x := by
        rw [Bool.eq_iff_iff, hcm]
        constructor
        · rintro ⟨i, hi, e, f⟩
          obtain rfl : j = i := by omega
          exact f
        · intro f; exact ⟨j, hj, rfl, f⟩
      refine ⟨_, _, fun w v h => sMK_yes v ks n x j _ w hz h h2 hx hn hG ha hj rfl, fun w v hT h => ?_⟩
      have := iMK_yes v ks n x (j : Int) (if fitN ks[j].data.toList x then ST n (x ^^^ 2 ^ j) else ⟨#[]⟩) w hz h hT h1 h2 hx hn hG (fun h => by rw [hc] at h; rw [h]; rfl) (fun h => ⟨j, rfl, by omega, by rw [hc] at h; rw [h]; rfl⟩)
      rw [hc] at this; exact this
end Go.Proofs.YthddgnimkbjadaaDoor
