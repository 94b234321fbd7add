/- Whether a ring can be moved, on both sides. -/
import Derived.Test.YthddgnimkbjadaaDoorV10
namespace Go.Proofs.YthddgnimkbjadaaDoor
open Go Go.RowKit RM
theorem keepK {W a b : World} {g g' k : Nat} {v0 v1 u3 : Value} (hb : Below a.heap.size a b)
    (h : (a.cell? ⟨g, k * 2, none⟩ = some v0 ∧ a.cell? ⟨g, k * 2 + 1, none⟩ = some v1) ∧ a.cell? ⟨g', 3, none⟩ = some u3 ∧ g < a.heap.size ∧ g' < a.heap.size ∧ Below W.heap.size W a) :
    (b.cell? ⟨g, k * 2, none⟩ = some v0 ∧ b.cell? ⟨g, k * 2 + 1, none⟩ = some v1) ∧ b.cell? ⟨g', 3, none⟩ = some u3 ∧ g < b.heap.size ∧ g' < b.heap.size ∧ Below W.heap.size W b := by
  obtain ⟨⟨h0, h1⟩, h4, l1, l2, hB⟩ := h
  have c : ∀ o, b.cell? ⟨g, o, none⟩ = a.cell? ⟨g, o, none⟩ := fun o => hb.cell (p := ⟨g, o, none⟩) l1
  have c' : ∀ o, b.cell? ⟨g', o, none⟩ = a.cell? ⟨g', o, none⟩ := fun o => hb.cell (p := ⟨g', o, none⟩) l2
  exact ⟨⟨by rw [c]; exact h0, by rw [c]; exact h1⟩, by rw [c']; exact h4, Nat.lt_of_lt_of_le l1 hb.size, Nat.lt_of_lt_of_le l2 hb.size, bt1 hB hb⟩
theorem keepKF {W a : World} {g g' k : Nat} {v0 v1 u3 : Value}
    (h : (a.cell? ⟨g, k * 2, none⟩ = some v0 ∧ a.cell? ⟨g, k * 2 + 1, none⟩ = some v1) ∧ a.cell? ⟨g', 3, none⟩ = some u3 ∧ g < a.heap.size ∧ g' < a.heap.size ∧ Below W.heap.size W a) : Below W.heap.size W a := h.2.2.2.2
theorem sFits_no (v : Value) (ks : List ByteArray) (s : ByteArray) (k : Int) (w : World) (hz : ∀ s ∈ ks, s.size ≤ maxLen) (hs : s.size ≤ maxLen) (h : RdT w v ks) (hwk : (Lit.int .i64 k).wf = true) (hno : askK ks s = false ∨ k < 0 ∨ (ks.length : Int) ≤ k) :
    Calls Tryd.prog 7 #[v, .string s, .int .i64 k] w fun e w' => e = .returned (.tuple #[.bool false, .bool false]) ∧ Below w.heap.size w w' := by
  have hA := Lib.hid (keAsked_any v ks s w hz hs h)
  obtain ⟨p, c, rfl, hm, -⟩ := h
  cases hk : askK ks s with
  | false =>
    rw [hk] at hA
    clear hno hk
    generalize ks.length = n at *
    go_enter Tryd.func7, Tryd.ntmps7
    go_wp2_with fail
    refine hA.out.mono ?_; rintro e w' ⟨rfl, rfl⟩
    go_wp2_with fail
    go_ret2; exact ⟨rfl, Below.refl _ _⟩
  | true =>
    rw [hk] at hA hno
    have hno' : k < 0 ∨ (ks.length : Int) ≤ k := by
      rcases hno with h | h
      · cases h
      · exact h
    clear hno hk
    generalize ks.length = n at *
    unfold maxLen at hm
    have hI := Lib.hid (fun w => l1In_no k 0 ((n : Int) - 1) w (by omega))
    go_enter Tryd.func7, Tryd.ntmps7
    go_wp2_with fail
    refine hA.out.mono ?_; rintro e w' ⟨rfl, rfl⟩
    go_wp2_with fail
    refine (hI.out _).mono ?_; rintro e w' ⟨rfl, rfl⟩
    go_wp2_with fail
    go_ret2; exact ⟨rfl, Below.refl _ _⟩
theorem sFits_yes (v : Value) (ks : List ByteArray) (n x k : Nat) (key : ByteArray) (w : World) (hz : ∀ s ∈ ks, s.size ≤ maxLen) (h : RdT w v ks) (h2 : n ≤ 10) (hx : x < 2 ^ n) (hn : ks.length = n) (hG : goodK ks = true) (ha : askK ks (ST n x) = true) (hk : k < ks.length) (hkey : ks[k] = key) :
    Calls Tryd.prog 7 #[v, .string (ST n x), .int .i64 k] w fun e w' => e = .returned (.tuple #[.bool (fitN key.data.toList x), .bool true]) ∧ Below w.heap.size w w' := by
  have hA := Lib.hid (keAsked_any v ks (ST n x) w hz (by rw [ST_size]; unfold maxLen; omega) h)
  rw [ha] at hA
  have hkk := (keyOk_iff _ _ _).1 (goodK_at ks hG k hk)
  rw [hkey] at hkk
  have hF := Lib.hid (fun w => keFits_any key n x w (by rw [hkk.1, hn]) hkk.2.2 hx (by omega))
  obtain ⟨p, c, rfl, hm, hr⟩ := h
  obtain ⟨g, rfl, -, hc⟩ := hr.tx hk
  rw [hkey] at hc
  rw [hn] at hk hA ⊢
  have hI := Lib.hid (fun w => l1In_yes (k : Int) 0 ((n : Int) - 1) w (by omega) (by omega))
  generalize fitN key.data.toList x = F at *
  generalize ST n x = s at *
  clear hr hm hkk hn hz ha hkey hG hx
  go_enter Tryd.func7, Tryd.ntmps7
  go_wp2_with fail
  refine hA.out.mono ?_; rintro e w' ⟨rfl, rfl⟩
  go_wp2_with fail
  refine (hI.out _).mono ?_; rintro e w' ⟨rfl, rfl⟩
  go_wp2_with fail
  refine (hF.out _).mono ?_; rintro e w' ⟨rfl, hb⟩
  go_wp2_with fail
  go_ret2; exact ⟨rfl, hb⟩
theorem iFits_no (v : Value) (ks : List ByteArray) (s : ByteArray) (k : Int) (w : World) (hz : ∀ s ∈ ks, s.size ≤ maxLen) (hs : s.size ≤ maxLen) (h : RdT w v ks) (hT : TabOk w) (hno : askK ks s = false) :
    Calls Tryd.prog 9 #[v, .string s, .int .i64 k] w fun e w' => e = .returned (.tuple #[.bool false, .bool false]) ∧ Below w.heap.size w w' := by
  have hA := Lib.hid (keyedBar_no v ks s w hz hs h hT hno)
  rw [← bz0] at hA
  go_enter Tryd.func9, Tryd.ntmps9
  go_wp2_with fail
  refine hA.out.mono ?_; rintro e w' ⟨rfl, hb⟩
  go_wp2_with fail
  go_ret2; exact ⟨rfl, by first | exact hb | exact hb.alloc hb.size _⟩
theorem iFits_out (v : Value) (ks : List ByteArray) (n x : Nat) (k : Int) (w : World) (hz : ∀ s ∈ ks, s.size ≤ maxLen) (h : RdT w v ks) (hT : TabOk w) (h1 : 1 ≤ n) (h2 : n ≤ 10) (hx : x < 2 ^ n) (hn : ks.length = n) (hG : goodK ks = true) (hk : k < 0 ∨ (n : Int) ≤ k) :
    Calls Tryd.prog 9 #[v, .string (ST n x), .int .i64 k] w fun e w' => e = .returned (.tuple #[.bool false, .bool false]) ∧ Below w.heap.size w w' := by
  have hA := Lib.hid (keyedBar_yes v ks n x w hz h hT h1 h2 hx hn hG)
  have hlen : (ks.map kp).length = n := by simp [hn]
  generalize ks.map kp = KL at *
  generalize ST n x = s at *
  clear h hz hx hn hG
  go_enter Tryd.func9, Tryd.ntmps9
  go_wp2_with fail
  refine hA.out.mono ?_; rintro e w' ⟨u, rfl, ho, hb⟩
  obtain ⟨p, c, rfl⟩ : ∃ p c, u = .slice p n c := by
    obtain ⟨p, c, e, _⟩ := ho.rd
    exact ⟨p, c, by rw [e, hlen]⟩
  clear hlen ho
  by_cases h0 : k < 0
  · have e0 : decide (k < 0) = true := by simp; omega
    go_wp2_with fail
    go_ret2; exact ⟨rfl, by first | exact hb | exact hb.alloc hb.size _⟩
  · have e0 : decide (k < 0) = false := by simp; omega
    have e1 : decide (k ≥ (n : Int)) = true := by simp; omega
    go_wp2_with fail
    go_ret2; exact ⟨rfl, by first | exact hb | exact hb.alloc hb.size _⟩
theorem iFits_yes (v : Value) (ks : List ByteArray) (n x k : Nat) (key : ByteArray) (w : World) (hz : ∀ s ∈ ks, s.size ≤ maxLen) (h : RdT w v ks) (hT : TabOk w) (h1 : 1 ≤ n) (h2 : n ≤ 10) (hx : x < 2 ^ n) (hn : ks.length = n) (hG : goodK ks = true) (hk : k < ks.length) (hkey : ks[k] = key) :
    Calls Tryd.prog 9 #[v, .string (ST n x), .int .i64 k] w fun e w' => e = .returned (.tuple #[.bool (fitN key.data.toList x), .bool true]) ∧ Below w.heap.size w w' := by
  have hA := Lib.hid (keyedBar_yes v ks n x w hz h hT h1 h2 hx hn hG)
  have hkk := (keyOk_iff _ _ _).1 (goodK_at ks hG k hk)
  rw [hkey, hn] at hkk
  have hF := Lib.hid (fun w => fits_any key x w (Nat.lt_of_lt_of_le hx (Nat.pow_le_pow_right (by decide) (by omega : n ≤ 20))) (by omega))
  have hlen : (ks.map kp).length = n := by simp [hn]
  have hge : Hid (∀ (h : k < (ks.map kp).length), (ks.map kp)[k] = kp key) := Lib.hid (fun _ => by simp [hkey])
  rw [hn] at hk
  generalize ks.map kp = KL at *
  generalize ST n x = s at *
  generalize fitN key.data.toList x = F at *
  obtain ⟨q1, q2, hq⟩ : ∃ a b, kp key = (a, b) := ⟨_, _, rfl⟩
  rw [hq] at hF hge
  clear h hz hn hG hkk hkey hq
  go_enter Tryd.func9, Tryd.ntmps9
  go_wp2_with fail
  refine hA.out.mono ?_; rintro e w3 ⟨u, rfl, ho, hb⟩
  obtain ⟨p, c, rfl⟩ : ∃ p c, u = .slice p n c := by
    obtain ⟨p, c, e, _⟩ := ho.rd
    exact ⟨p, c, by rw [e, hlen]⟩
  obtain ⟨g, rfl, hgl, c0, c1⟩ := ho.rg.ky (k := k) (by rw [hlen]; exact hk)
  rw [hge.out] at c0 c1
  have e0 : decide ((k : Int) < 0) = false := by simp
  have e1 : decide ((k : Int) ≥ (n : Int)) = false := by simp; omega
  obtain ⟨w4, hw4⟩ : ∃ w4, Hid (w4 = w3.alloc (.cells #[.int .i64 ((ctz x : Nat) : Int), .bool (onB x), .int .i64 (n : Int), .int .u64 (x : Int)] 45)) := ⟨_, Lib.hid rfl⟩
  have hb4 := Lib.hid (show Below w3.heap.size w3 w4 by rw [hw4.out]; exact ba1 w3 _)
  have X4 := Lib.hid (show w4.heap[w3.heap.size]? = some (.cells #[.int .i64 ((ctz x : Nat) : Int), .bool (onB x), .int .i64 (n : Int), .int .u64 (x : Int)] 45) by rw [hw4.out]; exact hb_new _ _)
  have d0 : w4.cell? ⟨g, k * 2, none⟩ = some (.int .u64 (q1 : Int)) := (hb4.out.cell (p := ⟨g, k * 2, none⟩) hgl).trans c0
  have d1 : w4.cell? ⟨g, k * 2 + 1, none⟩ = some (.int .u64 (q2 : Int)) := (hb4.out.cell (p := ⟨g, k * 2 + 1, none⟩) hgl).trans c1
  have x3 : w4.cell? ⟨w3.heap.size, 3, none⟩ = some (.int .u64 (x : Int)) := hb_cell X4.out 3
  have l1 : g < w4.heap.size := Nat.lt_of_lt_of_le hgl hb4.out.size
  have l2 := hb_lt X4.out
  replace hb := Lib.hid hb
  clear ho hlen hge c0 c1
  go_wp2_with fail
  rw [← hw4.out]
  go_region_held3 (fun v => (v.cell? ⟨g, k * 2, none⟩ = some (.int .u64 (q1 : Int)) ∧ v.cell? ⟨g, k * 2 + 1, none⟩ = some (.int .u64 (q2 : Int))) ∧ v.cell? ⟨w3.heap.size, 3, none⟩ = some (.int .u64 (x : Int)) ∧ g < v.heap.size ∧ w3.heap.size < v.heap.size ∧ Below w4.heap.size w4 v) ((first | assumption | (refine ⟨⟨?_, ?_⟩, ?_, ?_, ?_, ?_⟩ <;> first | assumption | go_keep | omega | exact (Below.refl _ _).drew)))
    (first | (go_at_call 23; refine (hF.out _).mono ?_; rintro e w' ⟨rfl, hb9⟩; have hbn := keepK hb9 (by assumption)))
  all_goals
    have hfin := keepKF (by assumption)
    go_wp2_with fail
    go_ret2; exact ⟨rfl, bt1 hb.out (bt1 hb4.out hfin)⟩
theorem FitsKey_both (ks : List ByteArray) (hz : ∀ s ∈ ks, s.size ≤ maxLen) (s : ByteArray) (k : Int) (hs : s.size ≤ maxLen) (wk : (Lit.int .i64 k).wf = true) : ∃ r0 r1 : Bool,
    (∀ w v, RdT w v ks → Calls Tryd.prog 7 #[v, .string s, .int .i64 k] w fun e w' => e = .returned (.tuple #[.bool r0, .bool r1]) ∧ Below w.heap.size w w') ∧
    (∀ w v, TabOk w → RdT w v ks → Calls Tryd.prog 9 #[v, .string s, .int .i64 k] w fun e w' => e = .returned (.tuple #[.bool r0, .bool r1]) ∧ Below w.heap.size w w') := by
  rcases key_cases ks s with ha | ⟨n, x, h1, h2, hx, hn, hG, rfl, ha⟩
  · exact ⟨false, false, fun w v h => sFits_no v ks s k w hz hs h wk (.inl ha), fun w v hT h => iFits_no v ks s k w hz hs h hT ha⟩
  · by_cases hk : k < 0 ∨ (n : Int) ≤ k
    · exact ⟨false, false, fun w v h => sFits_no v ks _ k w hz hs h wk (.inr (by rw [hn]; exact hk)), fun w v hT h => iFits_out v ks n x k w hz h hT h1 h2 hx hn hG hk⟩
    · obtain ⟨j, rfl⟩ : ∃ j : Nat, k = (j : Int) := ⟨k.toNat, by omega⟩
      have hj : j < ks.length := by omega
      exact ⟨fitN ks[j].data.toList x, true, fun w v h => sFits_yes v ks n x j _ w hz h h2 hx hn hG ha hj rfl, fun w v hT h => iFits_yes v ks n x j _ w hz h hT h1 h2 hx hn hG hj rfl⟩
end Go.Proofs.YthddgnimkbjadaaDoor
