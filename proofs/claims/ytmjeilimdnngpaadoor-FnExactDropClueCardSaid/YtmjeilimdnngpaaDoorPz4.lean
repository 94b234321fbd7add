/- Puzzles by the model: which there are, what is told of a state, which states fit. -/
import Derived.Test.YtmjeilimdnngpaaDoorPz3
import Derived.Test.YtmjeilimdnngpaaDoorStrs
namespace Go.Proofs.YtmjeilimdnngpaaDoor
open Go Go.RowKit RM
theorem RdZ.form {w : World} {v : Value} {R : Int} {cs : List Clu} (h : RdZ w v R cs) : ∃ p c, v = .agg #[.int .i64 R, .slice p cs.length c] ∧ cs.length ≤ maxLen ∧ RG cluE w p cs := by
  obtain ⟨u, rfl, p, c, rfl, hm, hr⟩ := h
  exact ⟨p, c, rfl, hm, hr⟩
theorem pzGood_any (v : Value) (R : Int) (cs : List Clu) (w : World) (h : RdZ w v R cs) :
    Calls Tryd.prog 37 #[v] w fun e w' => e = .returned (.bool (goodZ R cs)) ∧ Below w.heap.size w w' := by
  obtain ⟨p, c, rfl, hm, hr⟩ := h.form
  clear h
  unfold maxLen at hm
  obtain ⟨m, hmc⟩ : ∃ m, m = cs.length := ⟨_, rfl⟩
  have hR := Lib.hid fun w => pzRings_any R w
  cases hb : inB R 1 7 with
  | false =>
    rw [goodZ_no R cs hb]
    rw [hb] at hR
    rw [← hmc]
    clear hb hmc hr hm
    go_enter Tryd.func37, Tryd.ntmps37
    go_wp2_with fail
    refine (hR.out _).mono ?_; rintro e w' ⟨rfl, rfl⟩
    go_wp2_with fail
    go_ret; exact ⟨rfl, ba1 w _⟩
  | true =>
    rw [hb] at hR
    obtain ⟨h1, h7⟩ := inB_yes hb
    clear hb
    obtain ⟨n, rfl⟩ : ∃ n : Nat, R = (n : Int) := ⟨R.toNat, by omega⟩
    rw [← hmc]
    by_cases hl : 6 < m
    · rw [goodZ_len n cs (by omega)]
      have hd : decide ((6 : Int) < (m : Int)) = true := by simp; omega
      clear hmc hr
      go_enter Tryd.func37, Tryd.ntmps37
      go_wp2_with fail
      refine (hR.out _).mono ?_; rintro e w' ⟨rfl, rfl⟩
      go_wp2_with fail
      go_ret; exact ⟨rfl, ba1 w _⟩
    · have hG := Lib.hid (goodZ_yes n cs (by omega) (by omega) (by omega))
      have hd : decide ((6 : Int) < (m : Int)) = false := by simp; omega
      obtain ⟨G, hGe⟩ : ∃ G, G = goodZ n cs := ⟨_, rfl⟩
      rw [← hGe] at hG ⊢
      clear hGe
      replace hmc := Lib.hid hmc.symm
      replace hr := Lib.hid hr
      obtain ⟨w2, hw2⟩ : ∃ w2, Hid (w2 = w.alloc (puzO n (.slice p m c))) := ⟨_, Lib.hid rfl⟩
      have hb2 : Hid (Below w.heap.size w w2) := Lib.hid (by rw [hw2.out]; exact ba1 w _)
      have P2 := Lib.hid (show w2.heap[w.heap.size]? = some (puzO n (.slice p m c)) by rw [hw2.out]; exact hb_new _ _)
      have f0 : w2.cell? ⟨w.heap.size, 0, none⟩ = some (.int .i64 n) := hb_cell P2.out 0
      have f1 : w2.cell? ⟨w.heap.size, 1, none⟩ = some (.slice p m c) := hb_cell P2.out 1
      go_enter Tryd.func37, Tryd.ntmps37
      go_wp2_with fail
      rw [← hw2.out]
      refine (hR.out _).mono ?_; rintro e w' ⟨rfl, rfl⟩
      go_wp2_with fail
      go_loopw [4, 18] (fun _ i wr => ∃ k : Nat, k ≤ m ∧ i = .int .i64 k ∧ Hid ((cs.take k).all (cluOk n) = true) ∧ Hid (Below w2.heap.size w2 wr)) (fun _ i _ => m - (intOf i).toNat)
      case atStart => exact ⟨0, Nat.zero_le _, rfl, Lib.hid (by simp), Lib.hid (Below.refl _ _)⟩
      case round =>
        obtain ⟨k, hk, rfl, ha, hbr⟩ := hrel
        clear f0 f1
        by_cases hlt : k < m
        · have hkx : k < cs.length := by rw [hmc.out]; exact hlt
          obtain ⟨g, rfl, hgl, c0, c1, c2⟩ := ((hr.out.below hb2.out).below hbr.out).clu hkx
          have hno := Lib.hid (all_nott (cluOk n) cs k hkx)
          have hye := Lib.hid (all_snoct (cluOk n) cs k hkx ha.out)
          have P3 := Lib.hid (hb_below hbr.out (hb_lt P2.out) P2.out)
          have f0 : wr.cell? ⟨w.heap.size, 0, none⟩ = some (.int .i64 n) := hb_cell P3.out 0
          have f1 : wr.cell? ⟨w.heap.size, 1, none⟩ = some (.slice (some ⟨g, 0, none⟩) m c) := hb_cell P3.out 1
          have lP := hb_lt P3.out
          obtain ⟨ka, ki, kb, hke⟩ : ∃ a i b, cs[k] = ⟨a, i, b⟩ := ⟨_, _, _, rfl⟩
          rw [hke] at c0 c1 c2 hno hye
          clear hke hkx
          have hC := Lib.hid fun w => pzClue_any n ka ki kb w (by omega) (by omega)
          generalize cluOk n ⟨ka, ki, kb⟩ = ok at *
          go_wp2_with fail
          refine (hC.out _).mono ?_; rintro e w3 ⟨rfl, hb3⟩
          replace hb3 := Lib.hid (bt1 (bt1 hbr.out (ba1 _ _)) hb3)
          cases ok with
          | false =>
            have hF := Lib.hid (hG.out.trans (hno.out (by first | rfl | trivial)))
            go_wp2_with fail
            go_ret; exact ⟨ret_bool hF.out.symm, bt1 hb2.out hb3.out⟩
          | true =>
            go_wp2_with fail
            go_roundw
            case rel => exact ⟨k + 1, by omega, by go_num, Lib.hid (hye.out (by first | rfl | trivial)), hb3⟩
            all_goals (simp [intOf] <;> omega)
        · obtain rfl : k = m := by omega
          have hF : Hid (G = true) := Lib.hid (by
            have := ha.out
            rw [List.take_of_length_le (by rw [hmc.out]; exact Nat.le_refl _)] at this
            rw [hG.out, this])
          go_wp2_with fail
          go_ret; exact ⟨ret_bool hF.out.symm, bt1 hb2.out hbr.out⟩

/-- there is a hidden state -/
def hidB (s : ByteArray) : Bool := goodB s.data.toList && decide (s.size ≤ 7)
theorem hidB_cases (s : ByteArray) : hidB s = false ∨ ∃ n x, 1 ≤ n ∧ n ≤ 7 ∧ x < 2 ^ n ∧ s = ST n x := by
  cases h : hidB s with
  | false => exact .inl rfl
  | true =>
    right
    unfold hidB at h
    rw [Bool.and_eq_true, decide_eq_true_eq] at h
    obtain ⟨n, x, h1, h2, h3, rfl⟩ := of_good s h.1
    have := h.2
    rw [ST_size] at this
    exact ⟨n, x, h1, this, h3, rfl⟩
theorem hidB_ST (n x : Nat) (h1 : 1 ≤ n) (h7 : n ≤ 7) : hidB (ST n x) = true := by
  unfold hidB; rw [good_ST n x h1 (by omega), ST_size, decide_eq_true h7]; rfl
theorem pzHidden_any (s : ByteArray) (w : World) (hs : s.size ≤ maxLen) :
    Calls Tryd.prog 54 #[.string s] w fun e w' => e = .returned (.bool (hidB s)) ∧ w = w' := by
  have hG := Lib.hid fun w => riGood_any s w hs
  have hE : Hid (hidB s = (goodB s.data.toList && decide (s.size ≤ 7))) := Lib.hid rfl
  generalize hidB s = H at *
  generalize goodB s.data.toList = G at *
  unfold maxLen at hs
  have hd : decide ((s.size : Int) ≤ 7) = decide (s.size ≤ 7) := by rw [decide_eq_decide]; omega
  cases G with
  | false =>
    go_enter Tryd.func54, Tryd.ntmps54
    go_wp2_with fail
    refine (hG.out _).mono ?_; rintro e w' ⟨rfl, rfl⟩
    go_wp2_with fail
    go_ret; exact ⟨ret_bool (by rw [hE.out]; rfl), rfl⟩
  | true =>
    generalize decide (s.size ≤ 7) = D at *
    go_enter Tryd.func54, Tryd.ntmps54
    go_wp2_with fail
    refine (hG.out _).mono ?_; rintro e w' ⟨rfl, rfl⟩
    go_wp2_with fail
    go_ret; exact ⟨ret_bool (by rw [hE.out]; cases D <;> rfl), rfl⟩

theorem pzValue_1 (n x : Nat) (a : Int) (w : World) (h7 : n ≤ 7) (hx : x < 2 ^ n) :
    Calls Tryd.prog 74 #[.int .i64 1, .int .i64 a, .string (ST n x)] w fun e w' => e = .returned (.int .i64 (tellZ n x 1 a)) ∧ w = w' := by
  have hO := Lib.hid fun w => riOn_any (ST n x) w (by rw [ST_size]; omega)
  rw [ons_ST n x hx] at hO
  have hT : Hid (tellZ n x 1 a = ((pop x : Nat) : Int)) := Lib.hid rfl
  generalize tellZ n x 1 a = T at *
  generalize pop x = P at *
  generalize ST n x = s at *
  go_enter Tryd.func74, Tryd.ntmps74
  go_wp2_with fail
  refine (hO.out _).mono ?_; rintro e w' ⟨rfl, rfl⟩
  go_wp2_with fail
  go_ret; exact ⟨ret_int hT.out.symm, rfl⟩

theorem pzValue_0 (n x A : Nat) (w : World) (h7 : n ≤ 7) (hA : A < n) :
    Calls Tryd.prog 74 #[.int .i64 0, .int .i64 A, .string (ST n x)] w fun e w' => e = .returned (.int .i64 (tellZ n x 0 A)) ∧ w = w' := by
  have hl : A < (ST n x).size := by rw [ST_size]; exact hA
  have hT : Hid (tellZ n x 0 A = ((bitN x A : Nat) : Int)) := Lib.hid rfl
  have hg := ST_get n x A hl
  have hsz : (ST n x).size ≤ 7 := by rw [ST_size]; omega
  obtain ⟨y, hy⟩ : ∃ y, y = (ST n x)[A] := ⟨_, rfl⟩
  have hyv : ((y.toNat : Int) = 48 ∧ bitN x A = 0) ∨ ((y.toNat : Int) = 49 ∧ bitN x A = 1) := by
    rw [← hy] at hg
    unfold bitN
    cases hb : x.testBit A with
    | true => right; rw [hg, hb]; exact ⟨rfl, rfl⟩
    | false => left; rw [hg, hb]; exact ⟨rfl, rfl⟩
  generalize tellZ n x 0 A = T at *
  generalize bitN x A = B at *
  generalize ST n x = s at *
  clear hg
  rcases hyv with ⟨h1, rfl⟩ | ⟨h1, rfl⟩
  all_goals
    have hv : IntKind.u8.wrap ((y.toNat : Int) - 48) = (y.toNat : Int) - 48 := by rw [h1]; rfl
    have hv2 : IntKind.i64.wrap ((y.toNat : Int) - 48) = (y.toNat : Int) - 48 := by rw [h1]; rfl
    have h1 := Lib.hid h1
    have hys := hy.symm
    clear hy
    go_enter Tryd.func74, Tryd.ntmps74
    go_wp2_with fail
    go_ret; exact ⟨ret_int (by rw [hT.out]; have := h1.out; simp <;> omega), rfl⟩

theorem pzValue_2 (n x : Nat) (a : Int) (w : World) (h7 : n ≤ 7) (hx : x < 2 ^ n) (h2 : 2 ≤ a) (h9 : a ≤ 9) :
    Calls Tryd.prog 74 #[.int .i64 2, .int .i64 a, .string (ST n x)] w fun e w' => e = .returned (.int .i64 (tellZ n x 2 a)) ∧ w = w' := by
  have hN := Lib.hid fun w => riNumber_ST n x w (by omega) hx
  have hT : Hid (tellZ n x 2 a = ((num x : Nat) : Int) % a) := Lib.hid rfl
  have hnx := num_lt n x hx
  have hp := pow7 h7
  generalize tellZ n x 2 a = T at *
  generalize num x = X at *
  generalize ST n x = s at *
  have h0 : 0 ≤ (X : Int) := by omega
  have h8 : (X : Int) < 128 := by omega
  have hz : ¬ a = 0 := by omega
  have ht : (X : Int).tmod a = (X : Int) % a := Int.tmod_eq_emod_of_nonneg h0
  have h1 : 0 ≤ (X : Int) % a := Int.emod_nonneg _ hz
  have h3 : (X : Int) % a < a := Int.emod_lt_of_pos _ (by omega)
  clear hx
  go_enter Tryd.func74, Tryd.ntmps74
  go_wp2_with fail
  refine (hN.out _).mono ?_; rintro e w' ⟨rfl, rfl⟩
  go_wp2_with fail
  go_ret; exact ⟨ret_int (by first | exact hT.out.symm | (rw [ht]; exact hT.out.symm)), rfl⟩

theorem pzValue_3 (n x : Nat) (a : Int) (w : World) (h7 : n ≤ 7) (hx : x < 2 ^ n) (h0 : 0 ≤ a) (h9 : a ≤ 127) :
    Calls Tryd.prog 74 #[.int .i64 3, .int .i64 a, .string (ST n x)] w fun e w' => e = .returned (.int .i64 (tellZ n x 3 a)) ∧ w = w' := by
  have hN := Lib.hid fun w => riNumber_ST n x w (by omega) hx
  have hT : Hid (tellZ n x 3 a = max (((num x : Nat) : Int) - a) (-(((num x : Nat) : Int) - a))) := Lib.hid rfl
  have hnx := num_lt n x hx
  have hp := pow7 h7
  generalize tellZ n x 3 a = T at *
  generalize num x = X at *
  generalize ST n x = s at *
  have hA := Lib.hid fun w => l1Abs_any ((X : Int) - a) w (by omega) (by omega)
  have h8 : (X : Int) < 128 := by omega
  clear hx
  go_enter Tryd.func74, Tryd.ntmps74
  go_wp2_with fail
  refine (hN.out _).mono ?_; rintro e w' ⟨rfl, rfl⟩
  go_wp2_with fail
  refine (hA.out _).mono ?_; rintro e w' ⟨rfl, rfl⟩
  go_wp2_with fail
  go_ret; exact ⟨ret_int hT.out.symm, rfl⟩

theorem pzValue_4 (n x : Nat) (a : Int) (w : World) (h1 : 1 ≤ n) (h7 : n ≤ 7) :
    Calls Tryd.prog 74 #[.int .i64 4, .int .i64 a, .string (ST n x)] w fun e w' => e = .returned (.int .i64 (tellZ n x 4 a)) ∧ w = w' := by
  have hC := Lib.hid fun w => riCan_ST n x a w h1 (by omega)
  have hT : Hid (tellZ n x 4 a = if canB n x a then 1 else 0) := Lib.hid rfl
  generalize tellZ n x 4 a = T at *
  generalize canB n x a = C at *
  generalize ST n x = s at *
  cases C
  all_goals
    go_enter Tryd.func74, Tryd.ntmps74
    go_wp2_with fail
    refine (hC.out _).mono ?_; rintro e w' ⟨rfl, rfl⟩
    go_wp2_with fail
    go_ret; exact ⟨ret_int hT.out.symm, rfl⟩

theorem pzValue_any (n x : Nat) (k a : Int) (w : World) (h1 : 1 ≤ n) (h7 : n ≤ 7) (hx : x < 2 ^ n) (h : okZa n k a = true) :
    Calls Tryd.prog 74 #[.int .i64 k, .int .i64 a, .string (ST n x)] w fun e w' => e = .returned (.int .i64 (tellZ n x k a)) ∧ w = w' := by
  unfold okZa at h
  split at h
  · rename_i hk; subst hk
    obtain ⟨e1, e2⟩ := inB_yes h
    obtain ⟨A, rfl⟩ : ∃ A : Nat, a = A := ⟨a.toNat, by omega⟩
    exact pzValue_0 n x A w h7 (by omega)
  split at h
  · rename_i hk; subst hk; exact pzValue_1 n x a w h7 hx
  split at h
  · rename_i hk; subst hk
    obtain ⟨e1, e2⟩ := inB_yes h
    exact pzValue_2 n x a w h7 hx e1 e2
  split at h
  · rename_i hk; subst hk
    obtain ⟨e1, e2⟩ := inB_yes h
    have := pow7 h7
    exact pzValue_3 n x a w h7 hx e1 (by omega)
  split at h
  · rename_i hk; subst hk; exact pzValue_4 n x a w h1 h7
  · cases h

end Go.Proofs.YtmjeilimdnngpaaDoor
