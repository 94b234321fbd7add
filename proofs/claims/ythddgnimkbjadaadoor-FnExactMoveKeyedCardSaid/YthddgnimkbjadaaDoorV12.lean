/- The rings that can be moved, on both sides. -/
import Derived.Test.YthddgnimkbjadaaDoorV11
namespace Go.Proofs.YthddgnimkbjadaaDoor
open Go Go.RowKit RM
/-- the rings among the first that can be moved -/
def kmL (ks : List ByteArray) (x : Nat) : Nat → List Int
  | 0 => []
  | k + 1 => kmL ks x k ++ (match ks[k]? with | some s => if fitN s.data.toList x then [(k : Int)] else [] | none => [])
theorem kmL_yes (ks : List ByteArray) (x k : Nat) (hk : k < ks.length) (h : fitN ks[k].data.toList x = true) : kmL ks x (k + 1) = kmL ks x k ++ [(k : Int)] := by
  rw [kmL, List.getElem?_eq_getElem hk]; simp [h]
theorem kmL_no (ks : List ByteArray) (x k : Nat) (hk : k < ks.length) (h : fitN ks[k].data.toList x = false) : kmL ks x (k + 1) = kmL ks x k := by
  rw [kmL, List.getElem?_eq_getElem hk]; simp [h]
theorem kmL_len (ks : List ByteArray) (x k : Nat) : (kmL ks x k).length ≤ k := by
  induction k with
  | zero => simp [kmL]
  | succ k ih =>
    rw [kmL, List.length_append]
    split
    · split <;> simp <;> omega
    · simp; omega
theorem kmL_mem (ks : List ByteArray) (x : Nat) : ∀ k, k ≤ ks.length → ∀ z : Int, z ∈ kmL ks x k ↔ ∃ j, ∃ h : j < ks.length, j < k ∧ z = (j : Int) ∧ fitN ks[j].data.toList x = true := by
  intro k
  induction k with
  | zero => intro _ z; simp [kmL]
  | succ k ih =>
    intro hk z
    have hl : k < ks.length := by omega
    cases h : fitN ks[k].data.toList x with
    | true =>
      rw [kmL_yes ks x k hl h, List.mem_append, ih (by omega)]
      constructor
      · rintro (⟨j, hj, h1, h2, h3⟩ | h4)
        · exact ⟨j, hj, by omega, h2, h3⟩
        · exact ⟨k, hl, by omega, by simpa using h4, h⟩
      · rintro ⟨j, hj, h1, h2, h3⟩
        by_cases e : j = k
        · subst e; right; simp [h2]
        · left; exact ⟨j, hj, by omega, h2, h3⟩
    | false =>
      rw [kmL_no ks x k hl h, ih (by omega)]
      constructor
      · rintro ⟨j, hj, h1, h2, h3⟩; exact ⟨j, hj, by omega, h2, h3⟩
      · rintro ⟨j, hj, h1, h2, h3⟩
        by_cases e : j = k
        · subst e; rw [h] at h3; cases h3
        · exact ⟨j, hj, by omega, h2, h3⟩
set_option maxHeartbeats 1000000 in
theorem keMoves_any (v : Value) (ks : List ByteArray) (n x : Nat) (w : World) (h : RdT w v ks) (h2 : n ≤ 10) (hx : x < 2 ^ n) (hn : ks.length = n) (hG : goodK ks = true) :
    Calls Tryd.prog 24 #[v, .string (ST n x)] w fun e w' => ∃ u, e = .returned u ∧ OwnI w' w.heap.size u (kmL ks x n) ∧ Below w.heap.size w w' := by
  have hF : Hid (∀ k (hk : k < ks.length) w, Calls Tryd.prog 21 #[.string ks[k], .string (ST n x)] w fun e w' => e = .returned (.bool (fitN ks[k].data.toList x)) ∧ Below w.heap.size w w') := Lib.hid (fun k hk w => by
    have hkk := (keyOk_iff _ _ _).1 (goodK_at ks hG k hk)
    exact keFits_any ks[k] n x w (by rw [hkk.1, hn]) hkk.2.2 hx (by omega))
  obtain ⟨p, c, rfl, hm, hr⟩ := h
  replace hr := Lib.hid hr
  have hy := Lib.hid (kmL_yes ks x)
  have hno := Lib.hid (kmL_no ks x)
  have hln := Lib.hid (kmL_len ks x)
  have h0 : Hid (kmL ks x 0 = []) := Lib.hid rfl
  generalize hkm : kmL ks x = KM at *
  clear hkm hG hx hm
  rw [hn]
  replace hn := Lib.hid hn
  generalize ST n x = s at *
  go_enter Tryd.func24, Tryd.ntmps24
  go_wp2_with fail
  go_loopw [5, 10] (fun o i wr => ∃ k : Nat, k ≤ n ∧ i = .int .i64 k ∧ Hid (OwnI wr w.heap.size o (KM k)) ∧ Hid (Below w.heap.size w wr)) (fun _ i _ => n - (intOf i).toNat)
  case atStart => exact ⟨0, Nat.zero_le _, rfl, Lib.hid (by rw [h0.out]; exact OwnI.nil _ _), Lib.hid (Below.refl _ _)⟩
  case round =>
    obtain ⟨k, hk, rfl, ho, hb⟩ := hrel
    obtain ⟨wA, rfl⟩ : ∃ x, x = wr := ⟨_, rfl⟩
    by_cases hlt : k < n
    · have hkx : k < ks.length := by rw [hn.out]; exact hlt
      obtain ⟨g, rfl, -, hc⟩ := (hr.out.below hb.out).tx hkx
      have hFk := Lib.hid (hF.out k hkx)
      have hyk := Lib.hid (hy.out k hkx)
      have hnk := Lib.hid (hno.out k hkx)
      have hlk := hln.out k
      generalize ks[k] = key at *
      cases hf : fitN key.data.toList x with
      | false =>
        rw [hf] at hFk
        have hS := Lib.hid (hnk.out hf)
        clear hf
        go_wp2_with fail
        refine (hFk.out _).mono ?_; rintro e w2 ⟨rfl, hb2⟩
        have ho2 := Lib.hid (ho.out.below hb2)
        replace hb2 := Lib.hid (bt1 hb.out hb2)
        go_wp2_with fail
        go_roundw
        case rel => exact ⟨k + 1, by omega, by go_num, by rw [hS.out]; exact ho2, hb2⟩
        all_goals (simp [intOf] <;> omega)
      | true =>
        rw [hf] at hFk
        have hS := Lib.hid (hyk.out hf)
        clear hf
        go_wp2_with fail
        refine (hFk.out _).mono ?_; rintro e w2 ⟨rfl, hb2⟩
        have ho2 := Lib.hid (ho.out.below hb2)
        replace hb2 := Lib.hid (bt1 hb.out hb2)
        go_wp2_with (at_builtin; refine app_int _ rfl _ _ rfl w.heap.size _ _ rfl (ho2.out.alloc _) w2.heap.size _ rfl (by simp; rfl) (by omega) (by have := hb2.out.size; simp; omega) ?_; intro v' w7 ho7 hg7; have hb7 := Lib.hid (bel_own (hb2.out.alloc hb2.out.size _) (ho2.out.alloc _) hg7 (by have := hb2.out.size; simp; omega)); replace ho7 := Lib.hid ho7; clear hg7)
        go_roundw
        case rel => exact ⟨k + 1, by omega, by go_num, by rw [hS.out]; exact ho7, hb7⟩
        all_goals (simp [intOf] <;> omega)
    · obtain rfl : k = n := by omega
      go_wp2_with fail
      go_ret; exact ⟨_, rfl, ho.out, hb.out⟩
set_option maxHeartbeats 1000000 in
theorem moves_any (u : Value) (ks : List ByteArray) (B n x : Nat) (w : World) (h : OwnG keyE w B u (ks.map kp)) (h2 : n ≤ 10) (hx : x < 2 ^ n) (hn : ks.length = n) (hG : goodK ks = true) :
    Calls Tryd.prog 25 #[u, .int .u64 x] w fun e w' => ∃ u, e = .returned u ∧ OwnI w' w.heap.size u (kmL ks x n) ∧ Below w.heap.size w w' := by
  have hx20 : x < 1048576 := Nat.lt_of_lt_of_le hx (Nat.pow_le_pow_right (by decide) (by omega : n ≤ 20))
  have hF : Hid (∀ k (hk : k < ks.length) w, Calls Tryd.prog 23 #[kv (kp ks[k]), .int .u64 x] w fun e w' => e = .returned (.bool (fitN ks[k].data.toList x)) ∧ Below w.heap.size w w') := Lib.hid (fun k hk w => by
    have hkk := (keyOk_iff _ _ _).1 (goodK_at ks hG k hk)
    exact fits_any ks[k] x w hx20 (by rw [hkk.1]; omega))
  obtain ⟨p, c, rfl, hm, hr⟩ := h.rd
  have hl : (ks.map kp).length = n := by simp [hn]
  rw [hl]
  have hr : Hid (∀ w', Below w.heap.size w w' → ∀ k (hk : k < ks.length), ∃ g, p = some ⟨g, 0, none⟩ ∧ g < w'.heap.size ∧ w'.cell? ⟨g, k * 2, none⟩ = some (.int .u64 (((kp ks[k]).1 : Nat) : Int)) ∧ w'.cell? ⟨g, k * 2 + 1, none⟩ = some (.int .u64 (((kp ks[k]).2 : Nat) : Int))) := Lib.hid (fun w' hb k hk => by
    have := (hr.below hb).ky (k := k) (by simpa using hk)
    simpa using this)
  have hy := Lib.hid (kmL_yes ks x)
  have hno := Lib.hid (kmL_no ks x)
  have hln := Lib.hid (kmL_len ks x)
  have h0 : Hid (kmL ks x 0 = []) := Lib.hid rfl
  generalize hkm : kmL ks x = KM at *
  clear hkm hG hx hm h hl
  replace hn := Lib.hid hn
  go_enter Tryd.func25, Tryd.ntmps25
  go_wp2_with fail
  go_loopw [5, 10] (fun o i wr => ∃ k : Nat, k ≤ n ∧ i = .int .i64 k ∧ Hid (OwnI wr w.heap.size o (KM k)) ∧ Hid (Below w.heap.size w wr)) (fun _ i _ => n - (intOf i).toNat)
  case atStart => exact ⟨0, Nat.zero_le _, rfl, Lib.hid (by rw [h0.out]; exact OwnI.nil _ _), Lib.hid (Below.refl _ _)⟩
  case round =>
    obtain ⟨k, hk, rfl, ho, hb⟩ := hrel
    obtain ⟨wA, rfl⟩ : ∃ x, x = wr := ⟨_, rfl⟩
    by_cases hlt : k < n
    · have hkx : k < ks.length := by rw [hn.out]; exact hlt
      obtain ⟨g, rfl, hgl, c0, c1⟩ := hr.out wA hb.out k hkx
      have hFk := Lib.hid (hF.out k hkx)
      have hyk := Lib.hid (hy.out k hkx)
      have hnk := Lib.hid (hno.out k hkx)
      have hlk := hln.out k
      generalize ks[k] = key at *
      obtain ⟨q1, q2, hq⟩ : ∃ a b, kp key = (a, b) := ⟨_, _, rfl⟩
      rw [hq] at hFk c0 c1
      clear hq
      obtain ⟨w5, hw5⟩ : ∃ w5, Hid (w5 = wA.alloc (.cells #[.int .u64 (q1 : Int), .int .u64 (q2 : Int)] 49)) := ⟨_, Lib.hid rfl⟩
      have hb5 := Lib.hid (show Below wA.heap.size wA w5 by rw [hw5.out]; exact ba1 wA _)
      have ho5 := Lib.hid (ho.out.below hb5.out)
      have hb05 := Lib.hid (bt1 hb.out hb5.out)
      cases hf : fitN key.data.toList x with
      | false =>
        rw [hf] at hFk
        have hS := Lib.hid (hnk.out hf)
        clear hf
        go_wp2_with fail
        rw [← hw5.out]
        refine (hFk.out _).mono ?_; rintro e w2 ⟨rfl, hb2⟩
        have ho2 := Lib.hid (ho5.out.below hb2)
        replace hb2 := Lib.hid (bt1 hb05.out hb2)
        go_wp2_with fail
        go_roundw
        case rel => exact ⟨k + 1, by omega, by go_num, by rw [hS.out]; exact ho2, hb2⟩
        all_goals (simp [intOf] <;> omega)
      | true =>
        rw [hf] at hFk
        have hS := Lib.hid (hyk.out hf)
        clear hf
        go_wp2_with fail
        rw [← hw5.out]
        refine (hFk.out _).mono ?_; rintro e w2 ⟨rfl, hb2⟩
        have ho2 := Lib.hid (ho5.out.below hb2)
        replace hb2 := Lib.hid (bt1 hb05.out hb2)
        go_wp2_with (at_builtin; refine app_int _ rfl _ _ rfl w.heap.size _ _ rfl (ho2.out.alloc _) w2.heap.size _ rfl (by simp; rfl) (by omega) (by have := hb2.out.size; simp; omega) ?_; intro v' w7 ho7 hg7; have hb7 := Lib.hid (bel_own (hb2.out.alloc hb2.out.size _) (ho2.out.alloc _) hg7 (by have := hb2.out.size; simp; omega)); replace ho7 := Lib.hid ho7; clear hg7)
        go_roundw
        case rel => exact ⟨k + 1, by omega, by go_num, by rw [hS.out]; exact ho7, hb7⟩
        all_goals (simp [intOf] <;> omega)
    · obtain rfl : k = n := by omega
      go_wp2_with fail
      go_ret; exact ⟨_, rfl, ho.out, hb.out⟩
theorem sKM_no (v : Value) (ks : List ByteArray) (s : ByteArray) (w : World) (hz : ∀ s ∈ ks, s.size ≤ maxLen) (hs : s.size ≤ maxLen) (h : RdT w v ks) (hk : askK ks s = false) :
    Calls Tryd.prog 11 #[v, .string s] w fun e w' => RetI w [] false e w' := by
  have hA := Lib.hid (keAsked_any v ks s w hz hs h)
  rw [hk] at hA
  go_enter Tryd.func11, Tryd.ntmps11
  go_wp2_with fail
  refine hA.out.mono ?_; rintro e w' ⟨rfl, rfl⟩
  go_wp2_with fail
  go_ret2; exact ⟨_, rfl, OwnI.nil _ _, Below.refl _ _⟩
theorem sKM_yes (v : Value) (ks : List ByteArray) (n x : Nat) (w : World) (hz : ∀ s ∈ ks, s.size ≤ maxLen) (h : RdT w v ks) (h2 : n ≤ 10) (hx : x < 2 ^ n) (hn : ks.length = n) (hG : goodK ks = true) (ha : askK ks (ST n x) = true) :
    Calls Tryd.prog 11 #[v, .string (ST n x)] w fun e w' => RetI w (kmL ks x n) true e w' := by
  have hA := Lib.hid (keAsked_any v ks (ST n x) w hz (by rw [ST_size]; unfold maxLen; omega) h)
  rw [ha] at hA
  have hM := Lib.hid (keMoves_any v ks n x w h h2 hx hn hG)
  generalize kmL ks x n = L at *
  generalize ST n x = s at *
  clear h hz hx hn hG ha
  go_enter Tryd.func11, Tryd.ntmps11
  go_wp2_with fail
  refine hA.out.mono ?_; rintro e w' ⟨rfl, rfl⟩
  go_wp2_with fail
  refine hM.out.mono ?_; rintro e w' ⟨u, rfl, ho, hb⟩
  go_wp2_with fail
  go_ret2; exact ⟨_, rfl, ho, hb⟩
theorem iKM_no (v : Value) (ks : List ByteArray) (s : ByteArray) (w : World) (hz : ∀ s ∈ ks, s.size ≤ maxLen) (hs : s.size ≤ maxLen) (h : RdT w v ks) (hT : TabOk w) (hno : askK ks s = false) :
    Calls Tryd.prog 12 #[v, .string s] w fun e w' => RetI w [] false e w' := by
  have hA := Lib.hid (keyedBar_no v ks s w hz hs h hT hno)
  rw [← bz0] at hA
  go_enter Tryd.func12, Tryd.ntmps12
  go_wp2_with fail
  refine hA.out.mono ?_; rintro e w' ⟨rfl, hb⟩
  go_wp2_with fail
  go_ret2; exact ⟨_, rfl, OwnI.nil _ _, hb.alloc hb.size _⟩
theorem iKM_yes (v : Value) (ks : List ByteArray) (n x : Nat) (w : World) (hz : ∀ s ∈ ks, s.size ≤ maxLen) (h : RdT w v ks) (hT : TabOk w) (h1 : 1 ≤ n) (h2 : n ≤ 10) (hx : x < 2 ^ n) (hn : ks.length = n) (hG : goodK ks = true) :
    Calls Tryd.prog 12 #[v, .string (ST n x)] w fun e w' => RetI w (kmL ks x n) true e w' := by
  have hA := Lib.hid (keyedBar_yes v ks n x w hz h hT h1 h2 hx hn hG)
  have hM := Lib.hid (fun u B w ho => moves_any u ks B n x w ho h2 hx hn hG)
  generalize kmL ks x n = L at *
  generalize ks.map kp = KL at *
  generalize ST n x = s at *
  clear h hz hx hn hG
  go_enter Tryd.func12, Tryd.ntmps12
  go_wp2_with fail
  refine hA.out.mono ?_; rintro e w3 ⟨u, rfl, ho, hb⟩
  replace ho := Lib.hid ho
  replace hb := Lib.hid hb
  obtain ⟨w4, hw4⟩ : ∃ w4, Hid (w4 = w3.alloc (.cells #[.int .i64 ((ctz x : Nat) : Int), .bool (onB x), .int .i64 (n : Int), .int .u64 (x : Int)] 45)) := ⟨_, Lib.hid rfl⟩
  have hb4 := Lib.hid (show Below w3.heap.size w3 w4 by rw [hw4.out]; exact ba1 w3 _)
  have hM4 := Lib.hid (hM.out u _ w4 (ho.out.below hb4.out))
  go_wp2_with fail
  rw [← hw4.out]
  refine hM4.out.mono ?_; rintro e w5 ⟨u5, rfl, ho5, hb5⟩
  go_wp2_with fail
  go_ret2; exact ⟨_, rfl, ho5.mono (bt1 hb.out hb4.out).size, bt1 (bt1 hb.out hb4.out) hb5⟩
theorem KeyedMoves_both (ks : List ByteArray) (hz : ∀ s ∈ ks, s.size ≤ maxLen) (s : ByteArray) (hs : s.size ≤ maxLen) : ∃ (r : List Int) (ok : Bool), r.length ≤ 1000 ∧
    (∀ w v, RdT w v ks → Calls Tryd.prog 11 #[v, .string s] w fun e w' => RetI w r ok e w') ∧
    (∀ w v, TabOk w → RdT w v ks → Calls Tryd.prog 12 #[v, .string s] w fun e w' => RetI w r ok e w') := by
  rcases key_cases ks s with ha | ⟨n, x, h1, h2, hx, hn, hG, rfl, ha⟩
  · exact ⟨[], false, by simp, fun w v h => sKM_no v ks s w hz hs h ha, fun w v hT h => iKM_no v ks s w hz hs h hT ha⟩
  · exact ⟨kmL ks x n, true, by have := kmL_len ks x n; omega, fun w v h => sKM_yes v ks n x w hz h h2 hx hn hG ha, fun w v hT h => iKM_yes v ks n x w hz h hT h1 h2 hx hn hG⟩
end Go.Proofs.YthddgnimkbjadaaDoor
