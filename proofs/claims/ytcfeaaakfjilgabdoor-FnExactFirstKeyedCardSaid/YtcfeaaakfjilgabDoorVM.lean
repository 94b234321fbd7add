/- Whether a key fits, and the rings that can be moved, on both sides. -/
import Derived.Test.YtcfeaaakfjilgabDoorVF
namespace Go.Proofs.YtcfeaaakfjilgabDoor
set_option linter.unusedSimpArgs false
set_option linter.unusedVariables false
open Go Go.RowKit RM
theorem okq_ascii (c : UInt8) (h : okq c = true) : c.toNat < 128 := by
  unfold okq at h
  simp only [Bool.or_eq_true, beq_iff_eq] at h
  rcases h with rfl | rfl | rfl <;> decide
set_option maxHeartbeats 1000000 in
theorem keFits_any (key : ByteArray) (n x : Nat) (w : World) (hk : key.size = n) (hq : key.data.toList.all okq = true) (hx : x < 2 ^ n) (hn : n ≤ 20) :
    Calls Tryd.prog 57 #[.string key, .string (ST n x)] w fun e w' => e = .returned (.bool (fitN key.data.toList x)) ∧ Below w.heap.size w w' := by
  have hno := Lib.hid (fun i hi => fit_no key.data.toList n x i (by rw [len_data]; exact hk) hq hi)
  have hye := Lib.hid (fit_yes key.data.toList n x (by rw [len_data]; exact hk) hq hx)
  have hss := ST_size n x
  have hA : Hid (∀ i (h : i < key.size) (h2 : i < (ST n x).size), fitA key.data.toList (tx n x) i = (((key[i].toNat : Int) == 63) || ((key[i].toNat : Int) == ((ST n x)[i].toNat : Int)))) := Lib.hid (fun i h h2 => by
    unfold fitA
    rw [byte_getD key i h, show tx n x = (ST n x).data.toList from rfl, byte_getD (ST n x) i h2, b63]
    congr 1
    rw [Bool.eq_iff_iff, beq_iff_eq, beq_iff_eq, ← UInt8.toNat_inj]; omega)
  have ha : Hid (∀ i (h : i < key.size), key[i].toNat < 128) := Lib.hid (fun i h => by
    have := List.all_eq_true.1 hq _ (List.getElem_mem (show i < key.data.toList.length by rw [len_data]; exact h))
    rw [byte_at key i h] at this
    exact okq_ascii _ this)
  clear hq
  generalize fitN key.data.toList x = G at *
  generalize fitA key.data.toList (tx n x) = FA at *
  generalize ST n x = s at *
  obtain ⟨m, hm⟩ : ∃ m, m = n := ⟨_, rfl⟩
  rw [← hm] at hno hye hk hss hn
  clear hx hm
  subst hk
  go_enter Tryd.func57, Tryd.ntmps57
  go_wp2_with fail
  go_loopw [5] (fun _ wr => ∃ k : Nat, k ≤ key.size ∧ wr.heap[w.heap.size]? = some (.stringIter key k) ∧ Hid (∀ i, i < k → FA i = true) ∧ Hid (Below w.heap.size w wr)) (fun _ wr => key.size - wr.iterPos w.heap.size)
  case atStart => exact ⟨0, Nat.zero_le _, World.iter_heap w key 0, Lib.hid (fun i h => by omega), Lib.hid ((Below.refl _ _).alloc (Nat.le_refl _) _)⟩
  case round =>
    obtain ⟨k, hkk, hit, hf, hb⟩ := hrel
    have hlt0 := lt_of_block hit
    have hpos : wr.iterPos w.heap.size = k := iterPos_of hit
    by_cases hlt : k < key.size
    · have hnx : ∀ ty, (Instr.next (.pointer (some ⟨w.heap.size, 0, none⟩)) true ty).run Tryd.prog wr = .ok (.tuple #[.bool true, .int .i64 (k : Int), .int .i32 (key[k].toNat : Int)]) (wr.iterAt w.heap.size key (k + 1)) := fun ty => by
        have := Lib.run_next_any_at (P := Tryd.prog) wr w.heap.size key k ty hit hlt
        rw [decode_ascii key k hlt (ha.out k hlt)] at this; exact this
      have hit2 := Lib.iterAt_heap wr w.heap.size key k (k + 1) hit
      have hb2 := Lib.hid (Lib.below_iterAt hb.out (k := w.heap.size) (Nat.le_refl _) key (k + 1))
      obtain ⟨W1, hW1⟩ : ∃ W1, W1 = wr.iterAt w.heap.size key (k + 1) := ⟨_, rfl⟩
      rw [← hW1] at hnx hit2 hb2
      have hpos2 : W1.iterPos w.heap.size = k + 1 := iterPos_of hit2
      clear hW1 hit hb
      have hks : k < s.size := by omega
      have hAk := Lib.hid (hA.out k hlt hks)
      have hnk := Lib.hid (hno.out k hlt)
      have hyk : Hid (FA k = true → ∀ i, i < k + 1 → FA i = true) := Lib.hid (fun h i hi => by
        by_cases e : i = k
        · subst e; exact h
        · exact hf.out i (by omega))
      cases h1 : ((key[k].toNat : Int) != 63) with
      | false =>
        have hS := Lib.hid (hyk.out (by rw [hAk.out]; simp only [bne_eq_false_iff_eq] at h1; rw [h1]; rfl))
        go_wp2_with fail
        go_quiet (fail)
        go_wp2_with fail
        go_roundw
        case rel => exact ⟨k + 1, by omega, hit2, hS, Lib.hid (below_drewN hb2.out _)⟩
        case measure => rw [hpos]; show _ - W1.iterPos w.heap.size < _; rw [hpos2]; omega
      | true =>
        cases h2 : ((key[k].toNat : Int) != (s[k].toNat : Int)) with
        | false =>
          have hS := Lib.hid (hyk.out (by rw [hAk.out]; simp only [bne_eq_false_iff_eq] at h2; rw [h2]; simp))
          go_wp2_with fail
          go_quiet (fail)
          go_wp2_with fail
          go_roundw
          case rel => exact ⟨k + 1, by omega, hit2, hS, Lib.hid (below_drewN hb2.out _)⟩
          case measure => rw [hpos]; show _ - W1.iterPos w.heap.size < _; rw [hpos2]; omega
        | true =>
          have hF : Hid (G = false) := Lib.hid (hnk.out (by rw [hAk.out]; simp only [bne, Bool.not_eq_true'] at h1 h2; rw [h1, h2]; rfl))
          go_wp2_with fail
          go_quiet (fail)
          go_wp2_with fail
          go_ret; exact ⟨ret_bool hF.out.symm, below_drewN hb2.out _⟩
    · obtain rfl : k = key.size := by omega
      have hF : Hid (G = true) := Lib.hid (hye.out (fun i hi => hf.out i hi))
      have hnx : ∀ ty, (Instr.next (.pointer (some ⟨w.heap.size, 0, none⟩)) true ty).run Tryd.prog wr = .ok (.tuple #[.bool false]) wr := fun ty => Lib.run_next_end_at (P := Tryd.prog) wr w.heap.size key _ ty hit hlt
      go_wp2_with fail
      go_ret
      exact ⟨ret_bool hF.out.symm, hb.out⟩
/-- the rings among the first that can be moved -/
def kmL (ks : List ByteArray) (x : Nat) : Nat → List Int
  | 0 => []
  | k + 1 => kmL ks x k ++ (match ks[k]? with | some s => if fitN s.data.toList x then [(k : Int)] else [] | none => [])
theorem kmL_yes (ks : List ByteArray) (x k : Nat) (hk : k < ks.length) (h : fitN ks[k].data.toList x = true) : kmL ks x (k + 1) = kmL ks x k ++ [(k : Int)] := by
  rw [kmL, List.getElem?_eq_getElem hk]; simp [h]
theorem kmL_no (ks : List ByteArray) (x k : Nat) (hk : k < ks.length) (h : fitN ks[k].data.toList x = false) : kmL ks x (k + 1) = kmL ks x k := by
  rw [kmL, List.getElem?_eq_getElem hk]; simp [h]
theorem kmL_len (ks : List ByteArray) (x k : Nat) : (kmL ks x k).length ≤ k := by
  induction k with
  | zero => simp [kmL]
  | succ k ih =>
    rw [kmL, List.length_append]
    split
    · split <;> simp <;> omega
    · simp; omega
theorem kmL_mem (ks : List ByteArray) (x : Nat) : ∀ k, k ≤ ks.length → ∀ z : Int, z ∈ kmL ks x k ↔ ∃ j, ∃ h : j < ks.length, j < k ∧ z = (j : Int) ∧ fitN ks[j].data.toList x = true := by
  intro k
  induction k with
  | zero => intro _ z; simp [kmL]
  | succ k ih =>
    intro hk z
    have hl : k < ks.length := by omega
    cases h : fitN ks[k].data.toList x with
    | true =>
      rw [kmL_yes ks x k hl h, List.mem_append, ih (by omega)]
      constructor
      · rintro (⟨j, hj, h1, h2, h3⟩ | h4)
        · exact ⟨j, hj, by omega, h2, h3⟩
        · exact ⟨k, hl, by omega, by simpa using h4, h⟩
      · rintro ⟨j, hj, h1, h2, h3⟩
        by_cases e : j = k
        · subst e; right; simp [h2]
        · left; exact ⟨j, hj, by omega, h2, h3⟩
    | false =>
      rw [kmL_no ks x k hl h, ih (by omega)]
      constructor
      · rintro ⟨j, hj, h1, h2, h3⟩; exact ⟨j, hj, by omega, h2, h3⟩
      · rintro ⟨j, hj, h1, h2, h3⟩
        by_cases e : j = k
        · subst e; rw [h] at h3; cases h3
        · exact ⟨j, hj, by omega, h2, h3⟩
set_option maxHeartbeats 1000000 in
theorem keMoves_any (v : Value) (ks : List ByteArray) (n x : Nat) (w : World) (h : RdT w v ks) (h2 : n ≤ 10) (hx : x < 2 ^ n) (hn : ks.length = n) (hG : goodK ks = true) :
    Calls Tryd.prog 32 #[v, .string (ST n x)] w fun e w' => ∃ u, e = .returned u ∧ OwnI w' w.heap.size u (kmL ks x n) ∧ Below w.heap.size w w' := by
  have hF : Hid (∀ k (hk : k < ks.length) w, Calls Tryd.prog 57 #[.string ks[k], .string (ST n x)] w fun e w' => e = .returned (.bool (fitN ks[k].data.toList x)) ∧ Below w.heap.size w w') := Lib.hid (fun k hk w => by
    have hkk := (keyOk_iff _ _ _).1 (goodK_at ks hG k hk)
    exact keFits_any ks[k] n x w (by rw [hkk.1, hn]) hkk.2.2 hx (by omega))
  obtain ⟨p, c, rfl, hm, hr⟩ := h
  replace hr := Lib.hid hr
  have hy := Lib.hid (kmL_yes ks x)
  have hno := Lib.hid (kmL_no ks x)
  have hln := Lib.hid (kmL_len ks x)
  have h0 : Hid (kmL ks x 0 = []) := Lib.hid rfl
  generalize hkm : kmL ks x = KM at *
  clear hkm hG hx hm
  rw [hn]
  replace hn := Lib.hid hn
  generalize ST n x = s at *
  go_enter Tryd.func32, Tryd.ntmps32
  go_wp2_with fail
  go_loopw [5, 10] (fun o i wr => ∃ k : Nat, k ≤ n ∧ i = .int .i64 k ∧ Hid (OwnI wr w.heap.size o (KM k)) ∧ Hid (Below w.heap.size w wr)) (fun _ i _ => n - (intOf i).toNat)
  case atStart => exact ⟨0, Nat.zero_le _, rfl, Lib.hid (by rw [h0.out]; exact OwnI.nil _ _), Lib.hid (Below.refl _ _)⟩
  case round =>
    obtain ⟨k, hk, rfl, ho, hb⟩ := hrel
    obtain ⟨wA, rfl⟩ : ∃ x, x = wr := ⟨_, rfl⟩
    by_cases hlt : k < n
    · have hkx : k < ks.length := by rw [hn.out]; exact hlt
      obtain ⟨g, rfl, -, hc⟩ := (hr.out.below hb.out).tx hkx
      have hFk := Lib.hid (hF.out k hkx)
      have hyk := Lib.hid (hy.out k hkx)
      have hnk := Lib.hid (hno.out k hkx)
      have hlk := hln.out k
      generalize ks[k] = key at *
      cases hf : fitN key.data.toList x with
      | false =>
        rw [hf] at hFk
        have hS := Lib.hid (hnk.out hf)
        clear hf
        go_wp2_with fail
        refine (hFk.out _).mono ?_; rintro e w2 ⟨rfl, hb2⟩
        have ho2 := Lib.hid (ho.out.below hb2)
        replace hb2 := Lib.hid (bt1 hb.out hb2)
        go_wp2_with fail
        go_roundw
        case rel => exact ⟨k + 1, by omega, by go_num, by rw [hS.out]; exact ho2, hb2⟩
        all_goals (simp [intOf] <;> omega)
      | true =>
        rw [hf] at hFk
        have hS := Lib.hid (hyk.out hf)
        clear hf
        go_wp2_with fail
        refine (hFk.out _).mono ?_; rintro e w2 ⟨rfl, hb2⟩
        have ho2 := Lib.hid (ho.out.below hb2)
        replace hb2 := Lib.hid (bt1 hb.out hb2)
        go_wp2_with (at_builtin; refine app_int _ rfl _ _ rfl w.heap.size _ _ rfl (ho2.out.alloc _) w2.heap.size _ rfl (by simp; rfl) (by omega) (by have := hb2.out.size; simp; omega) ?_; intro v' w7 ho7 hg7; have hb7 := Lib.hid (bel_own (hb2.out.alloc hb2.out.size _) (ho2.out.alloc _) hg7 (by have := hb2.out.size; simp; omega)); replace ho7 := Lib.hid ho7; clear hg7)
        go_roundw
        case rel => exact ⟨k + 1, by omega, by go_num, by rw [hS.out]; exact ho7, hb7⟩
        all_goals (simp [intOf] <;> omega)
    · obtain rfl : k = n := by omega
      go_wp2_with fail
      go_ret; exact ⟨_, rfl, ho.out, hb.out⟩
set_option maxHeartbeats 1000000 in
theorem moves_any (u : Value) (ks : List ByteArray) (B n x : Nat) (w : World) (h : OwnG keyE w B u (ks.map kp)) (h2 : n ≤ 10) (hx : x < 2 ^ n) (hn : ks.length = n) (hG : goodK ks = true) :
    Calls Tryd.prog 61 #[u, .int .u64 x] w fun e w' => ∃ u, e = .returned u ∧ OwnI w' w.heap.size u (kmL ks x n) ∧ Below w.heap.size w w' := by
  have hx20 : x < 1048576 := Nat.lt_of_lt_of_le hx (Nat.pow_le_pow_right (by decide) (by omega : n ≤ 20))
  have hF : Hid (∀ k (hk : k < ks.length) w, Calls Tryd.prog 59 #[kv (kp ks[k]), .int .u64 x] w fun e w' => e = .returned (.bool (fitN ks[k].data.toList x)) ∧ Below w.heap.size w w') := Lib.hid (fun k hk w => by
    have hkk := (keyOk_iff _ _ _).1 (goodK_at ks hG k hk)
    exact fits_any ks[k] x w hx20 (by rw [hkk.1]; omega))
  obtain ⟨p, c, rfl, hm, hr⟩ := h.rd
  have hl : (ks.map kp).length = n := by simp [hn]
  rw [hl]
  have hr : Hid (∀ w', Below w.heap.size w w' → ∀ k (hk : k < ks.length), ∃ g, p = some ⟨g, 0, none⟩ ∧ g < w'.heap.size ∧ w'.cell? ⟨g, k * 2, none⟩ = some (.int .u64 (((kp ks[k]).1 : Nat) : Int)) ∧ w'.cell? ⟨g, k * 2 + 1, none⟩ = some (.int .u64 (((kp ks[k]).2 : Nat) : Int))) := Lib.hid (fun w' hb k hk => by
    have := (hr.below hb).ky (k := k) (by simpa using hk)
    simpa using this)
  have hy := Lib.hid (kmL_yes ks x)
  have hno := Lib.hid (kmL_no ks x)
  have hln := Lib.hid (kmL_len ks x)
  have h0 : Hid (kmL ks x 0 = []) := Lib.hid rfl
  generalize hkm : kmL ks x = KM at *
  clear hkm hG hx hm h hl
  replace hn := Lib.hid hn
  go_enter Tryd.func61, Tryd.ntmps61
  go_wp2_with fail
  go_loopw [5, 10] (fun o i wr => ∃ k : Nat, k ≤ n ∧ i = .int .i64 k ∧ Hid (OwnI wr w.heap.size o (KM k)) ∧ Hid (Below w.heap.size w wr)) (fun _ i _ => n - (intOf i).toNat)
  case atStart => exact ⟨0, Nat.zero_le _, rfl, Lib.hid (by rw [h0.out]; exact OwnI.nil _ _), Lib.hid (Below.refl _ _)⟩
  case round =>
    obtain ⟨k, hk, rfl, ho, hb⟩ := hrel
    obtain ⟨wA, rfl⟩ : ∃ x, x = wr := ⟨_, rfl⟩
    by_cases hlt : k < n
    · have hkx : k < ks.length := by rw [hn.out]; exact hlt
      obtain ⟨g, rfl, hgl, c0, c1⟩ := hr.out wA hb.out k hkx
      have hFk := Lib.hid (hF.out k hkx)
      have hyk := Lib.hid (hy.out k hkx)
      have hnk := Lib.hid (hno.out k hkx)
      have hlk := hln.out k
      generalize ks[k] = key at *
      obtain ⟨q1, q2, hq⟩ : ∃ a b, kp key = (a, b) := ⟨_, _, rfl⟩
      rw [hq] at hFk c0 c1
      clear hq
      obtain ⟨w5, hw5⟩ : ∃ w5, Hid (w5 = wA.alloc (.cells #[.int .u64 (q1 : Int), .int .u64 (q2 : Int)] 90)) := ⟨_, Lib.hid rfl⟩
      have hb5 := Lib.hid (show Below wA.heap.size wA w5 by rw [hw5.out]; exact ba1 wA _)
      have ho5 := Lib.hid (ho.out.below hb5.out)
      have hb05 := Lib.hid (bt1 hb.out hb5.out)
      cases hf : fitN key.data.toList x with
      | false =>
        rw [hf] at hFk
        have hS := Lib.hid (hnk.out hf)
        clear hf
        go_wp2_with fail
        rw [← hw5.out]
        refine (hFk.out _).mono ?_; rintro e w2 ⟨rfl, hb2⟩
        have ho2 := Lib.hid (ho5.out.below hb2)
        replace hb2 := Lib.hid (bt1 hb05.out hb2)
        go_wp2_with fail
        go_roundw
        case rel => exact ⟨k + 1, by omega, by go_num, by rw [hS.out]; exact ho2, hb2⟩
        all_goals (simp [intOf] <;> omega)
      | true =>
        rw [hf] at hFk
        have hS := Lib.hid (hyk.out hf)
        clear hf
        go_wp2_with fail
        rw [← hw5.out]
        refine (hFk.out _).mono ?_; rintro e w2 ⟨rfl, hb2⟩
        have ho2 := Lib.hid (ho5.out.below hb2)
        replace hb2 := Lib.hid (bt1 hb05.out hb2)
        go_wp2_with (at_builtin; refine app_int _ rfl _ _ rfl w.heap.size _ _ rfl (ho2.out.alloc _) w2.heap.size _ rfl (by simp; rfl) (by omega) (by have := hb2.out.size; simp; omega) ?_; intro v' w7 ho7 hg7; have hb7 := Lib.hid (bel_own (hb2.out.alloc hb2.out.size _) (ho2.out.alloc _) hg7 (by have := hb2.out.size; simp; omega)); replace ho7 := Lib.hid ho7; clear hg7)
        go_roundw
        case rel => exact ⟨k + 1, by omega, by go_num, by rw [hS.out]; exact ho7, hb7⟩
        all_goals (simp [intOf] <;> omega)
    · obtain rfl : k = n := by omega
      go_wp2_with fail
      go_ret; exact ⟨_, rfl, ho.out, hb.out⟩
end Go.Proofs.YtcfeaaakfjilgabDoor
