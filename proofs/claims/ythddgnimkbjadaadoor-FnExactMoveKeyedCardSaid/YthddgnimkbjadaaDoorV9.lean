/- Whether a key fits; keys and a state, on both sides. -/
import Derived.Test.YthddgnimkbjadaaDoorV5
import Derived.Test.YthddgnimkbjadaaDoorI4
namespace Go.Proofs.YthddgnimkbjadaaDoor
open Go Go.RowKit RM
theorem okq_ascii (c : UInt8) (h : okq c = true) : c.toNat < 128 := by
  unfold okq at h
  simp only [Bool.or_eq_true, beq_iff_eq] at h
  rcases h with rfl | rfl | rfl <;> decide
set_option maxHeartbeats 1000000 in
theorem keFits_any (key : ByteArray) (n x : Nat) (w : World) (hk : key.size = n) (hq : key.data.toList.all okq = true) (hx : x < 2 ^ n) (hn : n ≤ 20) :
    Calls Tryd.prog 21 #[.string key, .string (ST n x)] w fun e w' => e = .returned (.bool (fitN key.data.toList x)) ∧ Below w.heap.size w w' := by
  have hno := Lib.hid (fun i hi => fit_no key.data.toList n x i (by rw [len_data]; exact hk) hq hi)
  have hye := Lib.hid (fit_yes key.data.toList n x (by rw [len_data]; exact hk) hq hx)
  have hss := ST_size n x
  have hA : Hid (∀ i (h : i < key.size) (h2 : i < (ST n x).size), fitA key.data.toList (tx n x) i = (((key[i].toNat : Int) == 63) || ((key[i].toNat : Int) == ((ST n x)[i].toNat : Int)))) := Lib.hid (fun i h h2 => by
    unfold fitA
    rw [byte_getD key i h, show tx n x = (ST n x).data.toList from rfl, byte_getD (ST n x) i h2, b63]
    congr 1
    rw [Bool.eq_iff_iff, beq_iff_eq, beq_iff_eq, ← UInt8.toNat_inj]; omega)
  have ha : Hid (∀ i (h : i < key.size), key[i].toNat < 128) := Lib.hid (fun i h => by
    have := List.all_eq_true.1 hq _ (List.getElem_mem (show i < key.data.toList.length by rw [len_data]; exact h))
    rw [byte_at key i h] at this
    exact okq_ascii _ this)
  clear hq
  generalize fitN key.data.toList x = G at *
  generalize fitA key.data.toList (tx n x) = FA at *
  generalize ST n x = s at *
  obtain ⟨m, hm⟩ : ∃ m, m = n := ⟨_, rfl⟩
  rw [← hm] at hno hye hk hss hn
  clear hx hm
  subst hk
  go_enter Tryd.func21, Tryd.ntmps21
  go_wp2_with fail
  go_loopw [5] (fun _ wr => ∃ k : Nat, k ≤ key.size ∧ wr.heap[w.heap.size]? = some (.stringIter key k) ∧ Hid (∀ i, i < k → FA i = true) ∧ Hid (Below w.heap.size w wr)) (fun _ wr => key.size - wr.iterPos w.heap.size)
  case atStart => exact ⟨0, Nat.zero_le _, World.iter_heap w key 0, Lib.hid (fun i h => by omega), Lib.hid ((Below.refl _ _).alloc (Nat.le_refl _) _)⟩
  case round =>
    obtain ⟨k, hkk, hit, hf, hb⟩ := hrel
    have hlt0 := lt_of_block hit
    have hpos : wr.iterPos w.heap.size = k := iterPos_of hit
    by_cases hlt : k < key.size
    · have hnx : ∀ ty, (Instr.next (.pointer (some ⟨w.heap.size, 0, none⟩)) true ty).run Tryd.prog wr = .ok (.tuple #[.bool true, .int .i64 (k : Int), .int .i32 (key[k].toNat : Int)]) (wr.iterAt w.heap.size key (k + 1)) := fun ty => by
        have := Lib.run_next_any_at (P := Tryd.prog) wr w.heap.size key k ty hit hlt
        rw [decode_ascii key k hlt (ha.out k hlt)] at this; exact this
      have hit2 := Lib.iterAt_heap wr w.heap.size key k (k + 1) hit
      have hb2 := Lib.hid (Lib.below_iterAt hb.out (k := w.heap.size) (Nat.le_refl _) key (k + 1))
      obtain ⟨W1, hW1⟩ : ∃ W1, W1 = wr.iterAt w.heap.size key (k + 1) := ⟨_, rfl⟩
      rw [← hW1] at hnx hit2 hb2
      have hpos2 : W1.iterPos w.heap.size = k + 1 := iterPos_of hit2
      clear hW1 hit hb
      have hks : k < s.size := by omega
      have hAk := Lib.hid (hA.out k hlt hks)
      have hnk := Lib.hid (hno.out k hlt)
      have hyk : Hid (FA k = true → ∀ i, i < k + 1 → FA i = true) := Lib.hid (fun h i hi => by
        by_cases e : i = k
        · subst e; exact h
        · exact hf.out i (by omega))
      cases h1 : ((key[k].toNat : Int) != 63) with
      | false =>
        have hS := Lib.hid (hyk.out (by rw [hAk.out]; simp only [bne_eq_false_iff_eq] at h1; rw [h1]; rfl))
        go_wp2_with fail
        go_quiet (fail)
        go_wp2_with fail
        go_roundw
        case rel => exact ⟨k + 1, by omega, hit2, hS, Lib.hid (below_drewN hb2.out _)⟩
        case measure => rw [hpos]; show _ - W1.iterPos w.heap.size < _; rw [hpos2]; omega
      | true =>
        cases h2 : ((key[k].toNat : Int) != (s[k].toNat : Int)) with
        | false =>
          have hS := Lib.hid (hyk.out (by rw [hAk.out]; simp only [bne_eq_false_iff_eq] at h2; rw [h2]; simp))
          go_wp2_with fail
          go_quiet (fail)
          go_wp2_with fail
          go_roundw
          case rel => exact ⟨k + 1, by omega, hit2, hS, Lib.hid (below_drewN hb2.out _)⟩
          case measure => rw [hpos]; show _ - W1.iterPos w.heap.size < _; rw [hpos2]; omega
        | true =>
          have hF : Hid (G = false) := Lib.hid (hnk.out (by rw [hAk.out]; simp only [bne, Bool.not_eq_true'] at h1 h2; rw [h1, h2]; rfl))
          go_wp2_with fail
          go_quiet (fail)
          go_wp2_with fail
          go_ret; exact ⟨ret_bool hF.out.symm, below_drewN hb2.out _⟩
    · obtain rfl : k = key.size := by omega
      have hF : Hid (G = true) := Lib.hid (hye.out (fun i hi => hf.out i hi))
      have hnx : ∀ ty, (Instr.next (.pointer (some ⟨w.heap.size, 0, none⟩)) true ty).run Tryd.prog wr = .ok (.tuple #[.bool false]) wr := fun ty => Lib.run_next_end_at (P := Tryd.prog) wr w.heap.size key _ ty hit hlt
      go_wp2_with fail
      go_ret
      exact ⟨ret_bool hF.out.symm, hb.out⟩
theorem fits_any (key : ByteArray) (x : Nat) (w : World) (hx : x < 1048576) (hk : key.size ≤ 10) :
    Calls Tryd.prog 23 #[kv (kp key), .int .u64 x] w fun e w' => e = .returned (.bool (fitN key.data.toList x)) ∧ Below w.heap.size w w' := by
  have ht : tolX key.data.toList < 1048576 := Nat.lt_of_lt_of_le (tol_lt _) (Nat.pow_le_pow_right (by decide) (by rw [len_data]; omega : key.data.toList.length ≤ 20))
  have ho : onX key.data.toList < 1048576 := Nat.lt_of_lt_of_le (on_lt _) (Nat.pow_le_pow_right (by decide) (by rw [len_data]; omega : key.data.toList.length ≤ 20))
  have hkp : kp key = (tolX key.data.toList, onX key.data.toList) := rfl
  have hf : fitN key.data.toList x = decide (x &&& tolX key.data.toList = onX key.data.toList) := rfl
  rw [hkp, hf]
  clear hkp hf
  generalize tolX key.data.toList = T at *
  generalize onX key.data.toList = O at *
  have hand := and_u64 x T _ (by omega) (by omega) rfl
  obtain ⟨y, hy⟩ : ∃ y, x &&& T = y := ⟨_, rfl⟩
  rw [hy] at hand ⊢
  have hc : ((y : Int) == (O : Int)) = decide (y = O) := by
    rw [Bool.eq_iff_iff, beq_iff_eq, decide_eq_true_eq]; omega
  go_enter Tryd.func23, Tryd.ntmps23
  go_wp2_with fail
  go_ret; exact ⟨by first | rfl | rw [hc], ba1 w _⟩
/-- the texts are keys, and another one is a state of as many rings -/
def askK (ks : List ByteArray) (s : ByteArray) : Bool := goodK ks && goodB s.data.toList && decide (s.size = ks.length)
theorem keAsked_any (v : Value) (ks : List ByteArray) (s : ByteArray) (w : World) (hz : ∀ s ∈ ks, s.size ≤ maxLen) (hs : s.size ≤ maxLen) (h : RdT w v ks) :
    Calls Tryd.prog 19 #[v, .string s] w fun e w' => e = .returned (.bool (askK ks s)) ∧ w = w' := by
  have hG := Lib.hid (keGood_any v ks w hz h)
  have hR := Lib.hid (fun w => riGood_any s w hs)
  obtain ⟨p, c, rfl, -, -⟩ := h
  unfold askK
  have hd : ((s.size : Int) == (ks.length : Int)) = decide (s.size = ks.length) := by
    rw [Bool.eq_iff_iff, beq_iff_eq, decide_eq_true_eq]; omega
  generalize goodK ks = G at *
  generalize goodB s.data.toList = R at *
  generalize decide (s.size = ks.length) = D at *
  generalize ks.length = n at *
  unfold maxLen at hs
  cases G with
  | false =>
    go_enter Tryd.func19, Tryd.ntmps19
    go_wp2_with fail
    refine hG.out.mono ?_; rintro e w' ⟨rfl, rfl⟩
    go_wp2_with fail
    go_ret; exact ⟨rfl, rfl⟩
  | true =>
    cases R with
    | false =>
      go_enter Tryd.func19, Tryd.ntmps19
      go_wp2_with fail
      refine hG.out.mono ?_; rintro e w' ⟨rfl, rfl⟩
      go_wp2_with fail
      refine (hR.out _).mono ?_; rintro e w' ⟨rfl, rfl⟩
      go_wp2_with fail
      go_ret; exact ⟨rfl, rfl⟩
    | true =>
      go_enter Tryd.func19, Tryd.ntmps19
      go_wp2_with fail
      refine hG.out.mono ?_; rintro e w' ⟨rfl, rfl⟩
      go_wp2_with fail
      refine (hR.out _).mono ?_; rintro e w' ⟨rfl, rfl⟩
      go_wp2_with fail
      go_ret; exact ⟨by first | rfl | (rw [hd]; rfl) | simp, rfl⟩
end Go.Proofs.YthddgnimkbjadaaDoor
