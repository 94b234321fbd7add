/- Two rings at once: the model's moves. -/
import Derived.Test.YtmbijomjilicgabDoorB2
namespace Go.Proofs.YtmbijomjilicgabDoor
open Go Go.RowKit RM

/-- 'append(out, ys...)' onto a row of integers of the call's own -/
theorem app_ints (w : World) {ops : Array Oper} {rest : List Oper} {o : Oper} {a : Act} {Q : Exit → Act → World → Prop} (hgd : o.guard = none) (s x : Operand)
    (ho : o.op = .call { callee := .builtin .append, args := #[s, x], argTypes := #[22, 22] })
    (B : Nat) (v : Value) (xs : List Int) (hs : a.eval s = v) (hown : OwnI w B v xs) (g m cap : Nat) (ys : List Int) (hx : a.eval x = .slice (some ⟨g, 0, none⟩) m cap) (hm : ys.length = m)
    (hcell : ∀ k (hk : k < ys.length), w.cell? ⟨g, k, none⟩ = some (.int .i64 ys[k])) (hlen : xs.length ≤ 1000000) (hlen2 : m ≤ 1000000) (hB : B ≤ w.heap.size)
    (h : ∀ v' w', OwnI w' B v' (xs ++ ys) → w.grownBy w' v.ownBlock → wpList Tryd.prog ops Q rest (a.put o.dst v') w') : wpList Tryd.prog ops Q (o :: rest) a w := by
  obtain ⟨i0, hi, hz0, hz1, hz2⟩ := info_parts intInfo
  refine wpList_append_own w hgd s x 22 ho B 3 i0 (.int .i64 0) 1 8 Tryd.underlying22 hi hz0 hz1 hz2 rfl (by decide) v xs.length (vint xs) hs hown ⟨g, 0, none⟩ m cap (vint ys) hx (by simp [vint, hm]) ?_ ?_ (by unfold maxLen; omega) (by omega) hB ?_
  · intro j u hj
    simp [vint] at hj
    obtain ⟨y, hy, rfl⟩ := hj
    obtain ⟨hl, rfl⟩ := List.getElem?_eq_some_iff.1 hy
    rcases j with _ | j
    · simpa [Addr.add] using hcell 0 hl
    · simpa [Addr.add] using hcell (j + 1) hl
  · intro u hu; simp [vint] at hu; obtain ⟨y, _, rfl⟩ := hu; rfl
  · intro v' w' h1 h2 _
    refine h v' w' ?_ h2
    unfold OwnI
    have e : vint (xs ++ ys) = vint xs ++ vint ys := by simp [vint]
    rw [e, List.length_append, hm]; exact h1

theorem l1Has_nil (k : Int) (p : Option Addr) (cap : Nat) (w : World) :
    Calls Tryd.prog 49 #[.slice p 0 cap, .int .i64 k] w fun e w' => e = .returned (.bool false) ∧ w = w' := by
  go_enter Tryd.func49, Tryd.ntmps49
  go_wp2
  go_loop [9] (fun i => i = .int .i64 0) (fun _ => 0)
  case atStart => rfl
  case round =>
    obtain rfl := hrel
    go_wp2
    go_ret; exact ⟨rfl, rfl⟩
theorem l1Has_some (g n cap : Nat) (xs : List Int) (x : Int) (c : Bool) (w : World) (hn : n ≤ 2000000) (hl : Hid (xs.length = n)) (hc : Hid (∀ k (hk : k < xs.length), w.cell? ⟨g, k, none⟩ = some (.int .i64 xs[k]))) (hx : Hid (c = decide (x ∈ xs))) :
    Calls Tryd.prog 49 #[.slice (some ⟨g, 0, none⟩) n cap, .int .i64 x] w fun e w' => e = .returned (.bool c) ∧ w = w' := by
  go_enter Tryd.func49, Tryd.ntmps49
  go_wp2
  go_loop [9] (fun i => ∃ k : Nat, k ≤ n ∧ i = .int .i64 k ∧ Hid (x ∉ xs.take k)) (fun i => n - (intOf i).toNat)
  case atStart => exact ⟨0, by omega, rfl, Lib.hid (by simp)⟩
  case round =>
    obtain ⟨k, hk, rfl, ht⟩ := hrel
    by_cases hlt : k < n
    · have hkl : k < xs.length := by rw [hl.out]; exact hlt
      have h1 := hc.out k hkl
      obtain ⟨y, hy⟩ : ∃ y, y = xs[k] := ⟨_, rfl⟩
      rw [← hy] at h1
      have HY := Lib.hid hy
      have HL := Lib.hid hkl
      clear hy
      by_cases e : y = x
      · subst e
        have h2 : (y == y) = true := by simp
        have HF : Hid (c = true) := Lib.hid (by rw [hx.out, HY.out]; simp)
        go_wp2
        go_ret; exact ⟨ret_bool HF.out.symm, rfl⟩
      · have h2 : (y == x) = false := by simp [e]
        have HN : Hid (x ∉ xs.take (k + 1)) := Lib.hid (by
          rw [List.take_succ_eq_append_getElem HL.out, List.mem_append]
          rintro (h | h)
          · exact ht.out h
          · simp at h; rw [← HY.out] at h; exact e h.symm)
        clear e
        go_wp2
        go_round
        case rel => exact ⟨k + 1, by omega, by go_num, HN⟩
        all_goals (simp [intOf] <;> omega)
    · obtain rfl : k = n := by omega
      have HF : Hid (c = false) := Lib.hid (by
        have := ht.out
        rw [List.take_of_length_le (by rw [hl.out]; omega)] at this
        rw [hx.out]; simp [this])
      go_wp2
      go_ret; exact ⟨ret_bool HF.out.symm, rfl⟩
theorem l1Has_any (v : Value) (B : Nat) (xs : List Int) (x : Int) (w : World) (hl : xs.length ≤ 2000000) (h : OwnI w B v xs) :
    Calls Tryd.prog 49 #[v, .int .i64 x] w fun e w' => e = .returned (.bool (decide (x ∈ xs))) ∧ w = w' := by
  rcases h.form with ⟨rfl, h0⟩ | ⟨g, cap, rfl, _, _, hc, _, _⟩
  · subst h0; simpa using l1Has_nil x none 0 w
  · exact l1Has_some g xs.length cap xs x _ w hl (Lib.hid rfl) (Lib.hid hc) (Lib.hid rfl)

theorem ST_both (n x : Nat) (h2 : 2 ≤ n) : ((((ST n x)[0]'(by rw [ST_size]; omega)).toNat : Int) == (((ST n x)[1]'(by rw [ST_size]; omega)).toNat : Int)) = bothB x := by
  rw [ST_get, ST_get]
  have a : x.testBit 0 = decide (x % 2 = 1) := Nat.testBit_zero x
  have b : x.testBit 1 = decide (x / 2 % 2 = 1) := by rw [show (1 : Nat) = 0 + 1 from rfl, Nat.testBit_succ, Nat.testBit_zero]
  have e : bothB x = (x.testBit 0 == x.testBit 1) := by
    rw [a, b]; unfold bothB
    by_cases h : x % 2 = 1 <;> by_cases g : x / 2 % 2 = 1 <;> simp [h, g] <;> omega
  rw [e]
  cases x.testBit 0 <;> cases x.testBit 1 <;> rfl

theorem twMoves_core (s : ByteArray) (n x : Nat) (b : Bool) (w : World) (hn : n ≤ 20) (h2 : 2 ≤ n) (hs : n = s.size) (h0 : 0 < s.size) (h1 : 1 < s.size) (hb : ((s[0].toNat : Int) == (s[1].toNat : Int)) = b) (hbb : Hid (bothB x = b))
    (hM : Hid (∀ w, Calls Tryd.prog 64 #[.string s] w fun e w' => ∃ v, e = .returned v ∧ OwnI w' w.heap.size v (mvL n x n) ∧ Below w.heap.size w w')) :
    Calls Tryd.prog 50 #[.string s] w fun e w' => ∃ v, e = .returned v ∧ OwnI w' w.heap.size v (pmL n x) ∧ Below w.heap.size w w' := by
  have hne : Hid (mvL n x n ≠ []) := Lib.hid (by
    obtain ⟨m, rfl⟩ : ∃ m, n = m + 1 := ⟨n - 1, by omega⟩
    intro e
    have : (0 : Int) ∈ mvL (m + 1) x (m + 1) := by unfold mvL; simp [canB_zero]
    rw [e] at this; simp at this)
  have hml := mvL_len n x n
  have h1i : (1 : Int) < (s.size : Int) := by omega
  cases b
  · have hpm : Hid (pmL n x = [] ++ mvL n x n) := Lib.hid (by rw [pmL_mv, hbb.out]; rfl)
    generalize mvL n x n = ms at *
    go_enter Tryd.func50, Tryd.ntmps50
    go_wp2
    go_quiet (fail)
    go_wp2_with fail
    refine (hM.out _).mono ?_; rintro e w1 ⟨v, rfl, ho, hbl⟩
    have hbl := Lib.hid hbl
    rcases ho.form with ⟨_, e⟩ | ⟨g, cap, rfl, hg, hgl, hc, _, hmx⟩
    · exact absurd e hne.out
    have ho := Lib.hid ho
    go_wp2_with (at_builtin; refine app_ints _ rfl _ _ rfl w.heap.size _ [] rfl (OwnI.nil _ _) g ms.length cap ms rfl rfl hc (by simp) (by omega) (by have := hbl.out.size; simpa using this) ?_; intro v' w' ho' hg')
    have ho2 := Lib.hid ho'
    have hg2 := Lib.hid hg'
    clear ho' hg'
    go_ret
    refine ⟨_, rfl, by rw [hpm.out]; exact ho2.out, ?_⟩
    exact bel_own ((below_drewN (Below.refl _ _) _).trans (hbl.out.mono (by simp))) (OwnI.nil _ _) hg2.out (by have := hbl.out.size; simpa using this)
  · have hpm : Hid (pmL n x = [-1] ++ mvL n x n) := Lib.hid (by rw [pmL_mv, hbb.out]; rfl)
    generalize mvL n x n = ms at *
    go_enter Tryd.func50, Tryd.ntmps50
    go_wp2
    go_quiet (fail)
    obtain ⟨w0, hw0⟩ : ∃ w0, w0 = w.drewN nq := ⟨_, rfl⟩
    rw [← hw0]
    have hq := Lib.hid (show Below w.heap.size w w0 by rw [hw0]; exact below_drewN (Below.refl _ _) _)
    clear hw0
    go_wp2_with (at_builtin; refine app_int _ rfl _ _ rfl w.heap.size _ [] rfl (OwnI.nil _ _) w0.heap.size (-1) rfl (by simp) (by decide) (by have := hq.out.size; simp; omega) ?_; intro v' w' ho' hg')
    have ho2 := Lib.hid ho'
    have hg2 := Lib.hid hg'
    clear ho' hg'
    go_wp2_with fail
    refine (hM.out _).mono ?_; rintro e w1 ⟨v, rfl, ho, hbl⟩
    have hbl := Lib.hid hbl
    rcases ho.form with ⟨_, e⟩ | ⟨g, cap, rfl, hg, hgl, hc, _, hmx⟩
    · exact absurd e hne.out
    have ho := Lib.hid ho
    go_wp2_with (at_builtin; refine app_ints _ rfl _ _ rfl w.heap.size _ ([] ++ [-1]) rfl (ho2.out.below hbl.out) g ms.length cap ms rfl rfl hc (by simp) (by omega) (by have := hbl.out.size; have := hg2.out.size; have := hq.out.size; simp at *; omega) ?_; intro v'' w'' ho' hg')
    have ho3 := Lib.hid ho'
    have hg3 := Lib.hid hg'
    clear ho' hg'
    go_ret
    refine ⟨_, rfl, by rw [hpm.out]; exact ho3.out, ?_⟩
    have hA : Below w.heap.size w w' := bel_own (hq.out.alloc hq.out.size _) (OwnI.nil _ w.heap.size) hg2.out (by have := hq.out.size; simp; omega)
    exact bel_own (bt hA hbl.out) (ho2.out.below hbl.out) hg3.out (bt hA hbl.out).size
theorem twMoves_ST (n x : Nat) (w : World) (h2 : 2 ≤ n) (hn : n ≤ 20) :
    Calls Tryd.prog 50 #[.string (ST n x)] w fun e w' => ∃ v, e = .returned v ∧ OwnI w' w.heap.size v (pmL n x) ∧ Below w.heap.size w w' :=
  twMoves_core _ n x _ w hn h2 (ST_size n x).symm (by rw [ST_size]; omega) (by rw [ST_size]; omega) (ST_both n x h2) (Lib.hid rfl) (Lib.hid fun w => sMovesIn_core _ n x w hn (ST_size n x).symm (Lib.hid fun k h => ST_ascii n x k h) (Lib.hid fun k w => riCan_ST n x k w (by omega) hn))

theorem twMake_both (s t u : ByteArray) (w : World) (h1 : Hid (∀ w, Calls Tryd.prog 65 #[.string s, .int .i64 0] w fun e w' => e = .returned (.string t) ∧ ∃ q, w' = w.drewN q))
    (h2 : Hid (∀ w, Calls Tryd.prog 65 #[.string t, .int .i64 1] w fun e w' => e = .returned (.string u) ∧ ∃ q, w' = w.drewN q)) :
    Calls Tryd.prog 51 #[.string s, .int .i64 (-1)] w fun e w' => e = .returned (.string u) ∧ ∃ q, w' = w.drewN q := by
  go_enter Tryd.func51, Tryd.ntmps51
  go_wp2_with fail
  refine (h1.out _).mono ?_; rintro e w1 ⟨rfl, q1, rfl⟩
  go_wp2_with fail
  refine (h2.out _).mono ?_; rintro e w2 ⟨rfl, q2, rfl⟩
  go_wp2_with fail
  go_ret; exact ⟨rfl, _, rfl⟩
theorem twMake_ring (s t : ByteArray) (k : Int) (w : World) (hk : (k == -1) = false) (h1 : Hid (∀ w, Calls Tryd.prog 65 #[.string s, .int .i64 k] w fun e w' => e = .returned (.string t) ∧ ∃ q, w' = w.drewN q)) :
    Calls Tryd.prog 51 #[.string s, .int .i64 k] w fun e w' => e = .returned (.string t) ∧ ∃ q, w' = w.drewN q := by
  go_enter Tryd.func51, Tryd.ntmps51
  go_wp2_with fail
  refine (h1.out _).mono ?_; rintro e w1 ⟨rfl, q1, rfl⟩
  go_wp2_with fail
  go_ret; exact ⟨rfl, _, rfl⟩
theorem twMake_ST (n x : Nat) (k : Int) (w : World) (h2 : 2 ≤ n) (hn : n ≤ 20) (hk : pcan n x k = true) :
    Calls Tryd.prog 51 #[.string (ST n x), .int .i64 k] w fun e w' => e = .returned (.string (ST n (x ^^^ msk k))) ∧ ∃ q, w' = w.drewN q := by
  by_cases e : k = -1
  · subst e
    have A := Lib.hid fun w => riMove_ST n x 0 w hn (by omega)
    have B := Lib.hid fun w => riMove_ST n (x ^^^ 2 ^ 0) 1 w hn (by omega)
    have e2 : x ^^^ 2 ^ 0 ^^^ 2 ^ 1 = x ^^^ msk (-1) := by rw [Nat.xor_assoc]; rfl
    rw [e2] at B
    exact twMake_both _ _ _ w A B
  · rw [pcan_ring n x k e] at hk
    obtain ⟨j, rfl, hj⟩ := canB_true n x k (by omega) hk
    have em : msk (j : Int) = 2 ^ j := by unfold msk; rw [if_neg (by omega)]; rfl
    rw [em]
    exact twMake_ring _ _ _ w (by simp) (Lib.hid fun w => riMove_ST n x j w hn hj)

/-- a state of two rings at least, and of few -/
def twoG (s : ByteArray) : Bool := goodB s.data.toList && (decide (2 ≤ s.size) && decide (s.size ≤ 12))
theorem of_twoG (s : ByteArray) (h : twoG s = true) : ∃ n x, 2 ≤ n ∧ n ≤ 12 ∧ x < 2 ^ n ∧ s = ST n x := by
  unfold twoG at h
  simp only [Bool.and_eq_true, decide_eq_true_eq] at h
  obtain ⟨h1, h2, h3⟩ := h
  obtain ⟨n, x, a1, a2, a3, rfl⟩ := of_good s h1
  rw [ST_size] at h2 h3
  exact ⟨n, x, h2, h3, a3, rfl⟩
theorem twoG_ST (n x : Nat) (h2 : 2 ≤ n) (h : n ≤ 12) : twoG (ST n x) = true := by
  unfold twoG; rw [good_ST n x (by omega) (by omega), ST_size]; simp; omega
theorem twoG_cases (s : ByteArray) : twoG s = false ∨ ∃ n x, 2 ≤ n ∧ n ≤ 12 ∧ x < 2 ^ n ∧ s = ST n x := by
  cases h : twoG s
  · exact .inl rfl
  · exact .inr (of_twoG s h)

theorem twGood_any (s : ByteArray) (w : World) (hs : s.size ≤ maxLen) :
    Calls Tryd.prog 33 #[.string s] w fun e w' => e = .returned (.bool (twoG s)) ∧ w = w' := by
  have hG := Lib.hid fun w => riGood_any s w hs
  unfold twoG
  unfold maxLen at hs
  cases h : goodB s.data.toList
  · rw [h] at hG
    go_enter Tryd.func33, Tryd.ntmps33
    go_wp2_with fail
    refine (hG.out _).mono ?_; rintro e w1 ⟨rfl, rfl⟩
    go_wp2_with fail
    go_ret; exact ⟨rfl, rfl⟩
  · rw [h] at hG
    clear h
    by_cases hl : 2 ≤ s.size ∧ s.size ≤ 12
    · have e : (decide (2 ≤ s.size) && decide (s.size ≤ 12)) = true := by simp; omega
      rw [e]
      go_enter Tryd.func33, Tryd.ntmps33
      go_wp2_with fail
      refine (hG.out _).mono ?_; rintro e w1 ⟨rfl, rfl⟩
      go_wp2_with (go_at_call 42; refine (l1In_yes _ _ _ _ (by omega) (by omega)).mono ?_; rintro e w' ⟨rfl, rfl⟩)
      go_ret; exact ⟨rfl, rfl⟩
    · have e : (decide (2 ≤ s.size) && decide (s.size ≤ 12)) = false := by simp; omega
      rw [e]
      go_enter Tryd.func33, Tryd.ntmps33
      go_wp2_with fail
      refine (hG.out _).mono ?_; rintro e w1 ⟨rfl, rfl⟩
      go_wp2_with (go_at_call 42; refine (l1In_no _ _ _ _ (by omega)).mono ?_; rintro e w' ⟨rfl, rfl⟩)
      go_ret; exact ⟨rfl, rfl⟩

theorem isPaired_any (n : Int) (w : World) : Calls Tryd.prog 45 #[.int .i64 n] w fun e w' => e = .returned (.bool (decide (2 ≤ n) && decide (n ≤ 12))) ∧ w = w' := by
  by_cases h : 2 ≤ n
  · by_cases h2 : n ≤ 12
    · have e : (decide (2 ≤ n) && decide (n ≤ 12)) = true := by simp; omega
      rw [e]
      go_enter Tryd.func45, Tryd.ntmps45
      go_wp2
      go_ret; exact ⟨rfl, rfl⟩
    · have e : (decide (2 ≤ n) && decide (n ≤ 12)) = false := by simp; omega
      rw [e]
      go_enter Tryd.func45, Tryd.ntmps45
      go_wp2
      go_ret; exact ⟨rfl, rfl⟩
  · have e : (decide (2 ≤ n) && decide (n ≤ 12)) = false := by simp; omega
    rw [e]
    go_enter Tryd.func45, Tryd.ntmps45
    go_wp2
    go_ret; exact ⟨rfl, rfl⟩
end Go.Proofs.YtmbijomjilicgabDoor
