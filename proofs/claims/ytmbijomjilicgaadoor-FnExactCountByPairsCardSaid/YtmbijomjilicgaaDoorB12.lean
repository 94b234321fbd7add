/- The moves that clear a bar; how many states need so many moves: both ways. -/
import Derived.Test.YtmbijomjilicgaaDoorB8
namespace Go.Proofs.YtmbijomjilicgaaDoor
open Go Go.RowKit RM

theorem barAllOff_any (n : Nat) (w : World) (hT : TabOk w) : Calls Tryd.prog 46 #[.int .i64 n] w fun e w' => e = .returned (.agg #[.int .i64 ((ctz (0) : Nat) : Int), .bool (onB (0)), .int .i64 ((n : Nat) : Int), .int .u64 ((0 : Nat) : Int)]) ∧ Below w.heap.size w w' := by
  have hT := Lib.hid hT
  have hC := Lib.hid fun w hw => newBar_any n 0 w (by omega) hw
  have e0 : (((0 : Nat) : Int)) = 0 := rfl
  rw [e0] at hC
  go_enter Tryd.func46, Tryd.ntmps46
  go_wp2_with fail
  refine (hC.out _ ?_).mono ?_
  · repeat (first | exact hT.out | apply TabOk.alloc | apply TabOk.drew | apply TabOk.drewN)
  rintro e w' ⟨rfl, hb⟩
  obtain ⟨hc, hf⟩ := bcell hb
  go_wp2_with fail
  refine bodyPost_ret (v := (.agg #[.int .i64 ((ctz (0) : Nat) : Int), .bool (onB (0)), .int .i64 ((n : Nat) : Int), .int .u64 ((0 : Nat) : Int)])) ?_ rfl ⟨rfl, ?_⟩
  · simp [results, Tryd.results46, go_sem, hc]
  · refine Below.setCell (Below.setCell (Below.setCell (Below.setCell ?_ (by simp) _) (by simp) _) (by simp) _) (by simp) _
    refine Below.trans ?_ (hb.mono (by simp))
    repeat (first | exact Below.refl _ _ | (refine Below.drew ?_) | (refine Below.alloc ?_ (by simp) _))
theorem riAll0_any (n : Nat) (w : World) (hn : n ≤ 20) :
    Calls Tryd.prog 43 #[.int .i64 n, .string ⟨#[48]⟩] w fun e w' => e = .returned (.string (ST n 0)) ∧ w = w' := by
  have HB : Hid (∀ k, k < n → ST k 0 ++ ⟨#[48]⟩ = ST (k + 1) 0) := Lib.hid fun k h => ST_snoc0 k _ (by simp)
  obtain ⟨X, hX⟩ : ∃ X, Hid (X = 0) := ⟨_, Lib.hid rfl⟩
  have HB : Hid (∀ k, k < n → ST k X ++ ⟨#[48]⟩ = ST (k + 1) X) := Lib.hid (by rw [hX.out]; exact HB.out)
  have HZ : Hid (ST 0 X = ⟨#[]⟩) := Lib.hid rfl
  rw [show ST n 0 = ST n X from by rw [hX.out]]
  go_enter Tryd.func43, Tryd.ntmps43
  go_wp2
  go_loop [0, 5] (fun i o => ∃ k : Nat, k ≤ n ∧ i = .int .i64 ((n : Int) - k) ∧ o = .string (ST k X)) (fun i _ => (intOf i).toNat)
  case atStart => exact ⟨0, by omega, vi (by omega), vs HZ.out.symm⟩
  case round =>
    obtain ⟨k, hk, rfl, rfl⟩ := hrel
    have hsz : (ST k X).size ≤ 20 := by rw [ST_size]; omega
    by_cases h : k < n
    · have HS := Lib.hid (HB.out k h)
      go_wp2
      go_round
      case rel => exact ⟨k + 1, by omega, vi (by omega), vs HS.out⟩
      all_goals (simp [intOf] <;> omega)
    · obtain rfl : k = n := by omega
      go_wp2
      go_ret; exact ⟨rfl, rfl⟩
theorem twRings_any (n : Int) (w : World) : Calls Tryd.prog 41 #[.int .i64 n] w fun e w' => e = .returned (.bool (decide (2 ≤ n) && decide (n ≤ 12))) ∧ w = w' := by
  by_cases h : 2 ≤ n ∧ n ≤ 12
  · have e : (decide (2 ≤ n) && decide (n ≤ 12)) = true := by simp; omega
    rw [e]
    go_enter Tryd.func41, Tryd.ntmps41
    go_wp2_with (go_at_call 42; refine (l1In_yes _ _ _ _ (by omega) (by omega)).mono ?_; rintro e w' ⟨rfl, rfl⟩)
    go_ret; exact ⟨rfl, rfl⟩
  · have e : (decide (2 ≤ n) && decide (n ≤ 12)) = false := by simp; omega
    rw [e]
    go_enter Tryd.func41, Tryd.ntmps41
    go_wp2_with (go_at_call 42; refine (l1In_no _ _ _ _ (by omega)).mono ?_; rintro e w' ⟨rfl, rfl⟩)
    go_ret; exact ⟨rfl, rfl⟩
theorem rings2_cases (n : Int) : (n < 2 ∨ 12 < n) ∨ ∃ m : Nat, n = (m : Int) ∧ 2 ≤ m ∧ m ≤ 12 := by
  by_cases h : n < 2 ∨ 12 < n
  · exact .inl h
  · exact .inr ⟨n.toNat, by omega, by omega, by omega⟩
theorem tfieldB (a b c d : Value) (w : World) : (Instr.field 43 (.agg #[a, b, c, d]) 2).run Tryd.prog w = .ok d w := by
  first | rfl | simp [go_sem]

theorem iPC_no (n : Int) (w : World) (h : n < 2 ∨ 12 < n) : Calls Tryd.prog 24 #[.int .i64 n] w fun e w' => AnsI w 0 false e w' := by
  have hP := Lib.hid fun w => isPaired_any n w
  rw [show (decide (2 ≤ n) && decide (n ≤ 12)) = false from by simp; omega] at hP
  go_enter Tryd.func24, Tryd.ntmps24
  go_wp2_with fail
  refine (hP.out _).mono ?_; rintro e w' ⟨rfl, rfl⟩
  go_wp2_with fail
  go_ret2; exact ⟨rfl, Below.refl _ _⟩
set_option maxRecDepth 100000 in
theorem iPC_core (n y N : Nat) (R : Int) (ms : List Int) (w : World) (hT : TabOk w) (hml : ms.length = N) (hyN : y < N) (hR : Hid (∀ h : y < ms.length, ms[y] = R))
    (hP : Hid (∀ w, Calls Tryd.prog 44 #[.int .i64 n] w fun e w' => e = .returned (.bool true) ∧ w = w'))
    (hO : Hid (∀ w, TabOk w → Calls Tryd.prog 46 #[.int .i64 n] w fun e w' => e = .returned (.agg #[.int .i64 ((ctz (0) : Nat) : Int), .bool (onB (0)), .int .i64 ((n : Nat) : Int), .int .u64 ((0 : Nat) : Int)]) ∧ Below w.heap.size w w'))
    (hN : Hid (∀ w, TabOk w → Calls Tryd.prog 47 #[.int .i64 n] w fun e w' => e = .returned (.agg #[.int .i64 ((ctz (y) : Nat) : Int), .bool (onB (y)), .int .i64 ((n : Nat) : Int), .int .u64 ((y : Nat) : Int)]) ∧ Below w.heap.size w w'))
    (hS : Hid (∀ w, TabOk w → Calls Tryd.prog 40 #[(.agg #[.int .i64 ((ctz (0) : Nat) : Int), .bool (onB (0)), .int .i64 ((n : Nat) : Int), .int .u64 ((0 : Nat) : Int)])] w fun e w' => ∃ gm gw, e = .returned (.agg #[.int .i64 n, .slice (some ⟨gm, 0, none⟩) N N, .slice (some ⟨gw, 0, none⟩) N N]) ∧ OwnI w' w.heap.size (.slice (some ⟨gm, 0, none⟩) N N) ms ∧ Below w.heap.size w w')) :
    Calls Tryd.prog 24 #[.int .i64 n] w fun e w' => AnsI w R true e w' := by
  have hT := Lib.hid hT
  have hfd := tfield1
  have hfb := tfieldB
  go_enter Tryd.func24, Tryd.ntmps24
  go_wp2_with fail
  refine (hP.out _).mono ?_; rintro e w1 ⟨rfl, rfl⟩
  go_wp2_with fail
  refine (hO.out _ hT.out).mono ?_; rintro e w1 ⟨rfl, hb1⟩
  have hT1 := Lib.hid (hT.out.below hb1)
  have hb1 := Lib.hid hb1
  go_wp2_with fail
  refine (hS.out _ hT1.out).mono ?_; rintro e w2 ⟨gm, gw, rfl, ho, hb2⟩
  have hT2 := Lib.hid (hT1.out.below hb2)
  have ho := Lib.hid ho
  have hb2 := Lib.hid hb2
  go_wp2_with fail
  refine (hN.out _ hT2.out).mono ?_; rintro e w3 ⟨rfl, hb3⟩
  obtain ⟨e0, _⟩ := (ho.out.below hb3).cell hml y (by rw [hml]; exact hyN)
  rw [hR.out] at e0
  have hb3 := Lib.hid hb3
  go_wp2_with fail
  go_ret2
  exact ⟨rfl, bt (bt hb1.out hb2.out) hb3.out⟩
theorem iPC_yes (n : Nat) (w : World) (h2 : 2 ≤ n) (hn : n ≤ 12) (hT : TabOk w) : Calls Tryd.prog 24 #[.int .i64 n] w fun e w' => AnsI w (dS 0 (2 ^ n - 1)) true e w' := by
  have hp := Nat.two_pow_pos n
  exact iPC_core n (2 ^ n - 1) (2 ^ n) _ (sdL n 0) w hT (sdL_len n 0) (by omega) (Lib.hid fun h => sdL_get n 0 _ h) (Lib.hid fun w => by
    have := isPaired_any n w
    rw [show (decide (2 ≤ (n : Int)) && decide ((n : Int) ≤ 12)) = true from by simp; omega] at this; exact this) (Lib.hid fun w hw => barAllOff_any n w hw) (Lib.hid fun w hw => barAllOn_any n w (by omega) hw) (Lib.hid fun w hw => sm_any n 0 w h2 hn hp hw)
theorem sPC_no (n : Int) (w : World) (h : n < 2 ∨ 12 < n) : Calls Tryd.prog 23 #[.int .i64 n] w fun e w' => AnsI w 0 false e w' := by
  have hP := Lib.hid fun w => twRings_any n w
  rw [show (decide (2 ≤ n) && decide (n ≤ 12)) = false from by simp; omega] at hP
  go_enter Tryd.func23, Tryd.ntmps23
  go_wp2_with fail
  refine (hP.out _).mono ?_; rintro e w' ⟨rfl, rfl⟩
  go_wp2_with fail
  go_ret2; exact ⟨rfl, Below.refl _ _⟩
theorem sPC_core (n X N : Nat) (s0 s1 : ByteArray) (R : Int) (ms : List Int) (w : World) (hml : ms.length = N) (hX : X < N) (hR : Hid (∀ h : X < ms.length, ms[X] = R))
    (hP : Hid (∀ w, Calls Tryd.prog 41 #[.int .i64 n] w fun e w' => e = .returned (.bool true) ∧ w = w'))
    (hA0 : Hid (∀ w, Calls Tryd.prog 43 #[.int .i64 n, .string ⟨#[48]⟩] w fun e w' => e = .returned (.string s0) ∧ w = w'))
    (hA1 : Hid (∀ w, Calls Tryd.prog 43 #[.int .i64 n, .string ⟨#[49]⟩] w fun e w' => e = .returned (.string s1) ∧ w = w'))
    (hN : Hid (∀ w, Calls Tryd.prog 38 #[.string s1] w fun e w' => e = .returned (.int .i64 (X : Int)) ∧ w = w'))
    (hS : Hid (∀ w, Calls Tryd.prog 37 #[.string s0] w fun e w' => ∃ gm gw, e = .returned (.tuple #[.slice (some ⟨gm, 0, none⟩) N N, .slice (some ⟨gw, 0, none⟩) N N]) ∧ OwnI w' w.heap.size (.slice (some ⟨gm, 0, none⟩) N N) ms ∧ Below w.heap.size w w')) :
    Calls Tryd.prog 23 #[.int .i64 n] w fun e w' => AnsI w R true e w' := by
  go_enter Tryd.func23, Tryd.ntmps23
  go_wp2_with fail
  refine (hP.out _).mono ?_; rintro e w1 ⟨rfl, rfl⟩
  go_wp2_with fail
  refine (hA0.out _).mono ?_; rintro e w1 ⟨rfl, rfl⟩
  go_wp2_with fail
  refine (hS.out _).mono ?_; rintro e w2 ⟨gm, gw, rfl, ho, hb2⟩
  obtain ⟨e0, _⟩ := ho.cell hml X (by rw [hml]; exact hX)
  rw [hR.out] at e0
  clear ho
  have hb2 := Lib.hid hb2
  go_wp2_with fail
  refine (hA1.out _).mono ?_; rintro e w3 ⟨rfl, rfl⟩
  go_wp2_with fail
  refine (hN.out _).mono ?_; rintro e w3 ⟨rfl, rfl⟩
  go_wp2_with fail
  go_ret2
  exact ⟨rfl, hb2.out⟩
theorem sPC_yes (n : Nat) (w : World) (h2 : 2 ≤ n) (hn : n ≤ 12) : Calls Tryd.prog 23 #[.int .i64 n] w fun e w' => AnsI w (dS 0 (2 ^ n - 1)) true e w' := by
  have hp := Nat.two_pow_pos n
  exact sPC_core n (num (2 ^ n - 1)) (2 ^ n) (ST n 0) (ST n (2 ^ n - 1)) _ (fdL n 0) w (fdL_len n 0) (num_lt n _ (by omega)) (Lib.hid fun h => fdL_get n 0 _ h) (Lib.hid fun w => by
    have := twRings_any n w
    rw [show (decide (2 ≤ (n : Int)) && decide ((n : Int) ≤ 12)) = true from by simp; omega] at this; exact this) (Lib.hid fun w => riAll0_any n w (by omega)) (Lib.hid fun w => riAll_any n w (by omega)) (Lib.hid fun w => riNumber_ST n _ w (by omega) (by omega)) (Lib.hid fun w => fm_any n 0 w h2 hn hp)
/-- how often a number stands in a row -/
def cnt (l : List Int) (m : Int) : Nat := (l.filter (· == m)).length
theorem cnt_snoc (l : List Int) (a m : Int) : cnt (l ++ [a]) m = cnt l m + (if a = m then 1 else 0) := by
  unfold cnt
  rw [List.filter_append, List.length_append]
  by_cases h : a = m
  · simp [h]
  · simp [h]
theorem nodup_sub : ∀ (Q R : List Nat), Q.Nodup → (∀ z, z ∈ Q → z ∈ R) → Q.length ≤ R.length := by
  intro Q
  induction Q with
  | nil => intro R _ _; simp
  | cons a Q ih =>
    intro R hn hs
    have ha : a ∈ R := hs a (by simp)
    have h1 := ih (R.erase a) (List.nodup_cons.1 hn).2 (fun z hz => by
      have hne : z ≠ a := by intro e; subst e; exact (List.nodup_cons.1 hn).1 hz
      exact (List.mem_erase_of_ne hne).2 (hs z (by simp [hz])))
    have h2 := List.length_erase_of_mem ha
    have : 0 < R.length := List.length_pos_of_mem ha
    simp; omega
theorem filter_num (N : Nat) (P : Nat → Bool) (f g : Nat → Nat) (hf : ∀ y, y < N → f y < N) (hi : ∀ a b, f a = f b → a = b) (hg : ∀ y, y < N → g y < N) (hfg : ∀ y, f (g y) = y) :
    ((List.range N).filter fun y => P (f y)).length = ((List.range N).filter P).length := by
  apply Nat.le_antisymm
  · have h := nodup_sub (((List.range N).filter fun y => P (f y)).map f) ((List.range N).filter P) ?_ ?_
    · simpa using h
    · rw [List.Nodup, List.pairwise_map]
      exact List.Pairwise.imp (fun hab e => hab (hi _ _ e)) (List.Pairwise.filter _ List.nodup_range)
    · intro z hz
      simp at hz
      obtain ⟨y, ⟨hy, hp⟩, rfl⟩ := hz
      simp; exact ⟨hf y hy, hp⟩
  · have h := nodup_sub (((List.range N).filter P).map g) ((List.range N).filter fun y => P (f y)) ?_ ?_
    · simpa using h
    · rw [List.Nodup, List.pairwise_map]
      exact List.Pairwise.imp (fun hab e => hab (by have := congrArg f e; rw [hfg, hfg] at this; exact this)) (List.Pairwise.filter _ List.nodup_range)
    · intro z hz
      simp at hz
      obtain ⟨y, ⟨hy, hp⟩, rfl⟩ := hz
      simp; exact ⟨hg y hy, by rw [hfg]; exact hp⟩
theorem cnt_eq (n : Nat) (m : Int) : cnt (sdL n 0) m = cnt (fdL n 0) m := by
  unfold cnt sdL fdL
  rw [List.filter_map, List.filter_map, List.length_map, List.length_map]
  exact filter_num (2 ^ n) (fun i => ((dd (num 0) i : Int) == m)) num gray (fun y hy => num_lt n y hy) (fun _ _ h => num_inj h) (fun y hy => gray_lt n y hy) num_gray
theorem cnt_take (l : List Int) (k : Nat) (m : Int) (h : k < l.length) : cnt (l.take (k + 1)) m = cnt (l.take k) m + (if l[k] = m then 1 else 0) := by
  rw [List.take_succ_eq_append_getElem h, cnt_snoc]
theorem cnt_le (l : List Int) (m : Int) : cnt l m ≤ l.length := List.length_filter_le _ _

theorem countEqual_any (gm cap B N : Nat) (ms : List Int) (m : Int) (w : World) (hN : N ≤ 4096) (hml : ms.length = N) (ho : OwnI w B (.slice (some ⟨gm, 0, none⟩) N cap) ms) :
    Calls Tryd.prog 45 #[.slice (some ⟨gm, 0, none⟩) N cap, .int .i64 m] w fun e w' => e = .returned (.int .i64 (cnt ms m : Int)) ∧ w = w' := by
  have ho := Lib.hid ho
  go_enter Tryd.func45, Tryd.ntmps45
  go_wp2_with fail
  go_loop [5, 10] (fun c i => ∃ k a : Nat, k ≤ N ∧ a ≤ k ∧ i = .int .i64 k ∧ c = .int .i64 (a : Int) ∧ Hid (cnt (ms.take k) m = a)) (fun _ i => N - (intOf i).toNat)
  case atStart => exact ⟨0, 0, by omega, by omega, rfl, rfl, Lib.hid rfl⟩
  case round =>
    obtain ⟨k, a, hk, hak, rfl, rfl, hc⟩ := hrel
    by_cases hlt : k < N
    · have hkm : k < ms.length := by rw [hml]; exact hlt
      have c0 := (ho.out.cell hml k hkm).1
      have hst := Lib.hid (cnt_take ms k m hkm)
      obtain ⟨d, hd⟩ : ∃ d, Hid (d = ms[k]) := ⟨_, Lib.hid rfl⟩
      rw [← hd.out, hc.out] at hst
      rw [← hd.out] at c0
      by_cases e : d = m
      · have h1 : (d == m) = true := by simp [e]
        have hst2 : Hid (cnt (ms.take (k + 1)) m = a + 1) := Lib.hid (by rw [hst.out, if_pos e])
        clear e
        go_wp2_with fail
        go_round
        case rel => exact ⟨k + 1, a + 1, by omega, by omega, by go_num, by go_num, hst2⟩
        all_goals (simp [intOf] <;> omega)
      · have h1 : (d == m) = false := by simp [e]
        have hst2 : Hid (cnt (ms.take (k + 1)) m = a) := Lib.hid (by rw [hst.out, if_neg e]; rfl)
        clear e
        go_wp2_with fail
        go_round
        case rel => exact ⟨k + 1, a, by omega, by omega, by go_num, rfl, hst2⟩
        all_goals (simp [intOf] <;> omega)
    · obtain rfl : N = k := by omega
      have HF : Hid (cnt ms m = a) := Lib.hid (by rw [← hc.out, List.take_of_length_le (by omega)])
      go_wp2_with fail
      go_ret; exact ⟨ret_int (by rw [HF.out]), rfl⟩
theorem iCB_no (n m : Int) (w : World) (h : n < 2 ∨ 12 < n ∨ m < 0 ∨ 10000 < m) : Calls Tryd.prog 22 #[.int .i64 n, .int .i64 m] w fun e w' => AnsI w 0 false e w' := by
  have hP := Lib.hid fun w => isPaired_any n w
  by_cases hn : 2 ≤ n ∧ n ≤ 12
  · rw [show (decide (2 ≤ n) && decide (n ≤ 12)) = true from by simp; omega] at hP
    by_cases h0 : m < 0
    · clear h hn
      go_enter Tryd.func22, Tryd.ntmps22
      go_wp2_with fail
      refine (hP.out _).mono ?_; rintro e w' ⟨rfl, rfl⟩
      go_wp2_with fail
      go_ret2; exact ⟨rfl, Below.refl _ _⟩
    · have h6 : 10000 < m := by omega
      have h0' : decide (m < 0) = false := by simp; omega
      clear h hn
      go_enter Tryd.func22, Tryd.ntmps22
      go_wp2_with fail
      refine (hP.out _).mono ?_; rintro e w' ⟨rfl, rfl⟩
      go_wp2_with fail
      go_ret2; exact ⟨rfl, Below.refl _ _⟩
  · rw [show (decide (2 ≤ n) && decide (n ≤ 12)) = false from by simp; omega] at hP
    clear h hn
    go_enter Tryd.func22, Tryd.ntmps22
    go_wp2_with fail
    refine (hP.out _).mono ?_; rintro e w' ⟨rfl, rfl⟩
    go_wp2_with fail
    go_ret2; exact ⟨rfl, Below.refl _ _⟩
set_option maxRecDepth 100000 in
theorem iCB_core (n N : Nat) (m R : Int) (ms : List Int) (w : World) (hT : TabOk w) (h0 : 0 ≤ m) (h6 : m ≤ 10000)
    (hP : Hid (∀ w, Calls Tryd.prog 44 #[.int .i64 n] w fun e w' => e = .returned (.bool true) ∧ w = w'))
    (hO : Hid (∀ w, TabOk w → Calls Tryd.prog 46 #[.int .i64 n] w fun e w' => e = .returned (.agg #[.int .i64 ((ctz (0) : Nat) : Int), .bool (onB (0)), .int .i64 ((n : Nat) : Int), .int .u64 ((0 : Nat) : Int)]) ∧ Below w.heap.size w w'))
    (hC : Hid (∀ gm B w, OwnI w B (.slice (some ⟨gm, 0, none⟩) N N) ms → Calls Tryd.prog 45 #[.slice (some ⟨gm, 0, none⟩) N N, .int .i64 m] w fun e w' => e = .returned (.int .i64 R) ∧ w = w'))
    (hS : Hid (∀ w, TabOk w → Calls Tryd.prog 40 #[(.agg #[.int .i64 ((ctz (0) : Nat) : Int), .bool (onB (0)), .int .i64 ((n : Nat) : Int), .int .u64 ((0 : Nat) : Int)])] w fun e w' => ∃ gm gw, e = .returned (.agg #[.int .i64 n, .slice (some ⟨gm, 0, none⟩) N N, .slice (some ⟨gw, 0, none⟩) N N]) ∧ OwnI w' w.heap.size (.slice (some ⟨gm, 0, none⟩) N N) ms ∧ Below w.heap.size w w')) :
    Calls Tryd.prog 22 #[.int .i64 n, .int .i64 m] w fun e w' => AnsI w R true e w' := by
  have hT := Lib.hid hT
  have hfd := tfield1
  have h0' : decide (m < 0) = false := by simp; omega
  have h6' : decide (10000 < m) = false := by simp; omega
  go_enter Tryd.func22, Tryd.ntmps22
  go_wp2_with fail
  refine (hP.out _).mono ?_; rintro e w1 ⟨rfl, rfl⟩
  go_wp2_with fail
  refine (hO.out _ hT.out).mono ?_; rintro e w1 ⟨rfl, hb1⟩
  have hT1 := Lib.hid (hT.out.below hb1)
  have hb1 := Lib.hid hb1
  go_wp2_with fail
  refine (hS.out _ hT1.out).mono ?_; rintro e w2 ⟨gm, gw, rfl, ho, hb2⟩
  have ho := Lib.hid ho
  have hb2 := Lib.hid hb2
  go_wp2_with fail
  refine (hC.out gm _ _ ho.out).mono ?_; rintro e w3 ⟨rfl, rfl⟩
  go_wp2_with fail
  go_ret2
  exact ⟨rfl, bt hb1.out hb2.out⟩
theorem iCB_yes (n : Nat) (m : Int) (w : World) (h2 : 2 ≤ n) (hn : n ≤ 12) (h0 : 0 ≤ m) (h6 : m ≤ 10000) (hT : TabOk w) : Calls Tryd.prog 22 #[.int .i64 n, .int .i64 m] w fun e w' => AnsI w (cnt (fdL n 0) m : Int) true e w' := by
  have hp := Nat.two_pow_pos n
  have hq : 2 ^ n ≤ 2 ^ 12 := Nat.pow_le_pow_right (by omega) hn
  rw [← cnt_eq]
  exact iCB_core n (2 ^ n) m _ (sdL n 0) w hT h0 h6 (Lib.hid fun w => by
    have := isPaired_any n w
    rw [show (decide (2 ≤ (n : Int)) && decide ((n : Int) ≤ 12)) = true from by simp; omega] at this; exact this) (Lib.hid fun w hw => barAllOff_any n w hw) (Lib.hid fun gm B w ho => countEqual_any gm _ B _ (sdL n 0) m w (by omega) (sdL_len n 0) ho) (Lib.hid fun w hw => sm_any n 0 w h2 hn hp hw)
theorem sCB_no (n m : Int) (w : World) (h : n < 2 ∨ 12 < n ∨ m < 0 ∨ 10000 < m) : Calls Tryd.prog 21 #[.int .i64 n, .int .i64 m] w fun e w' => AnsI w 0 false e w' := by
  have hP := Lib.hid fun w => twRings_any n w
  by_cases hn : 2 ≤ n ∧ n ≤ 12
  · rw [show (decide (2 ≤ n) && decide (n ≤ 12)) = true from by simp; omega] at hP
    go_enter Tryd.func21, Tryd.ntmps21
    go_wp2_with fail
    refine (hP.out _).mono ?_; rintro e w' ⟨rfl, rfl⟩
    go_wp2_with (go_at_call 42; refine (l1In_no _ _ _ _ (by omega)).mono ?_; rintro e w' ⟨rfl, rfl⟩)
    go_ret2; exact ⟨rfl, Below.refl _ _⟩
  · rw [show (decide (2 ≤ n) && decide (n ≤ 12)) = false from by simp; omega] at hP
    go_enter Tryd.func21, Tryd.ntmps21
    go_wp2_with fail
    refine (hP.out _).mono ?_; rintro e w' ⟨rfl, rfl⟩
    go_wp2_with fail
    go_ret2; exact ⟨rfl, Below.refl _ _⟩
theorem sCB_core (n N : Nat) (s0 : ByteArray) (m : Int) (ms : List Int) (w : World) (hN : N ≤ 4096) (h0 : 0 ≤ m) (h6 : m ≤ 10000) (hml : ms.length = N)
    (hP : Hid (∀ w, Calls Tryd.prog 41 #[.int .i64 n] w fun e w' => e = .returned (.bool true) ∧ w = w'))
    (hA0 : Hid (∀ w, Calls Tryd.prog 43 #[.int .i64 n, .string ⟨#[48]⟩] w fun e w' => e = .returned (.string s0) ∧ w = w'))
    (hS : Hid (∀ w, Calls Tryd.prog 37 #[.string s0] w fun e w' => ∃ gm gw, e = .returned (.tuple #[.slice (some ⟨gm, 0, none⟩) N N, .slice (some ⟨gw, 0, none⟩) N N]) ∧ OwnI w' w.heap.size (.slice (some ⟨gm, 0, none⟩) N N) ms ∧ Below w.heap.size w w')) :
    Calls Tryd.prog 21 #[.int .i64 n, .int .i64 m] w fun e w' => AnsI w (cnt ms m : Int) true e w' := by
  go_enter Tryd.func21, Tryd.ntmps21
  go_wp2_with fail
  refine (hP.out _).mono ?_; rintro e w1 ⟨rfl, rfl⟩
  go_wp2_with (go_at_call 42; refine (l1In_yes _ _ _ _ (by omega) (by omega)).mono ?_; rintro e w' ⟨rfl, rfl⟩)
  refine (hA0.out _).mono ?_; rintro e w1 ⟨rfl, rfl⟩
  go_wp2_with fail
  refine (hS.out _).mono ?_; rintro e w2 ⟨gm, gw, rfl, ho, hb2⟩
  have ho := Lib.hid ho
  have hb2 := Lib.hid hb2
  go_wp2_with fail
  go_loop [8, 27] (fun c i => ∃ k a : Nat, k ≤ N ∧ a ≤ k ∧ i = .int .i64 k ∧ c = .int .i64 (a : Int) ∧ Hid (cnt (ms.take k) m = a)) (fun _ i => N - (intOf i).toNat)
  case atStart => exact ⟨0, 0, by omega, by omega, rfl, rfl, Lib.hid rfl⟩
  case round =>
    obtain ⟨k, a, hk, hak, rfl, rfl, hc⟩ := hrel
    by_cases hlt : k < N
    · have hkm : k < ms.length := by rw [hml]; exact hlt
      have c0 := (ho.out.cell hml k hkm).1
      have hst := Lib.hid (cnt_take ms k m hkm)
      obtain ⟨d, hd⟩ : ∃ d, Hid (d = ms[k]) := ⟨_, Lib.hid rfl⟩
      rw [← hd.out, hc.out] at hst
      rw [← hd.out] at c0
      by_cases e : d = m
      · have h1 : (d == m) = true := by simp [e]
        have hst2 : Hid (cnt (ms.take (k + 1)) m = a + 1) := Lib.hid (by rw [hst.out, if_pos e])
        clear e
        go_wp2_with fail
        go_round
        case rel => exact ⟨k + 1, a + 1, by omega, by omega, by go_num, by go_num, hst2⟩
        all_goals (simp [intOf] <;> omega)
      · have h1 : (d == m) = false := by simp [e]
        have hst2 : Hid (cnt (ms.take (k + 1)) m = a) := Lib.hid (by rw [hst.out, if_neg e]; rfl)
        clear e
        go_wp2_with fail
        go_round
        case rel => exact ⟨k + 1, a, by omega, by omega, by go_num, rfl, hst2⟩
        all_goals (simp [intOf] <;> omega)
    · obtain rfl : N = k := by omega
      have HF : Hid (cnt ms m = a) := Lib.hid (by rw [← hc.out, List.take_of_length_le (by omega)])
      go_wp2_with fail
      go_ret2
      rw [HF.out]
      exact ⟨rfl, hb2.out⟩
theorem sCB_yes (n : Nat) (m : Int) (w : World) (h2 : 2 ≤ n) (hn : n ≤ 12) (h0 : 0 ≤ m) (h6 : m ≤ 10000) : Calls Tryd.prog 21 #[.int .i64 n, .int .i64 m] w fun e w' => AnsI w (cnt (fdL n 0) m : Int) true e w' := by
  have hp := Nat.two_pow_pos n
  have hq : 2 ^ n ≤ 2 ^ 12 := Nat.pow_le_pow_right (by omega) hn
  exact sCB_core n (2 ^ n) (ST n 0) m (fdL n 0) w (by omega) h0 h6 (fdL_len n 0) (Lib.hid fun w => by
    have := twRings_any n w
    rw [show (decide (2 ≤ (n : Int)) && decide ((n : Int) ≤ 12)) = true from by simp; omega] at this; exact this) (Lib.hid fun w => riAll0_any n w (by omega)) (Lib.hid fun w => fm_any n 0 w h2 hn hp)
end Go.Proofs.YtmbijomjilicgaaDoor
