/- The moves that clear a bar; how many states need so many moves: both ways. -/
import Derived.Test.YtmbijomjilicgabDoorB8
namespace Go.Proofs.YtmbijomjilicgabDoor
open Go Go.RowKit RM

theorem barAllOff_any (n : Nat) (w : World) (hT : TabOk w) : Calls Tryd.prog 46 #[.int .i64 n] w fun e w' => e = .returned (.agg #[.int .i64 ((ctz (0) : Nat) : Int), .bool (onB (0)), .int .i64 ((n : Nat) : Int), .int .u64 ((0 : Nat) : Int)]) ∧ Below w.heap.size w w' := by
  have hT := Lib.hid hT
  have hC := Lib.hid fun w hw => newBar_any n 0 w (by omega) hw
  have e0 : (((0 : Nat) : Int)) = 0 := rfl
  rw [e0] at hC
  go_enter Tryd.func46, Tryd.ntmps46
  go_wp2_with fail
  refine (hC.out _ ?_).mono ?_
  · repeat (first | exact hT.out | apply TabOk.alloc | apply TabOk.drew | apply TabOk.drewN)
  rintro e w' ⟨rfl, hb⟩
  obtain ⟨hc, hf⟩ := bcell hb
  go_wp2_with fail
  refine bodyPost_ret (v := (.agg #[.int .i64 ((ctz (0) : Nat) : Int), .bool (onB (0)), .int .i64 ((n : Nat) : Int), .int .u64 ((0 : Nat) : Int)])) ?_ rfl ⟨rfl, ?_⟩
  · simp [results, Tryd.results46, go_sem, hc]
  · refine Below.setCell (Below.setCell (Below.setCell (Below.setCell ?_ (by simp) _) (by simp) _) (by simp) _) (by simp) _
    refine Below.trans ?_ (hb.mono (by simp))
    repeat (first | exact Below.refl _ _ | (refine Below.drew ?_) | (refine Below.alloc ?_ (by simp) _))
theorem riAll0_any (n : Nat) (w : World) (hn : n ≤ 20) :
    Calls Tryd.prog 44 #[.int .i64 n, .string ⟨#[48]⟩] w fun e w' => e = .returned (.string (ST n 0)) ∧ w = w' := by
  have HB : Hid (∀ k, k < n → ST k 0 ++ ⟨#[48]⟩ = ST (k + 1) 0) := Lib.hid fun k h => ST_snoc0 k _ (by simp)
  obtain ⟨X, hX⟩ : ∃ X, Hid (X = 0) := ⟨_, Lib.hid rfl⟩
  have HB : Hid (∀ k, k < n → ST k X ++ ⟨#[48]⟩ = ST (k + 1) X) := Lib.hid (by rw [hX.out]; exact HB.out)
  have HZ : Hid (ST 0 X = ⟨#[]⟩) := Lib.hid rfl
  rw [show ST n 0 = ST n X from by rw [hX.out]]
  go_enter Tryd.func44, Tryd.ntmps44
  go_wp2
  go_loop [0, 5] (fun i o => ∃ k : Nat, k ≤ n ∧ i = .int .i64 ((n : Int) - k) ∧ o = .string (ST k X)) (fun i _ => (intOf i).toNat)
  case atStart => exact ⟨0, by omega, vi (by omega), vs HZ.out.symm⟩
  case round =>
    obtain ⟨k, hk, rfl, rfl⟩ := hrel
    have hsz : (ST k X).size ≤ 20 := by rw [ST_size]; omega
    by_cases h : k < n
    · have HS := Lib.hid (HB.out k h)
      go_wp2
      go_round
      case rel => exact ⟨k + 1, by omega, vi (by omega), vs HS.out⟩
      all_goals (simp [intOf] <;> omega)
    · obtain rfl : k = n := by omega
      go_wp2
      go_ret; exact ⟨rfl, rfl⟩
theorem twRings_any (n : Int) (w : World) : Calls Tryd.prog 43 #[.int .i64 n] w fun e w' => e = .returned (.bool (decide (2 ≤ n) && decide (n ≤ 12))) ∧ w = w' := by
  by_cases h : 2 ≤ n ∧ n ≤ 12
  · have e : (decide (2 ≤ n) && decide (n ≤ 12)) = true := by simp; omega
    rw [e]
    go_enter Tryd.func43, Tryd.ntmps43
    go_wp2_with (go_at_call 42; refine (l1In_yes _ _ _ _ (by omega) (by omega)).mono ?_; rintro e w' ⟨rfl, rfl⟩)
    go_ret; exact ⟨rfl, rfl⟩
  · have e : (decide (2 ≤ n) && decide (n ≤ 12)) = false := by simp; omega
    rw [e]
    go_enter Tryd.func43, Tryd.ntmps43
    go_wp2_with (go_at_call 42; refine (l1In_no _ _ _ _ (by omega)).mono ?_; rintro e w' ⟨rfl, rfl⟩)
    go_ret; exact ⟨rfl, rfl⟩
theorem rings2_cases (n : Int) : (n < 2 ∨ 12 < n) ∨ ∃ m : Nat, n = (m : Int) ∧ 2 ≤ m ∧ m ≤ 12 := by
  by_cases h : n < 2 ∨ 12 < n
  · exact .inl h
  · exact .inr ⟨n.toNat, by omega, by omega, by omega⟩
set_option maxRecDepth 100000 in
theorem tfieldB (a b c d : Value) (w : World) : (Instr.field 50 (.agg #[a, b, c, d]) 2).run Tryd.prog w = .ok d w := by
  first | rfl | simp [go_sem]

/-- how often a number stands in a row -/
def cnt (l : List Int) (m : Int) : Nat := (l.filter (· == m)).length
theorem cnt_snoc (l : List Int) (a m : Int) : cnt (l ++ [a]) m = cnt l m + (if a = m then 1 else 0) := by
  unfold cnt
  rw [List.filter_append, List.length_append]
  by_cases h : a = m
  · simp [h]
  · simp [h]
theorem nodup_sub : ∀ (Q R : List Nat), Q.Nodup → (∀ z, z ∈ Q → z ∈ R) → Q.length ≤ R.length := by
  intro Q
  induction Q with
  | nil => intro R _ _; simp
  | cons a Q ih =>
    intro R hn hs
    have ha : a ∈ R := hs a (by simp)
    have h1 := ih (R.erase a) (List.nodup_cons.1 hn).2 (fun z hz => by
      have hne : z ≠ a := by intro e; subst e; exact (List.nodup_cons.1 hn).1 hz
      exact (List.mem_erase_of_ne hne).2 (hs z (by simp [hz])))
    have h2 := List.length_erase_of_mem ha
    have : 0 < R.length := List.length_pos_of_mem ha
    simp; omega
theorem filter_num (N : Nat) (P : Nat → Bool) (f g : Nat → Nat) (hf : ∀ y, y < N → f y < N) (hi : ∀ a b, f a = f b → a = b) (hg : ∀ y, y < N → g y < N) (hfg : ∀ y, f (g y) = y) :
    ((List.range N).filter fun y => P (f y)).length = ((List.range N).filter P).length := by
  apply Nat.le_antisymm
  · have h := nodup_sub (((List.range N).filter fun y => P (f y)).map f) ((List.range N).filter P) ?_ ?_
    · simpa using h
    · rw [List.Nodup, List.pairwise_map]
      exact List.Pairwise.imp (fun hab e => hab (hi _ _ e)) (List.Pairwise.filter _ List.nodup_range)
    · intro z hz
      simp at hz
      obtain ⟨y, ⟨hy, hp⟩, rfl⟩ := hz
      simp; exact ⟨hf y hy, hp⟩
  · have h := nodup_sub (((List.range N).filter P).map g) ((List.range N).filter fun y => P (f y)) ?_ ?_
    · simpa using h
    · rw [List.Nodup, List.pairwise_map]
      exact List.Pairwise.imp (fun hab e => hab (by have := congrArg f e; rw [hfg, hfg] at this; exact this)) (List.Pairwise.filter _ List.nodup_range)
    · intro z hz
      simp at hz
      obtain ⟨y, ⟨hy, hp⟩, rfl⟩ := hz
      simp; exact ⟨hg y hy, by rw [hfg]; exact hp⟩
theorem cnt_eq (n : Nat) (m : Int) : cnt (sdL n 0) m = cnt (fdL n 0) m := by
  unfold cnt sdL fdL
  rw [List.filter_map, List.filter_map, List.length_map, List.length_map]
  exact filter_num (2 ^ n) (fun i => ((dd (num 0) i : Int) == m)) num gray (fun y hy => num_lt n y hy) (fun _ _ h => num_inj h) (fun y hy => gray_lt n y hy) num_gray
theorem cnt_take (l : List Int) (k : Nat) (m : Int) (h : k < l.length) : cnt (l.take (k + 1)) m = cnt (l.take k) m + (if l[k] = m then 1 else 0) := by
  rw [List.take_succ_eq_append_getElem h, cnt_snoc]
theorem cnt_le (l : List Int) (m : Int) : cnt l m ≤ l.length := List.length_filter_le _ _

theorem countEqual_any (gm cap B N : Nat) (ms : List Int) (m : Int) (w : World) (hN : N ≤ 4096) (hml : ms.length = N) (ho : OwnI w B (.slice (some ⟨gm, 0, none⟩) N cap) ms) :
    Calls Tryd.prog 32 #[.slice (some ⟨gm, 0, none⟩) N cap, .int .i64 m] w fun e w' => e = .returned (.int .i64 (cnt ms m : Int)) ∧ w = w' := by
  have ho := Lib.hid ho
  go_enter Tryd.func32, Tryd.ntmps32
  go_wp2_with fail
  go_loop [5, 10] (fun c i => ∃ k a : Nat, k ≤ N ∧ a ≤ k ∧ i = .int .i64 k ∧ c = .int .i64 (a : Int) ∧ Hid (cnt (ms.take k) m = a)) (fun _ i => N - (intOf i).toNat)
  case atStart => exact ⟨0, 0, by omega, by omega, rfl, rfl, Lib.hid rfl⟩
  case round =>
    obtain ⟨k, a, hk, hak, rfl, rfl, hc⟩ := hrel
    by_cases hlt : k < N
    · have hkm : k < ms.length := by rw [hml]; exact hlt
      have c0 := (ho.out.cell hml k hkm).1
      have hst := Lib.hid (cnt_take ms k m hkm)
      obtain ⟨d, hd⟩ : ∃ d, Hid (d = ms[k]) := ⟨_, Lib.hid rfl⟩
      rw [← hd.out, hc.out] at hst
      rw [← hd.out] at c0
      by_cases e : d = m
      · have h1 : (d == m) = true := by simp [e]
        have hst2 : Hid (cnt (ms.take (k + 1)) m = a + 1) := Lib.hid (by rw [hst.out, if_pos e])
        clear e
        go_wp2_with fail
        go_round
        case rel => exact ⟨k + 1, a + 1, by omega, by omega, by go_num, by go_num, hst2⟩
        all_goals (simp [intOf] <;> omega)
      · have h1 : (d == m) = false := by simp [e]
        have hst2 : Hid (cnt (ms.take (k + 1)) m = a) := Lib.hid (by rw [hst.out, if_neg e]; rfl)
        clear e
        go_wp2_with fail
        go_round
        case rel => exact ⟨k + 1, a, by omega, by omega, by go_num, rfl, hst2⟩
        all_goals (simp [intOf] <;> omega)
    · obtain rfl : N = k := by omega
      have HF : Hid (cnt ms m = a) := Lib.hid (by rw [← hc.out, List.take_of_length_le (by omega)])
      go_wp2_with fail
      go_ret; exact ⟨ret_int (by rw [HF.out]), rfl⟩
end Go.Proofs.YtmbijomjilicgabDoor
