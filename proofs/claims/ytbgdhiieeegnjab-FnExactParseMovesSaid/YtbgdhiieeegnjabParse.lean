/- Moves as letters, read. -/
import Derived.Test.YtbgdhiieeegnjabInts
import Derived.Test.YtbgdhiieeegnjabS1
namespace Go.Proofs.Ytbgdhiieeegnjab
open Go Go.RowKit RM

/-- a letter that tells a ring -/
def letB (c : UInt8) : Bool := decide (97 ≤ c.toNat) && decide (c.toNat < 117)
def letV (c : UInt8) : Int := (c.toNat : Int) - 97
theorem let_cases (c : UInt8) : (letB c = true ∧ 97 ≤ c.toNat ∧ c.toNat < 117) ∨ (letB c = false ∧ (c.toNat < 97 ∨ 117 ≤ c.toNat)) := by
  unfold letB
  by_cases h : 97 ≤ c.toNat ∧ c.toNat < 117
  · left; simp [h]
  · right; simp; omega
theorem at_take {α : Type} (s : ByteArray) (f : UInt8 → α) (k : Nat) (h : k < s.size) : (s.data.toList.take (k+1)).map f = (s.data.toList.take k).map f ++ [f s[k]] := by
  rw [List.take_succ_eq_append_getElem (by simpa using h), List.map_append]; rfl
theorem all_take' (s : ByteArray) (f : UInt8 → Bool) (k : Nat) (h : k < s.size) : (s.data.toList.take (k+1)).all f = ((s.data.toList.take k).all f && f s[k]) := by
  rw [List.take_succ_eq_append_getElem (by simpa using h), List.all_append]
  simp; rfl
theorem all_no (s : ByteArray) (f : UInt8 → Bool) (k : Nat) (h : k < s.size) (hf : f s[k] = false) : s.data.toList.all f = false := by
  rw [← Bool.not_eq_true]; intro ht
  rw [List.all_eq_true] at ht
  have := ht s[k] (by simp; exact Array.getElem_mem _)
  rw [hf] at this; cases this
/-- which texts are those of moves; the moves -/
def pmB (l : List UInt8) : Bool := decide (l.length ≤ 2000) && l.all letB
def pmV (l : List UInt8) : List Int := if pmB l then l.map letV else []

theorem pm_long (s : ByteArray) (h : 2000 < s.size) : pmB s.data.toList = false ∧ pmV s.data.toList = [] := by
  have e : pmB s.data.toList = false := by
    unfold pmB
    have : decide (s.data.toList.length ≤ 2000) = false := by simp; omega
    rw [this]; rfl
  exact ⟨e, by unfold pmV; rw [e]; rfl⟩
theorem pm_no (s : ByteArray) (k : Nat) (hk : k < s.size) (h : letB s[k] = false) : pmB s.data.toList = false ∧ pmV s.data.toList = [] := by
  have e : pmB s.data.toList = false := by unfold pmB; rw [all_no s letB k hk h]; simp
  exact ⟨e, by unfold pmV; rw [e]; rfl⟩
theorem pm_yes (s : ByteArray) (hs : s.size ≤ 2000) (h : s.data.toList.all letB = true) : pmB s.data.toList = true ∧ pmV s.data.toList = s.data.toList.map letV := by
  have e : pmB s.data.toList = true := by unfold pmB; rw [h]; simp; omega
  exact ⟨e, by unfold pmV; rw [e]; rfl⟩

theorem riParse_any (s : ByteArray) (w : World) :
    Calls Try.prog 34 #[.string s] w fun e w' => RetI w (pmV s.data.toList) (pmB s.data.toList) e w' := by
  by_cases hs : 2000 < s.size
  · have HP := Lib.hid (pm_long s hs)
    go_enter Try.func34, Try.ntmps34
    go_wp2
    go_ret2
    rw [HP.out.1, HP.out.2]
    exact ⟨_, rfl, OwnI.nil _ _, Below.refl _ _⟩
  · go_enter Try.func34, Try.ntmps34
    go_wp2
    go_loopw [4, 5] (fun o i wr => ∃ k : Nat, k ≤ s.size ∧ i = .int .i64 k ∧ Hid (OwnI wr w.heap.size o ((s.data.toList.take k).map letV)) ∧ Hid (Below w.heap.size w wr) ∧ Hid ((s.data.toList.take k).all letB = true)) (fun _ i _ => s.size - (intOf i).toNat)
    case atStart => exact ⟨0, Nat.zero_le _, rfl, OwnI.nil _ _, Below.refl _ _, rfl⟩
    case round =>
      obtain ⟨k, hk, rfl, ho, hb, ha⟩ := hrel
      by_cases hlt : k < s.size
      · have hat := Lib.hid (all_take' s letB k hlt)
        have hmt := Lib.hid (at_take s letV k hlt)
        have hu := UInt8.toNat_lt s[k]
        rcases let_cases s[k] with ⟨hc, h1, h2⟩ | ⟨hc, h1⟩
        · have HC := Lib.hid hc
          have hlen : Hid (((s.data.toList.take k).map letV).length ≤ 2000000) := Lib.hid (by simp; omega)
          clear hc
          go_wp2_with (first | (go_at_call 41; refine (l1In_yes _ _ _ _ (by omega) (by omega)).mono ?_; rintro e w' ⟨rfl, rfl⟩) | (at_builtin; refine app_int _ rfl _ _ rfl w.heap.size _ _ rfl (ho.out.alloc _) wr.heap.size _ rfl (by simp; rfl) hlen.out (by have := hb.out.size; simp; omega) ?_; intro v' w' ho' hg'))
          have ho2 := Lib.hid ho'
          have hg2 := Lib.hid hg'
          clear ho' hg'
          go_roundw
          case rel =>
            refine ⟨k + 1, by omega, by go_num, Lib.hid ?_, Lib.hid ?_, Lib.hid ?_⟩
            · rw [hmt.out]; exact ho2.out
            · exact bel_own (hb.out.alloc hb.out.size _) (ho.out.alloc _) hg2.out (by have := hb.out.size; simp; omega)
            · rw [hat.out, ha.out, HC.out]; rfl
          all_goals (simp [intOf] <;> omega)
        · have HP := Lib.hid (pm_no s k hlt hc)
          clear hc
          go_wp2_with (go_at_call 41; refine (l1In_no _ _ _ _ (by omega)).mono ?_; rintro e w' ⟨rfl, rfl⟩)
          go_ret2
          rw [HP.out.1, HP.out.2]
          exact ⟨_, rfl, OwnI.nil _ _, hb.out⟩
      · have HP := Lib.hid (pm_yes s (by omega) (by have := ha.out; rw [List.take_of_length_le (by simp; omega)] at this; exact this))
        have ho2 := ho.out
        rw [List.take_of_length_le (by simp; omega)] at ho2
        have ho2 := Lib.hid ho2
        go_wp2
        go_ret2
        rw [HP.out.1, HP.out.2]
        exact ⟨_, rfl, ho2.out, hb.out⟩

theorem isMoveCount_yes (n : Int) (w : World) (h : n ≤ 2000) : Calls Try.prog 33 #[.int .i64 n] w fun e w' => e = .returned (.bool true) ∧ w = w' := by
  go_enter Try.func33, Try.ntmps33
  go_wp2
  go_ret; exact ⟨rfl, rfl⟩

theorem isMoveCount_no (n : Int) (w : World) (h : 2000 < n) : Calls Try.prog 33 #[.int .i64 n] w fun e w' => e = .returned (.bool false) ∧ w = w' := by
  go_enter Try.func33, Try.ntmps33
  go_wp2
  go_ret; exact ⟨ret_bool (by simp; omega), rfl⟩

theorem iParse_any (s : ByteArray) (w : World) (hs0 : s.size ≤ maxLen) :
    Calls Try.prog 17 #[.string s] w fun e w' => RetI w (pmV s.data.toList) (pmB s.data.toList) e w' := by
  unfold maxLen at hs0
  by_cases hs : 2000 < s.size
  · have HP := Lib.hid (pm_long s hs)
    go_enter Try.func17, Try.ntmps17
    go_wp2_with (go_at_call 33; refine (isMoveCount_no _ _ (by omega)).mono ?_; rintro e w' ⟨rfl, rfl⟩)
    go_ret2
    rw [HP.out.1, HP.out.2]
    exact ⟨_, rfl, OwnI.nil _ _, Below.refl _ _⟩
  · go_enter Try.func17, Try.ntmps17
    go_wp2_with (first | (go_at_call 33; refine (isMoveCount_yes _ _ (by omega)).mono ?_; rintro e w' ⟨rfl, rfl⟩) | (at_make; refine make_int _ rfl _ _ rfl _ _ s.size rfl rfl (by omega) ?_; intro w1 hown1 hb1))
    have hown1 := Lib.hid hown1
    have hb1 := Lib.hid hb1
    go_loopw [15] (fun i wr => ∃ k : Nat, k ≤ s.size ∧ i = .int .i64 k ∧ Hid (OwnI wr w.heap.size (.slice (some ⟨w.heap.size, 0, none⟩) s.size s.size) ((s.data.toList.take k).map letV ++ List.replicate (s.size - k) 0)) ∧ Hid (Below w.heap.size w wr) ∧ Hid ((s.data.toList.take k).all letB = true)) (fun i _ => s.size - (intOf i).toNat)
    case atStart => exact ⟨0, Nat.zero_le _, rfl, Lib.hid (by simpa using hown1.out), hb1, rfl⟩
    case round =>
      obtain ⟨k, hk, rfl, ho, hb, ha⟩ := hrel
      clear hown1 hb1
      by_cases hlt : k < s.size
      · have hat := Lib.hid (all_take' s letB k hlt)
        have hmt := Lib.hid (at_take s letV k hlt)
        have hu := UInt8.toNat_lt s[k]
        have hlk : Hid (((s.data.toList.take k).map letV ++ List.replicate (s.size - k) 0).length = s.size) := Lib.hid (by simp; omega)
        have hsp : Hid (List.replicate (s.size - k) (0 : Int) = 0 :: List.replicate (s.size - (k + 1)) 0) := Lib.hid (by
          rw [show s.size - k = (s.size - (k + 1)) + 1 from by omega]; rfl)
        rcases let_cases s[k] with ⟨hc, h1, h2⟩ | ⟨hc, h1⟩
        · have HC := Lib.hid hc
          obtain ⟨hce, hfr⟩ := ho.out.cell hlk.out k (by rw [hlk.out]; exact hlt)
          obtain ⟨y, hy⟩ : ∃ y, y = ((s.data.toList.take k).map letV ++ List.replicate (s.size - k) 0)[k]'(by rw [hlk.out]; exact hlt) := ⟨_, rfl⟩
          rw [← hy] at hce
          clear hc hy
          go_wp2
          have hst := Lib.hid (ho.out.stored hlk.out k (letV s[k]))
          go_roundw
          case rel =>
            refine ⟨k + 1, by omega, by go_num, Lib.hid ?_, Lib.hid ?_, Lib.hid ?_⟩
            · have h3 := hst.out.1
              have hl : ((s.data.toList.take k).map letV).length = k := by simp; omega
              rw [hsp.out, List.set_append_right _ _ (by omega), hl, Nat.sub_self, List.set_cons_zero] at h3
              rw [hmt.out, List.append_assoc]; exact h3
            · exact hb.out.grown hst.out.2 hb.out.size (fun j e => by cases e; exact Nat.le_refl _)
            · rw [hat.out, ha.out, HC.out]; rfl
          all_goals (simp [intOf] <;> omega)
        · have HP := Lib.hid (pm_no s k hlt hc)
          clear hc
          rcases h1 with h1 | h1
          all_goals
            go_wp2
            go_ret2
            rw [HP.out.1, HP.out.2]
            exact ⟨_, rfl, OwnI.nil _ _, hb.out⟩
      · have HP := Lib.hid (pm_yes s (by omega) (by have := ha.out; rw [List.take_of_length_le (by simp; omega)] at this; exact this))
        obtain rfl : k = s.size := by omega
        have ho2 := ho.out
        rw [List.take_of_length_le (by simp)] at ho2
        simp only [Nat.sub_self, List.replicate_zero, List.append_nil] at ho2
        have ho2 := Lib.hid ho2
        go_wp2
        go_ret2
        rw [HP.out.1, HP.out.2]
        exact ⟨_, rfl, ho2.out, hb.out⟩

end Go.Proofs.Ytbgdhiieeegnjab
