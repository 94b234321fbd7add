/- Chapter 2: texts of digits, read; how many choices there are; both ways. -/
import Derived.Test.YtbgdhiieeegnjacK1
import Derived.Test.YtbgdhiieeegnjacI0
import Derived.Test.YtbgdhiieeegnjacC3
import Derived.Lib.OthersKept
namespace Go.Proofs.Ytbgdhiieeegnjac
open Go Go.RowKit RM

/-- which texts are those of digits -/
def dtB (l : List UInt8) : Bool := decide (1 ≤ l.length) && decide (l.length ≤ 40) && okB l
theorem dt_len (s : ByteArray) (h : s.size < 1 ∨ 40 < s.size) : dtB s.data.toList = false := by
  unfold dtB
  have : (decide (1 ≤ s.data.toList.length) && decide (s.data.toList.length ≤ 40)) = false := by simp; omega
  rw [this]; rfl
theorem dt_no (s : ByteArray) (h : okB s.data.toList = false) : dtB s.data.toList = false := by unfold dtB; rw [h]; simp
theorem dt_yes (s : ByteArray) (h1 : 1 ≤ s.size) (h2 : s.size ≤ 40) (h : okB s.data.toList = true) : dtB s.data.toList = true := by
  unfold dtB; rw [h]; simp; omega

theorem isDigits_yes (n : Int) (w : World) (h1 : 1 ≤ n) (h2 : n ≤ 40) : Calls Try.prog 36 #[.int .i64 n] w fun e w' => e = .returned (.bool true) ∧ w = w' := by
  go_enter Try.func36, Try.ntmps36
  go_wp2
  go_ret; exact ⟨rfl, rfl⟩

theorem isDigits_no (n : Int) (w : World) (h : n < 1 ∨ 40 < n) : Calls Try.prog 36 #[.int .i64 n] w fun e w' => e = .returned (.bool false) ∧ w = w' := by
  by_cases h1 : n < 1
  · clear h
    go_enter Try.func36, Try.ntmps36
    go_wp2
    go_ret; exact ⟨rfl, rfl⟩
  · have h2 : 40 < n := by omega
    clear h
    go_enter Try.func36, Try.ntmps36
    go_wp2
    go_ret; exact ⟨ret_bool (by simp; omega), rfl⟩

theorem iRankT_no (s : ByteArray) (w : World) (hs : s.size ≤ 2000000) (h : dtB s.data.toList = false) :
    Calls Try.prog 13 #[.string s] w fun e w' => QB0 w 0 false e w' := by
  by_cases hl : s.size < 1 ∨ 40 < s.size
  · have hD := Lib.hid fun w => isDigits_no (s.size : Int) w (by omega)
    clear hl h
    go_enter Try.func13, Try.ntmps13
    go_wp2_with fail
    refine (hD.out _).mono ?_; rintro e w' ⟨rfl, rfl⟩
    go_wp2_with fail
    go_ret2; exact ⟨rfl, Below.refl _ _⟩
  · have hD := Lib.hid fun w => isDigits_yes (s.size : Int) w (by omega) (by omega)
    have hO := Lib.hid fun w => onlySigns_any s w hs
    have ho : okB s.data.toList = false := by
      cases e : okB s.data.toList
      · rfl
      · rw [dt_yes s (by omega) (by omega) e] at h; cases h
    rw [ho] at hO
    clear hl h ho
    go_enter Try.func13, Try.ntmps13
    go_wp2_with fail
    refine (hD.out _).mono ?_; rintro e w' ⟨rfl, rfl⟩
    go_wp2_with fail
    refine (hO.out _).mono ?_; rintro e w' ⟨rfl, rfl⟩
    go_wp2_with fail
    go_ret2; exact ⟨rfl, Below.refl _ _⟩

theorem iRankT_yes (s : ByteArray) (w : World) (h1 : 1 ≤ s.size) (h2 : s.size ≤ 40) (h : okB s.data.toList = true) :
    Calls Try.prog 13 #[.string s] w fun e w' => QB0 w ((num (dg s.data.toList) : Nat) : Int) true e w' := by
  have hD := Lib.hid fun w => isDigits_yes (s.size : Int) w (by omega) (by omega)
  have hO := Lib.hid fun w => onlySigns_any s w (by omega)
  rw [h] at hO
  have hall := Lib.hid h
  clear h
  go_enter Try.func13, Try.ntmps13
  go_wp2_with fail
  refine (hD.out _).mono ?_; rintro e w' ⟨rfl, rfl⟩
  go_wp2_with fail
  refine (hO.out _).mono ?_; rintro e w' ⟨rfl, rfl⟩
  go_wp2_with fail
  go_loop [4, 17] (fun g i => ∃ k m : Nat, k ≤ s.size ∧ i = .int .i64 k ∧ g = .int .i64 m ∧ m < 1099511627776 ∧ Hid (dg (s.data.toList.take k) = m)) (fun _ i => s.size - (intOf i).toNat)
  case atStart => exact ⟨0, 0, Nat.zero_le _, rfl, rfl, by omega, rfl⟩
  case round =>
    obtain ⟨k, m, hk, rfl, rfl, hm, hd⟩ := hrel
    by_cases hlt : k < s.size
    · have hat := Lib.hid (dg_take s k hlt)
      have hbd := dg_take_lt s.data.toList (k + 1) (by omega)
      rw [hat.out, hd.out] at hbd
      have hc : okc s[k] = true := by
        have := hall.out
        unfold okB at this
        rw [List.all_eq_true] at this
        exact this s[k] (by simp; exact Array.getElem_mem _)
      rcases sign_cases s[k] with ⟨-, h8, -, -⟩ | ⟨-, h8, -, -⟩ | ⟨hf, -, -⟩
      · have hne : ¬ s[k] = 49 := by intro e; rw [e] at h8; simp at h8
        have HX : Hid (dg (s.data.toList.take (k + 1)) = 2 * m) := Lib.hid (by rw [hat.out, hd.out, if_neg hne]; rfl)
        have h8' : ((s[k].toNat : Nat) : Int) = 48 := by omega
        rw [if_neg hne] at hbd
        clear hne h8 hc
        go_wp2
        go_round
        case rel => exact ⟨k + 1, 2 * m, by omega, by go_num, by go_num, by omega, HX⟩
        all_goals (simp [intOf] <;> omega)
      · have hne : s[k] = 49 := by rw [← UInt8.toNat_inj]; exact h8
        have HX : Hid (dg (s.data.toList.take (k + 1)) = 2 * m + 1) := Lib.hid (by rw [hat.out, hd.out, if_pos hne])
        have h8' : ((s[k].toNat : Nat) : Int) = 49 := by omega
        rw [if_pos hne] at hbd
        clear hne h8 hc
        go_wp2
        go_round
        case rel => exact ⟨k + 1, 2 * m + 1, by omega, by go_num, by go_num, by omega, HX⟩
        all_goals (simp [intOf] <;> omega)
      · rw [hf] at hc; cases hc
    · have HF : Hid (dg s.data.toList = m) := Lib.hid (by
        have := hd.out; rw [List.take_of_length_le (by simp; omega)] at this; exact this)
      have hU := Lib.hid fun w => unreflected_any m w hm
      go_wp2_with fail
      refine (hU.out _).mono ?_; rintro e w' ⟨rfl, rfl⟩
      go_wp2_with fail
      go_ret2
      rw [HF.out]
      exact ⟨rfl, Below.refl _ _⟩

theorem sRankT_len (s : ByteArray) (w : World) (h : s.size < 1 ∨ 40 < s.size) :
    Calls Try.prog 12 #[.string s] w fun e w' => QB0 w 0 false e w' := by
  have hD := Lib.hid fun w => l1In_no (s.size : Int) 1 40 w (by omega)
  clear h
  go_enter Try.func12, Try.ntmps12
  go_wp2_with fail
  refine (hD.out _).mono ?_; rintro e w' ⟨rfl, rfl⟩
  go_wp2_with fail
  go_ret2; exact ⟨rfl, Below.refl _ _⟩

theorem sRankT_core (s : ByteArray) (w : World) (r : Int) (ok : Bool) (h1 : 1 ≤ s.size) (h2 : s.size ≤ 40)
    (hno : Hid (okB s.data.toList = false → r = 0 ∧ ok = false)) (hyes : Hid (okB s.data.toList = true → r = ((num (dg s.data.toList) : Nat) : Int) ∧ ok = true)) :
    Calls Try.prog 12 #[.string s] w fun e w' => QB0 w r ok e w' := by
  have hD := Lib.hid fun w => l1In_yes (s.size : Int) 1 40 w (by omega) (by omega)
  go_enter Try.func12, Try.ntmps12
  go_wp2_with fail
  refine (hD.out _).mono ?_; rintro e w' ⟨rfl, rfl⟩
  go_wp2_with fail
  go_loopw [4] (fun o wr => ∃ k m : Nat, k ≤ s.size ∧ wr.heap[w.heap.size]? = some (.stringIter s k) ∧ o = .int .i64 m ∧ m < 1099511627776 ∧ Hid (dg (s.data.toList.take k) = m) ∧ Hid (okB (s.data.toList.take k) = true) ∧ Hid (Below w.heap.size w wr)) (fun _ wr => s.size - wr.iterPos w.heap.size)
  case atStart => exact ⟨0, 0, Nat.zero_le _, World.iter_heap w s 0, rfl, by omega, rfl, rfl, Lib.hid ((Below.refl _ _).alloc (Nat.le_refl _) _)⟩
  case round =>
    obtain ⟨k, m, hk, hit, rfl, hm, hd, ha, hb⟩ := hrel
    have hlt0 := lt_of_block hit
    have hpos : wr.iterPos w.heap.size = k := iterPos_of hit
    by_cases hlt : k < s.size
    · have hat := Lib.hid (dg_take s k hlt)
      have hatk : Hid (okB (s.data.toList.take (k+1)) = (okB (s.data.toList.take k) && okc s[k])) := Lib.hid (all_take s k hlt)
      have hbd := dg_take_lt s.data.toList (k + 1) (by omega)
      rw [hat.out, hd.out] at hbd
      have hnx0 := fun ty => Lib.run_next_any_at (P := Try.prog) wr w.heap.size s k ty hit hlt
      rcases sign_cases s[k] with ⟨hc, h8, h9, -⟩ | ⟨hc, h8, h9, h10⟩ | ⟨hf, h9, h10⟩
      · have hne : ¬ s[k] = 49 := by intro e; rw [e] at h8; simp at h8
        have hnx : ∀ ty, (Instr.next (.pointer (some ⟨w.heap.size, 0, none⟩)) true ty).run Try.prog wr = .ok (.tuple #[.bool true, .int .i64 (k : Int), .int .i32 (s[k].toNat : Int)]) (wr.iterAt w.heap.size s (k + 1)) := fun ty => by
          have := hnx0 ty
          rw [decode_ascii s k hlt (by omega)] at this; exact this
        clear hnx0
        have HX : Hid (dg (s.data.toList.take (k + 1)) = 2 * m) := Lib.hid (by rw [hat.out, hd.out, if_neg hne]; rfl)
        have HA : Hid (okB (s.data.toList.take (k + 1)) = true) := Lib.hid (by rw [hatk.out, ha.out, hc]; rfl)
        have h8' : ((s[k].toNat : Nat) : Int) = 48 := by omega
        rw [if_neg hne] at hbd
        have hit2 := Lib.iterAt_heap wr w.heap.size s k (k + 1) hit
        have hb2 := Lib.hid (Lib.below_iterAt hb.out (k := w.heap.size) (Nat.le_refl _) s (k + 1))
        obtain ⟨W1, hW1⟩ : ∃ W1, W1 = wr.iterAt w.heap.size s (k + 1) := ⟨_, rfl⟩
        rw [← hW1] at hnx hit2 hb2
        have hpos2 : W1.iterPos w.heap.size = k + 1 := iterPos_of hit2
        clear hW1 hit hb hne h8 hc h9
        go_wp2
        go_roundw
        case rel => exact ⟨k + 1, 2 * m, by omega, hit2, by go_num, by omega, HX, HA, hb2⟩
        case measure => rw [hpos, hpos2]; omega
      · have hne : s[k] = 49 := by rw [← UInt8.toNat_inj]; exact h8
        have hnx : ∀ ty, (Instr.next (.pointer (some ⟨w.heap.size, 0, none⟩)) true ty).run Try.prog wr = .ok (.tuple #[.bool true, .int .i64 (k : Int), .int .i32 (s[k].toNat : Int)]) (wr.iterAt w.heap.size s (k + 1)) := fun ty => by
          have := hnx0 ty
          rw [decode_ascii s k hlt (by omega)] at this; exact this
        clear hnx0
        have HX : Hid (dg (s.data.toList.take (k + 1)) = 2 * m + 1) := Lib.hid (by rw [hat.out, hd.out, if_pos hne])
        have HA : Hid (okB (s.data.toList.take (k + 1)) = true) := Lib.hid (by rw [hatk.out, ha.out, hc]; rfl)
        have h8' : ((s[k].toNat : Nat) : Int) = 49 := by omega
        rw [if_pos hne] at hbd
        have hit2 := Lib.iterAt_heap wr w.heap.size s k (k + 1) hit
        have hb2 := Lib.hid (Lib.below_iterAt hb.out (k := w.heap.size) (Nat.le_refl _) s (k + 1))
        obtain ⟨W1, hW1⟩ : ∃ W1, W1 = wr.iterAt w.heap.size s (k + 1) := ⟨_, rfl⟩
        rw [← hW1] at hnx hit2 hb2
        have hpos2 : W1.iterPos w.heap.size = k + 1 := iterPos_of hit2
        clear hW1 hit hb hne h8 hc h9 h10
        go_wp2
        go_roundw
        case rel => exact ⟨k + 1, 2 * m + 1, by omega, hit2, by go_num, by omega, HX, HA, hb2⟩
        case measure => rw [hpos, hpos2]; omega
      · have HF := Lib.hid (hno.out (signs_no s k hlt hf))
        have hb2 := Lib.hid fun p => Lib.below_iterAt hb.out (k := w.heap.size) (Nat.le_refl _) s p
        clear hb hf
        go_wp2
        go_ret2
        rw [HF.out.1, HF.out.2]
        exact ⟨rfl, hb2.out _⟩
    · obtain rfl : k = s.size := by omega
      have hnx : ∀ ty, (Instr.next (.pointer (some ⟨w.heap.size, 0, none⟩)) true ty).run Try.prog wr = .ok (.tuple #[.bool false]) wr := fun ty => Lib.run_next_end_at (P := Try.prog) wr w.heap.size s _ ty hit hlt
      have e1 : s.data.toList.take s.size = s.data.toList := List.take_of_length_le (by simp)
      have HF := Lib.hid (hyes.out (by have := ha.out; rw [e1] at this; exact this))
      have HD : Hid (dg s.data.toList = m) := Lib.hid (by have := hd.out; rw [e1] at this; exact this)
      have hU := Lib.hid fun w => nuBack_any m w hm
      clear e1
      go_wp2_with fail
      refine (hU.out _).mono ?_; rintro e w' ⟨rfl, rfl⟩
      go_wp2_with fail
      go_ret2
      rw [HF.out.1, HF.out.2, HD.out]
      exact ⟨rfl, hb.out⟩

/-- a text of digits, or none: what both say -/
theorem rankT_both (s : ByteArray) (hs : s.size ≤ 2000000) : ∃ r ok, (∀ w, Calls Try.prog 12 #[.string s] w fun e w' => QB0 w r ok e w') ∧ (∀ w, Calls Try.prog 13 #[.string s] w fun e w' => QB0 w r ok e w') := by
  by_cases hl : s.size < 1 ∨ 40 < s.size
  · exact ⟨0, false, fun w => sRankT_len s w hl, fun w => iRankT_no s w hs (dt_len s hl)⟩
  · cases h : okB s.data.toList
    · exact ⟨0, false, fun w => sRankT_core s w _ _ (by omega) (by omega) (Lib.hid fun _ => ⟨rfl, rfl⟩) (Lib.hid fun e => by rw [h] at e; cases e), fun w => iRankT_no s w hs (dt_no s h)⟩
    · exact ⟨_, true, fun w => sRankT_core s w _ _ (by omega) (by omega) (Lib.hid fun e => by rw [h] at e; cases e) (Lib.hid fun _ => ⟨rfl, rfl⟩), fun w => iRankT_yes s w (by omega) (by omega) h⟩
end Go.Proofs.Ytbgdhiieeegnjac
