/- Chapter 2: the text of the digits, both ways. -/
import Derived.Test.YtbgdhiieeegnjacDoorP2
import Derived.Test.YtbgdhiieeegnjacDoorK2
import Derived.Test.YtbgdhiieeegnjacDoorBytes
import Derived.Deep.RegionWith
namespace Go.Proofs.YtbgdhiieeegnjacDoor
open Go Go.RowKit RM

/-- the digits of a number, the greatest first -/
def RT (n g : Nat) : ByteArray := ⟨((tx n g).reverse).toArray⟩
theorem tx_drop (n g k : Nat) (h : k < n) : (tx n g).drop k = sgnB g k :: (tx n g).drop (k + 1) := by
  rw [List.drop_eq_getElem_cons (by rw [tx_len]; exact h), tx_get]; rfl
def RD (n g k : Nat) : ByteArray := ⟨(((tx n g).drop k).reverse).toArray⟩
theorem RD_end (n g : Nat) : RD n g n = ⟨#[]⟩ := by unfold RD; rw [List.drop_eq_nil_of_le (by rw [tx_len]; exact Nat.le_refl _)]; rfl
theorem RD_zero (n g : Nat) : RD n g 0 = RT n g := rfl
theorem RD_step (n g k : Nat) (h : k < n) : RD n g k = RD n g (k + 1) ++ ⟨#[sgnB g k]⟩ := by
  apply ba_ext
  rw [ba_app]
  show ((tx n g).drop k).reverse = ((tx n g).drop (k + 1)).reverse ++ [sgnB g k]
  rw [tx_drop n g k h, List.reverse_cons]
theorem RD_size (n g k : Nat) : (RD n g k).size = n - k := by
  show (((tx n g).drop k).reverse.toArray).size = n - k
  simp [tx_len]

theorem alloc_atP (w : World) (o : Obj) : (w.alloc o).heap[w.heap.size]? = some o := by
  show (w.heap.push o)[w.heap.size]? = some o
  exact Array.getElem?_push_size
theorem own_byte (w : World) (c : UInt8) : OwnB (w.alloc (.cells #[.int .u8 (c.toNat : Int)] 5)) w.heap.size (.slice (some ⟨w.heap.size, 0, none⟩) 1 1) [c] :=
  ⟨rfl, .inr ⟨_, 1, #[.int .u8 (c.toNat : Int)], rfl, Nat.le_refl _, alloc_atP _ _, Nat.le_refl _, by decide, rfl, rfl⟩⟩
theorem own_48 (w : World) : OwnB (w.alloc (.cells #[.int .u8 48] 5)) w.heap.size (.slice (some ⟨w.heap.size, 0, none⟩) 1 1) [48] := own_byte w 48
theorem own_49 (w : World) : OwnB (w.alloc (.cells #[.int .u8 49] 5)) w.heap.size (.slice (some ⟨w.heap.size, 0, none⟩) 1 1) [49] := own_byte w 49

theorem l1Num_zero (w : World) : Calls Tryd.prog 21 #[.int .i64 0] w fun e w' => e = .returned (.string ⟨#[48]⟩) ∧ Below w.heap.size w w' := by
  have hcv := str_byte _ _ _ _ 1 _ (own_48 w) rfl
  go_enter Tryd.func21, Tryd.ntmps21
  go_wp2
  go_ret; exact ⟨rfl, (Below.refl _ _).alloc (Nat.le_refl _) _⟩
theorem l1Num_one (w : World) : Calls Tryd.prog 21 #[.int .i64 1] w fun e w' => e = .returned (.string ⟨#[49]⟩) ∧ Below w.heap.size w w' := by
  have hcv := str_byte _ _ _ _ 1 _ (own_49 w) rfl
  go_enter Tryd.func21, Tryd.ntmps21
  go_wp2
  go_ret; exact ⟨rfl, (Below.refl _ _).alloc (Nat.le_refl _) _⟩
theorem l1Num_bit (g k : Nat) (w : World) : Calls Tryd.prog 21 #[.int .i64 ((bitN g k : Nat) : Int)] w fun e w' => e = .returned (.string ⟨#[sgnB g k]⟩) ∧ Below w.heap.size w w' := by
  unfold bitN sgnB
  cases g.testBit k
  · exact l1Num_zero w
  · exact l1Num_one w

/-- a text and whether there is one; nothing that was there is written -/
def QT (w : World) (s : ByteArray) (ok : Bool) (e : Ending) (w' : World) : Prop := e = .returned (.tuple #[.string s, .bool ok]) ∧ Below w.heap.size w w'

theorem sRText_no (n d : Int) (w : World) (h : n < 0 ∨ 1000000000000 < n) : Calls Tryd.prog 8 #[.int .i64 n, .int .i64 d] w fun e w' => QT w ⟨#[]⟩ false e w' := by
  have hR := Lib.hid fun w => nuIs_no n w h
  clear h
  go_enter Tryd.func8, Tryd.ntmps8
  go_wp2_with fail
  refine (hR.out _).mono ?_; rintro e w' ⟨rfl, rfl⟩
  go_wp2_with fail
  go_ret2; exact ⟨rfl, Below.refl _ _⟩

theorem sRText_digits (n : Nat) (d : Int) (w : World) (hn : n ≤ 1000000000000) (h : d < 1 ∨ 40 < d) : Calls Tryd.prog 8 #[.int .i64 n, .int .i64 d] w fun e w' => QT w ⟨#[]⟩ false e w' := by
  have hR := Lib.hid fun w => nuIs_yes n w (by omega) (by omega)
  have hL := Lib.hid fun w => l1In_no d 1 40 w h
  clear h
  go_enter Tryd.func8, Tryd.ntmps8
  go_wp2_with fail
  refine (hR.out _).mono ?_; rintro e w' ⟨rfl, rfl⟩
  go_wp2_with fail
  refine (hL.out _).mono ?_; rintro e w' ⟨rfl, rfl⟩
  go_wp2_with fail
  go_ret2; exact ⟨rfl, Below.refl _ _⟩

theorem sRText_more (n d : Nat) (w : World) (hn : n ≤ 1000000000000) (h1 : 1 ≤ d) (h2 : d ≤ 40) (h : 2 ^ d ≤ gray n) : Calls Tryd.prog 8 #[.int .i64 n, .int .i64 d] w fun e w' => QT w ⟨#[]⟩ false e w' := by
  have hR := Lib.hid fun w => nuIs_yes n w (by omega) (by omega)
  have hL := Lib.hid fun w => l1In_yes (d : Int) 1 40 w (by omega) (by omega)
  have hG := Lib.hid fun w => nuOf_any n w (by omega)
  have hq : 1 ≤ gray n / 2 ^ d := (Nat.le_div_iff_mul_le (Nat.two_pow_pos d)).2 (by omega)
  have e1 : ((gray n : Nat) : Int) / 2 ^ d = ((gray n / 2 ^ d : Nat) : Int) := by simp
  have hgl := gray40 n (by omega)
  generalize gray n / 2 ^ d = Q at *
  generalize gray n = g at *
  clear h
  go_enter Tryd.func8, Tryd.ntmps8
  go_wp2_with fail
  refine (hR.out _).mono ?_; rintro e w' ⟨rfl, rfl⟩
  go_wp2_with fail
  refine (hL.out _).mono ?_; rintro e w' ⟨rfl, rfl⟩
  go_wp2_with fail
  refine (hG.out _).mono ?_; rintro e w' ⟨rfl, rfl⟩
  go_wp2_with fail
  go_ret2; exact ⟨rfl, Below.refl _ _⟩

theorem sRText_yes (n d : Nat) (w : World) (hn : n ≤ 1000000000000) (h1 : 1 ≤ d) (h2 : d ≤ 40) (h : gray n < 2 ^ d) : Calls Tryd.prog 8 #[.int .i64 n, .int .i64 d] w fun e w' => QT w (RT d (gray n)) true e w' := by
  have hR := Lib.hid fun w => nuIs_yes n w (by omega) (by omega)
  have hL := Lib.hid fun w => l1In_yes (d : Int) 1 40 w (by omega) (by omega)
  have hG := Lib.hid fun w => nuOf_any n w (by omega)
  have e1 : ((gray n : Nat) : Int) / 2 ^ d = 0 := by
    have : gray n / 2 ^ d = 0 := Nat.div_eq_of_lt h
    rw [show ((gray n : Nat) : Int) / 2 ^ d = ((gray n / 2 ^ d : Nat) : Int) by simp, this]; rfl
  have hgl := gray40 n (by omega)
  generalize gray n = g at *
  clear h
  go_enter Tryd.func8, Tryd.ntmps8
  go_wp2_with fail
  refine (hR.out _).mono ?_; rintro e w' ⟨rfl, rfl⟩
  go_wp2_with fail
  refine (hL.out _).mono ?_; rintro e w' ⟨rfl, rfl⟩
  go_wp2_with fail
  refine (hG.out _).mono ?_; rintro e w' ⟨rfl, rfl⟩
  go_wp2_with fail
  clear e1
  go_loopw [6, 7] (fun o i wr => ∃ (j : Nat) (z : Int) (t : ByteArray), j ≤ d ∧ i = .int .i64 z ∧ z = (j : Int) - 1 ∧ o = .string t ∧ t.size ≤ 40 ∧ Hid (t = RD d g j) ∧ Hid (Below w.heap.size w wr)) (fun _ i _ => (intOf i + 1).toNat)
  case atStart => exact ⟨d, _, ⟨#[]⟩, by omega, rfl, rfl, rfl, by decide, (RD_end d g).symm, Below.refl _ _⟩
  case round =>
    obtain ⟨j, z, t, hj, rfl, hz, rfl, hts, ht, hb⟩ := hrel
    by_cases hlt : j = 0
    · subst hlt
      obtain rfl : z = -1 := by omega
      clear hz
      go_wp2_with fail
      go_ret2
      rw [ht.out, RD_zero]; exact ⟨rfl, hb.out⟩
    · obtain ⟨k, rfl⟩ : ∃ k, j = k + 1 := ⟨j - 1, by omega⟩
      obtain rfl : z = (k : Int) := by omega
      clear hz hlt
      have hbit := and_bit40 g k hgl
      have hN := Lib.hid fun w => l1Num_bit g k w
      have HS := Lib.hid (RD_step d g k (by omega))
      have hsz : (t ++ ⟨#[sgnB g k]⟩).size ≤ 40 := by
        rw [ht.out, ← HS.out, RD_size]; omega
      generalize sgnB g k = c at *
      generalize bitN g k = b at *
      go_wp2_with fail
      refine (hG.out _).mono ?_; rintro e w' ⟨rfl, rfl⟩
      go_wp2_with fail
      refine (hN.out _).mono ?_; rintro e w2 ⟨rfl, hb2⟩
      have hb2 := Lib.hid hb2
      go_wp2_with fail
      go_roundw
      case rel => exact ⟨k, _, t ++ ⟨#[c]⟩, by omega, rfl, by go_num, rfl, hsz, Lib.hid (by rw [HS.out, ← ht.out]), Lib.hid (hb.out.trans (hb2.out.mono hb.out.size))⟩
      all_goals (simp [intOf] <;> omega)
end Go.Proofs.YtbgdhiieeegnjacDoor
