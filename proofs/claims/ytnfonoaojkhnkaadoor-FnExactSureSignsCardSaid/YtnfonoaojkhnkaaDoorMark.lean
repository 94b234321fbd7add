/- The law's marks of texts. -/
import Derived.Test.YtnfonoaojkhnkaaDoorInts
import Derived.Test.YtnfonoaojkhnkaaDoorBytes
namespace Go.Proofs.YtnfonoaojkhnkaaDoor
open Go Go.RowKit RM

/-- the last digit -/
def dig1 (j : Nat) : UInt8 := UInt8.ofNat (48 + j % 10)
/-- the digits of a number, none of 0 -/
def digs (k : Nat) : List UInt8 := if _h : k = 0 then [] else digs (k / 10) ++ [dig1 k]
termination_by k
decreasing_by omega
theorem digs_zero : digs 0 = [] := by rw [digs]; simp
theorem digs_pos (k : Nat) (h : k ≠ 0) : digs k = digs (k / 10) ++ [dig1 k] := by rw [digs]; simp [h]
theorem digs_len (e : Nat) : ∀ k, k < 10 ^ e → (digs k).length ≤ e := by
  induction e with
  | zero => intro k h; obtain rfl : k = 0 := by simpa using h
            rw [digs_zero]; simp
  | succ e ih =>
    intro k h
    by_cases h0 : k = 0
    · subst h0; rw [digs_zero]; simp
    · rw [digs_pos k h0, List.length_append]
      have := ih (k / 10) (by rw [Nat.pow_succ] at h; omega)
      simp; omega
theorem alloc_atM (w : World) (o : Obj) : (w.alloc o).heap[w.heap.size]? = some o := by
  show (w.heap.push o)[w.heap.size]? = some o
  exact Array.getElem?_push_size
theorem own_digit (w : World) (j : Nat) : OwnB (w.alloc (.cells #[.int .u8 (48 + (j : Int) % 10)] 5)) w.heap.size (.slice (some ⟨w.heap.size, 0, none⟩) 1 1) [dig1 j] := by
  refine ⟨rfl, .inr ⟨_, 1, #[.int .u8 (48 + (j : Int) % 10)], rfl, Nat.le_refl _, alloc_atM _ _, Nat.le_refl _, by decide, rfl, ?_⟩⟩
  have e : ((dig1 j).toNat : Int) = 48 + (j : Int) % 10 := by
    unfold dig1; rw [UInt8.toNat_ofNat']; omega
  show [Value.int .u8 (48 + (j : Int) % 10)] = [Value.int .u8 ((dig1 j).toNat : Int)]
  rw [e]
/-- the text that marks an element -/
def mkT (k : Nat) : ByteArray := ⟨(109 :: digs k).toArray⟩
set_option maxRecDepth 100000 in
theorem markText_any (k : Nat) (w : World) (h1 : 1 ≤ k) (hk : k < 10000000) : Calls Tryd.prog 50 #[.int .i64 k] w fun e w' => e = .returned (.string (mkT k)) ∧ Below w.heap.size w w' := by
  go_enter Tryd.func50, Tryd.ntmps50
  go_wp2
  have hL : Hid ((digs k).length ≤ 7) := Lib.hid (digs_len 7 k hk)
  go_loopw [0, 3] (fun kk o wr => ∃ (j : Nat) (out : ByteArray), j ≤ k ∧ kk = .int .i64 j ∧ o = .string out ∧ Hid (digs k = digs j ++ out.data.toList) ∧ Hid (Below w.heap.size w wr)) (fun kk _ _ => (intOf kk).toNat)
  case atStart => exact ⟨k, ⟨#[]⟩, Nat.le_refl _, rfl, rfl, Lib.hid (by simp), Below.refl _ _⟩
  case round =>
    obtain ⟨j, out, hjk, rfl, rfl, ht, hb⟩ := hrel
    have hout : out.size ≤ 7 := by
      have e := congrArg List.length ht.out
      have := hL.out
      rw [List.length_append] at e
      have e3 : out.data.toList.length = out.size := Array.length_toList
      omega
    by_cases hj : 0 < j
    · have hm : (j : Int).tmod 10 = ((j % 10 : Nat) : Int) := by rw [Int.tmod_eq_emod_of_nonneg (by omega)]; omega
      have hd : (j : Int).tdiv 10 = ((j / 10 : Nat) : Int) := by rw [Int.tdiv_eq_ediv_of_nonneg (by omega)]; omega
      have hm9 : j % 10 < 10 := Nat.mod_lt _ (by omega)
      have hcv := str_byte _ _ _ _ 1 _ (own_digit wr j) rfl
      go_wp2
      go_roundw
      case rel =>
        refine ⟨j / 10, ⟨#[dig1 j]⟩ ++ out, by omega, by go_num, ?_, Lib.hid ?_, Lib.hid ?_⟩
        · rfl
        · rw [ht.out, digs_pos j (by omega)]; simp
        · exact hb.out.alloc hb.out.size _
      all_goals (simp [intOf] <;> omega)
    · obtain rfl : j = 0 := by omega
      go_wp2
      go_ret
      refine ⟨ret_str ?_, hb.out⟩
      unfold mkT
      rw [ht.out, digs_zero]
      apply ByteArray.ext
      simp
end Go.Proofs.YtnfonoaojkhnkaaDoor
