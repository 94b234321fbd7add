/- Small helpers for walks. -/
import Derived.Test.YtmjeilimdnngpaaDoorProg
import Derived.Test.YtmjeilimdnngpaaDoorStr
import Derived.WalkKit
import Derived.WalkLawsBesides
import Derived.WalkSpells
import Derived.Outline
import Derived.LoopTactic
import Derived.BigQuiet
import Derived.Deep.QuietTactic
import Derived.Deep.LoopGhost
import Derived.Deep.DeepMust
import Derived.Deep.DeepFit
import Derived.Lib.Hide
import Derived.Lib.RabinKarpLaws
namespace Go.Proofs.YtmjeilimdnngpaaDoor
open Go Go.RowKit RM

theorem ret_int {k : IntKind} {a b : Int} (h : a = b) : Ending.returned (.int k a) = .returned (.int k b) := by rw [h]
theorem ret_bool {a b : Bool} (h : a = b) : Ending.returned (.bool a) = .returned (.bool b) := by rw [h]
theorem ret_str {a b : ByteArray} (h : a = b) : Ending.returned (.string a) = .returned (.string b) := by rw [h]
theorem vi {k : IntKind} {a b : Int} (h : a = b) : Value.int k a = .int k b := by rw [h]
theorem vb {a b : Bool} (h : a = b) : Value.bool a = .bool b := by rw [h]
theorem vs {a b : ByteArray} (h : a = b) : Value.string a = .string b := by rw [h]

/-- a binary digit as the walk writes it -/
theorem and_bit (m k : Nat) (hm : m < 1048576) : bits BinOp.and IntKind.i64 ((m : Int) / 2 ^ k) 1 = ((bitN m k : Nat) : Int) := by
  have e : ((m : Int) / 2 ^ k) = ((m / 2 ^ k : Nat) : Int) := by simp
  have h : m / 2 ^ k < 1048576 := Nat.lt_of_le_of_lt (Nat.div_le_self _ _) hm
  rw [e, and_one _ (by omega)]
  have := div_step m k
  have hb : bitN m k < 2 := by unfold bitN; split <;> omega
  congr 1; omega
theorem and_bit_u64 (m k : Nat) (hm : m < 1048576) : bits BinOp.and IntKind.u64 ((m : Int) / 2 ^ k) 1 = ((bitN m k : Nat) : Int) := by
  have e : ((m : Int) / 2 ^ k) = ((m / 2 ^ k : Nat) : Int) := by simp
  have h : m / 2 ^ k < 1048576 := Nat.lt_of_le_of_lt (Nat.div_le_self _ _) hm
  have hd := div_step m k
  have hb : bitN m k < 2 := by unfold bitN; split <;> omega
  rw [e]
  generalize m / 2 ^ k = z at *
  generalize bitN m k = b at *
  rw [and_one_u64 _ (by omega) (by omega)]
  omega
/-- a sign as a byte -/
def sgnB (x k : Nat) : UInt8 := if x.testBit k then 49 else 48
theorem sgnB_val (x k : Nat) (hx : x < 1048576) : (48 + bits BinOp.and IntKind.u64 ((x : Int) / 2 ^ k) 1) % 256 = ((sgnB x k).toNat : Int) := by
  rw [and_bit_u64 x k hx]; unfold sgnB bitN
  cases x.testBit k <;> rfl
theorem tx_snocB (k x : Nat) : tx (k + 1) x = tx k x ++ [sgnB x k] := tx_snoc k x
theorem bitN_ne (m j k : Nat) : (((bitN m j : Nat) : Int) != ((bitN m k : Nat) : Int)) = (m.testBit j ^^ m.testBit k) := by
  unfold bitN
  cases m.testBit j <;> cases m.testBit k <;> rfl
theorem gray_bit (m k : Nat) : (gray m).testBit k = (m.testBit k ^^ m.testBit (k + 1)) := by
  unfold gray
  rw [Nat.testBit_xor, Nat.testBit_shiftRight, Nat.add_comm]
theorem gray_test (m k : Nat) (hm : m < 1048576) : (bits BinOp.and IntKind.i64 ((m : Int) / 2 ^ k) 1 != bits BinOp.and IntKind.i64 ((m : Int) / 2 ^ (k + 1)) 1) = (gray m).testBit k := by
  rw [and_bit m k hm, and_bit m (k + 1) hm, bitN_ne, gray_bit]
theorem ST_snoc (k x : Nat) : ST k x ++ ⟨#[if x.testBit k then 49 else 48]⟩ = ST (k + 1) x := by
  apply ba_ext
  rw [ba_app, ST_data, ST_data, tx_snoc]
theorem ST_snoc1 (k x : Nat) (h : x.testBit k = true) : ST k x ++ ⟨#[49]⟩ = ST (k + 1) x := by rw [← ST_snoc, h]; rfl
theorem ST_snoc0 (k x : Nat) (h : x.testBit k = false) : ST k x ++ ⟨#[48]⟩ = ST (k + 1) x := by rw [← ST_snoc, h]; rfl
theorem drewN_drewN (w : World) (a b : Nat) : (w.drewN a).drewN b = w.drewN (a + b) := by simp [World.drewN, Nat.add_assoc]
theorem block_lt {w : World} {b o : Nat} {v : Value} (h : w.cell? ⟨b, o, none⟩ = some v) : b < w.heap.size := by
  rcases Nat.lt_or_ge b w.heap.size with g | g
  · exact g
  · simp [World.cell?, g] at h
end Go.Proofs.YtmjeilimdnngpaaDoor
