/- Bytes, texts, numbers, rows, keys, marks, searches: the base of what follows. -/
import Derived.Test.YtjlecipeoaohiaaProg
import Derived.WalkKit
import Derived.WalkLawsBesides
import Derived.WalkSpells
import Derived.Outline
import Derived.LoopTactic
import Derived.BigQuiet
import Derived.Deep.QuietTactic
import Derived.Deep.LoopGhost
import Derived.Deep.DeepMust
import Derived.Deep.DeepFit
import Derived.Lib.Hide
import Derived.Lib.RabinKarpLaws
import Derived.Lib.BufferOwn
import Derived.Laws.IdiomStrings
import Derived.Deep.RegionWith
import Derived.Maps.AppendAt
import Derived.Laws.OwnMore
import Derived.OneCell
import Derived.Deep.RegionHeld3
import Derived.BigRegion
import Derived.OpenShut
import Derived.ProofKit
import Derived.SliceStrings
import Derived.Shelf.Strings.Repeat
namespace Go.Proofs.Ytjlecipeoaohiaa.RM

theorem shr1 (n : Nat) : n >>> 1 = n / 2 := by simp [Nat.shiftRight_eq_div_pow]
theorem xor_mod (a b : Nat) : (a ^^^ b) % 2 = (a + b) % 2 := by
  have := @Nat.xor_mod_two_eq_one a b
  omega

/-- the number of the state whose signs are the binary digits of x -/
def num (x : Nat) : Nat := if h : x = 0 then 0 else 2 * num (x / 2) + (x % 2 + num (x / 2)) % 2
termination_by x
decreasing_by omega

theorem num_zero : num 0 = 0 := by unfold num; rfl
theorem num_rec (x : Nat) : num x = 2 * num (x / 2) + (x % 2 + num (x / 2)) % 2 := by
  by_cases h : x = 0
  · subst h; simp [num_zero]
  · rw [num]; simp [h]
theorem num_half (x : Nat) : num x / 2 = num (x / 2) := by rw [num_rec x]; omega
theorem num_mod (x : Nat) : num x % 2 = (x % 2 + num (x / 2)) % 2 := by rw [num_rec x]; omega

/-- the signs of the state with the number n -/
def gray (n : Nat) : Nat := n ^^^ (n >>> 1)

theorem gray_half (n : Nat) : gray n / 2 = gray (n / 2) := by
  unfold gray
  rw [Nat.xor_div_two, shr1, shr1]
theorem gray_mod (n : Nat) : gray n % 2 = (n % 2 + n / 2) % 2 := by
  unfold gray
  rw [xor_mod, shr1]; omega
theorem gray_zero : gray 0 = 0 := rfl

theorem gray_num (x : Nat) : gray (num x) = x := by
  induction x using Nat.strongRecOn with
  | ind x ih =>
    by_cases h : x = 0
    · subst h; rw [num_zero]; rfl
    · have h1 := ih (x / 2) (by omega)
      have h2 := gray_half (num x)
      have h3 := gray_mod (num x)
      rw [num_half, h1] at h2
      rw [num_half, num_mod] at h3
      omega

theorem num_gray (n : Nat) : num (gray n) = n := by
  induction n using Nat.strongRecOn with
  | ind n ih =>
    by_cases h : n = 0
    · subst h; rw [gray_zero, num_zero]
    · have h1 := ih (n / 2) (by omega)
      have h2 := num_half (gray n)
      have h3 := num_mod (gray n)
      rw [gray_half, h1] at h2 h3
      have := gray_mod n
      omega

theorem num_lt (k : Nat) : ∀ x, x < 2 ^ k → num x < 2 ^ k := by
  induction k with
  | zero => intro x h; have : x = 0 := by omega
            subst this; rw [num_zero]; omega
  | succ k ih =>
    intro x h
    have h1 := ih (x / 2) (by rw [Nat.pow_succ] at h; omega)
    rw [num_rec x, Nat.pow_succ]; omega

theorem gray_lt (k : Nat) (n : Nat) (h : n < 2 ^ k) : gray n < 2 ^ k := by
  unfold gray
  refine Nat.xor_lt_two_pow h ?_
  rw [shr1]; omega

theorem num_inj {x y : Nat} (h : num x = num y) : x = y := by rw [← gray_num x, ← gray_num y, h]

/-- the loop of the program: the digits of the number are the digits summed from the last one on -/
theorem num_xor (x : Nat) : num x = x ^^^ num (x / 2) := by
  induction x using Nat.strongRecOn with
  | ind x ih =>
    by_cases h : x = 0
    · subst h; rw [num_zero]; rfl
    · have h1 := ih (x / 2) (by omega)
      have e : (x ^^^ num (x / 2)) / 2 = (x / 2) ^^^ num (x / 2 / 2) := by rw [Nat.xor_div_two, num_half]
      have f : (x ^^^ num (x / 2)) % 2 = (x % 2 + num (x / 2)) % 2 := by rw [xor_mod]; omega
      have g := num_half x
      have i := num_mod x
      rw [← h1] at e
      omega

/-- how many signs are 1 -/
def pop (x : Nat) : Nat := if h : x = 0 then 0 else x % 2 + pop (x / 2)
termination_by x
decreasing_by omega
theorem pop_zero : pop 0 = 0 := by unfold pop; rfl
theorem pop_rec (x : Nat) : pop x = x % 2 + pop (x / 2) := by
  by_cases h : x = 0
  · subst h; simp [pop_zero]
  · rw [pop]; simp [h]
theorem pop_mod (x : Nat) : pop x % 2 = num x % 2 := by
  induction x using Nat.strongRecOn with
  | ind x ih =>
    by_cases h : x = 0
    · subst h; rw [num_zero, pop_zero]
    · have h1 := ih (x / 2) (by omega)
      rw [pop_rec, num_mod]; omega
theorem pop_le (k : Nat) : ∀ x, x < 2 ^ k → pop x ≤ k := by
  induction k with
  | zero => intro x h; have : x = 0 := by omega
            subst this; rw [pop_zero]; omega
  | succ k ih =>
    intro x h
    have h1 := ih (x / 2) (by rw [Nat.pow_succ] at h; omega)
    rw [pop_rec x]; omega

/-- the place of the first 1 (0 if there is none) -/
def ctz (x : Nat) : Nat := if h : x = 0 then 0 else if x % 2 = 1 then 0 else ctz (x / 2) + 1
termination_by x
decreasing_by omega
theorem ctz_odd {x : Nat} (h : x % 2 = 1) : ctz x = 0 := by
  rw [ctz]; simp [h]
theorem ctz_even {x : Nat} (h : x % 2 = 0) (h0 : x ≠ 0) : ctz x = ctz (x / 2) + 1 := by
  rw [ctz]; simp [h, h0]

/-- the ring that makes a number one more: the first 0 of it -/
def up (n : Nat) : Nat := if n % 2 = 0 then 0 else up (n / 2) + 1
termination_by n
decreasing_by omega
theorem up_even {n : Nat} (h : n % 2 = 0) : up n = 0 := by rw [up]; simp [h]
theorem up_odd {n : Nat} (h : n % 2 = 1) : up n = up (n / 2) + 1 := by
  rw [up]; have : ¬ n % 2 = 0 := by omega
  simp [this]

theorem xor_bit (a k : Nat) : (a ^^^ 2 ^ (k + 1)) / 2 = a / 2 ^^^ 2 ^ k ∧ (a ^^^ 2 ^ (k + 1)) % 2 = a % 2 := by
  have hp : 2 ^ (k + 1) / 2 = 2 ^ k := by rw [Nat.pow_succ]; omega
  have hq : 2 ^ (k + 1) % 2 = 0 := by rw [Nat.pow_succ]; omega
  refine ⟨by rw [Nat.xor_div_two, hp], by rw [xor_mod]; omega⟩
theorem xor_one (a : Nat) : (a ^^^ 2 ^ 0) / 2 = a / 2 ∧ (a ^^^ 2 ^ 0) % 2 = (a + 1) % 2 := by
  refine ⟨by rw [Nat.xor_div_two]; simp, by rw [xor_mod]⟩

theorem gray_up (n : Nat) : gray (n + 1) = gray n ^^^ 2 ^ up n := by
  induction n using Nat.strongRecOn with
  | ind n ih =>
    have a := gray_half n
    have b := gray_mod n
    have c := gray_half (n + 1)
    have d := gray_mod (n + 1)
    by_cases h : n % 2 = 0
    · rw [up_even h]
      have e := xor_one (gray n)
      have f : (n + 1) / 2 = n / 2 := by omega
      rw [f] at c d
      omega
    · have h' : n % 2 = 1 := by omega
      rw [up_odd h']
      have e := xor_bit (gray n) (up (n / 2))
      have f : (n + 1) / 2 = n / 2 + 1 := by omega
      have g := ih (n / 2) (by omega)
      rw [f] at c d
      rw [a, ← g] at e
      omega

theorem gray_pos {n : Nat} (h : n ≠ 0) : gray n ≠ 0 := by
  intro e; apply h; rw [← num_gray n, e, num_zero]

/-- behind an odd number the ring that rises is the one behind the first ring that is on -/
theorem up_place (n : Nat) (h : n % 2 = 1) : up n = ctz (gray n) + 1 := by
  induction n using Nat.strongRecOn with
  | ind n ih =>
    rw [up_odd h]
    have b := gray_mod n
    by_cases g : n / 2 % 2 = 0
    · rw [up_even g, ctz_odd (by omega)]
    · have g' : n / 2 % 2 = 1 := by omega
      rw [ih (n / 2) (by omega) g', ctz_even (x := gray n) (by omega) (gray_pos (by omega)), gray_half]

/-- and downward, from an even number that is not 0 -/
theorem down_place (n : Nat) (h : n % 2 = 0) (h0 : n ≠ 0) : up (n - 1) = ctz (gray n) + 1 := by
  induction n using Nat.strongRecOn with
  | ind n ih =>
    rw [up_odd (by omega)]
    have b := gray_mod n
    have e : (n - 1) / 2 = n / 2 - 1 := by omega
    rw [e]
    by_cases g : n / 2 % 2 = 0
    · rw [ih (n / 2) (by omega) g (by omega), ctz_even (x := gray n) (by omega) (gray_pos h0), gray_half]
    · have g' : n / 2 % 2 = 1 := by omega
      rw [up_even (by omega), ctz_odd (by omega)]

theorem up_lt (k : Nat) : ∀ n, n + 1 < 2 ^ k → up n < k := by
  induction k with
  | zero => intro n h; simp at h
  | succ k ih =>
    intro n h
    by_cases g : n % 2 = 0
    · rw [up_even g]; omega
    · rw [up_odd (by omega)]
      have := ih (n / 2) (by rw [Nat.pow_succ] at h; omega)
      omega
theorem ctz_lt (k : Nat) : ∀ x, x ≠ 0 → x < 2 ^ k → ctz x < k := by
  induction k with
  | zero => intro n h; simp; omega
  | succ k ih =>
    intro n h0 h
    by_cases g : n % 2 = 1
    · rw [ctz_odd g]; omega
    · rw [ctz_even (by omega) h0]
      have := ih (n / 2) (by omega) (by rw [Nat.pow_succ] at h; omega)
      omega
end Go.Proofs.Ytjlecipeoaohiaa.RM

namespace Go.Proofs.Ytjlecipeoaohiaa
open RM

/-- which bytes are signs, and which texts are states -/
def okc (c : UInt8) : Bool := c == 48 || c == 49
def goodB (l : List UInt8) : Bool := decide (1 ≤ l.length) && decide (l.length ≤ 20) && l.all okc

/-- the text of the first n binary digits of x -/
def tx (n x : Nat) : List UInt8 := (List.range n).map fun i => if x.testBit i then 49 else 48
def ST (n x : Nat) : ByteArray := ⟨(tx n x).toArray⟩
/-- the number whose binary digits are the signs -/
def sg : List UInt8 → Nat
  | [] => 0
  | c :: t => 2 * sg t + (if c = 49 then 1 else 0)

theorem tx_len (n x : Nat) : (tx n x).length = n := by simp [tx]
theorem tx_get (n x i : Nat) (h : i < (tx n x).length) : (tx n x)[i] = if x.testBit i then 49 else 48 := by simp [tx]
theorem tx_snoc (n x : Nat) : tx (n + 1) x = tx n x ++ [if x.testBit n then 49 else 48] := by simp [tx, List.range_succ]
theorem ST_size (n x : Nat) : (ST n x).size = n := by
  show (tx n x).toArray.size = n
  simp [tx_len]
theorem ST_get (n x i : Nat) (h : i < (ST n x).size) : (ST n x)[i] = if x.testBit i then 49 else 48 := by
  show (tx n x).toArray[i] = _
  simp [tx]
theorem ST_data (n x : Nat) : (ST n x).data.toList = tx n x := rfl

theorem sg_bit (l : List UInt8) : ∀ i, (sg l).testBit i = decide (l[i]? = some 49) := by
  induction l with
  | nil => intro i; simp [sg]
  | cons c t ih =>
    intro i
    cases i with
    | zero =>
      by_cases h : c = 49
      · simp [sg, h, Nat.testBit_zero]
      · simp [sg, h, Nat.testBit_zero]
    | succ i =>
      have e : (2 * sg t + (if c = 49 then 1 else 0)) / 2 = sg t := by split <;> omega
      show (2 * sg t + (if c = 49 then 1 else 0)).testBit (i + 1) = _
      rw [Nat.testBit_succ, e, ih]; simp
theorem sg_lt (l : List UInt8) : sg l < 2 ^ l.length := by
  induction l with
  | nil => simp [sg]
  | cons c t ih =>
    show 2 * sg t + (if c = 49 then 1 else 0) < 2 ^ (t.length + 1)
    rw [Nat.pow_succ]; split <;> omega
theorem tx_sg (l : List UInt8) (h : l.all okc = true) : tx l.length (sg l) = l := by
  apply List.ext_getElem
  · rw [tx_len]
  · intro i h1 h2
    rw [tx_get, sg_bit]
    rw [List.all_eq_true] at h
    have := h l[i] (by simp)
    unfold okc at this
    simp at this
    rw [List.getElem?_eq_getElem h2]
    rcases this with g | g <;> simp [g]
theorem all_tx (n x : Nat) : (tx n x).all okc = true := by
  rw [List.all_eq_true]
  intro c hc
  simp only [tx, List.mem_map] at hc
  obtain ⟨i, _, rfl⟩ := hc
  split <;> rfl
theorem good_ST (n x : Nat) (h1 : 1 ≤ n) (h2 : n ≤ 20) : goodB (ST n x).data.toList = true := by
  rw [ST_data]; unfold goodB; rw [tx_len, all_tx]; simp [h1, h2]
theorem of_good (s : ByteArray) (h : goodB s.data.toList = true) : ∃ n x, 1 ≤ n ∧ n ≤ 20 ∧ x < 2 ^ n ∧ s = ST n x := by
  unfold goodB at h
  simp only [Bool.and_eq_true, decide_eq_true_eq] at h
  refine ⟨s.data.toList.length, sg s.data.toList, h.1.1, h.1.2, sg_lt _, ?_⟩
  unfold ST
  rw [tx_sg _ h.2]
theorem ST_ext (n x y : Nat) (h : ∀ i, i < n → x.testBit i = y.testBit i) : ST n x = ST n y := by
  unfold ST
  have : tx n x = tx n y := by
    unfold tx
    apply List.map_congr_left
    intro i hi
    rw [h i (by simpa using hi)]
  rw [this]
theorem bit_high {n x i : Nat} (h : x < 2 ^ n) (hi : n ≤ i) : x.testBit i = false :=
  Nat.testBit_lt_two_pow (Nat.lt_of_lt_of_le h (Nat.pow_le_pow_right (by omega) hi))
theorem ST_inj {n x m y : Nat} (hx : x < 2 ^ n) (hy : y < 2 ^ m) (h : ST n x = ST m y) : n = m ∧ x = y := by
  have hn : n = m := by rw [← ST_size n x, h, ST_size]
  subst hn
  refine ⟨rfl, Nat.eq_of_testBit_eq fun i => ?_⟩
  by_cases hi : i < n
  · have e : tx n x = tx n y := by rw [← ST_data, h, ST_data]
    have := congrArg (fun l : List UInt8 => l[i]?) e
    simp [tx, hi] at this
    revert this
    cases x.testBit i <;> cases y.testBit i <;> decide
  · rw [bit_high hx (by omega), bit_high hy (by omega)]

theorem ba_ext {a b : ByteArray} (h : a.data.toList = b.data.toList) : a = b := by
  cases a; cases b; simp at h; simp [h]
theorem ba_app (a b : ByteArray) : (a ++ b).data.toList = a.data.toList ++ b.data.toList := by simp
theorem ba_ext_app {a b : ByteArray} : (a ++ b).size = a.size + b.size := by simp

theorem ST_flip (n x k : Nat) (hk : k < n) (c : UInt8) (hc : c = if x.testBit k then 48 else 49) :
    (ST n x).extract 0 k ++ ⟨#[c]⟩ ++ (ST n x).extract (k + 1) (ST n x).size = ST n (x ^^^ 2 ^ k) := by
  apply ba_ext
  rw [ba_app, ba_app, ST_size]
  simp only [ByteArray.data_extract, Array.toList_extract, ST_data, List.extract_eq_take_drop]
  apply List.ext_getElem
  · simp [tx_len]; omega
  · intro i h1 h2
    rw [tx_get, Nat.testBit_xor, Nat.testBit_two_pow]
    rw [tx_len] at h2
    by_cases hi : i < k
    · rw [List.getElem_append_left (by simp [tx_len]; omega), List.getElem_append_left (by simp [tx_len]; omega)]
      have : ¬ k = i := by omega
      simp [tx, this]
    · by_cases he : i = k
      · subst he
        rw [List.getElem_append_left (by simp [tx_len]; omega), List.getElem_append_right (by simp [tx_len]; omega)]
        subst hc
        simp [tx_len]
        cases x.testBit i <;> simp
      · rw [List.getElem_append_right (by simp [tx_len]; omega)]
        have : ¬ k = i := by omega
        have e : k + 1 + (i - (min k n + 1)) = i := by omega
        simp [tx, this, e]

/-- a binary digit as a number -/
def bitN (x k : Nat) : Nat := if x.testBit k then 1 else 0
theorem div_step (x j : Nat) : x / 2 ^ j = 2 * (x / 2 ^ (j + 1)) + bitN x j := by
  have h : (x / 2 ^ j) % 2 = bitN x j := by
    unfold bitN
    rw [Nat.testBit_eq_decide_div_mod_eq]
    by_cases g : x / 2 ^ j % 2 = 1
    · simp [g]
    · have : x / 2 ^ j % 2 = 0 := by omega
      simp [this]
  have e : x / 2 ^ (j + 1) = x / 2 ^ j / 2 := by rw [Nat.pow_succ, Nat.div_div_eq_div_mul]
  omega
theorem num_step (x j : Nat) : num (x / 2 ^ j) = 2 * num (x / 2 ^ (j + 1)) + (bitN x j + num (x / 2 ^ (j + 1))) % 2 := by
  have h := div_step x j
  have e : x / 2 ^ j / 2 = x / 2 ^ (j + 1) := by rw [Nat.pow_succ, Nat.div_div_eq_div_mul]
  have hb : bitN x j < 2 := by unfold bitN; split <;> omega
  have f : x / 2 ^ j % 2 = bitN x j := by omega
  rw [num_rec (x / 2 ^ j), e, f]
theorem num_le (n x j : Nat) (h : x < 2 ^ n) (hn : n ≤ 20) : num (x / 2 ^ j) < 1048576 := by
  have := num_lt n (x / 2 ^ j) (Nat.lt_of_le_of_lt (Nat.div_le_self _ _) h)
  exact Nat.lt_of_lt_of_le this (Nat.pow_le_pow_right (n := 2) (by omega) hn)

/-- how many signs 1 -/
def ons (l : List UInt8) : Nat := (l.filter (· == 49)).length
theorem pop_add (j : Nat) : ∀ y, y < 2 ^ j → pop (y + 2 ^ j) = pop y + 1 := by
  induction j with
  | zero => intro y h; have : y = 0 := by omega
            subst this; rw [pop_rec]; simp [pop_zero]
  | succ j ih =>
    intro y h
    have e : (y + 2 ^ (j + 1)) / 2 = y / 2 + 2 ^ j := by rw [Nat.pow_succ]; omega
    have f : (y + 2 ^ (j + 1)) % 2 = y % 2 := by rw [Nat.pow_succ]; omega
    rw [pop_rec (y + 2 ^ (j + 1)), e, f, ih (y / 2) (by rw [Nat.pow_succ] at h; omega), pop_rec y]; omega
theorem mod_step (x j : Nat) : x % 2 ^ (j + 1) = x % 2 ^ j + (if x.testBit j then 2 ^ j else 0) := by
  have h := div_step x j
  have a := Nat.div_add_mod x (2 ^ j)
  have b := Nat.div_add_mod x (2 ^ (j + 1))
  have hl : x % 2 ^ j < 2 ^ j := Nat.mod_lt _ (Nat.two_pow_pos j)
  rw [h] at a
  have hx : x = 2 ^ (j + 1) * (x / 2 ^ (j + 1)) + (2 ^ j * bitN x j + x % 2 ^ j) := by
    rw [Nat.mul_add, ← Nat.mul_assoc] at a
    have e : 2 ^ j * 2 = 2 ^ (j + 1) := by rw [Nat.pow_succ]
    rw [e] at a; omega
  have hb : 2 ^ j * bitN x j = if x.testBit j then 2 ^ j else 0 := by unfold bitN; split <;> simp
  rw [hb] at hx
  omega
theorem ons_tx (j x : Nat) : ons (tx j x) = pop (x % 2 ^ j) := by
  induction j with
  | zero => simp [tx, ons, Nat.mod_one, pop_zero]
  | succ j ih =>
    rw [tx_snoc, mod_step]
    have hl : x % 2 ^ j < 2 ^ j := Nat.mod_lt _ (Nat.two_pow_pos j)
    unfold ons at ih ⊢
    rw [List.filter_append, List.length_append, ih]
    cases x.testBit j
    · simp
    · simp [pop_add j _ hl]
theorem tx_take (n x j : Nat) (h : j ≤ n) : (tx n x).take j = tx j x := by
  unfold tx
  rw [← List.map_take, List.take_range, Nat.min_eq_left h]
theorem ons_ST (n x : Nat) (hx : x < 2 ^ n) : ons (ST n x).data.toList = pop x := by rw [ST_data, ons_tx, Nat.mod_eq_of_lt hx]
theorem ST_take (n x j : Nat) (h : j ≤ n) : (ST n x).extract 0 j = ST j x := by
  apply ba_ext
  simp only [ByteArray.data_extract, Array.toList_extract, ST_data, List.extract_eq_take_drop]
  simp [tx_take n x j h]
theorem pop_pos {x : Nat} (h : x ≠ 0) : pop x ≠ 0 := by
  induction x using Nat.strongRecOn with
  | ind x ih =>
    rw [pop_rec]
    by_cases g : x % 2 = 1
    · omega
    · have := ih (x / 2) (by omega) (by omega); omega

/-- the ring k of n can be moved -/
def canB (n x : Nat) (k : Int) : Bool := k == 0 || (decide (1 ≤ k) && decide (k < n) && decide (x % 2 ^ k.toNat = 2 ^ (k.toNat - 1)))
theorem canB_zero (n x : Nat) : canB n x 0 = true := rfl
theorem canB_out (n x : Nat) (k : Int) (h : k < 0 ∨ (k ≠ 0 ∧ n ≤ k)) : canB n x k = false := by
  unfold canB
  have a : (k == 0) = false := by simp; omega
  have b : (decide (1 ≤ k) && decide (k < n)) = false := by simp; omega
  rw [a, b]; rfl
theorem canB_in (n x j : Nat) (h : j + 1 < n) : canB n x ((j + 1 : Nat) : Int) = (x.testBit j && decide (x % 2 ^ j = 0)) := by
  unfold canB
  have a : (((j + 1 : Nat) : Int) == 0) = false := by simp; omega
  have b : (decide (1 ≤ ((j + 1 : Nat) : Int)) && decide (((j + 1 : Nat) : Int) < n)) = true := by simp; omega
  rw [a, b, Bool.false_or, Bool.true_and, Int.toNat_natCast, mod_step]
  have hl : x % 2 ^ j < 2 ^ j := Nat.mod_lt _ (Nat.two_pow_pos j)
  simp only [Nat.add_sub_cancel]
  cases x.testBit j
  · simp; omega
  · simp
theorem ctz_spec (x : Nat) (h : x ≠ 0) : x.testBit (ctz x) = true ∧ x % 2 ^ ctz x = 0 := by
  induction x using Nat.strongRecOn with
  | ind x ih =>
    by_cases g : x % 2 = 1
    · rw [ctz_odd g]; simp [Nat.testBit_zero, g, Nat.mod_one]
    · rw [ctz_even (by omega) h]
      obtain ⟨a, b⟩ := ih (x / 2) (by omega) (by omega)
      refine ⟨by rw [Nat.testBit_succ]; exact a, ?_⟩
      have := Nat.mod_mul_right_div_self x 2 (2 ^ ctz (x / 2))
      rw [b] at this
      have e : 2 ^ (ctz (x / 2) + 1) = 2 * 2 ^ ctz (x / 2) := by rw [Nat.pow_succ]; omega
      rw [e]
      have m : x % (2 * 2 ^ ctz (x / 2)) % 2 = x % 2 := Nat.mod_mul_right_mod x 2 _
      omega
theorem ctz_uniq (x j : Nat) (h1 : x.testBit j = true) (h2 : x % 2 ^ j = 0) : x ≠ 0 ∧ ctz x = j := by
  induction j generalizing x with
  | zero => 
    simp [Nat.testBit_zero] at h1
    exact ⟨by omega, ctz_odd h1⟩
  | succ j ih =>
    have e : 2 ^ (j + 1) = 2 * 2 ^ j := by rw [Nat.pow_succ]; omega
    rw [Nat.testBit_succ] at h1
    have m : x % (2 * 2 ^ j) % 2 = x % 2 := Nat.mod_mul_right_mod x 2 _
    have d := Nat.mod_mul_right_div_self x 2 (2 ^ j)
    rw [← e, h2] at m d
    obtain ⟨a, b⟩ := ih (x / 2) h1 (by omega)
    exact ⟨by omega, by rw [ctz_even (by omega) (by omega), b]⟩
theorem canB_ctz (n x j : Nat) (h : j + 1 < n) : canB n x ((j + 1 : Nat) : Int) = (decide (x ≠ 0) && decide (ctz x = j)) := by
  rw [canB_in n x j h, Bool.eq_iff_iff]
  simp only [Bool.and_eq_true, decide_eq_true_eq]
  constructor
  · rintro ⟨a, b⟩; exact ctz_uniq x j a b
  · rintro ⟨a, rfl⟩; exact ctz_spec x a
end Go.Proofs.Ytjlecipeoaohiaa

namespace Go.Proofs.Ytjlecipeoaohiaa
open Go Go.RowKit RM

theorem ret_int {k : IntKind} {a b : Int} (h : a = b) : Ending.returned (.int k a) = .returned (.int k b) := by rw [h]
theorem ret_bool {a b : Bool} (h : a = b) : Ending.returned (.bool a) = .returned (.bool b) := by rw [h]
theorem ret_str {a b : ByteArray} (h : a = b) : Ending.returned (.string a) = .returned (.string b) := by rw [h]
theorem vi {k : IntKind} {a b : Int} (h : a = b) : Value.int k a = .int k b := by rw [h]
theorem vb {a b : Bool} (h : a = b) : Value.bool a = .bool b := by rw [h]
theorem vs {a b : ByteArray} (h : a = b) : Value.string a = .string b := by rw [h]

/-- a binary digit as the walk writes it -/
theorem and_bit (m k : Nat) (hm : m < 1048576) : bits BinOp.and IntKind.i64 ((m : Int) / 2 ^ k) 1 = ((bitN m k : Nat) : Int) := by
  have e : ((m : Int) / 2 ^ k) = ((m / 2 ^ k : Nat) : Int) := by simp
  have h : m / 2 ^ k < 1048576 := Nat.lt_of_le_of_lt (Nat.div_le_self _ _) hm
  rw [e, and_one _ (by omega)]
  have := div_step m k
  have hb : bitN m k < 2 := by unfold bitN; split <;> omega
  congr 1; omega
theorem and_bit_u64 (m k : Nat) (hm : m < 1048576) : bits BinOp.and IntKind.u64 ((m : Int) / 2 ^ k) 1 = ((bitN m k : Nat) : Int) := by
  have e : ((m : Int) / 2 ^ k) = ((m / 2 ^ k : Nat) : Int) := by simp
  have h : m / 2 ^ k < 1048576 := Nat.lt_of_le_of_lt (Nat.div_le_self _ _) hm
  have hd := div_step m k
  have hb : bitN m k < 2 := by unfold bitN; split <;> omega
  rw [e]
  generalize m / 2 ^ k = z at *
  generalize bitN m k = b at *
  rw [and_one_u64 _ (by omega) (by omega)]
  omega
/-- a sign as a byte -/
def sgnB (x k : Nat) : UInt8 := if x.testBit k then 49 else 48
theorem sgnB_val (x k : Nat) (hx : x < 1048576) : (48 + bits BinOp.and IntKind.u64 ((x : Int) / 2 ^ k) 1) % 256 = ((sgnB x k).toNat : Int) := by
  rw [and_bit_u64 x k hx]; unfold sgnB bitN
  cases x.testBit k <;> rfl
theorem tx_snocB (k x : Nat) : tx (k + 1) x = tx k x ++ [sgnB x k] := tx_snoc k x
theorem bitN_ne (m j k : Nat) : (((bitN m j : Nat) : Int) != ((bitN m k : Nat) : Int)) = (m.testBit j ^^ m.testBit k) := by
  unfold bitN
  cases m.testBit j <;> cases m.testBit k <;> rfl
theorem gray_bit (m k : Nat) : (gray m).testBit k = (m.testBit k ^^ m.testBit (k + 1)) := by
  unfold gray
  rw [Nat.testBit_xor, Nat.testBit_shiftRight, Nat.add_comm]
theorem gray_test (m k : Nat) (hm : m < 1048576) : (bits BinOp.and IntKind.i64 ((m : Int) / 2 ^ k) 1 != bits BinOp.and IntKind.i64 ((m : Int) / 2 ^ (k + 1)) 1) = (gray m).testBit k := by
  rw [and_bit m k hm, and_bit m (k + 1) hm, bitN_ne, gray_bit]
theorem ST_snoc (k x : Nat) : ST k x ++ ⟨#[if x.testBit k then 49 else 48]⟩ = ST (k + 1) x := by
  apply ba_ext
  rw [ba_app, ST_data, ST_data, tx_snoc]
theorem ST_snoc1 (k x : Nat) (h : x.testBit k = true) : ST k x ++ ⟨#[49]⟩ = ST (k + 1) x := by rw [← ST_snoc, h]; rfl
theorem ST_snoc0 (k x : Nat) (h : x.testBit k = false) : ST k x ++ ⟨#[48]⟩ = ST (k + 1) x := by rw [← ST_snoc, h]; rfl
theorem drewN_drewN (w : World) (a b : Nat) : (w.drewN a).drewN b = w.drewN (a + b) := by simp [World.drewN, Nat.add_assoc]
theorem block_lt {w : World} {b o : Nat} {v : Value} (h : w.cell? ⟨b, o, none⟩ = some v) : b < w.heap.size := by
  rcases Nat.lt_or_ge b w.heap.size with g | g
  · exact g
  · simp [World.cell?, g] at h
end Go.Proofs.Ytjlecipeoaohiaa

namespace Go.Proofs.Ytjlecipeoaohiaa
open Go Go.RowKit RM

theorem okc_iff (c : UInt8) : okc c = true ↔ (c.toNat : Int) = 48 ∨ (c.toNat : Int) = 49 := by
  unfold okc
  rw [Bool.or_eq_true, beq_iff_eq, beq_iff_eq, ← UInt8.toNat_inj, ← UInt8.toNat_inj]
  simp; omega

theorem l1In_yes (n lo hi : Int) (w : World) (h1 : lo ≤ n) (h2 : n ≤ hi) : Calls Try.prog 84 #[.int .i64 n, .int .i64 lo, .int .i64 hi] w fun e w' => e = .returned (.bool true) ∧ w = w' := by
  go_enter Try.func84, Try.ntmps84
  go_wp2
  go_ret; exact ⟨rfl, rfl⟩

theorem l1In_no (n lo hi : Int) (w : World) (h : n < lo ∨ hi < n) : Calls Try.prog 84 #[.int .i64 n, .int .i64 lo, .int .i64 hi] w fun e w' => e = .returned (.bool false) ∧ w = w' := by
  by_cases h1 : n < lo
  · go_enter Try.func84, Try.ntmps84
    go_wp2
    go_ret; exact ⟨rfl, rfl⟩
  · have h2 : hi < n := by omega
    clear h
    go_enter Try.func84, Try.ntmps84
    go_wp2
    go_ret; exact ⟨ret_bool (by simp; omega), rfl⟩

theorem all_take (s : ByteArray) (k : Nat) (h : k < s.size) : (s.data.toList.take (k+1)).all okc = ((s.data.toList.take k).all okc && okc s[k]) := by
  rw [List.take_succ_eq_append_getElem (by simpa using h), List.all_append]
  simp; rfl

theorem goodB_yes (s : ByteArray) (h1 : 1 ≤ s.size) (h2 : s.size ≤ 20) (h : s.data.toList.all okc = true) : goodB s.data.toList = true := by
  unfold goodB; rw [h]; simp; omega
theorem goodB_no (s : ByteArray) (k : Nat) (hk : k < s.size) (h : okc s[k] = false) : goodB s.data.toList = false := by
  unfold goodB
  have : s.data.toList.all okc = false := by
    rw [← Bool.not_eq_true]; intro ht
    rw [List.all_eq_true] at ht
    have := ht s[k] (by simp; exact Array.getElem_mem _)
    rw [h] at this; cases this
  rw [this]; simp
theorem goodB_len (s : ByteArray) (h : s.size < 1 ∨ 20 < s.size) : goodB s.data.toList = false := by
  unfold goodB
  have : (decide (1 ≤ s.data.toList.length) && decide (s.data.toList.length ≤ 20)) = false := by simp; omega
  rw [this]; rfl

/-- what a sign is, in the walk's words -/
theorem sign_cases (c : UInt8) : (okc c = true ∧ c.toNat = 48 ∧ ((c.toNat : Int) != 48) = false ∧ ((c.toNat : Int) != 49) = true) ∨ (okc c = true ∧ c.toNat = 49 ∧ ((c.toNat : Int) != 48) = true ∧ ((c.toNat : Int) != 49) = false) ∨ (okc c = false ∧ ((c.toNat : Int) != 48) = true ∧ ((c.toNat : Int) != 49) = true) := by
  by_cases h : okc c = true
  · rcases (okc_iff c).1 h with g | g
    · left; exact ⟨h, by omega, by rw [g]; rfl, by rw [g]; rfl⟩
    · right; left; exact ⟨h, by omega, by rw [g]; rfl, by rw [g]; rfl⟩
  · right; right
    have h' := fun x => h ((okc_iff c).2 x)
    refine ⟨by simpa using h, ?_, ?_⟩
    · simp; intro e; exact h' (Or.inl e)
    · simp; intro e; exact h' (Or.inr e)


end Go.Proofs.Ytjlecipeoaohiaa

namespace Go.Proofs.Ytjlecipeoaohiaa.RM
/-- induction over a list from its end -/
theorem revRec {α : Type} {P : List α → Prop} (nil : P []) (append_singleton : ∀ l a, P l → P (l ++ [a])) (l : List α) : P l := by
  have h : ∀ r : List α, P r.reverse := by
    intro r
    induction r with
    | nil => exact nil
    | cons a r ih => rw [List.reverse_cons]; exact append_singleton _ _ ih
  have := h l.reverse
  rwa [List.reverse_reverse] at this
section Found
variable {S : Type}
/-- what a search has found: how far each state is, in how many ways, and in what order they were found -/
structure Sr (S : Type) where
  far : S → Option Nat
  way : S → Nat
  q : List S
def Sr.dst (st : Sr S) (t : S) : Nat := (st.far t).getD 0
/-- what lasts -/
structure Ext (a b : Sr S) : Prop where
  far : ∀ t m, a.far t = some m → b.far t = some m
  q : a.q <+: b.q
theorem Ext.refl (a : Sr S) : Ext a a := ⟨fun _ _ h => h, List.prefix_refl _⟩
theorem Ext.trans {a b c : Sr S} (h : Ext a b) (k : Ext b c) : Ext a c := ⟨fun t m e => k.far t m (h.far t m e), h.q.trans k.q⟩
theorem Ext.get {a b : Sr S} (h : Ext a b) {i : Nat} {u : S} (e : a.q[i]? = some u) : b.q[i]? = some u := by
  obtain ⟨r, hr⟩ := h.q
  obtain ⟨hl, _⟩ := List.getElem?_eq_some_iff.1 e
  rw [← hr, List.getElem?_append_left hl]; exact e
/-- what holds of a search in which k states have been visited, and of the next one the neighbours l -/
structure Ok (nb : S → List S) (s0 : S) (k : Nat) (l : List S) (st : Sr S) : Prop where
  nd : st.q.Nodup
  mem : ∀ t, t ∈ st.q ↔ st.far t ≠ none
  zero : st.far s0 = some 0
  only : ∀ t, st.far t = some 0 → t = s0
  sorted : ∀ (i j : Nat) (u v : S), i ≤ j → st.q[i]? = some u → st.q[j]? = some v → st.dst u ≤ st.dst v
  near : ∀ u v, st.q[k]? = some u → v ∈ st.q → st.dst v ≤ st.dst u + 1
  par : ∀ t, t ∈ st.q → t ≠ s0 → ∃ (i : Nat) (u : S), i ≤ k ∧ (i = k → t ∈ l) ∧ st.q[i]? = some u ∧ st.dst t = st.dst u + 1 ∧ t ∈ nb u
  cl : ∀ (i : Nat) (u : S), i < k → st.q[i]? = some u → ∀ t ∈ nb u, t ∈ st.q ∧ st.dst t ≤ st.dst u + 1
  clp : ∀ u, st.q[k]? = some u → ∀ t ∈ l, t ∈ st.q ∧ st.dst t ≤ st.dst u + 1

theorem Ok.dst {nb : S → List S} {s0 : S} {k : Nat} {l : List S} {st : Sr S} (h : Ok nb s0 k l st) {t : S} (ht : t ∈ st.q) : st.far t = some (st.dst t) := by
  have := (h.mem t).1 ht
  unfold Sr.dst
  cases e : st.far t with
  | none => exact absurd e this
  | some m => rfl

end Found
section Search
variable {S : Type} [DecidableEq S]

def Sr.one (s : S) : Sr S := ⟨fun t => if t = s then some 0 else none, fun t => if t = s then 1 else 0, [s]⟩
/-- w ways of n moves to t are added -/
def Sr.add (M n w : Nat) (st : Sr S) (t : S) : Sr S :=
  match st.far t with
  | none => ⟨fun u => if u = t then some n else st.far u, fun u => if u = t then min (st.way t + w) M else st.way u, st.q ++ [t]⟩
  | some m => if m = n then ⟨st.far, fun u => if u = t then min (st.way t + w) M else st.way u, st.q⟩ else st
def Sr.part (M n : Nat) (s : S) (l : List S) (st : Sr S) : Sr S := l.foldl (fun a t => a.add M n (a.way s) t) st
def Sr.visit (M : Nat) (nb : S → List S) (st : Sr S) (s : S) : Sr S := st.part M (st.dst s + 1) s (nb s)
def run (M : Nat) (nb : S → List S) (s0 : S) : Nat → Sr S
  | 0 => Sr.one s0
  | k + 1 => match (run M nb s0 k).q[k]? with
    | none => run M nb s0 k
    | some s => (run M nb s0 k).visit M nb s

theorem Sr.part_nil (M n : Nat) (s : S) (st : Sr S) : st.part M n s [] = st := rfl
theorem Sr.part_snoc (M n : Nat) (s : S) (l : List S) (t : S) (st : Sr S) : st.part M n s (l ++ [t]) = (st.part M n s l).add M n ((st.part M n s l).way s) t := by
  unfold Sr.part; rw [List.foldl_append]; rfl

/-- what one state added leaves as it is -/
theorem Sr.add_far {M n w : Nat} {st : Sr S} {t u : S} {m : Nat} (h : st.far u = some m) : (st.add M n w t).far u = some m := by
  unfold Sr.add
  split
  · rename_i h0
    show (if u = t then some n else st.far u) = some m
    rw [if_neg (fun e => by rw [e, h0] at h; cases h)]; exact h
  · split
    · exact h
    · exact h
theorem Sr.add_q {M n w : Nat} {st : Sr S} {t : S} : (st.far t = none ∧ (st.add M n w t).q = st.q ++ [t] ∧ (st.add M n w t).far t = some n ∧ ∀ u, u ≠ t → (st.add M n w t).far u = st.far u) ∨ (∃ m, st.far t = some m ∧ (st.add M n w t).q = st.q ∧ (st.add M n w t).far = st.far) := by
  unfold Sr.add
  split
  · rename_i h0
    left; refine ⟨h0, rfl, ?_, fun u hu => ?_⟩
    · show (if t = t then some n else _) = _; rw [if_pos rfl]
    · show (if u = t then some n else _) = _; rw [if_neg hu]
  · rename_i m h0
    right; refine ⟨m, h0, ?_⟩
    split <;> exact ⟨rfl, rfl⟩
theorem Sr.add_way {M n w : Nat} {st : Sr S} {t u : S} (h : ∃ m, st.far u = some m ∧ m ≠ n) : (st.add M n w t).way u = st.way u := by
  obtain ⟨m, h, hn⟩ := h
  unfold Sr.add
  split
  · rename_i h0
    show (if u = t then _ else st.way u) = _
    rw [if_neg (fun e => by rw [e, h0] at h; cases h)]
  · rename_i m' h0
    split
    · rename_i e
      show (if u = t then _ else st.way u) = _
      rw [if_neg (fun e2 => by rw [e2, h0] at h; cases h; exact hn e)]
    · rfl
/-- the ways behind: to a state that is so far, or now is found -/
theorem Sr.add_ways {M n w : Nat} {st : Sr S} {t u : S} : (st.add M n w t).way u = if u = t ∧ (st.add M n w t).far t = some n then min (st.way t + w) M else st.way u := by
  unfold Sr.add
  split
  · show (if u = t then _ else _) = if u = t ∧ (if t = t then some n else _) = some n then _ else _
    rw [if_pos (rfl : t = t)]; simp
  · rename_i m h0
    split
    · rename_i e
      show (if u = t then _ else _) = if u = t ∧ st.far t = some n then _ else _
      rw [h0, e]; simp
    · rename_i e
      rw [h0, if_neg]
      rintro ⟨-, e2⟩; exact e (Option.some.inj e2)

theorem ext_add {M n w : Nat} {st : Sr S} {t : S} : Ext st (st.add M n w t) := by
  refine ⟨fun u m h => Sr.add_far h, ?_⟩
  rcases Sr.add_q (M := M) (n := n) (w := w) (st := st) (t := t) with ⟨-, h, -⟩ | ⟨m, -, h, -⟩
  · rw [h]; exact List.prefix_append _ _
  · rw [h]; exact List.prefix_refl _
theorem ext_part {M n : Nat} {s : S} {st : Sr S} (l : List S) : Ext st (st.part M n s l) := by
  induction l using revRec with
  | nil => exact Ext.refl _
  | append_singleton l t ih => rw [Sr.part_snoc]; exact ih.trans ext_add
theorem ext_step (M : Nat) (nb : S → List S) (s0 : S) (k : Nat) : Ext (run M nb s0 k) (run M nb s0 (k + 1)) := by
  show Ext _ (match (run M nb s0 k).q[k]? with | none => _ | some s => _)
  cases (run M nb s0 k).q[k]? with
  | none => exact Ext.refl _
  | some s => exact ext_part _
theorem ext_run (M : Nat) (nb : S → List S) (s0 : S) {j k : Nat} (h : j ≤ k) : Ext (run M nb s0 j) (run M nb s0 k) := by
  induction k with
  | zero => obtain rfl : j = 0 := by omega
            exact Ext.refl _
  | succ k ih =>
    by_cases e : j = k + 1
    · subst e; exact Ext.refl _
    · exact (ih (by omega)).trans (ext_step M nb s0 k)

theorem ok_one (nb : S → List S) (s0 : S) : Ok nb s0 0 [] (Sr.one s0) where
  nd := by simp [Sr.one]
  mem t := by simp [Sr.one]
  zero := by simp [Sr.one]
  only t h := by simp only [Sr.one] at h; split at h <;> simp_all
  sorted i j u v _ hi hj := by
    match i, j with
    | 0, 0 => rw [hi] at hj; cases hj; exact Nat.le_refl _
    | _, j + 1 => simp [Sr.one] at hj
    | i + 1, 0 => simp [Sr.one] at hi
  near u v hu hv := by simp [Sr.one] at hu hv; subst hu; subst hv; omega
  par t ht hne := by simp [Sr.one] at ht; exact absurd ht hne
  cl i u hi := by omega
  clp u _ t ht := by cases ht

theorem Ok.add {nb : S → List S} {s0 : S} {k : Nat} {l : List S} {st : Sr S} (h : Ok nb s0 k l st) {s t : S} (hs : st.q[k]? = some s) (ht : t ∈ nb s) (M w : Nat) :
    Ok nb s0 k (l ++ [t]) (st.add M (st.dst s + 1) w t) ∧ (st.add M (st.dst s + 1) w t).q[k]? = some s ∧ (st.add M (st.dst s + 1) w t).dst s = st.dst s := by
  have hE : Ext st (st.add M (st.dst s + 1) w t) := ext_add
  have hsm : s ∈ st.q := List.mem_of_getElem? hs
  have hd : ∀ u, u ∈ st.q → (st.add M (st.dst s + 1) w t).dst u = st.dst u := fun u hu => by
    have := hE.far u _ (h.dst hu)
    unfold Sr.dst at *; rw [this]; rfl
  refine ⟨?_, hE.get hs, hd s hsm⟩
  rcases Sr.add_q (M := M) (n := st.dst s + 1) (w := w) (st := st) (t := t) with ⟨h0, hq, hf, ho⟩ | ⟨m, h0, hq, hf⟩
  · have htn : t ∉ st.q := fun e => (h.mem t).1 e h0
    have hdt : (st.add M (st.dst s + 1) w t).dst t = st.dst s + 1 := by unfold Sr.dst at *; rw [hf]; rfl
    have hne : t ≠ s0 := fun e => by rw [e, h.zero] at h0; cases h0
    have hmem : ∀ v, v ∈ (st.add M (st.dst s + 1) w t).q ↔ v ∈ st.q ∨ v = t := fun v => by rw [hq]; simp
    have hget : ∀ i u, (st.add M (st.dst s + 1) w t).q[i]? = some u → (st.q[i]? = some u ∧ u ∈ st.q) ∨ (u = t ∧ i = st.q.length) := fun i u e => by
      rw [hq] at e
      by_cases hi : i < st.q.length
      · rw [List.getElem?_append_left hi] at e; exact .inl ⟨e, List.mem_of_getElem? e⟩
      · rw [List.getElem?_append_right (by omega)] at e
        right
        cases hj : i - st.q.length with
        | zero => rw [hj] at e; simp at e; exact ⟨e.symm, by omega⟩
        | succ j => rw [hj] at e; simp at e
    have hkl : k < st.q.length := (List.getElem?_eq_some_iff.1 hs).1
    refine ⟨?_, fun v => ?_, ?_, fun v hv => ?_, fun i j u v hij hi hj => ?_, fun u v hu hv => ?_, fun v hv hn => ?_, fun i u hi hu v hv => ?_, fun u hu v hv => ?_⟩
    · rw [hq, List.nodup_append]
      refine ⟨h.nd, by simp, fun a ha b hb => ?_⟩
      simp at hb; subst hb; exact fun e => htn (e ▸ ha)
    · rw [hmem]
      by_cases e : v = t
      · subst e; rw [hf]; simp
      · rw [ho v e, h.mem]; simp [e]
    · rw [ho s0 (Ne.symm hne)]; exact h.zero
    · by_cases e : v = t
      · subst e; rw [hf] at hv; simp at hv
      · rw [ho v e] at hv; exact h.only v hv
    · rcases hget i u hi with ⟨a, a'⟩ | ⟨rfl, a⟩
      · rcases hget j v hj with ⟨b, b'⟩ | ⟨rfl, b⟩
        · rw [hd u a', hd v b']; exact h.sorted i j u v hij a b
        · rw [hd u a', hdt]; exact h.near s u hs a'
      · rcases hget j v hj with ⟨b, b'⟩ | ⟨rfl, b⟩
        · have := (List.getElem?_eq_some_iff.1 b).1; omega
        · exact Nat.le_refl _
    · rcases hget k u hu with ⟨a, a'⟩ | ⟨_, a⟩
      · rw [hs] at a; cases a
        rw [hd s hsm]
        rcases (hmem v).1 hv with b | rfl
        · rw [hd v b]; exact h.near s v hs b
        · omega
      · omega
    · rcases (hmem v).1 hv with b | rfl
      · obtain ⟨i, u, h1, h2, h3, h4, h5⟩ := h.par v b hn
        exact ⟨i, u, h1, fun e => List.mem_append_left _ (h2 e), hE.get h3, by rw [hd v b, hd u (List.mem_of_getElem? h3)]; exact h4, h5⟩
      · exact ⟨k, s, Nat.le_refl _, fun _ => by simp, hE.get hs, by rw [hd s hsm]; exact hdt, ht⟩
    · rcases hget i u hu with ⟨a, a'⟩ | ⟨_, a⟩
      · obtain ⟨c1, c2⟩ := h.cl i u hi a v hv
        exact ⟨(hmem v).2 (.inl c1), by rw [hd v c1, hd u a']; exact c2⟩
      · omega
    · rcases hget k u hu with ⟨a, a'⟩ | ⟨_, a⟩
      · rw [hs] at a; cases a
        rw [hd s hsm]
        rcases List.mem_append.1 hv with b | b
        · obtain ⟨c1, c2⟩ := h.clp s hs v b
          exact ⟨(hmem v).2 (.inl c1), by rw [hd v c1]; exact c2⟩
        · simp at b; subst b
          exact ⟨(hmem v).2 (.inr rfl), by omega⟩
      · omega
  · have hdd : ∀ u, (st.add M (st.dst s + 1) w t).dst u = st.dst u := fun u => by unfold Sr.dst at *; rw [hf]
    have htm : t ∈ st.q := (h.mem t).2 (by rw [h0]; simp)
    refine ⟨by rw [hq]; exact h.nd, fun v => by rw [hq, hf]; exact h.mem v, by rw [hf]; exact h.zero, fun v hv => h.only v (by rw [hf] at hv; exact hv), fun i j u v hij hi hj => ?_, fun u v hu hv => ?_, fun v hv hn => ?_, fun i u hi hu v hv => ?_, fun u hu v hv => ?_⟩
    · rw [hq] at hi hj; rw [hdd, hdd]; exact h.sorted i j u v hij hi hj
    · rw [hq] at hu hv; rw [hdd, hdd]; exact h.near u v hu hv
    · rw [hq] at hv
      obtain ⟨i, u, h1, h2, h3, h4, h5⟩ := h.par v hv hn
      exact ⟨i, u, h1, fun e => List.mem_append_left _ (h2 e), by rw [hq]; exact h3, by rw [hdd, hdd]; exact h4, h5⟩
    · rw [hq] at hu ⊢; rw [hdd, hdd]; exact h.cl i u hi hu v hv
    · rw [hq] at hu ⊢; rw [hdd, hdd]
      rw [hs] at hu; cases hu
      rcases List.mem_append.1 hv with b | b
      · exact h.clp s hs v b
      · simp at b; subst b
        exact ⟨htm, h.near s v hs htm⟩

theorem Ok.part {nb : S → List S} {s0 : S} {k : Nat} {st : Sr S} (h : Ok nb s0 k [] st) {s : S} (hs : st.q[k]? = some s) (M : Nat) (l : List S) (hl : ∀ t ∈ l, t ∈ nb s) :
    Ok nb s0 k l (st.part M (st.dst s + 1) s l) ∧ (st.part M (st.dst s + 1) s l).q[k]? = some s ∧ (st.part M (st.dst s + 1) s l).dst s = st.dst s := by
  induction l using revRec with
  | nil => exact ⟨h, hs, rfl⟩
  | append_singleton l t ih =>
    obtain ⟨i1, i2, i3⟩ := ih (fun u hu => hl u (List.mem_append_left _ hu))
    rw [Sr.part_snoc]
    have := i1.add i2 (hl t (by simp)) M ((st.part M (st.dst s + 1) s l).way s)
    rw [i3] at this; exact this
theorem Ok.next {nb : S → List S} {s0 : S} {k : Nat} {st : Sr S} {s : S} (h : Ok nb s0 k (nb s) st) (hs : st.q[k]? = some s) : Ok nb s0 (k + 1) [] st where
  nd := h.nd
  mem := h.mem
  zero := h.zero
  only := h.only
  sorted := h.sorted
  near u v hu hv := by
    have := h.sorted k (k + 1) s u (by omega) hs hu
    have := h.near s v hs hv
    omega
  par t ht hn := by
    obtain ⟨i, u, h1, h2, h3⟩ := h.par t ht hn
    exact ⟨i, u, by omega, fun e => by omega, h3⟩
  cl i u hi hu t ht := by
    by_cases e : i = k
    · subst e; rw [hs] at hu; cases hu; exact h.clp s hs t ht
    · exact h.cl i u (by omega) hu t ht
  clp u _ t ht := by cases ht
theorem run_some {M : Nat} {nb : S → List S} {s0 s : S} {k : Nat} (h : (run M nb s0 k).q[k]? = some s) : run M nb s0 (k + 1) = (run M nb s0 k).visit M nb s := by
  show (match (run M nb s0 k).q[k]? with | none => _ | some s => _) = _
  rw [h]
theorem run_none {M : Nat} {nb : S → List S} {s0 : S} {k : Nat} (h : (run M nb s0 k).q[k]? = none) : run M nb s0 (k + 1) = run M nb s0 k := by
  show (match (run M nb s0 k).q[k]? with | none => _ | some s => _) = _
  rw [h]
theorem run_ok (M : Nat) (nb : S → List S) (s0 : S) (k : Nat) : Ok nb s0 k [] (run M nb s0 k) := by
  induction k with
  | zero => exact ok_one nb s0
  | succ k ih =>
    cases h : (run M nb s0 k).q[k]? with
    | none =>
      rw [run_none h]
      have hl : (run M nb s0 k).q.length ≤ k := List.getElem?_eq_none_iff.1 h
      refine ⟨ih.nd, ih.mem, ih.zero, ih.only, ih.sorted, fun u v hu _ => ?_, fun t ht hn => ?_, fun i u hi hu => ?_, fun u _ t ht => by cases ht⟩
      · rw [List.getElem?_eq_none (by omega)] at hu; cases hu
      · obtain ⟨i, u, h1, h2, h3⟩ := ih.par t ht hn
        exact ⟨i, u, by omega, fun e => by omega, h3⟩
      · by_cases e : i = k
        · subst e; rw [h] at hu; cases hu
        · exact ih.cl i u (by omega) hu
    | some s =>
      rw [run_some h]
      obtain ⟨a, b, c⟩ := ih.part h M (nb s) (fun _ h => h)
      exact Ok.next a b
theorem run_stay {M : Nat} {nb : S → List S} {s0 : S} {k : Nat} (h : (run M nb s0 k).q[k]? = none) : ∀ j, k ≤ j → run M nb s0 j = run M nb s0 k := by
  intro j hj
  induction j with
  | zero => obtain rfl : k = 0 := by omega
            rfl
  | succ j ih =>
    by_cases e : k = j + 1
    · subst e; rfl
    · have i := ih (by omega)
      rw [← i]
      refine run_none ?_
      rw [i]
      have := List.getElem?_eq_none_iff.1 h
      exact List.getElem?_eq_none (by omega)

/-- all states, and the neighbours of each among them -/
structure Univ (nb : S → List S) (U : List S) : Prop where
  cl : ∀ s ∈ U, ∀ t ∈ nb s, t ∈ U
  sym : ∀ s ∈ U, ∀ t ∈ nb s, s ∈ nb t
theorem nodup_sub_len {U : List S} : ∀ {l : List S}, l.Nodup → (∀ t ∈ l, t ∈ U) → l.length ≤ U.length := by
  intro l
  induction l generalizing U with
  | nil => intro _ _; simp
  | cons a l ih =>
    intro hn hs
    have ha := hs a (by simp)
    rw [List.nodup_cons] at hn
    have := ih (U := U.erase a) hn.2 (fun t ht => (List.mem_erase_of_ne (fun e => hn.1 (by rw [← e]; exact ht))).2 (hs t (by simp [ht])))
    rw [List.length_erase_of_mem ha] at this
    have := List.length_pos_of_mem ha
    simp; omega
theorem Univ.sub {nb : S → List S} {U : List S} (h : Univ nb U) {s0 : S} (h0 : s0 ∈ U) (M k : Nat) : ∀ t ∈ (run M nb s0 k).q, t ∈ U := by
  have hO := run_ok M nb s0 k
  have key : ∀ n t, t ∈ (run M nb s0 k).q → (run M nb s0 k).dst t = n → t ∈ U := by
    intro n
    induction n with
    | zero => intro t ht hd; exact (hO.only t (by rw [hO.dst ht, hd])) ▸ h0
    | succ n ih =>
      intro t ht hd
      by_cases e : t = s0
      · subst e; exact h0
      · obtain ⟨i, u, _, _, h3, h4, h5⟩ := hO.par t ht e
        exact h.cl u (ih u (List.mem_of_getElem? h3) (by omega)) t h5
  intro t ht; exact key _ t ht rfl
theorem Univ.len {nb : S → List S} {U : List S} (h : Univ nb U) {s0 : S} (h0 : s0 ∈ U) (M k : Nat) : (run M nb s0 k).q.length ≤ U.length := nodup_sub_len (run_ok M nb s0 k).nd (h.sub h0 M k)
/-- what a search that visits all of them finds -/
def fin (M : Nat) (nb : S → List S) (U : List S) (s0 : S) : Sr S := run M nb s0 U.length
theorem Univ.fin_none {nb : S → List S} {U : List S} (h : Univ nb U) {s0 : S} (h0 : s0 ∈ U) (M : Nat) : (run M nb s0 U.length).q[U.length]? = none := List.getElem?_eq_none (h.len h0 M _)
theorem Univ.fin_at {nb : S → List S} {U : List S} (h : Univ nb U) {s0 : S} (h0 : s0 ∈ U) {M k : Nat} (hk : (run M nb s0 k).q[k]? = none) : run M nb s0 k = fin M nb U s0 := by
  unfold fin
  by_cases e : k ≤ U.length
  · exact (run_stay hk _ e).symm
  · exact run_stay (h.fin_none h0 M) k (by omega)
theorem Univ.fin_ext {nb : S → List S} {U : List S} (h : Univ nb U) {s0 : S} (h0 : s0 ∈ U) (M k : Nat) : Ext (run M nb s0 k) (fin M nb U s0) := by
  by_cases e : k ≤ U.length
  · exact ext_run M nb s0 e
  · rw [show run M nb s0 k = fin M nb U s0 from run_stay (h.fin_none h0 M) k (by omega)]; exact Ext.refl _
theorem part_way {M n : Nat} {s : S} {st : Sr S} (l : List S) {u : S} (h : ∃ m, st.far u = some m ∧ m ≠ n) : (st.part M n s l).way u = st.way u := by
  induction l using revRec with
  | nil => rfl
  | append_singleton l t ih =>
    rw [Sr.part_snoc, Sr.add_way, ih]
    obtain ⟨m, h1, h2⟩ := h
    exact ⟨m, (ext_part l).far u m h1, h2⟩
/-- a state that is visited next has got all its ways -/
theorem way_fixed {M : Nat} {nb : S → List S} {s0 e : S} {k : Nat} (h : (run M nb s0 k).q[k]? = some e) : ∀ j, k ≤ j → (run M nb s0 j).way e = (run M nb s0 k).way e := by
  intro j hj
  induction j with
  | zero => obtain rfl : k = 0 := by omega
            rfl
  | succ j ih =>
    by_cases e1 : k = j + 1
    · subst e1; rfl
    · rw [← ih (by omega)]
      cases hq : (run M nb s0 j).q[j]? with
      | none => rw [run_none hq]
      | some s =>
        rw [run_some hq]
        have hx := ext_run M nb s0 (show k ≤ j by omega)
        have hO := run_ok M nb s0 j
        have he := hx.get h
        refine part_way _ ⟨_, hO.dst (List.mem_of_getElem? he), ?_⟩
        have := hO.sorted k j e s (by omega) he hq
        omega
theorem Univ.way_fin {nb : S → List S} {U : List S} (h : Univ nb U) {s0 : S} (h0 : s0 ∈ U) {M k : Nat} {e : S} (hk : (run M nb s0 k).q[k]? = some e) : (fin M nb U s0).way e = (run M nb s0 k).way e := by
  unfold fin
  by_cases e1 : k ≤ U.length
  · exact way_fixed hk _ e1
  · have : run M nb s0 k = run M nb s0 U.length := run_stay (h.fin_none h0 M) k (by omega)
    rw [this]
theorem Univ.far_fin {nb : S → List S} {U : List S} (h : Univ nb U) {s0 : S} (h0 : s0 ∈ U) {M k : Nat} {e : S} (hk : (run M nb s0 k).q[k]? = some e) : (fin M nb U s0).far e = (run M nb s0 k).far e := by
  have hO := run_ok M nb s0 k
  have a := hO.dst (List.mem_of_getElem? hk)
  rw [a]; exact (h.fin_ext h0 M k).far e _ a
theorem Univ.fin_ok {nb : S → List S} {U : List S} (_h : Univ nb U) (M : Nat) (s0 : S) : Ok nb s0 U.length [] (fin M nb U s0) := run_ok M nb s0 U.length
/-- from a state that is found, not the first, a move leads nearer -/
theorem Univ.nearer {nb : S → List S} {U : List S} (h : Univ nb U) {s0 : S} (h0 : s0 ∈ U) {M : Nat} {t : S} {d : Nat} (ht : (fin M nb U s0).far t = some (d + 1)) : ∃ u ∈ nb t, (fin M nb U s0).far u = some d := by
  have hO := h.fin_ok M s0
  have hm : t ∈ (fin M nb U s0).q := (hO.mem t).2 (by rw [ht]; simp)
  have hne : t ≠ s0 := fun e => by rw [e, hO.zero] at ht; cases ht
  obtain ⟨i, u, _, _, h3, h4, h5⟩ := hO.par t hm hne
  have hu := List.mem_of_getElem? h3
  refine ⟨u, h.sym u (h.sub h0 M _ u hu) t h5, ?_⟩
  have hd : (fin M nb U s0).dst t = d + 1 := by unfold Sr.dst; rw [ht]; rfl
  rw [hO.dst hu]; congr 1; omega
/-- where a search stopped, it knows all nearer states; it never finds one that is too near -/
theorem Univ.near_iff {nb : S → List S} {U : List S} (h : Univ nb U) {s0 : S} (h0 : s0 ∈ U) {M k : Nat} {e : S} (hk : (run M nb s0 k).q[k]? = some e) {a t : S} {d : Nat} (ha : (run M nb s0 k).far a = some (d + 1)) (hd : d + 1 ≤ (run M nb s0 k).dst e) (ht : t ∈ nb a) :
    (∃ x, (run M nb s0 k).far t = some x ∧ x < d + 1) ↔ (fin M nb U s0).far t = some d := by
  have hX := h.fin_ext h0 M k
  have hF := h.fin_ok M s0
  have hO := run_ok M nb s0 k
  have hfa := hX.far a _ ha
  have hda : (fin M nb U s0).dst a = d + 1 := by unfold Sr.dst; rw [hfa]; rfl
  have haF : a ∈ (fin M nb U s0).q := (hF.mem a).2 (by rw [hfa]; simp)
  constructor
  · rintro ⟨x, hx, hlt⟩
    have hft := hX.far t _ hx
    have htF : t ∈ (fin M nb U s0).q := (hF.mem t).2 (by rw [hft]; simp)
    obtain ⟨i, hi⟩ := List.getElem?_of_mem htF
    have hil := (List.getElem?_eq_some_iff.1 hi).1
    have hiU := h.len h0 M U.length
    have := (hF.cl i t (by unfold fin at hil; omega) hi a (h.sym a (h.sub h0 M _ a haF) t ht)).2
    have hdt : (fin M nb U s0).dst t = x := by unfold Sr.dst; rw [hft]; rfl
    rw [hft]; congr 1; omega
  · intro hft
    refine ⟨d, ?_, by omega⟩
    have htF : t ∈ (fin M nb U s0).q := (hF.mem t).2 (by rw [hft]; simp)
    obtain ⟨i, hi⟩ := List.getElem?_of_mem htF
    have hdt : (fin M nb U s0).dst t = d := by unfold Sr.dst; rw [hft]; rfl
    have heq := hX.get hk
    have hde : (fin M nb U s0).dst e = (run M nb s0 k).dst e := by unfold Sr.dst; rw [h.far_fin h0 hk]
    have hik : i < k := by
      apply Nat.lt_of_not_le
      intro hle
      have := hF.sorted k i e t hle heq hi
      omega
    obtain ⟨r, hr⟩ := hX.q
    have hkl := (List.getElem?_eq_some_iff.1 hk).1
    rw [← hr, List.getElem?_append_left (by omega)] at hi
    have htO := List.mem_of_getElem? hi
    have h1 := hO.dst htO
    have h2 := hX.far t _ h1
    rw [hft] at h2
    rw [h1]; exact congrArg some (Option.some.inj h2).symm

/-- the ways, when the search has been done before -/
def ways2p (M : Nat) (F : S → Option Nat) (s : S) (n : Nat) (l : List S) (w : S → Nat) : S → Nat :=
  l.foldl (fun w t => if F t = some n then (fun u => if u = t then min (w t + w s) M else w u) else w) w
def ways2 (M : Nat) (nb : S → List S) (F : Sr S) (s0 : S) : Nat → S → Nat
  | 0 => fun t => if t = s0 then 1 else 0
  | k + 1 => match F.q[k]? with
    | none => ways2 M nb F s0 k
    | some s => ways2p M F.far s (F.dst s + 1) (nb s) (ways2 M nb F s0 k)
theorem ways2p_snoc (M : Nat) (F : S → Option Nat) (s : S) (n : Nat) (l : List S) (t : S) (w : S → Nat) :
    ways2p M F s n (l ++ [t]) w = (if F t = some n then (fun u => if u = t then min (ways2p M F s n l w t + ways2p M F s n l w s) M else ways2p M F s n l w u) else ways2p M F s n l w) := by
  unfold ways2p; rw [List.foldl_append]; rfl
theorem ways2_part {M n : Nat} {F : S → Option Nat} {s : S} : ∀ (l : List S) {st : Sr S} (_ : ∀ t m, (st.part M n s l).far t = some m → F t = some m) (_ : ∀ t ∈ l, (st.part M n s l).far t ≠ none), (st.part M n s l).way = ways2p M F s n l st.way := by
  intro l
  induction l using revRec with
  | nil => intro st _ _; rfl
  | append_singleton l t ih =>
    intro st hX hm
    have hE : Ext (st.part M n s l) (st.part M n s (l ++ [t])) := by rw [Sr.part_snoc]; exact ext_add
    have i := ih (st := st) (fun u m h => hX u m (hE.far u m h)) (fun u hu e => by
      -- a neighbour that was tried has been found
      have key : ∀ (l : List S) (st : Sr S), ∀ u ∈ l, (st.part M n s l).far u ≠ none := by
        intro l
        induction l using revRec with
        | nil => intro _ u hu; cases hu
        | append_singleton l t ih2 =>
          intro st u hu
          rw [Sr.part_snoc]
          have fr : ∀ v, (st.part M n s l).far v ≠ none → ((st.part M n s l).add M n ((st.part M n s l).way s) t).far v ≠ none := fun v hv => by
            cases e : (st.part M n s l).far v with
            | none => exact absurd e hv
            | some m => rw [Sr.add_far e]; simp
          rcases List.mem_append.1 hu with b | b
          · exact fr u (ih2 st u b)
          · simp at b; subst b
            rcases Sr.add_q (M := M) (n := n) (w := (st.part M n s l).way s) (st := st.part M n s l) (t := u) with ⟨_, _, h, _⟩ | ⟨m, h, _, h2⟩
            · rw [h]; simp
            · rw [h2, h]; simp
      exact key l st u hu e)
    rw [ways2p_snoc, ← i]
    funext u
    rw [Sr.part_snoc, Sr.add_ways]
    rw [Sr.part_snoc] at hX hm
    cases e : ((st.part M n s l).add M n ((st.part M n s l).way s) t).far t with
    | none => exact absurd e (hm t (by simp))
    | some m =>
      have := hX t m e
      rw [this]
      by_cases h1 : m = n
      · subst h1; by_cases h2 : u = t <;> simp [h2]
      · rw [if_neg (fun h => h1 (Option.some.inj h.2)), if_neg (fun h => h1 (Option.some.inj h))]
theorem Univ.ways2_run {nb : S → List S} {U : List S} (h : Univ nb U) {s0 : S} (h0 : s0 ∈ U) (M k : Nat) : ways2 M nb (fin M nb U s0) s0 k = (run M nb s0 k).way := by
  induction k with
  | zero => rfl
  | succ k ih =>
    have hX := h.fin_ext h0 M k
    show (match (fin M nb U s0).q[k]? with | none => _ | some s => _) = _
    cases hq : (run M nb s0 k).q[k]? with
    | none =>
      rw [run_none hq]
      have hn : (fin M nb U s0).q[k]? = none := by rw [← h.fin_at h0 hq]; exact hq
      rw [hn]; exact ih
    | some s =>
      rw [hX.get hq, run_some hq]; simp only []
      rw [ih]
      have hO := run_ok M nb s0 k
      have hd : (fin M nb U s0).dst s = (run M nb s0 k).dst s := by unfold Sr.dst; rw [h.far_fin h0 hq]
      rw [hd]
      have hX1 := h.fin_ext h0 M (k + 1)
      rw [run_some hq] at hX1
      unfold Sr.visit
      refine (ways2_part (nb s) (fun t m ht => hX1.far t m ht) (fun t ht => ?_)).symm
      have hp := hO.part hq M (nb s) (fun _ h => h)
      exact (hp.1.mem t).1 (hp.1.clp s hp.2.1 t ht).1
end Search
end Go.Proofs.Ytjlecipeoaohiaa.RM

--@file T:[]uint8
namespace Go.Proofs.Ytjlecipeoaohiaa
open Go Go.RowKit RM

abbrev vbyt (xs : List UInt8) : List Value := xs.map fun c => Value.int .u8 (c.toNat : Int)
/-- the value v owns the bytes xs, in memory from block B on -/
def OwnB (w : World) (B : Nat) (v : Value) (xs : List UInt8) : Prop := w.ownsRow B 5 1 v xs.length (vbyt xs)
theorem OwnB.size {w : World} {B : Nat} {v : Value} {xs : List UInt8} (h : OwnB w B v xs) (n : Nat) (hn : xs.length = n) : w.ownsRow B 5 1 v n (vbyt xs) := by subst hn; exact h
theorem byteInfo : (Try.prog.info? 5).map (fun i => (i.zero, i.size, i.bytes)) = some (some (.int .u8 0), 1, 1) := by kernel_rfl

/-- 'make([]byte, n)' -/
theorem make_byte (w : World) {ops : Array Oper} {rest : List Oper} {o : Oper} {a : Act} {Q : Exit → Act → World → Prop} (hgd : o.guard = none) (l c : Operand) (hop : o.op = Op.makeSlice 95 l c)
    (kl kc : IntKind) (n : Nat) (hl : a.eval l = .int kl n) (hc : a.eval c = .int kc n) (hn : n ≤ 2000000)
    (hK : ∀ w', OwnB w' w.heap.size (.slice (some ⟨w.heap.size, 0, none⟩) n n) (List.replicate n 0) → Below w.heap.size w w' → wpList Try.prog ops Q rest (a.put o.dst (.slice (some ⟨w.heap.size, 0, none⟩) n n)) w') : wpList Try.prog ops Q (o :: rest) a w := by
  obtain ⟨i0, hi, hz0, hz1, hz2⟩ := info_parts byteInfo
  refine wpList_make_full w hgd l c 95 hop w.heap.size 5 i0 (.int .u8 0) 1 Try.underlying95 hi hz0 hz1 kl kc n n n hl hc rfl rfl (by rw [hz2]; omega) (by unfold maxLen; omega) (Nat.le_refl _) ?_
  intro w' h1 h2
  refine hK w' ?_ ((Below.refl _ _).grown h2 (Nat.le_refl _) (fun k e => by cases e))
  unfold OwnB
  have e : vbyt (List.replicate n 0) = (madeCells (Value.int .u8 0).cells (n * 1)).toList := by
    rw [Nat.mul_one]
    show _ = (madeCells #[.int .u8 0] n).toList
    rw [toList_madeCells_one]; simp [vbyt]
  rw [e, List.length_replicate]; exact h1
theorem OwnB.stored {w : World} {B g n cap : Nat} {xs : List UInt8} (h : OwnB w B (.slice (some ⟨g, 0, none⟩) n cap) xs) (hn : xs.length = n) (k : Nat) (y : UInt8) :
    OwnB (w.setCell ⟨g, k, none⟩ (.int .u8 (y.toNat : Int))) B (.slice (some ⟨g, 0, none⟩) n cap) (xs.set k y) ∧ w.grownBy (w.setCell ⟨g, k, none⟩ (.int .u8 (y.toNat : Int))) (some g) := by
  have h' : w.ownsRow B 5 1 (.slice (some ⟨g, 0, none⟩) n cap) n (vbyt xs) := h.size n hn
  obtain ⟨a, b⟩ := h'.stored k (.int .u8 (y.toNat : Int))
  refine ⟨?_, b⟩
  unfold OwnB
  have e : vbyt (xs.set k y) = (vbyt xs).set k (.int .u8 (y.toNat : Int)) := by simp [vbyt, List.map_set]
  rw [e, List.length_set, hn]; exact a
theorem OwnB.cell {w : World} {B g n cap : Nat} {xs : List UInt8} (h : OwnB w B (.slice (some ⟨g, 0, none⟩) n cap) xs) (hn : xs.length = n) (k : Nat) (hk : k < xs.length) :
    w.cell? ⟨g, k, none⟩ = some (.int .u8 (xs[k].toNat : Int)) ∧ w.frozen? ⟨g, k, none⟩ = false := by
  have h' : w.ownsRow B 5 1 (.slice (some ⟨g, 0, none⟩) n cap) n (vbyt xs) := h.size n hn
  refine ⟨?_, h'.frozenAt k⟩
  rw [h'.cellAt k (by omega)]
  simp [vbyt, List.getElem?_eq_getElem hk]
theorem OwnB.kept {w w' : World} {B : Nat} {v : Value} {xs : List UInt8} {row : Option Nat} (h : OwnB w B v xs) (hg : w.grownBy w' row) (hne : v.ownBlock = none ∨ v.ownBlock ≠ row) : OwnB w' B v xs := World.ownsRow.kept h hg hne
theorem OwnB.drewN {w : World} {B : Nat} {v : Value} {xs : List UInt8} (h : OwnB w B v xs) (q : Nat) : OwnB (w.drewN q) B v xs := by
  refine h.kept (row := none) ⟨rfl, rfl, rfl, Nat.le_refl _, fun _ _ _ => rfl⟩ ?_
  cases hv : v.ownBlock
  · left; rfl
  · right; simp
/-- 'string(b)' -/
theorem str_byte (w : World) (B g n cap : Nat) (xs : List UInt8) (h : OwnB w B (.slice (some ⟨g, 0, none⟩) n cap) xs) (hn : xs.length = n) :
    (convert 95 9 (.slice (some ⟨g, 0, none⟩) n cap)).run Try.prog w = .ok (.string ⟨xs.toArray⟩) w := by
  subst hn
  refine run_convert_bytes_back w 95 9 5 ⟨g, 0, none⟩ cap xs Try.underlying95 Try.underlying5 Try.underlying9 fun j hj => ?_
  have := (h.cell rfl j hj).1
  have e : (⟨g, 0, none⟩ : Addr).add j = ⟨g, j, none⟩ := by unfold Addr.add; split <;> simp_all
  rw [e]; exact this
end Go.Proofs.Ytjlecipeoaohiaa

--@file T:[]int
namespace Go.Proofs.Ytjlecipeoaohiaa
open Go Go.RowKit RM

abbrev vint (xs : List Int) : List Value := xs.map (Value.int .i64)
/-- the value v owns the integers xs, in memory from block B on -/
def OwnI (w : World) (B : Nat) (v : Value) (xs : List Int) : Prop := w.ownsRow B 3 1 v xs.length (vint xs)

theorem OwnI.form {w : World} {B : Nat} {v : Value} {xs : List Int} (h : OwnI w B v xs) :
    (v = .slice none 0 0 ∧ xs = []) ∨ ∃ g cap, v = .slice (some ⟨g, 0, none⟩) xs.length cap ∧ B ≤ g ∧ g < w.heap.size ∧ (∀ k (hk : k < xs.length), w.cell? ⟨g, k, none⟩ = some (.int .i64 xs[k])) ∧ (∀ k, w.frozen? ⟨g, k, none⟩ = false) ∧ xs.length ≤ maxLen := by
  have h0 : w.ownsRow B 3 1 v xs.length (vint xs) := h
  rcases h.2 with ⟨h1, h2⟩ | ⟨g, cap, cur, rfl, hg, hh, hn, hc, _, _⟩
  · left; exact ⟨h1, List.length_eq_zero_iff.1 h2⟩
  · right
    refine ⟨g, cap, rfl, hg, lt_of_block hh, fun k hk => ?_, fun k => h0.frozenAt k, Nat.le_trans hn hc⟩
    rw [h0.cellAt k (by omega)]
    simp [vint, List.getElem?_eq_getElem hk]

theorem eqIntS_diff (pa pb : Option Addr) (la lb ca cb : Nat) (w : World) (h : ((la : Int) != (lb : Int)) = true) :
    Calls Try.prog 59 #[.slice pa la ca, .slice pb lb cb] w fun e w' => e = .returned (.bool false) ∧ ∃ q, w' = w.drewN q := by
  go_enter Try.func59, Try.ntmps59
  go_wp2
  go_ret; exact ⟨rfl, 0, rfl⟩

theorem eqIntS_nil (pa pb : Option Addr) (ca cb : Nat) (w : World) :
    Calls Try.prog 59 #[.slice pa 0 ca, .slice pb 0 cb] w fun e w' => e = .returned (.bool true) ∧ ∃ q, w' = w.drewN q := by
  go_enter Try.func59, Try.ntmps59
  go_wp2
  go_loopw [5] (fun i wr => i = .int .i64 0 ∧ wr = w) (fun _ _ => 0)
  case atStart => exact ⟨rfl, rfl⟩
  case round =>
    obtain ⟨rfl, rfl⟩ := hrel
    go_wp2
    go_ret; exact ⟨rfl, 0, rfl⟩

theorem eqIntS_some (ga gb n ca cb : Nat) (xs ys : List Int) (w : World) (hn : n ≤ maxLen) (b : Bool) (hb : Hid (decide (xs = ys) = b)) (hx : Hid (xs.length = n)) (hy : Hid (ys.length = n))
    (ha : Hid (∀ k (hk : k < xs.length), w.cell? ⟨ga, k, none⟩ = some (.int .i64 xs[k]))) (hc : Hid (∀ k (hk : k < ys.length), w.cell? ⟨gb, k, none⟩ = some (.int .i64 ys[k]))) :
    Calls Try.prog 59 #[.slice (some ⟨ga, 0, none⟩) n ca, .slice (some ⟨gb, 0, none⟩) n cb] w fun e w' => e = .returned (.bool b) ∧ ∃ q, w' = w.drewN q := by
  unfold maxLen at hn
  go_enter Try.func59, Try.ntmps59
  go_wp2
  go_loopw [5] (fun i wr => ∃ k q : Nat, k ≤ n ∧ i = .int .i64 k ∧ wr = w.drewN q ∧ Hid (xs.take k = ys.take k)) (fun i _ => n - (intOf i).toNat)
  case atStart => exact ⟨0, 0, by omega, rfl, rfl, rfl⟩
  case round =>
    obtain ⟨k, q, hk, rfl, rfl, ht⟩ := hrel
    by_cases hlt : k < n
    · have h1 := ha.out k (by rw [hx.out]; exact hlt)
      have h2 := hc.out k (by rw [hy.out]; exact hlt)
      obtain ⟨x, hxe⟩ : ∃ x, x = xs[k]'(by rw [hx.out]; exact hlt) := ⟨_, rfl⟩
      obtain ⟨y, hye⟩ : ∃ y, y = ys[k]'(by rw [hy.out]; exact hlt) := ⟨_, rfl⟩
      rw [← hxe] at h1
      rw [← hye] at h2
      have HX := Lib.hid hxe
      have HY := Lib.hid hye
      clear hxe hye
      have htk : Hid ((xs.take (k+1) = ys.take (k+1)) ↔ x = y) := Lib.hid (by
        have hkx : k < xs.length := by rw [hx.out]; exact hlt
        have hky : k < ys.length := by rw [hy.out]; exact hlt
        rw [List.take_succ_eq_append_getElem hkx, List.take_succ_eq_append_getElem hky, ht.out, ← HX.out, ← HY.out]
        simp)
      by_cases hxy : x = y
      · subst hxy
        have hne : (x != x) = false := by simp
        go_wp2
        go_quiet (fail)
        go_wp2
        go_roundw
        case rel => exact ⟨k + 1, q + nq, by omega, by go_num, rfl, Lib.hid (by have := htk.out; simpa using this)⟩
        all_goals (simp [intOf] <;> omega)
      · have hne : (x != y) = true := by simp [hxy]
        have HF : Hid (b = false) := Lib.hid (by
          rw [← hb.out]; simp; intro e; subst e; exact hxy (htk.out.1 rfl))
        clear hxy
        go_wp2
        go_quiet (fail)
        go_wp2
        go_ret; exact ⟨ret_bool HF.out.symm, q + nq, drewN_drewN _ _ _⟩
    · have HF : Hid (b = true) := Lib.hid (by
        have := ht.out
        rw [List.take_of_length_le (by rw [hx.out]; omega), List.take_of_length_le (by rw [hy.out]; omega)] at this
        rw [← hb.out]; simp [this])
      go_wp2
      go_ret; exact ⟨ret_bool HF.out.symm, q, rfl⟩

theorem eqIntS_any (va vb : Value) (xs ys : List Int) (A B : Nat) (w : World) (ha : OwnI w A va xs) (hb : OwnI w B vb ys) :
    Calls Try.prog 59 #[va, vb] w fun e w' => e = .returned (.bool (decide (xs = ys))) ∧ ∃ q, w' = w.drewN q := by
  have sh : ∀ {C : Nat} {v : Value} {zs : List Int}, OwnI w C v zs → ∃ p c, v = .slice p zs.length c ∧ zs.length ≤ maxLen := by
    intro C v zs h
    rcases h.form with ⟨rfl, rfl⟩ | ⟨g, cap, rfl, _, _, _, _, hm⟩
    · exact ⟨none, 0, rfl, Nat.zero_le _⟩
    · exact ⟨_, cap, rfl, hm⟩
  by_cases hl : xs.length = ys.length
  · by_cases h0 : xs.length = 0
    · obtain ⟨p, c, rfl, -⟩ := sh ha
      obtain ⟨p', c', rfl, -⟩ := sh hb
      have e : decide (xs = ys) = true := by
        have a := List.length_eq_zero_iff.1 h0
        have b := List.length_eq_zero_iff.1 (hl ▸ h0)
        simp [a, b]
      rw [← hl, h0, e]
      exact eqIntS_nil _ _ _ _ _
    · rcases ha.form with ⟨rfl, rfl⟩ | ⟨g, cap, rfl, _, _, hc, _, hm⟩
      · exact absurd rfl h0
      · rcases hb.form with ⟨rfl, rfl⟩ | ⟨g', cap', rfl, _, _, hc', _, hm'⟩
        · exact absurd hl h0
        · rw [← hl]
          exact eqIntS_some g g' _ _ _ xs ys w hm _ (Lib.hid rfl) (Lib.hid rfl) (Lib.hid hl.symm) (Lib.hid hc) (Lib.hid hc')
  · obtain ⟨p, c, rfl, -⟩ := sh ha
    obtain ⟨p', c', rfl, -⟩ := sh hb
    have e : decide (xs = ys) = false := by simp; intro e; exact hl (by rw [e])
    rw [e]
    exact eqIntS_diff _ _ _ _ _ _ _ (by simp; omega)

theorem eqIntS_same (va vb : Value) (xs : List Int) (A B : Nat) (w : World) (ha : OwnI w A va xs) (hb : OwnI w B vb xs) :
    Calls Try.prog 59 #[va, vb] w fun e w' => e = .returned (.bool true) ∧ ∃ q, w' = w.drewN q := by
  have h := eqIntS_any va vb xs xs A B w ha hb
  have e : decide (xs = xs) = true := by simp
  rw [e] at h; exact h

/-- the marks 1, 2, .. -/
def marks (n : Nat) : List Int := (List.range n).map fun (i : Nat) => 1 + (i : Int)
theorem marks_len (n : Nat) : (marks n).length = n := by simp [marks]
theorem marks_get (n k : Nat) (h : k < (marks n).length) : (marks n)[k] = 1 + (k : Int) := by simp [marks]

theorem heldIntS_some (g n cap : Nat) (w : World) (hn : n ≤ 2000000) (hc : Hid (∀ k, k < n → w.cell? ⟨g, k, none⟩ = some (.int .i64 (1 + (k : Int))))) :
    Calls Try.prog 61 #[.slice (some ⟨g, 0, none⟩) n cap, .int .i64 1] w fun e w' => e = .returned (.int .i64 (1 + (n : Int))) ∧ w = w' := by
  go_enter Try.func61, Try.ntmps61
  go_wp2
  go_loop [1, 5] (fun m i => ∃ k : Nat, k ≤ n ∧ i = .int .i64 k ∧ m = .int .i64 (1 + (k : Int))) (fun _ i => n - (intOf i).toNat)
  case atStart => exact ⟨0, by omega, rfl, rfl⟩
  case round =>
    obtain ⟨k, hk, rfl, rfl⟩ := hrel
    by_cases hlt : k < n
    · have h1 := hc.out k hlt
      have hne : ((1 + (k : Int)) != (1 + (k : Int))) = false := by simp
      go_wp2
      go_round
      case rel => exact ⟨k + 1, by omega, by go_num, vi (by omega)⟩
      all_goals (simp [intOf] <;> omega)
    · obtain rfl : k = n := by omega
      go_wp2
      go_ret; exact ⟨rfl, rfl⟩

theorem heldIntS_nil (p : Option Addr) (cap : Nat) (w : World) :
    Calls Try.prog 61 #[.slice p 0 cap, .int .i64 1] w fun e w' => e = .returned (.int .i64 1) ∧ w = w' := by
  go_enter Try.func61, Try.ntmps61
  go_wp2
  go_loop [1, 5] (fun m i => i = .int .i64 0 ∧ m = .int .i64 1) (fun _ _ => 0)
  case atStart => exact ⟨rfl, rfl⟩
  case round =>
    obtain ⟨rfl, rfl⟩ := hrel
    go_wp2
    go_ret; exact ⟨rfl, rfl⟩

theorem heldIntS_any (v : Value) (n B : Nat) (w : World) (hn : n ≤ 2000000) (h : OwnI w B v (marks n)) :
    Calls Try.prog 61 #[v, .int .i64 1] w fun e w' => e = .returned (.int .i64 (1 + (n : Int))) ∧ w = w' := by
  rcases h.form with ⟨rfl, h0⟩ | ⟨g, cap, rfl, _, _, hc, _, _⟩
  · have : n = 0 := by rw [← marks_len n, h0]; rfl
    subst this; exact heldIntS_nil _ _ w
  · rw [marks_len]
    exact heldIntS_some g n cap w hn (Lib.hid fun k hk => by rw [hc k (by rw [marks_len]; exact hk), marks_get])

theorem markIntS_some (g n cap B : Nat) (xs : List Int) (w : World) (hx : xs.length = n) (hn : n ≤ 2000000) (hw : OwnI w B (.slice (some ⟨g, 0, none⟩) xs.length cap) xs) :
    Calls Try.prog 60 #[.slice (some ⟨g, 0, none⟩) n cap, .int .i64 1] w fun e w' => e = .returned (.int .i64 (1 + (n : Int))) ∧ OwnI w' B (.slice (some ⟨g, 0, none⟩) n cap) (marks n) ∧ w.grownBy w' (some g) := by
  have hw0 : Hid (OwnI w B (.slice (some ⟨g, 0, none⟩) xs.length cap) xs) := Lib.hid hw
  have hxx := Lib.hid hx
  clear hw hx
  go_enter Try.func60, Try.ntmps60
  go_wp2
  go_loopw [1, 5] (fun m i wr => ∃ k : Nat, k ≤ n ∧ i = .int .i64 k ∧ m = .int .i64 (1 + (k : Int)) ∧ Hid (OwnI wr B (.slice (some ⟨g, 0, none⟩) n cap) (marks k ++ xs.drop k)) ∧ Hid (w.grownBy wr (some g))) (fun _ i _ => n - (intOf i).toNat)
  case atStart => exact ⟨0, by omega, rfl, rfl, by have := hw0.out; rw [hxx.out] at this; exact this, World.grownBy.refl _ _⟩
  case round =>
    obtain ⟨k, hk, rfl, rfl, ho, hg⟩ := hrel
    by_cases hlt : k < n
    · have hlen : Hid ((marks k ++ xs.drop k).length = n) := Lib.hid (by rw [List.length_append, marks_len, List.length_drop, hxx.out]; omega)
      have ho' : wr.ownsRow B 3 1 (.slice (some ⟨g, 0, none⟩) n cap) n (vint (marks k ++ xs.drop k)) := by
        have := ho.out; unfold OwnI at this; rw [hlen.out] at this; exact this
      have h1r := ho'.cellAt k (by omega)
      have h2 := ho'.frozenAt k
      have hst := Lib.hid (ho'.stored k (.int .i64 (1 + (k : Int))))
      have hkl : k < (marks k ++ xs.drop k).length := by rw [hlen.out]; exact hlt
      have h1 : ∃ y : Int, wr.cell? ⟨g, k, none⟩ = some (.int .i64 y) := ⟨(marks k ++ xs.drop k)[k], h1r.trans (by unfold vint; rw [List.getElem?_map, List.getElem?_eq_getElem hkl]; rfl)⟩
      obtain ⟨y, h1⟩ := h1
      clear hkl h1r
      clear ho'
      go_wp2
      go_roundw
      case rel =>
        refine ⟨k + 1, by omega, by go_num, vi (by omega), ?_, ?_⟩
        · have hs := hst.out.1
          have hm : ∀ (i : Nat), i < n → True := fun _ _ => trivial
          have e : (vint (marks k ++ xs.drop k)).set k (.int .i64 (1 + (k : Int))) = vint (marks (k + 1) ++ xs.drop (k + 1)) := by
            unfold vint
            rw [← List.map_set]
            congr 1
            have hd : xs.drop k = xs[k]'(by rw [hxx.out]; exact hlt) :: xs.drop (k + 1) := List.drop_eq_getElem_cons _
            rw [hd, List.set_append_right _ _ (by rw [marks_len]; exact Nat.le_refl _), marks_len, Nat.sub_self, List.set_cons_zero]
            unfold marks
            rw [List.range_succ, List.map_append]
            simp
          have hl2 : (marks (k + 1) ++ xs.drop (k + 1)).length = n := by rw [List.length_append, marks_len, List.length_drop, hxx.out]; omega
          refine Lib.hid ?_
          unfold OwnI
          rw [hl2, ← e]; exact hs
        · exact Lib.hid (Lib.grownBy_trans hg.out hst.out.2)
      all_goals (simp [intOf] <;> omega)
    · obtain rfl : k = n := by omega
      go_wp2
      go_ret; exact ⟨rfl, by have := ho.out; rw [List.drop_of_length_le (by rw [hxx.out]; omega), List.append_nil] at this; exact this, hg.out⟩

theorem markIntS_nil (p : Option Addr) (cap : Nat) (w : World) :
    Calls Try.prog 60 #[.slice p 0 cap, .int .i64 1] w fun e w' => e = .returned (.int .i64 1) ∧ w = w' := by
  go_enter Try.func60, Try.ntmps60
  go_wp2
  go_loop [1, 5] (fun m i => i = .int .i64 0 ∧ m = .int .i64 1) (fun _ _ => 0)
  case atStart => exact ⟨rfl, rfl⟩
  case round =>
    obtain ⟨rfl, rfl⟩ := hrel
    go_wp2
    go_ret; exact ⟨rfl, rfl⟩

/-- what a mark does: the value owns the marks; all other blocks are as they were -/
theorem markIntS_any (v : Value) (xs : List Int) (B : Nat) (w : World) (hn : xs.length ≤ 2000000) (h : OwnI w B v xs) :
    Calls Try.prog 60 #[v, .int .i64 1] w fun e w' => e = .returned (.int .i64 (1 + (xs.length : Int))) ∧ OwnI w' B v (marks xs.length) ∧ w.grownBy w' v.ownBlock := by
  rcases h.form with ⟨rfl, h0⟩ | ⟨g, cap, rfl, _, _, hc, _, _⟩
  · subst h0
    exact (markIntS_nil none 0 w).mono fun e w' ⟨he, hw⟩ => ⟨he, by subst hw; exact h, by subst hw; exact World.grownBy.refl _ _⟩
  · exact markIntS_some g xs.length cap B xs w rfl hn h

theorem OwnI.lt {w : World} {B : Nat} {v : Value} {xs : List Int} (h : OwnI w B v xs) : ∀ k, v.ownBlock = some k → B ≤ k ∧ k < w.heap.size := World.ownsRow.lt h
theorem OwnI.kept {w w' : World} {B : Nat} {v : Value} {xs : List Int} {row : Option Nat} (h : OwnI w B v xs) (hg : w.grownBy w' row) (hne : v.ownBlock = none ∨ v.ownBlock ≠ row) : OwnI w' B v xs := World.ownsRow.kept h hg hne
theorem grown_of_below {w w' : World} (h : Below w.heap.size w w') : w.grownBy w' none := ⟨h.os, h.tape, h.output, h.size, fun k hk _ => h.block k hk⟩
theorem OwnI.below {w w' : World} {B : Nat} {v : Value} {xs : List Int} (h : OwnI w B v xs) (hb : Below w.heap.size w w') : OwnI w' B v xs := by
  refine h.kept (grown_of_below hb) ?_
  cases hv : v.ownBlock
  · left; rfl
  · right; simp
theorem OwnI.drewN {w : World} {B : Nat} {v : Value} {xs : List Int} (h : OwnI w B v xs) (q : Nat) : OwnI (w.drewN q) B v xs := h.below (below_drewN (Below.refl _ _) q)
theorem OwnI.mono {w : World} {B C : Nat} {v : Value} {xs : List Int} (h : OwnI w B v xs) (hc : C ≤ B) : OwnI w C v xs := by
  obtain ⟨a, b⟩ := h
  refine ⟨a, ?_⟩
  rcases b with b | ⟨g, cap, cur, h1, h2, h3⟩
  · exact .inl b
  · exact .inr ⟨g, cap, cur, h1, by omega, h3⟩
/-- another's row is kept by a mark: rows from different places differ -/
theorem own_ne {w : World} {B C : Nat} {v u : Value} {xs ys : List Int} (_ : OwnI w B v xs) (hv : ∀ k, v.ownBlock = some k → k < C) (k : OwnI w C u ys) : v.ownBlock = none ∨ v.ownBlock ≠ u.ownBlock := by
  cases e : v.ownBlock with
  | none => left; rfl
  | some a =>
    right
    intro e2
    have := (k.lt a e2.symm).1
    have := hv a e
    omega

theorem intInfo : (Try.prog.info? 3).map (fun i => (i.zero, i.size, i.bytes)) = some (some (.int .i64 0), 1, 8) := by kernel_rfl
theorem OwnI.alloc {w : World} {B : Nat} {v : Value} {xs : List Int} (h : OwnI w B v xs) (o : Obj) : OwnI (w.alloc o) B v xs := World.ownsRow.alloc h o
theorem OwnI.nil (w : World) (B : Nat) : OwnI w B (.slice none 0 0) [] := World.ownsRow_nil _ _ _ _
theorem OwnI.size {w : World} {B : Nat} {v : Value} {xs : List Int} (h : OwnI w B v xs) (n : Nat) (hn : xs.length = n) : w.ownsRow B 3 1 v n (vint xs) := by subst hn; exact h

/-- 'append(out, y)' onto a row of integers of the call's own -/
theorem app_int (w : World) {ops : Array Oper} {rest : List Oper} {o : Oper} {a : Act} {Q : Exit → Act → World → Prop} (hgd : o.guard = none) (s x : Operand)
    (ho : o.op = .call { callee := .builtin .append, args := #[s, x], argTypes := #[54, 54] })
    (B : Nat) (v : Value) (xs : List Int) (hs : a.eval s = v) (hown : OwnI w B v xs) (g : Nat) (y : Int) (hx : a.eval x = .slice (some ⟨g, 0, none⟩) 1 1)
    (hcell : w.cell? ⟨g, 0, none⟩ = some (.int .i64 y)) (hlen : xs.length ≤ 2000000) (hB : B ≤ w.heap.size)
    (h : ∀ v' w', OwnI w' B v' (xs ++ [y]) → w.grownBy w' v.ownBlock → wpList Try.prog ops Q rest (a.put o.dst v') w') : wpList Try.prog ops Q (o :: rest) a w := by
  obtain ⟨i0, hi, hz0, hz1, hz2⟩ := info_parts intInfo
  refine wpList_append_own w hgd s x 54 ho B 3 i0 (.int .i64 0) 1 8 Try.underlying54 hi hz0 hz1 hz2 rfl (by decide) v xs.length (vint xs) hs hown ⟨g, 0, none⟩ 1 1 [.int .i64 y] hx rfl ?_ ?_ (by unfold maxLen; omega) (by omega) hB ?_
  · intro j u hj
    match j, hj with
    | 0, hj => simp at hj; subst hj; simpa [Addr.add] using hcell
    | j + 1, hj => simp at hj
  · intro u hu; simp at hu; subst hu; rfl
  · intro v' w' h1 h2 _
    refine h v' w' ?_ h2
    unfold OwnI
    have e : vint (xs ++ [y]) = vint xs ++ [.int .i64 y] := by simp [vint]
    rw [e, List.length_append]; exact h1
theorem bel_own {B : Nat} {a w w' : World} {v : Value} {xs : List Int} (h : Below B a w) (ho : OwnI w B v xs) (hg : w.grownBy w' v.ownBlock) (hB : B ≤ w.heap.size) : Below B a w' := h.grown hg hB fun k e => (ho.lt k e).1

/-- a call hands back integers in memory of its own, and whether it succeeds -/
def RetI (w : World) (xs : List Int) (ok : Bool) (e : Ending) (w' : World) : Prop := ∃ v, e = .returned (.tuple #[v, .bool ok]) ∧ OwnI w' w.heap.size v xs ∧ Below w.heap.size w w'

/-- 'make([]int, n)' -/
theorem make_int (w : World) {ops : Array Oper} {rest : List Oper} {o : Oper} {a : Act} {Q : Exit → Act → World → Prop} (hgd : o.guard = none) (l c : Operand) (hop : o.op = Op.makeSlice 54 l c)
    (kl kc : IntKind) (n : Nat) (hl : a.eval l = .int kl n) (hc : a.eval c = .int kc n) (hn : n ≤ 2000000)
    (hK : ∀ w', OwnI w' w.heap.size (.slice (some ⟨w.heap.size, 0, none⟩) n n) (List.replicate n 0) → Below w.heap.size w w' → wpList Try.prog ops Q rest (a.put o.dst (.slice (some ⟨w.heap.size, 0, none⟩) n n)) w') : wpList Try.prog ops Q (o :: rest) a w := by
  obtain ⟨i0, hi, hz0, hz1, hz2⟩ := info_parts intInfo
  refine wpList_make_full w hgd l c 54 hop w.heap.size 3 i0 (.int .i64 0) 1 Try.underlying54 hi hz0 hz1 kl kc n n n hl hc rfl rfl (by rw [hz2]; omega) (by unfold maxLen; omega) (Nat.le_refl _) ?_
  intro w' h1 h2
  refine hK w' ?_ ((Below.refl _ _).grown h2 (Nat.le_refl _) (fun k e => by cases e))
  unfold OwnI
  have e : vint (List.replicate n 0) = (madeCells (Value.int .i64 0).cells (n * 1)).toList := by
    rw [Nat.mul_one]
    show _ = (madeCells #[.int .i64 0] n).toList
    rw [toList_madeCells_one]; simp [vint]
  rw [e, List.length_replicate]; exact h1
/-- a store into such a row -/
theorem OwnI.stored {w : World} {B g n cap : Nat} {xs : List Int} (h : OwnI w B (.slice (some ⟨g, 0, none⟩) n cap) xs) (hn : xs.length = n) (k : Nat) (y : Int) :
    OwnI (w.setCell ⟨g, k, none⟩ (.int .i64 y)) B (.slice (some ⟨g, 0, none⟩) n cap) (xs.set k y) ∧ w.grownBy (w.setCell ⟨g, k, none⟩ (.int .i64 y)) (some g) := by
  have h' : w.ownsRow B 3 1 (.slice (some ⟨g, 0, none⟩) n cap) n (vint xs) := h.size n hn
  obtain ⟨a, b⟩ := h'.stored k (.int .i64 y)
  refine ⟨?_, b⟩
  unfold OwnI
  have e : vint (xs.set k y) = (vint xs).set k (.int .i64 y) := by simp [vint, List.map_set]
  rw [e, List.length_set, hn]; exact a
theorem OwnI.cell {w : World} {B g n cap : Nat} {xs : List Int} (h : OwnI w B (.slice (some ⟨g, 0, none⟩) n cap) xs) (hn : xs.length = n) (k : Nat) (hk : k < xs.length) :
    w.cell? ⟨g, k, none⟩ = some (.int .i64 xs[k]) ∧ w.frozen? ⟨g, k, none⟩ = false := by
  have h' : w.ownsRow B 3 1 (.slice (some ⟨g, 0, none⟩) n cap) n (vint xs) := h.size n hn
  refine ⟨?_, h'.frozenAt k⟩
  rw [h'.cellAt k (by omega)]
  simp [vint, List.getElem?_eq_getElem hk]
end Go.Proofs.Ytjlecipeoaohiaa

namespace Go.Proofs.Ytjlecipeoaohiaa
open Go Go.RowKit RM

/-- a kind of element: its type, its cells -/
structure Elt (α : Type) where
  e : TypeId
  n : Nat
  bytes : Nat
  z : Value
  d : α
  cells : α → List Value
  len : ∀ x, (cells x).length = n
  one : ∀ x, ∀ u ∈ cells x, u.oneCell' = true
  pos : 0 < n
  zs : z.cells.toList = cells d
  info : (Try.prog.info? e).map (fun i => (i.zero, i.size, i.bytes)) = some (some z, n, bytes)
  small : bytes ≤ 64
def Elt.flat {α : Type} (E : Elt α) (xs : List α) : List Value := xs.flatMap E.cells
section
variable {α : Type} {E : Elt α}
theorem Elt.flat_len (E : Elt α) (xs : List α) : (E.flat xs).length = xs.length * E.n := by
  induction xs with
  | nil => simp [Elt.flat]
  | cons z zs ih => unfold Elt.flat at *; rw [List.flatMap_cons, List.length_append, ih, E.len]; simp [Nat.add_mul]; omega
theorem Elt.flat_app (E : Elt α) (xs ys : List α) : E.flat (xs ++ ys) = E.flat xs ++ E.flat ys := by unfold Elt.flat; rw [List.flatMap_append]
theorem Elt.flat_get (E : Elt α) : ∀ (xs : List α) (k : Nat) (hk : k < xs.length) (o : Nat), o < E.n → (E.flat xs)[k * E.n + o]? = (E.cells xs[k])[o]? := by
  intro xs
  induction xs with
  | nil => intro k hk; simp at hk
  | cons z zs ih =>
    intro k hk o ho
    have e : E.flat (z :: zs) = E.cells z ++ E.flat zs := by unfold Elt.flat; rw [List.flatMap_cons]
    rw [e]
    cases k with
    | zero => rw [Nat.zero_mul, Nat.zero_add, List.getElem?_append_left (by rw [E.len]; exact ho)]; rfl
    | succ k =>
      rw [List.getElem?_append_right (by rw [E.len, Nat.add_mul]; omega)]
      rw [show (k + 1) * E.n + o - (E.cells z).length = k * E.n + o by rw [E.len, Nat.add_mul]; omega]
      rw [ih k (by simpa using hk) o ho]; rfl
theorem Elt.flat_set (E : Elt α) : ∀ (xs : List α) (k : Nat) (hk : k < xs.length) (o : Nat) (u : Value) (y : α), o < E.n → E.cells y = (E.cells xs[k]).set o u → (E.flat xs).set (k * E.n + o) u = E.flat (xs.set k y) := by
  intro xs
  induction xs with
  | nil => intro k hk; simp at hk
  | cons z zs ih =>
    intro k hk o u y ho hy
    have e : ∀ z zs, E.flat (z :: zs) = E.cells z ++ E.flat zs := fun z zs => by unfold Elt.flat; rw [List.flatMap_cons]
    cases k with
    | zero => rw [e, List.set_cons_zero, e, Nat.zero_mul, Nat.zero_add, List.set_append_left _ _ (by rw [E.len]; exact ho), hy]; rfl
    | succ k =>
      rw [e, List.set_cons_succ, e, List.set_append_right _ _ (by rw [E.len, Nat.add_mul]; omega)]
      rw [show (k + 1) * E.n + o - (E.cells z).length = k * E.n + o by rw [E.len, Nat.add_mul]; omega]
      rw [ih k (by simpa using hk) o u y ho hy]
/-- the value v owns the elements xs, in memory from block B on -/
def OwnG (E : Elt α) (w : World) (B : Nat) (v : Value) (xs : List α) : Prop := w.ownsRow B E.e E.n v xs.length (E.flat xs)
/-- the value v reads as the elements xs -/
def RG (E : Elt α) (w : World) (p : Option Addr) (xs : List α) : Prop := xs ≠ [] → ∃ g, p = some ⟨g, 0, none⟩ ∧ g < w.heap.size ∧ ∀ k (hk : k < xs.length) o, o < E.n → w.cell? ⟨g, k * E.n + o, none⟩ = (E.cells xs[k])[o]?
def RdG (E : Elt α) (w : World) (v : Value) (xs : List α) : Prop := ∃ p c, v = .slice p xs.length c ∧ xs.length ≤ maxLen ∧ RG E w p xs
theorem RG.below {w w' : World} {p : Option Addr} {xs : List α} (h : RG E w p xs) (hb : Below w.heap.size w w') : RG E w' p xs := fun h0 => by
  obtain ⟨g, rfl, hl, hc⟩ := h h0
  exact ⟨g, rfl, Nat.lt_of_lt_of_le hl hb.size, fun k hk o ho => by rw [hb.cell (p := ⟨g, k * E.n + o, none⟩) hl]; exact hc k hk o ho⟩
theorem OwnG.cells {w : World} {B g n cap : Nat} {xs : List α} (h : OwnG E w B (.slice (some ⟨g, 0, none⟩) n cap) xs) (hn : n = xs.length) (k : Nat) (hk : k < xs.length) (o : Nat) (ho : o < E.n) : w.cell? ⟨g, k * E.n + o, none⟩ = (E.cells xs[k])[o]? := by
  subst hn
  have h' : w.ownsRow B E.e E.n (.slice (some ⟨g, 0, none⟩) xs.length cap) xs.length (E.flat xs) := h
  have : k * E.n + o < xs.length * E.n := by
    calc k * E.n + o < k * E.n + E.n := by omega
      _ = (k + 1) * E.n := by rw [Nat.add_mul, Nat.one_mul]
      _ ≤ xs.length * E.n := Nat.mul_le_mul_right _ hk
  rw [h'.cellAt _ this, E.flat_get xs k hk o ho]
theorem OwnG.frozen {w : World} {B g n cap : Nat} {xs : List α} (h : OwnG E w B (.slice (some ⟨g, 0, none⟩) n cap) xs) (hn : n = xs.length) (j : Nat) : w.frozen? ⟨g, j, none⟩ = false := by
  subst hn
  have h' : w.ownsRow B E.e E.n (.slice (some ⟨g, 0, none⟩) xs.length cap) xs.length (E.flat xs) := h
  exact h'.frozenAt j
theorem OwnG.form {w : World} {B : Nat} {v : Value} {xs : List α} (h : OwnG E w B v xs) :
    (v = .slice none 0 0 ∧ xs = []) ∨ ∃ g cap, v = .slice (some ⟨g, 0, none⟩) xs.length cap ∧ B ≤ g ∧ g < w.heap.size ∧ xs.length ≤ maxLen := by
  rcases h.2 with ⟨h1, h2⟩ | ⟨g, cap, cur, rfl, hg, hh, hn, hc, _, _⟩
  · left; exact ⟨h1, List.length_eq_zero_iff.1 h2⟩
  · right; exact ⟨g, cap, rfl, hg, lt_of_block hh, Nat.le_trans hn hc⟩
theorem OwnG.rd {w : World} {B : Nat} {v : Value} {xs : List α} (h : OwnG E w B v xs) : RdG E w v xs := by
  rcases h.form with ⟨rfl, rfl⟩ | ⟨g, cap, rfl, _, hl, hm⟩
  · exact ⟨none, 0, rfl, Nat.zero_le _, fun h => absurd rfl h⟩
  · exact ⟨_, cap, rfl, hm, fun _ => ⟨g, rfl, hl, fun k hk o ho => h.cells rfl k hk o ho⟩⟩
theorem RdG.below {w w' : World} {v : Value} {xs : List α} (h : RdG E w v xs) (hb : Below w.heap.size w w') : RdG E w' v xs := by
  obtain ⟨p, c, rfl, hm, hx⟩ := h
  exact ⟨p, c, rfl, hm, hx.below hb⟩
theorem OwnG.lt {w : World} {B : Nat} {v : Value} {xs : List α} (h : OwnG E w B v xs) : ∀ k, v.ownBlock = some k → B ≤ k ∧ k < w.heap.size := World.ownsRow.lt h
theorem OwnG.kept {w w' : World} {B : Nat} {v : Value} {xs : List α} {row : Option Nat} (h : OwnG E w B v xs) (hg : w.grownBy w' row) (hne : v.ownBlock = none ∨ v.ownBlock ≠ row) : OwnG E w' B v xs := World.ownsRow.kept h hg hne
theorem OwnG.below {w w' : World} {B : Nat} {v : Value} {xs : List α} (h : OwnG E w B v xs) (hb : Below w.heap.size w w') : OwnG E w' B v xs := by
  refine h.kept (show w.grownBy w' none from ⟨hb.os, hb.tape, hb.output, hb.size, fun k hk _ => hb.block k hk⟩) ?_
  cases hv : v.ownBlock
  · left; rfl
  · right; simp
theorem OwnG.drewN {w : World} {B : Nat} {v : Value} {xs : List α} (h : OwnG E w B v xs) (q : Nat) : OwnG E (w.drewN q) B v xs := h.below (below_drewN (Below.refl _ _) q)
theorem OwnG.mono {w : World} {B C : Nat} {v : Value} {xs : List α} (h : OwnG E w B v xs) (hc : C ≤ B) : OwnG E w C v xs := by
  obtain ⟨a, b⟩ := h
  refine ⟨a, ?_⟩
  rcases b with b | ⟨g, cap, cur, h1, h2, h3⟩
  · exact .inl b
  · exact .inr ⟨g, cap, cur, h1, by omega, h3⟩
theorem OwnG.nil (w : World) (B : Nat) : OwnG E w B (.slice none 0 0) [] := World.ownsRow_nil _ _ _ _
theorem OwnG.alloc {w : World} {B : Nat} {v : Value} {xs : List α} (h : OwnG E w B v xs) (o : Obj) : OwnG E (w.alloc o) B v xs := World.ownsRow.alloc h o
theorem OwnG.stored {w : World} {B g n cap : Nat} {xs : List α} (h : OwnG E w B (.slice (some ⟨g, 0, none⟩) n cap) xs) (hn : n = xs.length) (k : Nat) (hk : k < xs.length) (o : Nat) (ho : o < E.n) (u : Value) (y : α) (hy : E.cells y = (E.cells xs[k]).set o u) :
    OwnG E (w.setCell ⟨g, k * E.n + o, none⟩ u) B (.slice (some ⟨g, 0, none⟩) n cap) (xs.set k y) ∧ w.grownBy (w.setCell ⟨g, k * E.n + o, none⟩ u) (some g) := by
  subst hn
  have h' : w.ownsRow B E.e E.n (.slice (some ⟨g, 0, none⟩) xs.length cap) xs.length (E.flat xs) := h
  obtain ⟨a, b⟩ := h'.stored (k * E.n + o) u
  refine ⟨?_, b⟩
  unfold OwnG
  rw [E.flat_set xs k hk o u y ho hy] at a
  rw [List.length_set]; exact a
/-- 'append(s, x)' onto a row of the call's own: x lies in a block -/
theorem app_G (w : World) {ops : Array Oper} {rest : List Oper} {o : Oper} {a : Act} {Q : Exit → Act → World → Prop} (hgd : o.guard = none) (s x : Operand) (t : TypeId)
    (ho : o.op = .call { callee := .builtin .append, args := #[s, x], argTypes := #[t, t] }) (ht : Try.prog.underlying t = some (.slice E.e))
    (B : Nat) (v : Value) (xs : List α) (hs : a.eval s = v) (hown : OwnG E w B v xs) (g : Nat) (y : α) (hx : a.eval x = .slice (some ⟨g, 0, none⟩) 1 1)
    (hcell : ∀ o u, (E.cells y)[o]? = some u → w.cell? ⟨g, o, none⟩ = some u) (hlen : xs.length ≤ 1000000) (hB : B ≤ w.heap.size)
    (h : ∀ v' w', OwnG E w' B v' (xs ++ [y]) → w.grownBy w' v.ownBlock → (v'.ownBlock = v.ownBlock ∨ v'.ownBlock = some w.heap.size) → wpList Try.prog ops Q rest (a.put o.dst v') w') : wpList Try.prog ops Q (o :: rest) a w := by
  obtain ⟨i0, hi, hz0, hz1, hz2⟩ := info_parts E.info
  have hzs : E.z.cells.size = E.n := by rw [← E.len E.d, ← E.zs]; simp
  refine wpList_append_own_at w hgd s x t ho B E.e i0 E.z E.n E.bytes ht hi hz0 hz1 hz2 hzs E.pos v xs.length (E.flat xs) hs hown ⟨g, 0, none⟩ 1 1 (E.flat [y]) hx (by rw [E.flat_len]; rfl) ?_ ?_ (by unfold maxLen; omega) ?_ hB ?_
  · intro j u hj
    have e : E.flat [y] = E.cells y := by simp [Elt.flat]
    rw [e] at hj
    have e2 : (⟨g, 0, none⟩ : Addr).add j = ⟨g, j, none⟩ := by unfold Addr.add; split <;> simp_all
    rw [e2]; exact hcell j u hj
  · intro u hu
    have e : E.flat [y] = E.cells y := by simp [Elt.flat]
    rw [e] at hu
    exact E.one y u hu
  · have := E.small
    calc (xs.length + 1) * E.bytes ≤ 1000001 * 64 := Nat.mul_le_mul (by omega) this
      _ ≤ _ := by omega
  · intro v' w' h1 h2 _ h4
    refine h v' w' ?_ h2 h4
    unfold OwnG
    rw [E.flat_app, List.length_append]; exact h1
theorem made_flat (E : Elt α) (n : Nat) : (madeCells E.z.cells (n * E.n)).toList = E.flat (List.replicate n E.d) := by
  have hzs : E.z.cells.size = E.n := by rw [← E.len E.d, ← E.zs]; simp
  apply List.ext_getElem?
  intro i
  by_cases hi : i < n * E.n
  · have hp := E.pos
    have hk : i / E.n < n := Nat.div_lt_of_lt_mul (by rw [Nat.mul_comm]; exact hi)
    have ho : i % E.n < E.n := Nat.mod_lt _ hp
    have hs : i = i / E.n * E.n + i % E.n := by rw [Nat.mul_comm]; exact (Nat.div_add_mod _ _).symm
    have e := E.flat_get (List.replicate n E.d) (i / E.n) (by simpa using hk) (i % E.n) ho
    rw [← hs] at e
    rw [e]
    simp only [List.getElem_replicate]
    have l : i < (madeCells E.z.cells (n * E.n)).toList.length := by rw [Array.length_toList, size_madeCells]; exact hi
    rw [List.getElem?_eq_getElem l]
    unfold madeCells
    simp only [Array.getElem_toList, Array.getElem_map, Array.getElem_range, hzs]
    rw [← E.zs, getElem!_pos E.z.cells (i % E.n) (by rw [hzs]; exact ho)]
    rw [List.getElem?_eq_getElem (by rw [Array.length_toList, hzs]; exact ho)]; simp
  · rw [List.getElem?_eq_none (by rw [Array.length_toList, size_madeCells]; omega), List.getElem?_eq_none (by rw [E.flat_len]; simp; omega)]
/-- 'make([]T, n)' -/
theorem make_G (E : Elt α) (w : World) {ops : Array Oper} {rest : List Oper} {o : Oper} {a : Act} {Q : Exit → Act → World → Prop} (hgd : o.guard = none) (l c : Operand) (t : TypeId) (hop : o.op = Op.makeSlice t l c) (ht : Try.prog.underlying t = some (.slice E.e))
    (kl kc : IntKind) (n : Nat) (hl : a.eval l = .int kl n) (hc : a.eval c = .int kc n) (hn : n ≤ 2000000)
    (hK : ∀ w', OwnG E w' w.heap.size (.slice (some ⟨w.heap.size, 0, none⟩) n n) (List.replicate n E.d) → Below w.heap.size w w' → wpList Try.prog ops Q rest (a.put o.dst (.slice (some ⟨w.heap.size, 0, none⟩) n n)) w') : wpList Try.prog ops Q (o :: rest) a w := by
  obtain ⟨i0, hi, hz0, hz1, hz2⟩ := info_parts E.info
  refine wpList_make_full w hgd l c t hop w.heap.size E.e i0 E.z E.n ht hi hz0 hz1 kl kc n n n hl hc rfl rfl ?_ (by unfold maxLen; omega) (Nat.le_refl _) ?_
  · rw [hz2]; have := E.small
    calc E.bytes * n ≤ 64 * 2000000 := Nat.mul_le_mul this hn
      _ ≤ _ := by omega
  · intro w' h1 h2
    refine hK w' ?_ ((Below.refl _ _).grown h2 (Nat.le_refl _) (fun k e => by cases e))
    unfold OwnG
    rw [made_flat E n] at h1
    rw [List.length_replicate]; exact h1
/-- rows of different kinds lie apart -/
theorem own_ne_kind {w : World} {B C s t n m : Nat} {e f : TypeId} {v u : Value} {xs ys : List Value} (h : w.ownsRow B e s v n xs) (k : w.ownsRow C f t u m ys) (hef : e ≠ f) : v.ownBlock = none ∨ v.ownBlock ≠ u.ownBlock := by
  rcases h.2 with ⟨rfl, _⟩ | ⟨g, cap, cur, rfl, _, hh, _⟩
  · left; rfl
  · right
    rcases k.2 with ⟨rfl, _⟩ | ⟨g', cap', cur', rfl, _, hh', _⟩
    · intro e; cases e
    · intro e
      obtain rfl : g = g' := Option.some.inj e
      rw [hh] at hh'
      simp at hh'
      exact hef hh'.2
theorem bel_ownG {B : Nat} {a w w' : World} {v : Value} {xs : List α} (h : Below B a w) (ho : OwnG E w B v xs) (hg : w.grownBy w' v.ownBlock) (hB : B ≤ w.heap.size) : Below B a w' := h.grown hg hB fun k e => (ho.lt k e).1
end
/-- integers as elements: the reading of a row of integers -/
def RI (w : World) (p : Option Addr) (xs : List Int) : Prop := xs ≠ [] → ∃ g, p = some ⟨g, 0, none⟩ ∧ g < w.heap.size ∧ ∀ k (hk : k < xs.length), w.cell? ⟨g, k, none⟩ = some (.int .i64 xs[k])
def RdI (w : World) (v : Value) (xs : List Int) : Prop := ∃ p c, v = .slice p xs.length c ∧ xs.length ≤ maxLen ∧ RI w p xs
theorem RI.below {w w' : World} {p : Option Addr} {xs : List Int} (h : RI w p xs) (hb : Below w.heap.size w w') : RI w' p xs := fun h0 => by
  obtain ⟨g, rfl, hl, hc⟩ := h h0
  exact ⟨g, rfl, Nat.lt_of_lt_of_le hl hb.size, fun k hk => by rw [hb.cell (p := ⟨g, k, none⟩) hl]; exact hc k hk⟩
theorem RI.at {w : World} {p : Option Addr} {xs : List Int} (h : RI w p xs) {k : Nat} (hk : k < xs.length) : ∃ g, p = some ⟨g, 0, none⟩ ∧ g < w.heap.size ∧ w.cell? ⟨g, k, none⟩ = some (.int .i64 xs[k]) := by
  obtain ⟨g, rfl, hl, hc⟩ := h (fun e => by rw [e] at hk; simp at hk)
  exact ⟨g, rfl, hl, hc k hk⟩
theorem OwnI.rd {w : World} {B : Nat} {v : Value} {xs : List Int} (h : OwnI w B v xs) : RdI w v xs := by
  rcases h.form with ⟨rfl, rfl⟩ | ⟨g, cap, rfl, _, hl, hc, _, hm⟩
  · exact ⟨none, 0, rfl, Nat.zero_le _, fun h => absurd rfl h⟩
  · exact ⟨_, cap, rfl, hm, fun _ => ⟨g, rfl, hl, hc⟩⟩
theorem RdI.below {w w' : World} {v : Value} {xs : List Int} (h : RdI w v xs) (hb : Below w.heap.size w w') : RdI w' v xs := by
  obtain ⟨p, c, rfl, hm, hx⟩ := h
  exact ⟨p, c, rfl, hm, hx.below hb⟩
theorem hb_new (w : World) (o : Obj) : (w.alloc o).heap[w.heap.size]? = some o := by
  show (w.heap.push o)[w.heap.size]? = some o
  exact Array.getElem?_push_size
theorem hb_new' (w : World) (o : Obj) (k : Nat) (h : w.heap.size = k) : (w.alloc o).heap[k]? = some o := by subst h; exact hb_new w o
theorem hb_old {w : World} {k : Nat} {x : Obj} (o : Obj) (h : w.heap[k]? = some x) : (w.alloc o).heap[k]? = some x := by
  have hl : k < w.heap.size := (Array.getElem?_eq_some_iff.1 h).1
  show (w.heap.push o)[k]? = some x
  rw [Array.getElem?_push_lt hl]
  exact (Array.getElem?_eq_getElem hl).symm.trans h
theorem hb_cell {w : World} {g : Nat} {cs : Array Value} {t : TypeId} {fr : Nat × Nat} (h : w.heap[g]? = some (.cells cs t fr)) (i : Nat) : w.cell? ⟨g, i, none⟩ = cs[i]? := by simp [World.cell?, h]
theorem hb_frozen {w : World} {g : Nat} {cs : Array Value} {t : TypeId} (h : w.heap[g]? = some (.cells cs t (0, 0))) (i : Nat) : w.frozen? ⟨g, i, none⟩ = false := by simp [World.frozen?, h]
theorem hb_lt {w : World} {g : Nat} {o : Obj} (h : w.heap[g]? = some o) : g < w.heap.size := (Array.getElem?_eq_some_iff.1 h).1
theorem hb_below {w w' : World} {B g : Nat} {o : Obj} (hb : Below B w w') (hg : g < B) (h : w.heap[g]? = some o) : w'.heap[g]? = some o := (hb.block g hg).trans h
theorem hb_set {w : World} {g i : Nat} {cs : Array Value} {t : TypeId} {fr : Nat × Nat} (h : w.heap[g]? = some (.cells cs t fr)) (v : Value) : (w.setCell ⟨g, i, none⟩ v).heap[g]? = some (.cells (cs.setIfInBounds i v) t fr) := by
  rw [setCell_eq_setRow w g i cs t fr v h]
  exact setRow_heap w g _ _ t _ h
theorem hb_ne {w : World} {g i k : Nat} (v : Value) (hne : k ≠ g) : (w.setCell ⟨g, i, none⟩ v).heap[k]? = w.heap[k]? := RowKit.Below.heap_setCell _ _ _ _ hne
theorem OwnI.ri {w : World} {B n c : Nat} {p : Option Addr} {xs : List Int} (h : OwnI w B (.slice p n c) xs) : RI w p xs := by
  obtain ⟨p', c', e, _, hr⟩ := h.rd
  have : p = p' := by simp at e; exact e.1
  rw [this]; exact hr
theorem OwnG.rg {α : Type} {E : Elt α} {w : World} {B n c : Nat} {p : Option Addr} {xs : List α} (h : OwnG E w B (.slice p n c) xs) : RG E w p xs := by
  obtain ⟨p', c', e, _, hr⟩ := h.rd
  have : p = p' := by simp at e; exact e.1
  rw [this]; exact hr
/-- a call that makes memory, seen as one that may write a row -/
theorem grown_any {w w' : World} (h : Below w.heap.size w w') (row : Option Nat) : w.grownBy w' row := ⟨h.os, h.tape, h.output, h.size, fun k hk _ => h.block k hk⟩
theorem grown_set (w : World) (g i : Nat) (v : Value) : w.grownBy (w.setCell ⟨g, i, none⟩ v) (some g) := ⟨rfl, rfl, rfl, by simp, fun _ _ hk => hb_ne v (fun e => hk (by rw [e]))⟩
theorem OwnI.grown {w w' : World} {B g : Nat} {v : Value} {xs : List Int} (h : OwnI w B v xs) (hg : w.grownBy w' (some g)) (hl : g < B) : OwnI w' B v xs := by
  refine h.kept hg ?_
  cases hv : v.ownBlock with
  | none => left; rfl
  | some a => right; intro e; have := (h.lt a hv).1; cases e; omega
theorem OwnG.grown {α : Type} {E : Elt α} {w w' : World} {B g : Nat} {v : Value} {xs : List α} (h : OwnG E w B v xs) (hg : w.grownBy w' (some g)) (hl : g < B) : OwnG E w' B v xs := by
  refine h.kept hg ?_
  cases hv : v.ownBlock with
  | none => left; rfl
  | some a => right; intro e; have := (h.lt a hv).1; cases e; omega
theorem grown_heap {w w' : World} {g b : Nat} {o : Obj} (hg : w.grownBy w' (some g)) (hne : b ≠ g) (h : w.heap[b]? = some o) : w'.heap[b]? = some o := (hg.block b (hb_lt h) (fun e => hne (Option.some.inj e))).trans h
end Go.Proofs.Ytjlecipeoaohiaa

namespace Go.Proofs.Ytjlecipeoaohiaa
open Go Go.RowKit RM

/-- the last digit -/
def dig1 (j : Nat) : UInt8 := UInt8.ofNat (48 + j % 10)
/-- the digits of a number, none of 0 -/
def digs (k : Nat) : List UInt8 := if _h : k = 0 then [] else digs (k / 10) ++ [dig1 k]
termination_by k
decreasing_by omega
theorem digs_zero : digs 0 = [] := by rw [digs]; simp
theorem digs_pos (k : Nat) (h : k ≠ 0) : digs k = digs (k / 10) ++ [dig1 k] := by rw [digs]; simp [h]
theorem digs_len (e : Nat) : ∀ k, k < 10 ^ e → (digs k).length ≤ e := by
  induction e with
  | zero => intro k h; obtain rfl : k = 0 := by simpa using h
            rw [digs_zero]; simp
  | succ e ih =>
    intro k h
    by_cases h0 : k = 0
    · subst h0; rw [digs_zero]; simp
    · rw [digs_pos k h0, List.length_append]
      have := ih (k / 10) (by rw [Nat.pow_succ] at h; omega)
      simp; omega
theorem alloc_atM (w : World) (o : Obj) : (w.alloc o).heap[w.heap.size]? = some o := by
  show (w.heap.push o)[w.heap.size]? = some o
  exact Array.getElem?_push_size
theorem own_digit (w : World) (j : Nat) : OwnB (w.alloc (.cells #[.int .u8 (48 + (j : Int) % 10)] 5)) w.heap.size (.slice (some ⟨w.heap.size, 0, none⟩) 1 1) [dig1 j] := by
  refine ⟨rfl, .inr ⟨_, 1, #[.int .u8 (48 + (j : Int) % 10)], rfl, Nat.le_refl _, alloc_atM _ _, Nat.le_refl _, by decide, rfl, ?_⟩⟩
  have e : ((dig1 j).toNat : Int) = 48 + (j : Int) % 10 := by
    unfold dig1; rw [UInt8.toNat_ofNat']; omega
  show [Value.int .u8 (48 + (j : Int) % 10)] = [Value.int .u8 ((dig1 j).toNat : Int)]
  rw [e]
/-- the text that marks an element -/
def mkT (k : Nat) : ByteArray := ⟨(109 :: digs k).toArray⟩
set_option maxRecDepth 100000 in
theorem markText_any (k : Nat) (w : World) (h1 : 1 ≤ k) (hk : k < 10000000) : Calls Try.prog 94 #[.int .i64 k] w fun e w' => e = .returned (.string (mkT k)) ∧ Below w.heap.size w w' := by
  go_enter Try.func94, Try.ntmps94
  go_wp2
  have hL : Hid ((digs k).length ≤ 7) := Lib.hid (digs_len 7 k hk)
  go_loopw [0, 3] (fun kk o wr => ∃ (j : Nat) (out : ByteArray), j ≤ k ∧ kk = .int .i64 j ∧ o = .string out ∧ Hid (digs k = digs j ++ out.data.toList) ∧ Hid (Below w.heap.size w wr)) (fun kk _ _ => (intOf kk).toNat)
  case atStart => exact ⟨k, ⟨#[]⟩, Nat.le_refl _, rfl, rfl, Lib.hid (by simp), Below.refl _ _⟩
  case round =>
    obtain ⟨j, out, hjk, rfl, rfl, ht, hb⟩ := hrel
    have hout : out.size ≤ 7 := by
      have e := congrArg List.length ht.out
      have := hL.out
      rw [List.length_append] at e
      have e3 : out.data.toList.length = out.size := Array.length_toList
      omega
    by_cases hj : 0 < j
    · have hm : (j : Int).tmod 10 = ((j % 10 : Nat) : Int) := by rw [Int.tmod_eq_emod_of_nonneg (by omega)]; omega
      have hd : (j : Int).tdiv 10 = ((j / 10 : Nat) : Int) := by rw [Int.tdiv_eq_ediv_of_nonneg (by omega)]; omega
      have hm9 : j % 10 < 10 := Nat.mod_lt _ (by omega)
      have hcv := str_byte _ _ _ _ 1 _ (own_digit wr j) rfl
      go_wp2
      go_roundw
      case rel =>
        refine ⟨j / 10, ⟨#[dig1 j]⟩ ++ out, by omega, by go_num, ?_, Lib.hid ?_, Lib.hid ?_⟩
        · rfl
        · rw [ht.out, digs_pos j (by omega)]; simp
        · exact hb.out.alloc hb.out.size _
      all_goals (simp [intOf] <;> omega)
    · obtain rfl : j = 0 := by omega
      go_wp2
      go_ret
      refine ⟨ret_str ?_, hb.out⟩
      unfold mkT
      rw [ht.out, digs_zero]
      apply ByteArray.ext
      simp
end Go.Proofs.Ytjlecipeoaohiaa

namespace Go.Proofs.Ytjlecipeoaohiaa
open Go Go.RowKit RM
theorem ba1 (w : World) (o : Obj) : Below w.heap.size w (w.alloc o) := (Below.refl _ _).alloc (Nat.le_refl _) o
theorem bt1 {w a b : World} (h : Below w.heap.size w a) (k : Below a.heap.size a b) : Below w.heap.size w b := h.trans (k.mono h.size)
theorem bt2 {w a b : World} {B : Nat} (h : Below B w a) (k : Below a.heap.size a b) (hB : B ≤ a.heap.size) : Below B w b := h.trans (k.mono hB)
end Go.Proofs.Ytjlecipeoaohiaa

namespace Go.Proofs.Ytjlecipeoaohiaa
open Go Go.RowKit RM

abbrev vtxt (xs : List ByteArray) : List Value := xs.map (Value.string)
/-- the value v owns the integers xs, in memory from block B on -/
def OwnT (w : World) (B : Nat) (v : Value) (xs : List ByteArray) : Prop := w.ownsRow B 9 1 v xs.length (vtxt xs)

theorem OwnT.form {w : World} {B : Nat} {v : Value} {xs : List ByteArray} (h : OwnT w B v xs) :
    (v = .slice none 0 0 ∧ xs = []) ∨ ∃ g cap, v = .slice (some ⟨g, 0, none⟩) xs.length cap ∧ B ≤ g ∧ g < w.heap.size ∧ (∀ k (hk : k < xs.length), w.cell? ⟨g, k, none⟩ = some (.string xs[k])) ∧ (∀ k, w.frozen? ⟨g, k, none⟩ = false) ∧ xs.length ≤ maxLen := by
  have h0 : w.ownsRow B 9 1 v xs.length (vtxt xs) := h
  rcases h.2 with ⟨h1, h2⟩ | ⟨g, cap, cur, rfl, hg, hh, hn, hc, _, _⟩
  · left; exact ⟨h1, List.length_eq_zero_iff.1 h2⟩
  · right
    refine ⟨g, cap, rfl, hg, lt_of_block hh, fun k hk => ?_, fun k => h0.frozenAt k, Nat.le_trans hn hc⟩
    rw [h0.cellAt k (by omega)]
    simp [vtxt, List.getElem?_eq_getElem hk]

theorem OwnT.lt {w : World} {B : Nat} {v : Value} {xs : List ByteArray} (h : OwnT w B v xs) : ∀ k, v.ownBlock = some k → B ≤ k ∧ k < w.heap.size := World.ownsRow.lt h
theorem OwnT.kept {w w' : World} {B : Nat} {v : Value} {xs : List ByteArray} {row : Option Nat} (h : OwnT w B v xs) (hg : w.grownBy w' row) (hne : v.ownBlock = none ∨ v.ownBlock ≠ row) : OwnT w' B v xs := World.ownsRow.kept h hg hne
theorem grown_of_belowT {w w' : World} (h : Below w.heap.size w w') : w.grownBy w' none := ⟨h.os, h.tape, h.output, h.size, fun k hk _ => h.block k hk⟩
theorem OwnT.below {w w' : World} {B : Nat} {v : Value} {xs : List ByteArray} (h : OwnT w B v xs) (hb : Below w.heap.size w w') : OwnT w' B v xs := by
  refine h.kept (grown_of_belowT hb) ?_
  cases hv : v.ownBlock
  · left; rfl
  · right; simp
theorem OwnT.drewN {w : World} {B : Nat} {v : Value} {xs : List ByteArray} (h : OwnT w B v xs) (q : Nat) : OwnT (w.drewN q) B v xs := h.below (below_drewN (Below.refl _ _) q)
theorem OwnT.mono {w : World} {B C : Nat} {v : Value} {xs : List ByteArray} (h : OwnT w B v xs) (hc : C ≤ B) : OwnT w C v xs := by
  obtain ⟨a, b⟩ := h
  refine ⟨a, ?_⟩
  rcases b with b | ⟨g, cap, cur, h1, h2, h3⟩
  · exact .inl b
  · exact .inr ⟨g, cap, cur, h1, by omega, h3⟩
/-- another's row is kept by a mark: rows from different places differ -/
theorem own_neT {w : World} {B C : Nat} {v u : Value} {xs ys : List ByteArray} (_ : OwnT w B v xs) (hv : ∀ k, v.ownBlock = some k → k < C) (k : OwnT w C u ys) : v.ownBlock = none ∨ v.ownBlock ≠ u.ownBlock := by
  cases e : v.ownBlock with
  | none => left; rfl
  | some a =>
    right
    intro e2
    have := (k.lt a e2.symm).1
    have := hv a e
    omega

theorem strInfo : (Try.prog.info? 9).map (fun i => (i.zero, i.size, i.bytes)) = some (some (.string ⟨#[]⟩), 1, 16) := by kernel_rfl
theorem OwnT.alloc {w : World} {B : Nat} {v : Value} {xs : List ByteArray} (h : OwnT w B v xs) (o : Obj) : OwnT (w.alloc o) B v xs := World.ownsRow.alloc h o
theorem OwnT.nil (w : World) (B : Nat) : OwnT w B (.slice none 0 0) [] := World.ownsRow_nil _ _ _ _
theorem OwnT.size {w : World} {B : Nat} {v : Value} {xs : List ByteArray} (h : OwnT w B v xs) (n : Nat) (hn : xs.length = n) : w.ownsRow B 9 1 v n (vtxt xs) := by subst hn; exact h

/-- 'append(out, y)' onto a row of integers of the call's own -/
theorem app_txt (w : World) {ops : Array Oper} {rest : List Oper} {o : Oper} {a : Act} {Q : Exit → Act → World → Prop} (hgd : o.guard = none) (s x : Operand)
    (ho : o.op = .call { callee := .builtin .append, args := #[s, x], argTypes := #[22, 22] })
    (B : Nat) (v : Value) (xs : List ByteArray) (hs : a.eval s = v) (hown : OwnT w B v xs) (g : Nat) (y : ByteArray) (hx : a.eval x = .slice (some ⟨g, 0, none⟩) 1 1)
    (hcell : w.cell? ⟨g, 0, none⟩ = some (.string y)) (hlen : xs.length ≤ 2000000) (hB : B ≤ w.heap.size)
    (h : ∀ v' w', OwnT w' B v' (xs ++ [y]) → w.grownBy w' v.ownBlock → wpList Try.prog ops Q rest (a.put o.dst v') w') : wpList Try.prog ops Q (o :: rest) a w := by
  obtain ⟨i0, hi, hz0, hz1, hz2⟩ := info_parts strInfo
  refine wpList_append_own w hgd s x 22 ho B 9 i0 (.string ⟨#[]⟩) 1 16 Try.underlying22 hi hz0 hz1 hz2 rfl (by decide) v xs.length (vtxt xs) hs hown ⟨g, 0, none⟩ 1 1 [.string y] hx rfl ?_ ?_ (by unfold maxLen; omega) (by omega) hB ?_
  · intro j u hj
    match j, hj with
    | 0, hj => simp at hj; subst hj; simpa [Addr.add] using hcell
    | j + 1, hj => simp at hj
  · intro u hu; simp at hu; subst hu; rfl
  · intro v' w' h1 h2 _
    refine h v' w' ?_ h2
    unfold OwnT
    have e : vtxt (xs ++ [y]) = vtxt xs ++ [.string y] := by simp [vtxt]
    rw [e, List.length_append]; exact h1
theorem bel_ownT {B : Nat} {a w w' : World} {v : Value} {xs : List ByteArray} (h : Below B a w) (ho : OwnT w B v xs) (hg : w.grownBy w' v.ownBlock) (hB : B ≤ w.heap.size) : Below B a w' := h.grown hg hB fun k e => (ho.lt k e).1

/-- a call hands back integers in memory of its own, and whether it succeeds -/
def RetT (w : World) (xs : List ByteArray) (ok : Bool) (e : Ending) (w' : World) : Prop := ∃ v, e = .returned (.tuple #[v, .bool ok]) ∧ OwnT w' w.heap.size v xs ∧ Below w.heap.size w w'

/-- a store into such a row -/
theorem OwnT.stored {w : World} {B g n cap : Nat} {xs : List ByteArray} (h : OwnT w B (.slice (some ⟨g, 0, none⟩) n cap) xs) (hn : xs.length = n) (k : Nat) (y : ByteArray) :
    OwnT (w.setCell ⟨g, k, none⟩ (.string y)) B (.slice (some ⟨g, 0, none⟩) n cap) (xs.set k y) ∧ w.grownBy (w.setCell ⟨g, k, none⟩ (.string y)) (some g) := by
  have h' : w.ownsRow B 9 1 (.slice (some ⟨g, 0, none⟩) n cap) n (vtxt xs) := h.size n hn
  obtain ⟨a, b⟩ := h'.stored k (.string y)
  refine ⟨?_, b⟩
  unfold OwnT
  have e : vtxt (xs.set k y) = (vtxt xs).set k (.string y) := by simp [vtxt, List.map_set]
  rw [e, List.length_set, hn]; exact a
theorem OwnT.cell {w : World} {B g n cap : Nat} {xs : List ByteArray} (h : OwnT w B (.slice (some ⟨g, 0, none⟩) n cap) xs) (hn : xs.length = n) (k : Nat) (hk : k < xs.length) :
    w.cell? ⟨g, k, none⟩ = some (.string xs[k]) ∧ w.frozen? ⟨g, k, none⟩ = false := by
  have h' : w.ownsRow B 9 1 (.slice (some ⟨g, 0, none⟩) n cap) n (vtxt xs) := h.size n hn
  refine ⟨?_, h'.frozenAt k⟩
  rw [h'.cellAt k (by omega)]
  simp [vtxt, List.getElem?_eq_getElem hk]

theorem eqStringS_nil (pa pb : Option Addr) (ca cb : Nat) (w : World) :
    Calls Try.prog 48 #[.slice pa 0 ca, .slice pb 0 cb] w fun e w' => e = .returned (.bool true) ∧ ∃ q, w' = w.drewN q := by
  go_enter Try.func48, Try.ntmps48
  go_wp2
  go_loopw [5] (fun i wr => i = .int .i64 0 ∧ wr = w) (fun _ _ => 0)
  case atStart => exact ⟨rfl, rfl⟩
  case round =>
    obtain ⟨rfl, rfl⟩ := hrel
    go_wp2
    go_ret; exact ⟨rfl, 0, rfl⟩
theorem eqStringS_some (ga gb n ca cb : Nat) (xs : List ByteArray) (w : World) (hn : n ≤ maxLen) (hx : Hid (xs.length = n))
    (ha : Hid (∀ k (hk : k < xs.length), w.cell? ⟨ga, k, none⟩ = some (.string xs[k]))) (hc : Hid (∀ k (hk : k < xs.length), w.cell? ⟨gb, k, none⟩ = some (.string xs[k]))) :
    Calls Try.prog 48 #[.slice (some ⟨ga, 0, none⟩) n ca, .slice (some ⟨gb, 0, none⟩) n cb] w fun e w' => e = .returned (.bool true) ∧ ∃ q, w' = w.drewN q := by
  unfold maxLen at hn
  go_enter Try.func48, Try.ntmps48
  go_wp2
  go_loopw [5] (fun i wr => ∃ k q : Nat, k ≤ n ∧ i = .int .i64 k ∧ wr = w.drewN q) (fun i _ => n - (intOf i).toNat)
  case atStart => exact ⟨0, 0, by omega, rfl, rfl⟩
  case round =>
    obtain ⟨k, q, hk, rfl, rfl⟩ := hrel
    by_cases hlt : k < n
    · have h1 := ha.out k (by rw [hx.out]; exact hlt)
      have h2 := hc.out k (by rw [hx.out]; exact hlt)
      generalize xs[k]'(by rw [hx.out]; exact hlt) = x at *
      have hne : (x.toList == x.toList) = true := by simp
      go_wp2
      go_quiet (fail)
      go_wp2
      go_roundw
      case rel => exact ⟨k + 1, q + nq, by omega, by go_num, rfl⟩
      all_goals (simp [intOf] <;> omega)
    · go_wp2
      go_ret; exact ⟨rfl, q, rfl⟩
theorem eqStringS_same (va vb : Value) (xs : List ByteArray) (A B : Nat) (w : World) (ha : OwnT w A va xs) (hb : OwnT w B vb xs) :
    Calls Try.prog 48 #[va, vb] w fun e w' => e = .returned (.bool true) ∧ ∃ q, w' = w.drewN q := by
  rcases ha.form with ⟨rfl, rfl⟩ | ⟨g, cap, rfl, _, _, hc, _, hm⟩
  · rcases hb.form with ⟨rfl, _⟩ | ⟨g', cap', rfl, _, _, hc', _, hm'⟩
    · exact eqStringS_nil _ _ _ _ _
    · exact eqStringS_nil _ _ _ _ _
  · rcases hb.form with ⟨rfl, rfl⟩ | ⟨g', cap', rfl, _, _, hc', _, hm'⟩
    · exact eqStringS_nil _ _ _ _ _
    · exact eqStringS_some g g' _ _ _ xs w hm (Lib.hid rfl) (Lib.hid hc) (Lib.hid hc')

theorem bt {w a b : World} (h : Below w.heap.size w a) (k : Below a.heap.size a b) : Below w.heap.size w b := bt1 h k
theorem keepS {w a b : World} {g k : Nat} {u : Value} (h2 : Below a.heap.size a b) (h : a.cell? ⟨g, k, none⟩ = some u ∧ g < a.heap.size ∧ Below w.heap.size w a) : b.cell? ⟨g, k, none⟩ = some u ∧ g < b.heap.size ∧ Below w.heap.size w b :=
  ⟨by rw [h2.cell (p := ⟨g, k, none⟩) h.2.1]; exact h.1, Nat.lt_of_lt_of_le h.2.1 h2.size, bt h.2.2 h2⟩
theorem keepF {w a : World} {g k : Nat} {u : Value} (h : a.cell? ⟨g, k, none⟩ = some u ∧ g < a.heap.size ∧ Below w.heap.size w a) : Below w.heap.size w a := h.2.2
/-- the marks -/
def marksT (n : Nat) : List ByteArray := (List.range n).map fun (i : Nat) => mkT (1 + i)
theorem marksT_len (n : Nat) : (marksT n).length = n := by simp [marksT]
theorem marksT_get (n k : Nat) (h : k < (marksT n).length) : (marksT n)[k] = mkT (1 + k) := by simp [marksT]

theorem heldStringS_some (g n cap : Nat) (w : World) (hn : n ≤ 2000000) (hl : g < w.heap.size) (hc : Hid (∀ k, k < n → w.cell? ⟨g, k, none⟩ = some (.string (mkT (1 + k))))) :
    Calls Try.prog 50 #[.slice (some ⟨g, 0, none⟩) n cap, .int .i64 1] w fun e w' => e = .returned (.int .i64 (1 + (n : Int))) ∧ Below w.heap.size w w' := by
  go_enter Try.func50, Try.ntmps50
  go_wp2
  go_loopw [1, 5] (fun m i wr => ∃ k : Nat, k ≤ n ∧ i = .int .i64 k ∧ m = .int .i64 (1 + (k : Int)) ∧ Hid (Below w.heap.size w wr)) (fun _ i _ => n - (intOf i).toNat)
  case atStart => exact ⟨0, by omega, rfl, rfl, Below.refl _ _⟩
  case round =>
    obtain ⟨k, hk, rfl, rfl, hb⟩ := hrel
    by_cases hlt : k < n
    · have h1 : wr.cell? ⟨g, k, none⟩ = some (.string (mkT (1 + k))) := by
        rw [hb.out.cell (p := ⟨g, k, none⟩) hl]; exact hc.out k hlt
      have HM := Lib.hid fun w => markText_any (1 + k) w (by omega) (by omega)
      have hcast : (((1 + k : Nat) : Int)) = 1 + (k : Int) := by omega
      rw [hcast] at HM
      generalize mkT (1 + k) = t at *
      have hne : (t.toList == t.toList) = true := by simp
      have hgl : g < wr.heap.size := Nat.lt_of_lt_of_le hl hb.out.size
      go_wp2_with fail
      go_region_held3 (fun v => v.cell? ⟨g, k, none⟩ = some (.string t) ∧ g < v.heap.size ∧ Below w.heap.size w v) ((first | assumption | (refine ⟨?_, ?_, ?_⟩ <;> first | assumption | go_keep | omega | exact hb.out.drew)))
        (first | (go_at_call 94; refine (HM.out _).mono ?_; rintro e w' ⟨rfl, hb2⟩; have hbn := keepS hb2 (by assumption)))
      all_goals
        have hfin := keepF (by assumption)
        go_wp2_with fail
        go_roundw
        case rel => exact ⟨k + 1, by omega, by go_num, vi (by omega), Lib.hid hfin⟩
        all_goals (simp [intOf] <;> omega)
    · obtain rfl : k = n := by omega
      go_wp2_with fail
      go_ret; exact ⟨rfl, hb.out⟩
theorem heldStringS_nil (p : Option Addr) (cap : Nat) (w : World) :
    Calls Try.prog 50 #[.slice p 0 cap, .int .i64 1] w fun e w' => e = .returned (.int .i64 1) ∧ w = w' := by
  go_enter Try.func50, Try.ntmps50
  go_wp2
  go_loop [1, 5] (fun m i => i = .int .i64 0 ∧ m = .int .i64 1) (fun _ _ => 0)
  case atStart => exact ⟨rfl, rfl⟩
  case round =>
    obtain ⟨rfl, rfl⟩ := hrel
    go_wp2
    go_ret; exact ⟨rfl, rfl⟩
theorem heldStringS_any (v : Value) (n B : Nat) (w : World) (hn : n ≤ 2000000) (h : OwnT w B v (marksT n)) :
    Calls Try.prog 50 #[v, .int .i64 1] w fun e w' => e = .returned (.int .i64 (1 + (n : Int))) ∧ Below w.heap.size w w' := by
  rcases h.form with ⟨rfl, h0⟩ | ⟨g, cap, rfl, _, hl, hc, _, _⟩
  · have : n = 0 := by rw [← marksT_len n, h0]; rfl
    subst this; exact (heldStringS_nil _ _ w).mono fun e w' ⟨a, b⟩ => ⟨a, by subst b; exact Below.refl _ _⟩
  · rw [marksT_len]
    exact heldStringS_some g n cap w hn hl (Lib.hid fun k hk => by rw [hc k (by rw [marksT_len]; exact hk), marksT_get])

theorem markStringS_some (g n cap B : Nat) (xs : List ByteArray) (w : World) (hx : xs.length = n) (hn : n ≤ 2000000) (hw : OwnT w B (.slice (some ⟨g, 0, none⟩) xs.length cap) xs) :
    Calls Try.prog 49 #[.slice (some ⟨g, 0, none⟩) n cap, .int .i64 1] w fun e w' => e = .returned (.int .i64 (1 + (n : Int))) ∧ OwnT w' B (.slice (some ⟨g, 0, none⟩) n cap) (marksT n) ∧ w.grownBy w' (some g) := by
  have hw0 : Hid (OwnT w B (.slice (some ⟨g, 0, none⟩) xs.length cap) xs) := Lib.hid hw
  have hxx := Lib.hid hx
  clear hw hx
  go_enter Try.func49, Try.ntmps49
  go_wp2
  go_loopw [1, 5] (fun m i wr => ∃ k : Nat, k ≤ n ∧ i = .int .i64 k ∧ m = .int .i64 (1 + (k : Int)) ∧ Hid (OwnT wr B (.slice (some ⟨g, 0, none⟩) n cap) (marksT k ++ xs.drop k)) ∧ Hid (w.grownBy wr (some g))) (fun _ i _ => n - (intOf i).toNat)
  case atStart => exact ⟨0, by omega, rfl, rfl, by have := hw0.out; rw [hxx.out] at this; exact this, World.grownBy.refl _ _⟩
  case round =>
    obtain ⟨k, hk, rfl, rfl, ho, hg⟩ := hrel
    by_cases hlt : k < n
    · have hlen : Hid ((marksT k ++ xs.drop k).length = n) := Lib.hid (by rw [List.length_append, marksT_len, List.length_drop, hxx.out]; omega)
      have hkl : k < (marksT k ++ xs.drop k).length := by rw [hlen.out]; exact hlt
      have HM := Lib.hid fun w => markText_any (1 + k) w (by omega) (by omega)
      have hcast : (((1 + k : Nat) : Int)) = 1 + (k : Int) := by omega
      rw [hcast] at HM
      have hset : Hid ((marksT k ++ xs.drop k).set k (mkT (1 + k)) = marksT (k + 1) ++ xs.drop (k + 1)) := Lib.hid (by
        have hd : xs.drop k = xs[k]'(by rw [hxx.out]; exact hlt) :: xs.drop (k + 1) := List.drop_eq_getElem_cons _
        rw [hd, List.set_append_right _ _ (by rw [marksT_len]; exact Nat.le_refl _), marksT_len, Nat.sub_self, List.set_cons_zero]
        unfold marksT
        rw [List.range_succ, List.map_append]
        simp)
      generalize mkT (1 + k) = t at *
      obtain ⟨hce0, hfr0⟩ := ho.out.cell hlen.out k hkl
      go_wp2_with fail
      refine (HM.out _).mono ?_; rintro e w2 ⟨rfl, hb2⟩
      have ho2 := Lib.hid (ho.out.below hb2)
      have hg2 := Lib.hid (Lib.grownBy_trans hg.out ⟨hb2.os, hb2.tape, hb2.output, hb2.size, fun j hj _ => hb2.block j hj⟩)
      have hb2 := Lib.hid hb2
      clear hce0 hfr0
      obtain ⟨hce, hfr⟩ := ho2.out.cell hlen.out k hkl
      have hst := Lib.hid (ho2.out.stored hlen.out k t)
      generalize (marksT k ++ xs.drop k)[k]'hkl = y9 at hce
      clear hkl
      go_wp2_with fail
      go_roundw
      case rel =>
        refine ⟨k + 1, by omega, by go_num, vi (by omega), Lib.hid ?_, Lib.hid (Lib.grownBy_trans hg2.out hst.out.2)⟩
        rw [← hset.out]; exact hst.out.1
      all_goals (simp [intOf] <;> omega)
    · obtain rfl : k = n := by omega
      go_wp2_with fail
      go_ret; exact ⟨rfl, by have := ho.out; rw [List.drop_of_length_le (by rw [hxx.out]; omega), List.append_nil] at this; exact this, hg.out⟩
theorem markStringS_nil (p : Option Addr) (cap : Nat) (w : World) :
    Calls Try.prog 49 #[.slice p 0 cap, .int .i64 1] w fun e w' => e = .returned (.int .i64 1) ∧ w = w' := by
  go_enter Try.func49, Try.ntmps49
  go_wp2
  go_loop [1, 5] (fun m i => i = .int .i64 0 ∧ m = .int .i64 1) (fun _ _ => 0)
  case atStart => exact ⟨rfl, rfl⟩
  case round =>
    obtain ⟨rfl, rfl⟩ := hrel
    go_wp2
    go_ret; exact ⟨rfl, rfl⟩
theorem markStringS_any (v : Value) (xs : List ByteArray) (B : Nat) (w : World) (hn : xs.length ≤ 2000000) (h : OwnT w B v xs) :
    Calls Try.prog 49 #[v, .int .i64 1] w fun e w' => e = .returned (.int .i64 (1 + (xs.length : Int))) ∧ OwnT w' B v (marksT xs.length) ∧ w.grownBy w' v.ownBlock := by
  rcases h.form with ⟨rfl, h0⟩ | ⟨g, cap, rfl, _, _, hc, _, _⟩
  · subst h0
    exact (markStringS_nil none 0 w).mono fun e w' ⟨he, hw⟩ => ⟨he, by subst hw; exact h, by subst hw; exact World.grownBy.refl _ _⟩
  · exact markStringS_some g xs.length cap B xs w rfl hn h
end Go.Proofs.Ytjlecipeoaohiaa

namespace Go.Proofs.Ytjlecipeoaohiaa
open Go Go.RowKit RM
open Go.ChangeShapes Go.WideShapes
/-- texts as elements of a row -/
def txE : Elt ByteArray where
  e := 9
  n := 1
  bytes := 16
  z := .string ⟨#[]⟩
  d := ⟨#[]⟩
  cells s := [.string s]
  len _ := rfl
  one x u hu := by simp at hu; rcases hu with rfl; rfl
  pos := by decide
  zs := rfl
  info := by kernel_rfl
  small := by decide
theorem tx_flat (xs : List ByteArray) : txE.flat xs = vtxt xs := by
  unfold Elt.flat vtxt
  induction xs with
  | nil => rfl
  | cons a l ih => rw [List.flatMap_cons, ih]; rfl
theorem ownT_G {w : World} {B : Nat} {v : Value} {xs : List ByteArray} (h : OwnT w B v xs) : OwnG txE w B v xs := by
  unfold OwnG
  rw [tx_flat]; exact h
theorem ownG_T {w : World} {B : Nat} {v : Value} {xs : List ByteArray} (h : OwnG txE w B v xs) : OwnT w B v xs := by
  have h' : w.ownsRow B txE.e txE.n v xs.length (txE.flat xs) := h
  rw [tx_flat] at h'; exact h'
theorem ne_bse {u v : Value} {c : Nat} (hv : ∀ k, v.ownBlock = some k → k < c) (hu : ∀ k, u.ownBlock = some k → c ≤ k) : v.ownBlock = none ∨ v.ownBlock ≠ u.ownBlock := by
  cases e : v.ownBlock with
  | none => left; rfl
  | some a =>
    right
    intro e2
    have := hu a e2.symm
    have := hv a e
    omega
theorem ne_bse2 {u v : Value} {c : Nat} (hv : ∀ k, v.ownBlock = some k → c ≤ k) (hu : ∀ k, u.ownBlock = some k → k < c) : v.ownBlock = none ∨ v.ownBlock ≠ u.ownBlock := by
  cases e : v.ownBlock with
  | none => left; rfl
  | some a =>
    right
    intro e2
    have := hu a e2.symm
    have := hv a e
    omega
/-- how a row of texts reads -/
abbrev RdT (w : World) (v : Value) (xs : List ByteArray) : Prop := RdG txE w v xs
theorem RG.tx {w : World} {p : Option Addr} {xs : List ByteArray} (h : RG txE w p xs) {k : Nat} (hk : k < xs.length) : ∃ g, p = some ⟨g, 0, none⟩ ∧ g < w.heap.size ∧ w.cell? ⟨g, k, none⟩ = some (.string xs[k]) := by
  obtain ⟨g, rfl, hl, hc⟩ := h (fun e => by rw [e] at hk; simp at hk)
  have := hc k hk 0 (by decide)
  exact ⟨g, rfl, hl, by simpa [txE] using this⟩
/-- 'make([]string, n)' -/
theorem make_txt (w : World) {ops : Array Oper} {rest : List Oper} {o : Oper} {a : Act} {Q : Exit → Act → World → Prop} (hgd : o.guard = none) (l c : Operand) (hop : o.op = Op.makeSlice 22 l c)
    (kl kc : IntKind) (n : Nat) (hl : a.eval l = .int kl n) (hc : a.eval c = .int kc n) (hn : n ≤ 2000000)
    (hK : ∀ w', OwnT w' w.heap.size (.slice (some ⟨w.heap.size, 0, none⟩) n n) (List.replicate n ⟨#[]⟩) → Below w.heap.size w w' → wpList Try.prog ops Q rest (a.put o.dst (.slice (some ⟨w.heap.size, 0, none⟩) n n)) w') : wpList Try.prog ops Q (o :: rest) a w := by
  obtain ⟨i0, hi, hz0, hz1, hz2⟩ := info_parts strInfo
  refine wpList_make_full w hgd l c 22 hop w.heap.size 9 i0 (.string ⟨#[]⟩) 1 Try.underlying22 hi hz0 hz1 kl kc n n n hl hc rfl rfl (by rw [hz2]; omega) (by unfold maxLen; omega) (Nat.le_refl _) ?_
  intro w' h1 h2
  refine hK w' ?_ ((Below.refl _ _).grown h2 (Nat.le_refl _) (fun k e => by cases e))
  unfold OwnT
  have e : vtxt (List.replicate n ⟨#[]⟩) = (madeCells (Value.string ⟨#[]⟩).cells (n * 1)).toList := by
    rw [Nat.mul_one]
    show _ = (madeCells #[.string ⟨#[]⟩] n).toList
    rw [toList_madeCells_one]; simp [vtxt]
  rw [e, List.length_replicate]; exact h1
/-- the texts that came in -/
def ArgT (w : World) (a : Option Addr) (xs : List ByteArray) : Prop :=
  xs = [] ∨ ∃ b off, a = some ⟨b, off, none⟩ ∧ b < w.heap.size ∧ ∀ i (h : i < xs.length), w.cell? ⟨b, off + i, none⟩ = some (.string xs[i])
theorem ArgT.below {w w' : World} {a : Option Addr} {xs : List ByteArray} (h : ArgT w a xs) (hb : Below w.heap.size w w') : ArgT w' a xs := by
  rcases h with h | ⟨b, off, e, hl, hc⟩
  · exact .inl h
  · exact .inr ⟨b, off, e, Nat.lt_of_lt_of_le hl hb.size, fun i hi => by rw [hb.cell (p := ⟨b, off + i, none⟩) hl]; exact hc i hi⟩
section
variable {H : Type} {enc : TypeId × Value → H} {W : World} {base : Nat} {sp : Nat → Bool} {held : Bool}
theorem strs_at {w : World} {a : Addr} {ss : List ByteArray} (hc : ∀ i, i < ss.length → w.cell? (a.add i) = some (.string (ss.getD i ByteArray.empty))) (h0 : 0 < ss.length) :
    ∃ b off, a = ⟨b, off, none⟩ ∧ ∀ i, i < ss.length → w.cell? ⟨b, off + i, none⟩ = some (.string (ss.getD i ByteArray.empty)) := by
  obtain ⟨b, off, spot⟩ := a
  have hs : spot = none := by simpa [Addr.add] using World.cell?_spot (hc 0 h0)
  subst hs
  have e : ∀ i, (⟨b, off, none⟩ : Addr).add i = ⟨b, off + i, none⟩ := fun i => by unfold Addr.add; split <;> simp_all
  exact ⟨b, off, rfl, fun i hi => by rw [← e]; exact hc i hi⟩
set_option maxRecDepth 100000 in
theorem open_texts {r : Reach} {b0 : Nat} {v : Value} {d : DataW H} {p : List MemPlace} (hv : Value.okWide Try.prog W r b0 22 v) (h : DataW.Trod enc Try.prog W 0 (fun _ => true) held 22 v d p) :
    ∃ a n c ss, v = .slice a n c ∧ n ≤ maxLen ∧ ss.length = n ∧ ArgT W a ss ∧ ∀ s ∈ ss, s.size ≤ maxLen := by
  obtain ⟨a, n, c, rfl⟩ := okWide_slice Try.underlying22 hv
  obtain ⟨fuel, hf⟩ := h
  rcases open_strings Try.underlying22 Try.underlying9 (by kernel_rfl) hf with ⟨hcs, _⟩ | ⟨x, l, c', zs, hcs, _, hl, hm, hz, _, hcell, hwz⟩
  · simp [Value.cells] at hcs
    obtain ⟨rfl, rfl, rfl⟩ := hcs
    exact ⟨none, 0, 0, [], rfl, Nat.zero_le _, rfl, .inl rfl, fun s hs => by cases hs⟩
  · simp [Value.cells] at hcs
    obtain ⟨rfl, rfl, rfl⟩ := hcs
    have hz' : zs.length = c := by simpa using hz
    refine ⟨some x, n, c, zs.take n, rfl, by omega, by rw [List.length_take]; omega, ?_, fun s hs => hwz s (List.mem_of_mem_take hs)⟩
    by_cases h0 : 0 < zs.length
    · obtain ⟨b, off, rfl, hc2⟩ := strs_at hcell h0
      right
      refine ⟨b, off, rfl, block_lt (hc2 0 h0), fun i hi => ?_⟩
      have hi2 : i < zs.length := by rw [List.length_take] at hi; omega
      rw [hc2 i hi2]
      simp [List.getD, List.getElem?_eq_getElem hi2]
    · left
      have : zs = [] := List.length_eq_zero_iff.1 (by omega)
      rw [this]; simp
end
theorem toStringS_nil (p : Option Addr) (cap : Nat) (w : World) :
    Calls Try.prog 55 #[.slice p 0 cap] w fun e w' => ∃ v, e = .returned v ∧ OwnT w' w.heap.size v [] ∧ Below w.heap.size w w' := by
  go_enter Try.func55, Try.ntmps55
  go_wp2_with (at_make; refine make_txt _ rfl _ _ rfl _ _ 0 rfl rfl (by omega) ?_; intro w1 hown1 hb1)
  have hown1 := Lib.hid hown1
  have hb1 := Lib.hid hb1
  go_loopw [4] (fun i wr => i = .int .i64 0 ∧ wr = w1) (fun _ _ => 0)
  case atStart => exact ⟨rfl, rfl⟩
  case round =>
    obtain ⟨rfl, rfl⟩ := hrel
    go_wp2
    go_ret
    exact ⟨_, rfl, hown1.out, hb1.out⟩
theorem toStringS_some (b off n cap : Nat) (xs : List ByteArray) (w : World) (hn : n ≤ 1048576) (hx : Hid (xs.length = n)) (hl : b < w.heap.size) (hc : Hid (∀ i (h : i < xs.length), w.cell? ⟨b, off + i, none⟩ = some (.string xs[i]))) :
    Calls Try.prog 55 #[.slice (some ⟨b, off, none⟩) n cap] w fun e w' => ∃ v, e = .returned v ∧ OwnT w' w.heap.size v xs ∧ Below w.heap.size w w' := by
  go_enter Try.func55, Try.ntmps55
  go_wp2_with (at_make; refine make_txt _ rfl _ _ rfl _ _ n rfl rfl (by omega) ?_; intro w1 hown1 hb1)
  have hown1 := Lib.hid hown1
  have hb1 := Lib.hid hb1
  go_loopw [4] (fun i wr => ∃ k : Nat, k ≤ n ∧ i = .int .i64 k ∧ Hid (OwnT wr w.heap.size (.slice (some ⟨w.heap.size, 0, none⟩) n n) (xs.take k ++ List.replicate (n - k) ⟨#[]⟩)) ∧ Hid (Below w.heap.size w wr)) (fun i _ => n - (intOf i).toNat)
  case atStart => exact ⟨0, Nat.zero_le _, rfl, Lib.hid (by simpa using hown1.out), hb1⟩
  case round =>
    obtain ⟨k, hk, rfl, ho, hb⟩ := hrel
    clear hown1 hb1
    by_cases hlt : k < n
    · have hlk : Hid ((xs.take k ++ List.replicate (n - k) (⟨#[]⟩ : ByteArray)).length = n) := Lib.hid (by simp [hx.out]; omega)
      have hkx : k < xs.length := by rw [hx.out]; exact hlt
      have hsp : Hid (List.replicate (n - k) (⟨#[]⟩ : ByteArray) = ⟨#[]⟩ :: List.replicate (n - (k + 1)) ⟨#[]⟩) := Lib.hid (by
        rw [show n - k = (n - (k + 1)) + 1 from by omega]; rfl)
      have hmt : Hid (xs.take (k + 1) = xs.take k ++ [xs[k]]) := Lib.hid (List.take_succ_eq_append_getElem hkx)
      have htl : Hid ((xs.take k).length = k) := Lib.hid (by rw [List.length_take]; omega)
      have hrd : wr.cell? ⟨b, off + k, none⟩ = some (.string xs[k]) := by
        rw [hb.out.cell (p := ⟨b, off + k, none⟩) hl]; exact hc.out k hkx
      obtain ⟨hce, hfr⟩ := ho.out.cell hlk.out k (by rw [hlk.out]; exact hlt)
      obtain ⟨y, hy⟩ : ∃ y, y = (xs.take k ++ List.replicate (n - k) (⟨#[]⟩ : ByteArray))[k]'(by rw [hlk.out]; exact hlt) := ⟨_, rfl⟩
      rw [← hy] at hce
      have hst := Lib.hid (ho.out.stored hlk.out k xs[k])
      clear hy
      generalize xs[k] = z at *
      go_wp2
      go_roundw
      case rel =>
        refine ⟨k + 1, by omega, by go_num, Lib.hid ?_, Lib.hid ?_⟩
        · have h3 := hst.out.1
          rw [hsp.out, List.set_append_right _ _ (by rw [htl.out]; exact Nat.le_refl _), htl.out, Nat.sub_self, List.set_cons_zero] at h3
          rw [hmt.out, List.append_assoc]; exact h3
        · exact hb.out.grown hst.out.2 hb.out.size (fun j e => by cases e; exact Nat.le_refl _)
      all_goals (simp [intOf] <;> omega)
    · obtain rfl : k = n := by omega
      have ho2 := ho.out
      rw [List.take_of_length_le (by rw [hx.out]; omega)] at ho2
      simp only [Nat.sub_self, List.replicate_zero, List.append_nil] at ho2
      have ho2 := Lib.hid ho2
      go_wp2
      go_ret
      exact ⟨_, rfl, ho2.out, hb.out⟩
theorem toStringS_any (a : Option Addr) (n cap : Nat) (xs : List ByteArray) (w : World) (hn : n ≤ 1048576) (hx : xs.length = n) (h : ArgT w a xs) :
    Calls Try.prog 55 #[.slice a n cap] w fun e w' => ∃ v, e = .returned v ∧ OwnT w' w.heap.size v xs ∧ Below w.heap.size w w' := by
  by_cases h0 : n = 0
  · subst h0
    obtain rfl : xs = [] := List.length_eq_zero_iff.1 hx
    exact toStringS_nil a cap w
  · rcases h with rfl | ⟨b, off, rfl, hl, hc⟩
    · exact absurd hx.symm h0
    · exact toStringS_some b off n cap xs w hn (Lib.hid hx) hl (Lib.hid hc)
/-- what is left behind the measure; if it is none, -1 -/
theorem szStringS_any (a : Option Addr) (n c : Nat) (xs : List ByteArray) (w : World) (hn : n ≤ maxLen) (hx : xs.length = n) (hs : ∀ s ∈ xs, s.size ≤ maxLen) (h : ArgT w a xs) :
    Calls Try.prog 51 #[.slice a n c, .int .i64 1048576] w fun e w' => ∃ r : Int, e = .returned (.int .i64 r) ∧ w = w' ∧ (0 ≤ r → n ≤ 1048576) := by
  unfold maxLen at hn hs
  by_cases h1 : 1048576 < n
  · have h2 : (1048576 : Int) - (n : Int) < 0 := by omega
    go_enter Try.func51, Try.ntmps51
    go_wp2_with fail
    go_ret; exact ⟨-1, rfl, rfl, fun h => by omega⟩
  · replace hx := Lib.hid hx
    have h2 : ¬ (1048576 : Int) - (n : Int) < 0 := by omega
    go_enter Try.func51, Try.ntmps51
    go_wp2_with fail
    go_loop [1, 5] (fun l i => ∃ (k : Nat) (L : Int), k ≤ n ∧ i = .int .i64 k ∧ l = .int .i64 L ∧ 0 ≤ L ∧ L ≤ 1048576) (fun _ i => n - (intOf i).toNat)
    case atStart => exact ⟨0, _, by omega, rfl, rfl, by omega, by omega⟩
    case round =>
      obtain ⟨k, L, hk, rfl, rfl, hL0, hL1⟩ := hrel
      by_cases hlt : k < n
      · have hkx : k < xs.length := by rw [hx.out]; exact hlt
        rcases h with rfl | ⟨b, off, rfl, hl, hc⟩
        · simp at hkx
        · have c0 := hc k hkx
          have hsz := hs _ (List.getElem_mem hkx)
          generalize xs[k] = s at *
          clear hc hs
          by_cases h3 : L - (s.size : Int) < 0
          · go_wp2_with fail
            go_ret; exact ⟨-1, rfl, rfl, fun h => by omega⟩
          · go_wp2_with fail
            go_round
            case rel => exact ⟨k + 1, L - (s.size : Int), by omega, by go_num, by first | rfl | go_num, by omega, by omega⟩
            all_goals (simp [intOf] <;> omega)
      · go_wp2_with fail
        go_ret; exact ⟨L, rfl, rfl, fun _ => by omega⟩
end Go.Proofs.Ytjlecipeoaohiaa

namespace Go.Proofs.Ytjlecipeoaohiaa
open RM
/-- which bytes are signs of keys; the signs that tell -/
def okq (c : UInt8) : Bool := c == 63 || (c == 48 || c == 49)
def tq (c : UInt8) : UInt8 := if c = 63 then 48 else 49
/-- the rings that a key tells, and those of them that are to be on -/
def tolX (l : List UInt8) : Nat := sg (l.map tq)
def onX (l : List UInt8) : Nat := sg l
theorem tol_bit (l : List UInt8) (i : Nat) (h : i < l.length) : (tolX l).testBit i = !(l[i] == 63) := by
  unfold tolX
  rw [sg_bit, List.getElem?_map, List.getElem?_eq_getElem h]
  unfold tq
  by_cases e : l[i] = 63
  · simp [e]
  · simp [e]
theorem tol_lt (l : List UInt8) : tolX l < 2 ^ l.length := by have := sg_lt (l.map tq); rwa [List.length_map] at this
theorem on_bit (l : List UInt8) (i : Nat) (h : i < l.length) : (onX l).testBit i = (l[i] == 49) := by
  unfold onX
  rw [sg_bit, List.getElem?_eq_getElem h, Bool.eq_iff_iff]; simp
theorem on_lt (l : List UInt8) : onX l < 2 ^ l.length := sg_lt l
/-- a key fits the signs of a state -/
def fitN (l : List UInt8) (x : Nat) : Bool := decide (x &&& tolX l = onX l)
/-- a key fits at a sign -/
def fitA (l m : List UInt8) (i : Nat) : Bool := l.getD i 0 == 63 || l.getD i 0 == m.getD i 0
theorem fit_no (l : List UInt8) (n x i : Nat) (hl : l.length = n) (hq : l.all okq = true) (hi : i < n) (h : fitA l (tx n x) i = false) : fitN l x = false := by
  unfold fitN
  rw [decide_eq_false_iff_not]
  intro he
  have h1 := congrArg (fun y => y.testBit i) he
  simp only [Nat.testBit_and] at h1
  have hil : i < l.length := by omega
  rw [tol_bit l i hil, on_bit l i hil] at h1
  unfold fitA at h
  rw [List.getD_eq_getElem?_getD, List.getElem?_eq_getElem hil, List.getD_eq_getElem?_getD, List.getElem?_eq_getElem (by rw [tx_len]; exact hi)] at h
  simp only [Option.getD_some, tx_get] at h
  rw [List.all_eq_true] at hq
  have hc := hq l[i] (List.getElem_mem _)
  unfold okq at hc
  generalize l[i] = c at *
  simp only [Bool.or_eq_true, beq_iff_eq] at hc
  rcases hc with rfl | rfl | rfl
  · simp at h
  · cases hb : x.testBit i <;> rw [hb] at h h1 <;> simp at h h1
  · cases hb : x.testBit i <;> rw [hb] at h h1 <;> simp at h h1
theorem fit_yes (l : List UInt8) (n x : Nat) (hl : l.length = n) (hq : l.all okq = true) (hx : x < 2 ^ n) (h : ∀ i, i < n → fitA l (tx n x) i = true) : fitN l x = true := by
  unfold fitN
  rw [decide_eq_true_eq]
  apply Nat.eq_of_testBit_eq
  intro i
  rw [Nat.testBit_and]
  by_cases hi : i < n
  · have hil : i < l.length := by omega
    rw [tol_bit l i hil, on_bit l i hil]
    have h := h i hi
    unfold fitA at h
    rw [List.getD_eq_getElem?_getD, List.getElem?_eq_getElem hil, List.getD_eq_getElem?_getD, List.getElem?_eq_getElem (by rw [tx_len]; exact hi)] at h
    simp only [Option.getD_some, tx_get] at h
    rw [List.all_eq_true] at hq
    have hc := hq l[i] (List.getElem_mem _)
    unfold okq at hc
    generalize l[i] = c at *
    simp only [Bool.or_eq_true, beq_iff_eq] at hc
    rcases hc with rfl | rfl | rfl
    · simp
    · cases hb : x.testBit i <;> rw [hb] at h <;> simp at h ⊢
    · cases hb : x.testBit i <;> rw [hb] at h <;> simp at h ⊢
  · have h1 : x < 2 ^ i := Nat.lt_of_lt_of_le hx (Nat.pow_le_pow_right (by decide) (by omega))
    have h2 : onX l < 2 ^ i := Nat.lt_of_lt_of_le (on_lt l) (Nat.pow_le_pow_right (by decide) (by omega))
    rw [Nat.testBit_lt_two_pow h1, Nat.testBit_lt_two_pow h2]; rfl
/-- the key of the ring k among n -/
def keyOk (n k : Nat) (s : ByteArray) : Bool := decide (s.size = n) && (s.data.toList.getD k 0 == 63) && s.data.toList.all okq
/-- the texts are keys -/
def goodK (ks : List ByteArray) : Bool := decide (1 ≤ ks.length) && decide (ks.length ≤ 10) && (List.range ks.length).all fun k => keyOk ks.length k (ks.getD k ⟨#[]⟩)
theorem goodK_len (ks : List ByteArray) (h : goodK ks = true) : 1 ≤ ks.length ∧ ks.length ≤ 10 := by
  unfold goodK at h
  simp only [Bool.and_eq_true, decide_eq_true_eq] at h
  exact h.1
theorem getD_at {α : Type} (xs : List α) (k : Nat) (d : α) (h : k < xs.length) : xs.getD k d = xs[k] := by
  rw [List.getD_eq_getElem?_getD, List.getElem?_eq_getElem h]; rfl
theorem goodK_at (ks : List ByteArray) (h : goodK ks = true) (k : Nat) (hk : k < ks.length) : keyOk ks.length k ks[k] = true := by
  unfold goodK at h
  simp only [Bool.and_eq_true, decide_eq_true_eq] at h
  have := List.all_eq_true.1 h.2 k (List.mem_range.2 hk)
  rwa [getD_at ks k _ hk] at this
theorem goodK_no (ks : List ByteArray) (k : Nat) (hk : k < ks.length) (h : keyOk ks.length k ks[k] = false) : goodK ks = false := by
  rw [← Bool.not_eq_true]; intro h2
  rw [goodK_at ks h2 k hk] at h; cases h
theorem goodK_yes (ks : List ByteArray) (h1 : 1 ≤ ks.length) (h2 : ks.length ≤ 10) (h : ∀ k (hk : k < ks.length), keyOk ks.length k ks[k] = true) : goodK ks = true := by
  unfold goodK
  rw [Bool.and_eq_true, Bool.and_eq_true]
  refine ⟨⟨by simpa using h1, by simpa using h2⟩, List.all_eq_true.2 fun k hk => ?_⟩
  have hk := List.mem_range.1 hk
  rw [getD_at ks k _ hk]; exact h k hk
theorem keyOk_iff (n k : Nat) (s : ByteArray) : keyOk n k s = true ↔ s.size = n ∧ s.data.toList.getD k 0 = 63 ∧ s.data.toList.all okq = true := by
  unfold keyOk
  rw [Bool.and_eq_true, Bool.and_eq_true, decide_eq_true_eq, beq_iff_eq, and_assoc]
/-- the keys as the program has them -/
def kp (s : ByteArray) : Nat × Nat := (tolX s.data.toList, onX s.data.toList)
end Go.Proofs.Ytjlecipeoaohiaa

namespace Go.Proofs.Ytjlecipeoaohiaa
open Go Go.RowKit RM
theorem okq_int (c : UInt8) : okq c = !(((c.toNat : Int) != 63) && ((c.toNat : Int) != 48) && ((c.toNat : Int) != 49)) := by
  have e : ∀ n : Nat, n < 256 → ((c == UInt8.ofNat n) = ((c.toNat : Int) == (n : Int))) := by
    intro n hn
    rw [Bool.eq_iff_iff, beq_iff_eq, beq_iff_eq, ← UInt8.toNat_inj, UInt8.toNat_ofNat']
    omega
  unfold okq
  rw [show (63 : UInt8) = UInt8.ofNat 63 from rfl, show (48 : UInt8) = UInt8.ofNat 48 from rfl, show (49 : UInt8) = UInt8.ofNat 49 from rfl, e 63 (by omega), e 48 (by omega), e 49 (by omega)]
  simp only [bne]
  cases ((c.toNat : Int) == ((63 : Nat) : Int)) <;> cases ((c.toNat : Int) == ((48 : Nat) : Int)) <;> cases ((c.toNat : Int) == ((49 : Nat) : Int)) <;> simp_all
theorem byte_at (s : ByteArray) (i : Nat) (h : i < s.size) : s.data.toList[i]'(by rw [Array.length_toList]; exact h) = s[i] := by
  rw [Array.getElem_toList]; rfl
theorem byte_getD (s : ByteArray) (i : Nat) (h : i < s.size) (d : UInt8) : s.data.toList.getD i d = s[i] := by
  rw [getD_at s.data.toList i d (by rw [Array.length_toList]; exact h), byte_at s i h]
theorem len_data (s : ByteArray) : s.data.toList.length = s.size := Array.length_toList
theorem b63 (c : UInt8) : (c == 63) = ((c.toNat : Int) == 63) := by
  rw [Bool.eq_iff_iff, beq_iff_eq, beq_iff_eq, ← UInt8.toNat_inj]
  show c.toNat = 63 ↔ _
  omega
/-- a sign among the first that is none -/
theorem all_no (s : ByteArray) (i : Nat) (h : i < s.size) (hq : okq s[i] = false) : s.data.toList.all okq = false := by
  rw [← Bool.not_eq_true]; intro ha
  have := List.all_eq_true.1 ha _ (List.getElem_mem (show i < s.data.toList.length by rw [len_data]; exact h))
  rw [byte_at s i h, hq] at this; cases this
theorem all_yes (s : ByteArray) (h : ∀ i (h : i < s.size), okq s[i] = true) : s.data.toList.all okq = true := by
  rw [List.all_eq_true]
  intro c hc
  obtain ⟨i, hi, rfl⟩ := List.getElem_of_mem hc
  rw [len_data] at hi
  rw [byte_at s i hi]; exact h i hi
end Go.Proofs.Ytjlecipeoaohiaa

namespace Go.Proofs.Ytjlecipeoaohiaa
open Go.Shelf Go.RowKit
def ren105 : Go.Shelf.Ren := ⟨fun | 99 => 89 | 105 => 45 | 165 => 90 | 166 => 91 | 169 => 93 | 170 => 92 | 206 => 106 | 212 => 88 | 240 => 107 | 241 => 108 | 263 => 104 | 264 => 105 | 276 => 112 | 277 => 113 | n => n, fun | 3 => 3 | 4 => 4 | 5 => 5 | 9 => 9 | 20 => 20 | 37 => 95 | 46 => 97 | 51 => 122 | 53 => 125 | 70 => 101 | 72 => 103 | 75 => 106 | 76 => 107 | 109 => 98 | 127 => 128 | 146 => 123 | 148 => 126 | 164 => 129 | 80 => 110 | n => n, fun n => n⟩
theorem lays105 : Go.Proofs.Lays.n105 Try.prog ren105 := {
  mixed := by kernel_rfl
  f99 := Try.func89.trans (congrArg some (by kernel_rfl))
  f105 := Try.func45.trans (congrArg some (by kernel_rfl))
  f165 := Try.func90.trans (congrArg some (by kernel_rfl))
  f166 := Try.func91.trans (congrArg some (by kernel_rfl))
  f169 := Try.func93.trans (congrArg some (by kernel_rfl))
  f170 := Try.func92.trans (congrArg some (by kernel_rfl))
  f206 := Try.func106.trans (congrArg some (by kernel_rfl))
  f212 := Try.func88.trans (congrArg some (by kernel_rfl))
  f240 := Try.func107.trans (congrArg some (by kernel_rfl))
  f241 := Try.func108.trans (congrArg some (by kernel_rfl))
  f263 := Try.func104.trans (congrArg some (by kernel_rfl))
  f264 := Try.func105.trans (congrArg some (by kernel_rfl))
  f276 := Try.func112.trans (congrArg some (by kernel_rfl))
  f277 := Try.func113.trans (congrArg some (by kernel_rfl))
  t0 := Try.underlying0
  a0 := Try.isAgg0
  z0 := Try.sizeOf0
  v0 := Try.zeroValue0
  t3 := Try.underlying3
  a3 := Try.isAgg3
  z3 := Try.sizeOf3
  v3 := Try.zeroValue3
  t4 := Try.underlying4
  a4 := Try.isAgg4
  z4 := Try.sizeOf4
  v4 := Try.zeroValue4
  t5 := Try.underlying5
  a5 := Try.isAgg5
  z5 := Try.sizeOf5
  v5 := Try.zeroValue5
  t9 := Try.underlying9
  a9 := Try.isAgg9
  z9 := Try.sizeOf9
  v9 := Try.zeroValue9
  t20 := Try.underlying20
  a20 := Try.isAgg20
  z20 := Try.sizeOf20
  v20 := Try.zeroValue20
  t37 := Try.underlying95
  a37 := Try.isAgg95
  z37 := Try.sizeOf95
  v37 := Try.zeroValue95
  t46 := Try.underlying97
  a46 := Try.isAgg97
  z46 := Try.sizeOf97
  v46 := Try.zeroValue97
  t51 := Try.underlying122
  a51 := Try.isAgg122
  z51 := Try.sizeOf122
  v51 := Try.zeroValue122
  t53 := Try.underlying125
  a53 := Try.isAgg125
  z53 := Try.sizeOf125
  v53 := Try.zeroValue125
  t70 := Try.underlying101
  a70 := Try.isAgg101
  z70 := Try.sizeOf101
  v70 := Try.zeroValue101
  t72 := Try.underlying103
  a72 := Try.isAgg103
  z72 := Try.sizeOf103
  v72 := Try.zeroValue103
  t75 := Try.underlying106
  a75 := Try.isAgg106
  z75 := Try.sizeOf106
  v75 := Try.zeroValue106
  t76 := Try.underlying107
  a76 := Try.isAgg107
  z76 := Try.sizeOf107
  v76 := Try.zeroValue107
  t109 := Try.underlying98
  a109 := Try.isAgg98
  z109 := Try.sizeOf98
  v109 := Try.zeroValue98
  t127 := Try.underlying128
  a127 := Try.isAgg128
  z127 := Try.sizeOf128
  v127 := Try.zeroValue128
  t146 := Try.underlying123
  a146 := Try.isAgg123
  z146 := Try.sizeOf123
  v146 := Try.zeroValue123
  t148 := Try.underlying126
  a148 := Try.isAgg126
  z148 := Try.sizeOf126
  v148 := Try.zeroValue126
  t164 := Try.underlying129
  a164 := Try.isAgg129
  z164 := Try.sizeOf129
  v164 := Try.zeroValue129
}
theorem extra105 : Go.Proofs.Builder.Extra Try.prog ren105 := {
  sizeBuilder := by kernel_rfl
  liesBuilder := by kernel_rfl
  t5 := Try.underlying5
  a5 := Try.isAgg5
  z5 := Try.sizeOf5
  v5 := Try.zeroValue5
  infoByte := by kernel_rfl
  cellsByte := by kernel_rfl
  sizeByte := by kernel_rfl
  neB5 := by decide }
theorem srep_any (s : ByteArray) (c : Nat) (w : World) (hc : c ≤ 9223372036854775807) (hlen : s.size * c ≤ 140737488355328) :
    Calls Try.prog 45 #[.string s, .int .i64 c] w fun e w' => e = .returned (.string ⟨(Lib.repeatL s.data.toList c).toArray⟩) ∧ Below w.heap.size w w' := Any.strings_Repeat lays105 extra105 s c w hc hlen
end Go.Proofs.Ytjlecipeoaohiaa

namespace Go.Proofs.Ytjlecipeoaohiaa
end Go.Proofs.Ytjlecipeoaohiaa

namespace Go.Proofs.Ytjlecipeoaohiaa
end Go.Proofs.Ytjlecipeoaohiaa

namespace Go.Proofs.Ytjlecipeoaohiaa
open Go Go.RowKit RM

/-- a sign of a state, in the walk's words -/
theorem ST_eq (n x k : Nat) (h : k < (ST n x).size) : (((ST n x)[k].toNat : Int) == 49) = x.testBit k := by
  rw [ST_get]; cases x.testBit k <;> rfl
theorem ST_ne (n x k : Nat) (h : k < (ST n x).size) : (((ST n x)[k].toNat : Int) != 49) = !x.testBit k := by
  rw [ST_get]; cases x.testBit k <;> rfl

theorem ons_take (s : ByteArray) (k : Nat) (h : k < s.size) : ons (s.data.toList.take (k+1)) = ons (s.data.toList.take k) + (if ((s[k].toNat : Int) == 49) = true then 1 else 0) := by
  unfold ons
  rw [List.take_succ_eq_append_getElem (by simpa using h), List.filter_append]
  have e : (s.data.toList[k]'(by simpa using h)) = s[k] := rfl
  rw [e]
  have f : (s[k] == 49) = ((s[k].toNat : Int) == 49) := by
    rw [Bool.eq_iff_iff, beq_iff_eq, beq_iff_eq, ← UInt8.toNat_inj]; simp; omega
  by_cases g : (s[k] == 49) = true
  · rw [if_pos (by rw [← f]; exact g)]; simp [g]
  · rw [if_neg (by rw [← f]; exact g)]; simp [g]


end Go.Proofs.Ytjlecipeoaohiaa

namespace Go.Proofs.Ytjlecipeoaohiaa
open Go Go.RowKit RM


theorem tx_zero (x : Nat) : tx 0 x = [] := rfl

end Go.Proofs.Ytjlecipeoaohiaa

namespace Go.Proofs.Ytjlecipeoaohiaa
open Go Go.RowKit RM







theorem l1Least_any (a b : Int) (w : World) : Calls Try.prog 99 #[.int .i64 a, .int .i64 b] w fun e w' => e = .returned (.int .i64 (min a b)) ∧ w = w' := by
  by_cases h : a < b
  all_goals
    go_enter Try.func99, Try.ntmps99
    go_wp2
    go_ret; exact ⟨ret_int (by omega), rfl⟩


def sgn (a : Int) : Int := if 0 < a then 1 else if a < 0 then -1 else 0




/-- two states of as many rings, or not -/
def twoB (a b : ByteArray) : Bool := goodB a.data.toList && goodB b.data.toList && ((a.size : Int) == (b.size : Int))

theorem of_two (a b : ByteArray) (h : twoB a b = true) : ∃ n x y, 1 ≤ n ∧ n ≤ 20 ∧ x < 2 ^ n ∧ y < 2 ^ n ∧ a = ST n x ∧ b = ST n y := by
  unfold twoB at h
  simp only [Bool.and_eq_true, beq_iff_eq] at h
  obtain ⟨⟨h1, h2⟩, h3⟩ := h
  obtain ⟨n, x, a1, a2, a3, rfl⟩ := of_good a h1
  obtain ⟨m, y, b1, b2, b3, rfl⟩ := of_good b h2
  rw [ST_size, ST_size] at h3
  obtain rfl : n = m := by omega
  exact ⟨n, x, y, a1, a2, a3, b3, rfl, rfl⟩
theorem two_ST (n x y : Nat) (h1 : 1 ≤ n) (h2 : n ≤ 20) : twoB (ST n x) (ST n y) = true := by
  unfold twoB; rw [good_ST n x h1 h2, good_ST n y h1 h2, ST_size, ST_size]; simp

/-- the number of the state next to x on the way to y -/
def nxt (x y : Nat) : Nat := if num x < num y then num x + 1 else if num y < num x then num x - 1 else num x
theorem nxt_lt (n x y : Nat) (hx : x < 2 ^ n) (hy : y < 2 ^ n) : nxt x y < 2 ^ n := by
  have a := num_lt n x hx
  have b := num_lt n y hy
  unfold nxt; split <;> (try split) <;> omega

theorem all_ones (n k : Nat) (h : k < n) : (2 ^ n - 1).testBit k = true := by simp [h]

end Go.Proofs.Ytjlecipeoaohiaa

namespace Go.Proofs.Ytjlecipeoaohiaa.RM
section
variable {S : Type} [DecidableEq S]
structure SB (M : Nat) (U : List S) (st : Sr S) : Prop where
  nd : st.q.Nodup
  mem : ∀ t, t ∈ st.q ↔ st.far t ≠ none
  sub : ∀ t ∈ st.q, t ∈ U
  le : ∀ t, st.way t ≤ M
  z : ∀ t, st.far t = none → st.way t = 0
theorem sb_one (M : Nat) (hM : 1 ≤ M) (U : List S) (s : S) (h : s ∈ U) : SB M U (Sr.one s) where
  nd := by simp [Sr.one]
  mem t := by simp [Sr.one]
  sub t ht := by simp [Sr.one] at ht; rw [ht]; exact h
  le t := by simp only [Sr.one]; split <;> omega
  z t ht := by simp only [Sr.one] at ht ⊢; split at ht <;> simp_all
theorem sb_add {M n w : Nat} {U : List S} {st : Sr S} (h : SB M U st) {t : S} (ht : t ∈ U) : SB M U (st.add M n w t) := by
  unfold Sr.add
  split
  · rename_i h0
    have hn : t ∉ st.q := fun e => (h.mem t).1 e h0
    refine ⟨?_, fun u => ?_, fun u hu => ?_, fun u => ?_, fun u hu => ?_⟩
    · show (st.q ++ [t]).Nodup
      rw [List.nodup_append]
      exact ⟨h.nd, by simp, fun a ha b hb => by simp at hb; subst hb; exact fun e => hn (e ▸ ha)⟩
    · show u ∈ st.q ++ [t] ↔ (if u = t then some n else st.far u) ≠ none
      rw [List.mem_append, List.mem_singleton]
      by_cases e : u = t
      · rw [if_pos e]; simp [e]
      · rw [if_neg e, h.mem]; simp [e]
    · have hu : u ∈ st.q ++ [t] := hu
      rcases List.mem_append.1 hu with a | a
      · exact h.sub u a
      · simp at a; rw [a]; exact ht
    · show (if u = t then min (st.way t + w) M else st.way u) ≤ M
      split
      · exact Nat.min_le_right _ _
      · exact h.le u
    · have hu : (if u = t then some n else st.far u) = none := hu
      show (if u = t then min (st.way t + w) M else st.way u) = 0
      split at hu
      · cases hu
      · rename_i e; rw [if_neg e]; exact h.z u hu
  · rename_i m h0
    split
    · refine ⟨h.nd, h.mem, h.sub, fun u => ?_, fun u hu => ?_⟩
      · show (if u = t then min (st.way t + w) M else st.way u) ≤ M
        split
        · exact Nat.min_le_right _ _
        · exact h.le u
      · have hu : st.far u = none := hu
        show (if u = t then min (st.way t + w) M else st.way u) = 0
        rw [if_neg (fun e => by rw [e, h0] at hu; cases hu)]; exact h.z u hu
    · exact h
theorem sb_part {M n : Nat} {U : List S} {st : Sr S} (h : SB M U st) (s : S) (l : List S) (hl : ∀ t ∈ l, t ∈ U) : SB M U (st.part M n s l) := by
  induction l using revRec with
  | nil => exact h
  | append_singleton l t ih => rw [Sr.part_snoc]; exact sb_add (ih (fun u hu => hl u (List.mem_append_left _ hu))) (hl t (by simp))
theorem sb_run {M : Nat} (hM : 1 ≤ M) {nb : S → List S} {U : List S} (hU : Univ nb U) {s0 : S} (h0 : s0 ∈ U) (k : Nat) : SB M U (run M nb s0 k) := by
  induction k with
  | zero => exact sb_one M hM U s0 h0
  | succ k ih =>
    cases e : (run M nb s0 k).q[k]? with
    | none => rw [run_none e]; exact ih
    | some s =>
      rw [run_some e]
      exact sb_part ih s _ (hU.cl s (ih.sub s (List.mem_of_getElem? e)))
theorem dst_le {M : Nat} {nb : S → List S} {s0 : S} (k : Nat) : ∀ (j : Nat) (t : S), (run M nb s0 k).q[j]? = some t → (run M nb s0 k).dst t ≤ j := by
  have hO := run_ok M nb s0 k
  intro j
  induction j using Nat.strongRecOn with
  | _ j ih =>
    intro t ht
    by_cases e : t = s0
    · subst e; unfold Sr.dst; rw [hO.zero]; simp
    · obtain ⟨i, u, _, _, h3, h4, _⟩ := hO.par t (List.mem_of_getElem? ht) e
      have hij : i < j := Nat.lt_of_not_le fun hle => by
        have := hO.sorted j i t u hle ht h3; omega
      have := ih i hij u h3
      omega
/-- a level: what is found and not visited yet, all of it as far -/
structure Lev (M : Nat) (nb : S → List S) (s0 : S) (k n : Nat) (L : List S) : Prop where
  eq : L = (run M nb s0 k).q.drop k
  far : ∀ u ∈ L, (run M nb s0 k).dst u + 1 = n
theorem lev_zero (M : Nat) (nb : S → List S) (s0 : S) : Lev M nb s0 0 1 [s0] where
  eq := rfl
  far u hu := by
    simp at hu; subst hu
    show ((if u = u then some 0 else none : Option Nat).getD 0) + 1 = 1
    rw [if_pos rfl]; rfl
section
variable {M : Nat} {nb : S → List S} {s0 : S} {k n : Nat} {L : List S}
theorem Lev.get (h : Lev M nb s0 k n L) {i : Nat} {u : S} (hu : L[i]? = some u) : (run M nb s0 (k + i)).q[k + i]? = some u ∧ (run M nb s0 (k + i)).dst u + 1 = n := by
  have h1 : (run M nb s0 k).q[k + i]? = some u := by rw [h.eq, List.getElem?_drop] at hu; exact hu
  have hx := ext_run M nb s0 (show k ≤ k + i by omega)
  refine ⟨hx.get h1, ?_⟩
  rw [← h.far u (List.mem_of_getElem? hu)]
  have := hx.far u _ ((run_ok M nb s0 k).dst (List.mem_of_getElem? h1))
  unfold Sr.dst at *; rw [this]; rfl
theorem Lev.len (h : Lev M nb s0 k n L) (hL : L ≠ []) : (run M nb s0 k).q.length = k + L.length := by
  have := congrArg List.length h.eq
  rw [List.length_drop] at this
  have h2 := List.length_pos_iff.2 hL
  omega
theorem Lev.next (h : Lev M nb s0 k n L) (hL : L ≠ []) : Lev M nb s0 (k + L.length) (n + 1) ((run M nb s0 (k + L.length)).q.drop (k + L.length)) where
  eq := rfl
  far t ht := by
    have hlen := h.len hL
    have hO := run_ok M nb s0 (k + L.length)
    have hO0 := run_ok M nb s0 k
    have hx := ext_run M nb s0 (show k ≤ k + L.length by omega)
    obtain ⟨j, hj⟩ := List.getElem?_of_mem ht
    rw [List.getElem?_drop] at hj
    have hnin : t ∉ (run M nb s0 k).q := fun hm => by
      obtain ⟨i, hi⟩ := List.getElem?_of_mem hm
      have hi' := hx.get hi
      have hl := (List.getElem?_eq_some_iff.1 hi).1
      have hl2 := (List.getElem?_eq_some_iff.1 hj).1
      have := (List.getElem_inj (h₀ := (List.getElem?_eq_some_iff.1 hi').1) (h₁ := hl2) hO.nd).1 (by rw [(List.getElem?_eq_some_iff.1 hi').2, (List.getElem?_eq_some_iff.1 hj).2])
      omega
    have hne : t ≠ s0 := fun e => hnin (by rw [e]; exact (hO0.mem s0).2 (by rw [hO0.zero]; simp))
    obtain ⟨i, u, h1, h2, h3, h4, h5⟩ := hO.par t (List.mem_of_getElem? hj) hne
    have hik : i < k + L.length := Nat.lt_of_le_of_ne h1 fun e => by have := h2 e; cases this
    have hu0 : (run M nb s0 k).q[i]? = some u := by
      obtain ⟨r, hr⟩ := hx.q
      rw [← hr, List.getElem?_append_left (by omega)] at h3; exact h3
    by_cases hi : i < k
    · exact absurd (hO0.cl i u hi hu0 t h5).1 hnin
    · have hm : L[i - k]? = some u := by rw [h.eq, List.getElem?_drop, show k + (i - k) = i by omega]; exact hu0
      have := h.far u (List.mem_of_getElem? hm)
      have hd : (run M nb s0 (k + L.length)).dst u = (run M nb s0 k).dst u := by
        have := hx.far u _ (hO0.dst (List.mem_of_getElem? hu0))
        unfold Sr.dst at *; rw [this]; rfl
      omega
theorem Lev.n_le (h : Lev M nb s0 k n L) {U : List S} (hU : Univ nb U) (h0 : s0 ∈ U) (hL : L ≠ []) : n ≤ U.length := by
  obtain ⟨u, hu⟩ : ∃ u, L[0]? = some u := by
    cases L with
    | nil => exact absurd rfl hL
    | cons a l => exact ⟨a, rfl⟩
  have h1 : (run M nb s0 k).q[k + 0]? = some u := by rw [h.eq, List.getElem?_drop] at hu; exact hu
  have h2 := dst_le k (k + 0) u h1
  have h3 := h.far u (List.mem_of_getElem? hu)
  have h4 := (List.getElem?_eq_some_iff.1 h1).1
  have h5 := hU.len h0 M k
  omega
/-- a state that is visited in part -/
def half (M : Nat) (nb : S → List S) (s0 : S) (n k : Nat) (s : S) (j : Nat) : Sr S := (run M nb s0 k).part M n s ((nb s).take j)
theorem half_zero (s : S) : half M nb s0 n k s 0 = run M nb s0 k := rfl
theorem half_succ (s : S) (j : Nat) (t : S) (hj : (nb s)[j]? = some t) : half M nb s0 n k s (j + 1) = (half M nb s0 n k s j).add M n ((half M nb s0 n k s j).way s) t := by
  unfold half
  rw [List.take_add_one, hj]
  exact Sr.part_snoc _ _ _ _ _ _
theorem half_all {s : S} (hs : (run M nb s0 k).q[k]? = some s) (hn : (run M nb s0 k).dst s + 1 = n) (j : Nat) (hj : (nb s).length ≤ j) : half M nb s0 n k s j = run M nb s0 (k + 1) := by
  unfold half
  rw [List.take_of_length_le hj, run_some hs, Sr.visit, hn]
theorem half_ext {s : S} (j : Nat) : Ext (run M nb s0 k) (half M nb s0 n k s j) := ext_part _
theorem half_sb (hM : 1 ≤ M) {U : List S} (hU : Univ nb U) (h0 : s0 ∈ U) {s : S} (hs : s ∈ U) (j : Nat) : SB M U (half M nb s0 n k s j) :=
  sb_part (sb_run hM hU h0 k) s _ fun t ht => hU.cl s hs t (List.mem_of_mem_take ht)
end
theorem drop_snoc {α : Type} (q : List α) (t : α) (n : Nat) (h : n ≤ q.length) : (q ++ [t]).drop n = q.drop n ++ [t] := by rw [List.drop_append_of_le_length h]
theorem add_none {M n w : Nat} {st : Sr S} {t : S} (h : st.far t = none) : (st.add M n w t).q = st.q ++ [t] := by unfold Sr.add; rw [h]
theorem add_some {M n w m : Nat} {st : Sr S} {t : S} (h : st.far t = some m) : (st.add M n w t).q = st.q ∧ (st.add M n w t).far = st.far := by
  rcases Sr.add_q (M := M) (n := n) (w := w) (st := st) (t := t) with ⟨h0, -⟩ | ⟨m, -, h1, h2⟩
  · rw [h] at h0; cases h0
  · exact ⟨h1, h2⟩
theorem add_far (M n w : Nat) (st : Sr S) (t : S) (h : st.far t = none) : (st.add M n w t).far = fun u => if u = t then some n else st.far u := by unfold Sr.add; rw [h]
end
end Go.Proofs.Ytjlecipeoaohiaa.RM
