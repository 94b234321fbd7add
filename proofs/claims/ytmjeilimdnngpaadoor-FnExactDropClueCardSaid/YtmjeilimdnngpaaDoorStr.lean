/-
  Plain texts of states: signs and binary digits. Nothing of any program.
-/
import Derived.Test.YtmjeilimdnngpaaDoorMath
namespace Go.Proofs.YtmjeilimdnngpaaDoor
open RM

/-- which bytes are signs, and which texts are states -/
def okc (c : UInt8) : Bool := c == 48 || c == 49
def goodB (l : List UInt8) : Bool := decide (1 ≤ l.length) && decide (l.length ≤ 20) && l.all okc

/-- the text of the first n binary digits of x -/
def tx (n x : Nat) : List UInt8 := (List.range n).map fun i => if x.testBit i then 49 else 48
def ST (n x : Nat) : ByteArray := ⟨(tx n x).toArray⟩
/-- the number whose binary digits are the signs -/
def sg : List UInt8 → Nat
  | [] => 0
  | c :: t => 2 * sg t + (if c = 49 then 1 else 0)

theorem tx_len (n x : Nat) : (tx n x).length = n := by simp [tx]
theorem tx_get (n x i : Nat) (h : i < (tx n x).length) : (tx n x)[i] = if x.testBit i then 49 else 48 := by simp [tx]
theorem tx_snoc (n x : Nat) : tx (n + 1) x = tx n x ++ [if x.testBit n then 49 else 48] := by simp [tx, List.range_succ]
theorem ST_size (n x : Nat) : (ST n x).size = n := by
  show (tx n x).toArray.size = n
  simp [tx_len]
theorem ST_get (n x i : Nat) (h : i < (ST n x).size) : (ST n x)[i] = if x.testBit i then 49 else 48 := by
  show (tx n x).toArray[i] = _
  simp [tx]
theorem ST_data (n x : Nat) : (ST n x).data.toList = tx n x := rfl

theorem sg_bit (l : List UInt8) : ∀ i, (sg l).testBit i = decide (l[i]? = some 49) := by
  induction l with
  | nil => intro i; simp [sg]
  | cons c t ih =>
    intro i
    cases i with
    | zero =>
      by_cases h : c = 49
      · simp [sg, h, Nat.testBit_zero]
      · simp [sg, h, Nat.testBit_zero]
    | succ i =>
      have e : (2 * sg t + (if c = 49 then 1 else 0)) / 2 = sg t := by split <;> omega
      show (2 * sg t + (if c = 49 then 1 else 0)).testBit (i + 1) = _
      rw [Nat.testBit_succ, e, ih]; simp
theorem sg_lt (l : List UInt8) : sg l < 2 ^ l.length := by
  induction l with
  | nil => simp [sg]
  | cons c t ih =>
    show 2 * sg t + (if c = 49 then 1 else 0) < 2 ^ (t.length + 1)
    rw [Nat.pow_succ]; split <;> omega
theorem tx_sg (l : List UInt8) (h : l.all okc = true) : tx l.length (sg l) = l := by
  apply List.ext_getElem
  · rw [tx_len]
  · intro i h1 h2
    rw [tx_get, sg_bit]
    rw [List.all_eq_true] at h
    have := h l[i] (by simp)
    unfold okc at this
    simp at this
    rw [List.getElem?_eq_getElem h2]
    rcases this with g | g <;> simp [g]
theorem all_tx (n x : Nat) : (tx n x).all okc = true := by
  rw [List.all_eq_true]
  intro c hc
  simp only [tx, List.mem_map] at hc
  obtain ⟨i, _, rfl⟩ := hc
  split <;> rfl
theorem good_ST (n x : Nat) (h1 : 1 ≤ n) (h2 : n ≤ 20) : goodB (ST n x).data.toList = true := by
  rw [ST_data]; unfold goodB; rw [tx_len, all_tx]; simp [h1, h2]
theorem of_good (s : ByteArray) (h : goodB s.data.toList = true) : ∃ n x, 1 ≤ n ∧ n ≤ 20 ∧ x < 2 ^ n ∧ s = ST n x := by
  unfold goodB at h
  simp only [Bool.and_eq_true, decide_eq_true_eq] at h
  refine ⟨s.data.toList.length, sg s.data.toList, h.1.1, h.1.2, sg_lt _, ?_⟩
  unfold ST
  rw [tx_sg _ h.2]
theorem ST_ext (n x y : Nat) (h : ∀ i, i < n → x.testBit i = y.testBit i) : ST n x = ST n y := by
  unfold ST
  have : tx n x = tx n y := by
    unfold tx
    apply List.map_congr_left
    intro i hi
    rw [h i (by simpa using hi)]
  rw [this]
theorem bit_high {n x i : Nat} (h : x < 2 ^ n) (hi : n ≤ i) : x.testBit i = false :=
  Nat.testBit_lt_two_pow (Nat.lt_of_lt_of_le h (Nat.pow_le_pow_right (by omega) hi))
theorem ST_inj {n x m y : Nat} (hx : x < 2 ^ n) (hy : y < 2 ^ m) (h : ST n x = ST m y) : n = m ∧ x = y := by
  have hn : n = m := by rw [← ST_size n x, h, ST_size]
  subst hn
  refine ⟨rfl, Nat.eq_of_testBit_eq fun i => ?_⟩
  by_cases hi : i < n
  · have e : tx n x = tx n y := by rw [← ST_data, h, ST_data]
    have := congrArg (fun l : List UInt8 => l[i]?) e
    simp [tx, hi] at this
    revert this
    cases x.testBit i <;> cases y.testBit i <;> decide
  · rw [bit_high hx (by omega), bit_high hy (by omega)]

theorem ba_ext {a b : ByteArray} (h : a.data.toList = b.data.toList) : a = b := by
  cases a; cases b; simp at h; simp [h]
theorem ba_app (a b : ByteArray) : (a ++ b).data.toList = a.data.toList ++ b.data.toList := by simp
theorem ba_ext_app {a b : ByteArray} : (a ++ b).size = a.size + b.size := by simp

theorem ST_flip (n x k : Nat) (hk : k < n) (c : UInt8) (hc : c = if x.testBit k then 48 else 49) :
    (ST n x).extract 0 k ++ ⟨#[c]⟩ ++ (ST n x).extract (k + 1) (ST n x).size = ST n (x ^^^ 2 ^ k) := by
  apply ba_ext
  rw [ba_app, ba_app, ST_size]
  simp only [ByteArray.data_extract, Array.toList_extract, ST_data, List.extract_eq_take_drop]
  apply List.ext_getElem
  · simp [tx_len]; omega
  · intro i h1 h2
    rw [tx_get, Nat.testBit_xor, Nat.testBit_two_pow]
    rw [tx_len] at h2
    by_cases hi : i < k
    · rw [List.getElem_append_left (by simp [tx_len]; omega), List.getElem_append_left (by simp [tx_len]; omega)]
      have : ¬ k = i := by omega
      simp [tx, this]
    · by_cases he : i = k
      · subst he
        rw [List.getElem_append_left (by simp [tx_len]; omega), List.getElem_append_right (by simp [tx_len]; omega)]
        subst hc
        simp [tx_len]
        cases x.testBit i <;> simp
      · rw [List.getElem_append_right (by simp [tx_len]; omega)]
        have : ¬ k = i := by omega
        have e : k + 1 + (i - (min k n + 1)) = i := by omega
        simp [tx, this, e]

/-- a binary digit as a number -/
def bitN (x k : Nat) : Nat := if x.testBit k then 1 else 0
theorem div_step (x j : Nat) : x / 2 ^ j = 2 * (x / 2 ^ (j + 1)) + bitN x j := by
  have h : (x / 2 ^ j) % 2 = bitN x j := by
    unfold bitN
    rw [Nat.testBit_eq_decide_div_mod_eq]
    by_cases g : x / 2 ^ j % 2 = 1
    · simp [g]
    · have : x / 2 ^ j % 2 = 0 := by omega
      simp [this]
  have e : x / 2 ^ (j + 1) = x / 2 ^ j / 2 := by rw [Nat.pow_succ, Nat.div_div_eq_div_mul]
  omega
theorem num_step (x j : Nat) : num (x / 2 ^ j) = 2 * num (x / 2 ^ (j + 1)) + (bitN x j + num (x / 2 ^ (j + 1))) % 2 := by
  have h := div_step x j
  have e : x / 2 ^ j / 2 = x / 2 ^ (j + 1) := by rw [Nat.pow_succ, Nat.div_div_eq_div_mul]
  have hb : bitN x j < 2 := by unfold bitN; split <;> omega
  have f : x / 2 ^ j % 2 = bitN x j := by omega
  rw [num_rec (x / 2 ^ j), e, f]
theorem num_le (n x j : Nat) (h : x < 2 ^ n) (hn : n ≤ 20) : num (x / 2 ^ j) < 1048576 := by
  have := num_lt n (x / 2 ^ j) (Nat.lt_of_le_of_lt (Nat.div_le_self _ _) h)
  exact Nat.lt_of_lt_of_le this (Nat.pow_le_pow_right (n := 2) (by omega) hn)

/-- how many signs 1 -/
def ons (l : List UInt8) : Nat := (l.filter (· == 49)).length
theorem pop_add (j : Nat) : ∀ y, y < 2 ^ j → pop (y + 2 ^ j) = pop y + 1 := by
  induction j with
  | zero => intro y h; have : y = 0 := by omega
            subst this; rw [pop_rec]; simp [pop_zero]
  | succ j ih =>
    intro y h
    have e : (y + 2 ^ (j + 1)) / 2 = y / 2 + 2 ^ j := by rw [Nat.pow_succ]; omega
    have f : (y + 2 ^ (j + 1)) % 2 = y % 2 := by rw [Nat.pow_succ]; omega
    rw [pop_rec (y + 2 ^ (j + 1)), e, f, ih (y / 2) (by rw [Nat.pow_succ] at h; omega), pop_rec y]; omega
theorem mod_step (x j : Nat) : x % 2 ^ (j + 1) = x % 2 ^ j + (if x.testBit j then 2 ^ j else 0) := by
  have h := div_step x j
  have a := Nat.div_add_mod x (2 ^ j)
  have b := Nat.div_add_mod x (2 ^ (j + 1))
  have hl : x % 2 ^ j < 2 ^ j := Nat.mod_lt _ (Nat.two_pow_pos j)
  rw [h] at a
  have hx : x = 2 ^ (j + 1) * (x / 2 ^ (j + 1)) + (2 ^ j * bitN x j + x % 2 ^ j) := by
    rw [Nat.mul_add, ← Nat.mul_assoc] at a
    have e : 2 ^ j * 2 = 2 ^ (j + 1) := by rw [Nat.pow_succ]
    rw [e] at a; omega
  have hb : 2 ^ j * bitN x j = if x.testBit j then 2 ^ j else 0 := by unfold bitN; split <;> simp
  rw [hb] at hx
  omega
theorem ons_tx (j x : Nat) : ons (tx j x) = pop (x % 2 ^ j) := by
  induction j with
  | zero => simp [tx, ons, Nat.mod_one, pop_zero]
  | succ j ih =>
    rw [tx_snoc, mod_step]
    have hl : x % 2 ^ j < 2 ^ j := Nat.mod_lt _ (Nat.two_pow_pos j)
    unfold ons at ih ⊢
    rw [List.filter_append, List.length_append, ih]
    cases x.testBit j
    · simp
    · simp [pop_add j _ hl]
theorem tx_take (n x j : Nat) (h : j ≤ n) : (tx n x).take j = tx j x := by
  unfold tx
  rw [← List.map_take, List.take_range, Nat.min_eq_left h]
theorem ons_ST (n x : Nat) (hx : x < 2 ^ n) : ons (ST n x).data.toList = pop x := by rw [ST_data, ons_tx, Nat.mod_eq_of_lt hx]
theorem ST_take (n x j : Nat) (h : j ≤ n) : (ST n x).extract 0 j = ST j x := by
  apply ba_ext
  simp only [ByteArray.data_extract, Array.toList_extract, ST_data, List.extract_eq_take_drop]
  simp [tx_take n x j h]
theorem pop_pos {x : Nat} (h : x ≠ 0) : pop x ≠ 0 := by
  induction x using Nat.strongRecOn with
  | ind x ih =>
    rw [pop_rec]
    by_cases g : x % 2 = 1
    · omega
    · have := ih (x / 2) (by omega) (by omega); omega

/-- the ring k of n can be moved -/
def canB (n x : Nat) (k : Int) : Bool := k == 0 || (decide (1 ≤ k) && decide (k < n) && decide (x % 2 ^ k.toNat = 2 ^ (k.toNat - 1)))
theorem canB_zero (n x : Nat) : canB n x 0 = true := rfl
theorem canB_out (n x : Nat) (k : Int) (h : k < 0 ∨ (k ≠ 0 ∧ n ≤ k)) : canB n x k = false := by
  unfold canB
  have a : (k == 0) = false := by simp; omega
  have b : (decide (1 ≤ k) && decide (k < n)) = false := by simp; omega
  rw [a, b]; rfl
theorem canB_in (n x j : Nat) (h : j + 1 < n) : canB n x ((j + 1 : Nat) : Int) = (x.testBit j && decide (x % 2 ^ j = 0)) := by
  unfold canB
  have a : (((j + 1 : Nat) : Int) == 0) = false := by simp; omega
  have b : (decide (1 ≤ ((j + 1 : Nat) : Int)) && decide (((j + 1 : Nat) : Int) < n)) = true := by simp; omega
  rw [a, b, Bool.false_or, Bool.true_and, Int.toNat_natCast, mod_step]
  have hl : x % 2 ^ j < 2 ^ j := Nat.mod_lt _ (Nat.two_pow_pos j)
  simp only [Nat.add_sub_cancel]
  cases x.testBit j
  · simp; omega
  · simp
theorem ctz_spec (x : Nat) (h : x ≠ 0) : x.testBit (ctz x) = true ∧ x % 2 ^ ctz x = 0 := by
  induction x using Nat.strongRecOn with
  | ind x ih =>
    by_cases g : x % 2 = 1
    · rw [ctz_odd g]; simp [Nat.testBit_zero, g, Nat.mod_one]
    · rw [ctz_even (by omega) h]
      obtain ⟨a, b⟩ := ih (x / 2) (by omega) (by omega)
      refine ⟨by rw [Nat.testBit_succ]; exact a, ?_⟩
      have := Nat.mod_mul_right_div_self x 2 (2 ^ ctz (x / 2))
      rw [b] at this
      have e : 2 ^ (ctz (x / 2) + 1) = 2 * 2 ^ ctz (x / 2) := by rw [Nat.pow_succ]; omega
      rw [e]
      have m : x % (2 * 2 ^ ctz (x / 2)) % 2 = x % 2 := Nat.mod_mul_right_mod x 2 _
      omega
theorem ctz_uniq (x j : Nat) (h1 : x.testBit j = true) (h2 : x % 2 ^ j = 0) : x ≠ 0 ∧ ctz x = j := by
  induction j generalizing x with
  | zero => 
    simp [Nat.testBit_zero] at h1
    exact ⟨by omega, ctz_odd h1⟩
  | succ j ih =>
    have e : 2 ^ (j + 1) = 2 * 2 ^ j := by rw [Nat.pow_succ]; omega
    rw [Nat.testBit_succ] at h1
    have m : x % (2 * 2 ^ j) % 2 = x % 2 := Nat.mod_mul_right_mod x 2 _
    have d := Nat.mod_mul_right_div_self x 2 (2 ^ j)
    rw [← e, h2] at m d
    obtain ⟨a, b⟩ := ih (x / 2) h1 (by omega)
    exact ⟨by omega, by rw [ctz_even (by omega) (by omega), b]⟩
theorem canB_ctz (n x j : Nat) (h : j + 1 < n) : canB n x ((j + 1 : Nat) : Int) = (decide (x ≠ 0) && decide (ctz x = j)) := by
  rw [canB_in n x j h, Bool.eq_iff_iff]
  simp only [Bool.and_eq_true, decide_eq_true_eq]
  constructor
  · rintro ⟨a, b⟩; exact ctz_uniq x j a b
  · rintro ⟨a, rfl⟩; exact ctz_spec x a
end Go.Proofs.YtmjeilimdnngpaaDoor
