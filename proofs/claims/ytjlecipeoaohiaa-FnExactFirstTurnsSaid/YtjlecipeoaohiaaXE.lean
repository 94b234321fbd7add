/- States of boxes: plain mathematics, digits as texts. -/
import Derived.Test.YtjlecipeoaohiaaXA
import Derived.Test.YtjlecipeoaohiaaBase0
namespace Go.Proofs.Ytjlecipeoaohiaa
open Go Go.RowKit RM
/-- the text of a state -/
def tS (d : List Nat) : ByteArray := ⟨(d.map fun x => UInt8.ofNat (48 + x)).toArray⟩
theorem tS_size (d : List Nat) : (tS d).size = d.length := by
  show (d.map fun x => UInt8.ofNat (48 + x)).toArray.size = _
  simp
theorem tS_get (d : List Nat) (i : Nat) (h : i < (tS d).size) : (tS d)[i] = UInt8.ofNat (48 + d.getD i 0) := by
  have h' : i < d.length := by rwa [tS_size] at h
  show (d.map fun x => UInt8.ofNat (48 + x)).toArray[i] = _
  simp [List.getD, List.getElem?_eq_getElem h']
theorem u8_dig (x : Nat) (h : x ≤ 9) : (UInt8.ofNat (48 + x)).toNat = 48 + x := by
  rw [UInt8.toNat_ofNat']; omega
theorem tS_app (d e : List Nat) : tS (d ++ e) = tS d ++ tS e := by
  apply ByteArray.ext
  simp [tS]
theorem tS_take (d : List Nat) (B : Nat) (h : B ≤ d.length) : (tS d).extract 0 B = tS (d.take B) := by
  apply ByteArray.ext
  rw [ByteArray.data_extract]
  apply Array.ext'
  simp [tS, List.map_take]
theorem tS_drop (d : List Nat) (B : Nat) : (tS d).extract B d.length = tS (d.drop B) := by
  apply ByteArray.ext
  rw [ByteArray.data_extract]
  apply Array.ext'
  simp only [tS, Array.toList_extract]
  simp [List.map_drop, List.extract]
  rw [List.take_of_length_le (by simp)]
theorem tS_set (d : List Nat) (B x : Nat) (h : B < d.length) : ((tS d).extract 0 B ++ tS [x]) ++ (tS d).extract (B + 1) d.length = tS (d.set B x) := by
  rw [tS_take d B (by omega), tS_drop, ← tS_app, ← tS_app, List.set_eq_take_append_cons_drop, if_pos h]
  simp
/-- the states of boxes of p parts and s sides -/
def stOk (p s : Nat) (d : List Nat) : Prop := d.length = p ∧ ∀ i (h : i < d.length), d[i] < s
def okd (s : Nat) (c : UInt8) : Bool := decide (48 ≤ c.toNat) && decide (c.toNat < 48 + s)
def stB (p s : Nat) (t : ByteArray) : Bool := decide (t.size = p) && t.data.toList.all (okd s)
theorem stOk_getD {p s : Nat} {d : List Nat} (h : stOk p s d) (hs : 1 ≤ s) (i : Nat) : d.getD i 0 < s := by
  by_cases hi : i < d.length
  · rw [getD_at d i 0 hi]; exact h.2 i hi
  · rw [List.getD_eq_getElem?_getD, List.getElem?_eq_none (by omega)]; simp; omega
theorem stB_tS {p s : Nat} {d : List Nat} (hs : s ≤ 10) (h : stOk p s d) : stB p s (tS d) = true := by
  unfold stB
  rw [Bool.and_eq_true, decide_eq_true_eq, tS_size]
  refine ⟨h.1, ?_⟩
  refine all_yesP _ _ fun i hi => ?_
  have hid : i < d.length := by rwa [tS_size] at hi
  have := h.2 i hid
  rw [tS_get d i hi, getD_at d i 0 hid]
  unfold okd
  rw [u8_dig _ (by omega)]; simp; omega
theorem okd_asc {s : Nat} (hs : s ≤ 10) {c : UInt8} (h : okd s c = true) : c.toNat < 128 := by
  unfold okd at h; simp at h; omega
theorem stB_nat {p s : Nat} {t : ByteArray} (hs : s ≤ 10) (h : stB p s t = true) : ∃ d, stOk p s d ∧ t = tS d := by
  unfold stB at h
  rw [Bool.and_eq_true, decide_eq_true_eq, List.all_eq_true] at h
  obtain ⟨h1, h2⟩ := h
  have hl : t.data.toList.length = t.size := len_data t
  refine ⟨t.data.toList.map fun c => c.toNat - 48, ⟨by simp; exact h1, fun i hi => ?_⟩, ?_⟩
  · simp only [List.getElem_map]
    have hi' : i < t.data.toList.length := by simpa using hi
    have := h2 _ (List.getElem_mem hi')
    unfold okd at this; simp only [Bool.and_eq_true, decide_eq_true_eq] at this; omega
  · apply ByteArray.ext
    apply Array.ext'
    simp only [tS, List.map_map]
    have : t.data.toList.map ((fun x => UInt8.ofNat (48 + x)) ∘ fun c => c.toNat - 48) = t.data.toList.map id := by
      apply List.map_congr_left
      intro c hc
      have := h2 c hc
      unfold okd at this; simp only [Bool.and_eq_true, decide_eq_true_eq] at this
      show UInt8.ofNat (48 + (c.toNat - 48)) = c
      rw [show 48 + (c.toNat - 48) = c.toNat by omega]; exact UInt8.ofNat_toNat
    simpa using this.symm
theorem stB_len {p s : Nat} {t : ByteArray} (h : t.size ≠ p) : stB p s t = false := by unfold stB; rw [decide_eq_false h, Bool.false_and]
theorem stB_byte {p s : Nat} {t : ByteArray} (i : Nat) (h : i < t.size) (hq : okd s t[i] = false) : stB p s t = false := by
  unfold stB; rw [all_noP _ t i h hq, Bool.and_false]
theorem stB_all {p s : Nat} {t : ByteArray} (h1 : t.size = p) (h : ∀ i (h : i < t.size), okd s t[i] = true) : stB p s t = true := by
  unfold stB; rw [decide_eq_true h1, all_yesP _ t h]; rfl
theorem okd_int (s : Nat) (c : UInt8) : okd s c = (decide ((0 : Int) ≤ (c.toNat : Int) - 48) && decide ((c.toNat : Int) - 48 ≤ (s : Int) - 1)) := by
  unfold okd
  congr 1
  · rw [Bool.eq_iff_iff, decide_eq_true_eq, decide_eq_true_eq]; omega
  · rw [Bool.eq_iff_iff, decide_eq_true_eq, decide_eq_true_eq]; omega
/-- a rule fits a state -/
def fitX (r : ByteArray) (d : List Nat) : Bool := (List.range r.size).all fun i => r.data.toList.getD i 0 == 63 || (r.data.toList.getD i 0).toNat == 48 + d.getD i 0
theorem fitX_no (r : ByteArray) (d : List Nat) (i : Nat) (h : i < r.size) (h1 : ((r[i].toNat : Int) == 63) = false) (h2 : ((r[i].toNat : Int) == 48 + (d.getD i 0 : Nat)) = false) : fitX r d = false := by
  rw [← Bool.not_eq_true]; intro e
  have := List.all_eq_true.1 e i (by simpa using h)
  rw [byte_getD r i h, b63, h1, Bool.false_or, beq_iff_eq] at this
  rw [beq_eq_false_iff_ne] at h2
  omega
theorem fitX_yes (r : ByteArray) (d : List Nat) (h : ∀ i (h : i < r.size), (((r[i].toNat : Int) == 63) || ((r[i].toNat : Int) == 48 + (d.getD i 0 : Nat))) = true) : fitX r d = true := by
  unfold fitX
  rw [List.all_eq_true]
  intro i hi
  have hi' : i < r.size := by simpa using hi
  have := h i hi'
  rw [byte_getD r i hi', b63]
  rw [Bool.or_eq_true] at this ⊢
  refine this.imp id fun h => ?_
  rw [beq_iff_eq] at h ⊢; omega
/-- the side below, whether a part can be turned, the state behind -/
def loX (d : List Nat) (k : Nat) (up : Bool) : Nat := if up then d.getD k 0 else d.getD k 0 - 1
def vX (s : Nat) (d : List Nat) (k : Nat) (up : Bool) : Bool := if up then decide (d.getD k 0 + 1 < s) else decide (1 ≤ d.getD k 0)
def tuB (s : Nat) (rs : List ByteArray) (d : List Nat) (k : Nat) (up : Bool) : Bool := vX s d k up && fitX (rs.getD (k * (s - 1) + loX d k up) ⟨#[]⟩) d
def tuD (d : List Nat) (k : Nat) (up : Bool) : List Nat := d.set k (if up then d.getD k 0 + 1 else d.getD k 0 - 1)
theorem tuD_ok {p s : Nat} {d : List Nat} (h : stOk p s d) {k : Nat} (hk : k < p) {up : Bool} (hv : vX s d k up = true) : stOk p s (tuD d k up) := by
  refine ⟨by unfold tuD; rw [List.length_set]; exact h.1, fun i hi => ?_⟩
  have hg : ∀ hs, d.getD k 0 < s := fun hs => stOk_getD h hs k
  unfold tuD at hi ⊢
  unfold vX at hv
  generalize d.getD k 0 = v at *
  rw [List.length_set] at hi
  have hii := h.2 i hi
  rw [List.getElem_set]
  split
  · cases up
    · simp only [Bool.false_eq_true, if_false, decide_eq_true_eq] at hv ⊢
      have := hg (by omega); omega
    · simp only [if_true, decide_eq_true_eq] at hv ⊢; omega
  · exact hii
theorem loX_lt {p s : Nat} {d : List Nat} (h : stOk p s d) {k : Nat} (hs : 2 ≤ s) {up : Bool} (hv : vX s d k up = true) : loX d k up + 1 < s := by
  have := stOk_getD h (by omega) k
  unfold vX at hv
  unfold loX
  generalize d.getD k 0 = v at *
  cases up
  · simp only [Bool.false_eq_true, if_false, decide_eq_true_eq] at hv ⊢; omega
  · simp only [if_true, decide_eq_true_eq] at hv ⊢; omega
theorem own_dig (w : World) (x : Nat) (hx : x ≤ 9) : OwnB (w.alloc (.cells #[.int .u8 (48 + (x : Int))] 5)) w.heap.size (.slice (some ⟨w.heap.size, 0, none⟩) 1 1) [UInt8.ofNat (48 + x)] := by
  refine ⟨rfl, .inr ⟨_, 1, #[.int .u8 (48 + (x : Int))], rfl, Nat.le_refl _, hb_new _ _, Nat.le_refl _, by decide, rfl, ?_⟩⟩
  have e : ((UInt8.ofNat (48 + x)).toNat : Int) = 48 + (x : Int) := by rw [u8_dig x hx]; omega
  show [Value.int .u8 (48 + (x : Int))] = [Value.int .u8 ((UInt8.ofNat (48 + x)).toNat : Int)]
  rw [e]
set_option maxRecDepth 100000 in
theorem l1Num_dig (x : Nat) (w : World) (hx : x ≤ 9) : Calls Try.prog 43 #[.int .i64 x] w fun e w' => e = .returned (.string (tS [x])) ∧ Below w.heap.size w w' := by
  have hcv := str_byte _ _ _ _ 1 _ (own_dig w x hx) rfl
  have hu : IntKind.u8.wrap (48 + (x : Int)) = 48 + (x : Int) := by rw [IntKind.wrap_u8]; omega
  go_enter Try.func43, Try.ntmps43
  go_wp2
  go_ret; exact ⟨ret_str (by simp [tS]), ba1 w _⟩
end Go.Proofs.Ytjlecipeoaohiaa
