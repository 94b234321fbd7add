/- States of bolts as texts; the model's checks of them. -/
import Derived.Test.YtjhljhopmfefhaaD7
namespace Go.Proofs.Ytjhljhopmfefhaa
open Go Go.RowKit RM
/-- the text of a state -/
def tS (d : List Nat) : ByteArray := ⟨(d.map fun x => UInt8.ofNat (48 + x)).toArray⟩
theorem tS_size (d : List Nat) : (tS d).size = d.length := by
  show (d.map fun x => UInt8.ofNat (48 + x)).toArray.size = _
  simp
theorem tS_get (d : List Nat) (i : Nat) (h : i < (tS d).size) : (tS d)[i] = UInt8.ofNat (48 + d.getD i 0) := by
  have h' : i < d.length := by rwa [tS_size] at h
  show (d.map fun x => UInt8.ofNat (48 + x)).toArray[i] = _
  simp [List.getD, List.getElem?_eq_getElem h']
theorem u8_dig (x : Nat) (h : x ≤ 9) : (UInt8.ofNat (48 + x)).toNat = 48 + x := by
  rw [UInt8.toNat_ofNat']; omega
/-- the signs that a state of these bolts may have -/
def okSign (ps : List Nat) (s : ByteArray) (i : Nat) : Bool := decide (48 ≤ (s.data.toList.getD i 0).toNat) && decide ((s.data.toList.getD i 0).toNat < 48 + ps.getD i 1)
def isText (ps : List Nat) (s : ByteArray) : Bool := decide (s.size = ps.length) && (List.range ps.length).all (okSign ps s)
theorem ba_getD (s : ByteArray) (i : Nat) (h : i < s.size) : s.data.toList.getD i 0 = s[i] := by
  have h' : i < s.data.toList.length := by simpa using h
  simp [List.getD, List.getElem?_eq_getElem h']
  rfl
theorem isText_tS {ps : List Nat} {bs : List Blk} (hG : GB ps bs) {d : List Nat} (h : isSt ps d) : isText ps (tS d) = true := by
  unfold isText
  rw [Bool.and_eq_true, decide_eq_true_eq, List.all_eq_true, tS_size]
  refine ⟨h.1, fun i hi => ?_⟩
  have hi' := List.mem_range.1 hi
  have hd := h.2 i hi'
  have hp := hG.p i hi'
  have hsz : i < (tS d).size := by rw [tS_size, h.1]; exact hi'
  unfold okSign
  rw [ba_getD _ _ hsz, tS_get, u8_dig _ (by omega), Bool.and_eq_true, decide_eq_true_eq, decide_eq_true_eq]
  omega
theorem text_cases {ps : List Nat} {bs : List Blk} (hG : GB ps bs) (s : ByteArray) : isText ps s = false ∨ ∃ d, isSt ps d ∧ s = tS d ∧ isText ps s = true := by
  cases h : isText ps s with
  | false => left; rfl
  | true =>
    right
    have h0 := h
    unfold isText at h
    rw [Bool.and_eq_true, decide_eq_true_eq, List.all_eq_true] at h
    obtain ⟨hs, ha⟩ := h
    refine ⟨(List.range ps.length).map fun i => (s.data.toList.getD i 0).toNat - 48, ⟨by simp, fun i hi => ?_⟩, ?_, rfl⟩
    · have := ha i (List.mem_range.2 hi)
      unfold okSign at this
      rw [Bool.and_eq_true, decide_eq_true_eq, decide_eq_true_eq] at this
      rw [getD_eq _ _ _ (by simpa using hi)]
      simp only [List.getElem_map, List.getElem_range]
      omega
    · apply ByteArray.ext
      apply Array.ext'
      show s.data.toList = List.map (fun x => UInt8.ofNat (48 + x)) (List.map (fun i => (s.data.toList.getD i 0).toNat - 48) (List.range ps.length))
      rw [List.map_map]
      apply List.ext_getElem
      · simpa using hs
      · intro i h1 h2
        have hi : i < ps.length := by simpa using h2
        have := ha i (List.mem_range.2 hi)
        unfold okSign at this
        rw [Bool.and_eq_true, decide_eq_true_eq, decide_eq_true_eq, getD_eq _ _ _ h1] at this
        simp only [List.getElem_map, List.getElem_range, Function.comp_apply]
        rw [getD_eq _ _ _ h1]
        apply UInt8.toNat_inj.1
        rw [UInt8.toNat_ofNat']
        have := (s.data.toList[i]).toNat_lt
        omega
theorem isText_no {ps : List Nat} {s : ByteArray} (k : Nat) (hk : k < ps.length) (hs : s.size = ps.length) (h : (s[k]'(by omega)).toNat < 48 ∨ 48 + ps.getD k 1 ≤ (s[k]'(by omega)).toNat) : isText ps s = false := by
  unfold isText
  rw [← Bool.not_eq_true, Bool.and_eq_true, List.all_eq_true]
  rintro ⟨_, ha⟩
  have := ha k (List.mem_range.2 hk)
  unfold okSign at this
  rw [Bool.and_eq_true, decide_eq_true_eq, decide_eq_true_eq, ba_getD _ _ (by omega)] at this
  omega
theorem isText_yes {ps : List Nat} {s : ByteArray} (hs : s.size = ps.length) (h : ∀ k (hk : k < ps.length), 48 ≤ (s[k]'(by omega)).toNat ∧ (s[k]'(by omega)).toNat < 48 + ps.getD k 1) : isText ps s = true := by
  unfold isText
  rw [Bool.and_eq_true, List.all_eq_true, decide_eq_true_eq]
  refine ⟨hs, fun k hk => ?_⟩
  have hk' := List.mem_range.1 hk
  unfold okSign
  rw [Bool.and_eq_true, decide_eq_true_eq, decide_eq_true_eq, ba_getD _ _ (by omega)]
  exact h k hk'
end Go.Proofs.Ytjhljhopmfefhaa
