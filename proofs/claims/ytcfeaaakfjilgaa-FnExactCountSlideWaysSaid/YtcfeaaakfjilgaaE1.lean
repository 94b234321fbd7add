/- States of bolts as texts; the model's checks of them. -/
import Derived.Test.YtcfeaaakfjilgaaD7
namespace Go.Proofs.Ytcfeaaakfjilgaa
open Go Go.RowKit RM
/-- the text of a state -/
def tS (d : List Nat) : ByteArray := ⟨(d.map fun x => UInt8.ofNat (48 + x)).toArray⟩
theorem tS_size (d : List Nat) : (tS d).size = d.length := by
  show (d.map fun x => UInt8.ofNat (48 + x)).toArray.size = _
  simp
theorem tS_get (d : List Nat) (i : Nat) (h : i < (tS d).size) : (tS d)[i] = UInt8.ofNat (48 + d.getD i 0) := by
  have h' : i < d.length := by rwa [tS_size] at h
  show (d.map fun x => UInt8.ofNat (48 + x)).toArray[i] = _
  simp [List.getD, List.getElem?_eq_getElem h']
theorem u8_dig (x : Nat) (h : x ≤ 9) : (UInt8.ofNat (48 + x)).toNat = 48 + x := by
  rw [UInt8.toNat_ofNat']; omega
/-- the signs that a state of these bolts may have -/
def okSign (ps : List Nat) (s : ByteArray) (i : Nat) : Bool := decide (48 ≤ (s.data.toList.getD i 0).toNat) && decide ((s.data.toList.getD i 0).toNat < 48 + ps.getD i 1)
def isText (ps : List Nat) (s : ByteArray) : Bool := decide (s.size = ps.length) && (List.range ps.length).all (okSign ps s)
theorem ba_getD (s : ByteArray) (i : Nat) (h : i < s.size) : s.data.toList.getD i 0 = s[i] := by
  have h' : i < s.data.toList.length := by simpa using h
  simp [List.getD, List.getElem?_eq_getElem h']
  rfl
theorem isText_tS {ps : List Nat} {bs : List Blk} (hG : GB ps bs) {d : List Nat} (h : isSt ps d) : isText ps (tS d) = true := by
  unfold isText
  rw [Bool.and_eq_true, decide_eq_true_eq, List.all_eq_true, tS_size]
  refine ⟨h.1, fun i hi => ?_⟩
  have hi' := List.mem_range.1 hi
  have hd := h.2 i hi'
  have hp := hG.p i hi'
  have hsz : i < (tS d).size := by rw [tS_size, h.1]; exact hi'
  unfold okSign
  rw [ba_getD _ _ hsz, tS_get, u8_dig _ (by omega), Bool.and_eq_true, decide_eq_true_eq, decide_eq_true_eq]
  omega
theorem text_cases {ps : List Nat} {bs : List Blk} (hG : GB ps bs) (s : ByteArray) : isText ps s = false ∨ ∃ d, isSt ps d ∧ s = tS d ∧ isText ps s = true := by
  cases h : isText ps s with
  | false => left; rfl
  | true =>
    right
    have h0 := h
    unfold isText at h
    rw [Bool.and_eq_true, decide_eq_true_eq, List.all_eq_true] at h
    obtain ⟨hs, ha⟩ := h
    refine ⟨(List.range ps.length).map fun i => (s.data.toList.getD i 0).toNat - 48, ⟨by simp, fun i hi => ?_⟩, ?_, rfl⟩
    · have := ha i (List.mem_range.2 hi)
      unfold okSign at this
      rw [Bool.and_eq_true, decide_eq_true_eq, decide_eq_true_eq] at this
      rw [getD_eq _ _ _ (by simpa using hi)]
      simp only [List.getElem_map, List.getElem_range]
      omega
    · apply ByteArray.ext
      apply Array.ext'
      show s.data.toList = List.map (fun x => UInt8.ofNat (48 + x)) (List.map (fun i => (s.data.toList.getD i 0).toNat - 48) (List.range ps.length))
      rw [List.map_map]
      apply List.ext_getElem
      · simpa using hs
      · intro i h1 h2
        have hi : i < ps.length := by simpa using h2
        have := ha i (List.mem_range.2 hi)
        unfold okSign at this
        rw [Bool.and_eq_true, decide_eq_true_eq, decide_eq_true_eq, getD_eq _ _ _ h1] at this
        simp only [List.getElem_map, List.getElem_range, Function.comp_apply]
        rw [getD_eq _ _ _ h1]
        apply UInt8.toNat_inj.1
        rw [UInt8.toNat_ofNat']
        have := (s.data.toList[i]).toNat_lt
        omega
theorem isText_no {ps : List Nat} {s : ByteArray} (k : Nat) (hk : k < ps.length) (hs : s.size = ps.length) (h : (s[k]'(by omega)).toNat < 48 ∨ 48 + ps.getD k 1 ≤ (s[k]'(by omega)).toNat) : isText ps s = false := by
  unfold isText
  rw [← Bool.not_eq_true, Bool.and_eq_true, List.all_eq_true]
  rintro ⟨_, ha⟩
  have := ha k (List.mem_range.2 hk)
  unfold okSign at this
  rw [Bool.and_eq_true, decide_eq_true_eq, decide_eq_true_eq, ba_getD _ _ (by omega)] at this
  omega
theorem isText_yes {ps : List Nat} {s : ByteArray} (hs : s.size = ps.length) (h : ∀ k (hk : k < ps.length), 48 ≤ (s[k]'(by omega)).toNat ∧ (s[k]'(by omega)).toNat < 48 + ps.getD k 1) : isText ps s = true := by
  unfold isText
  rw [Bool.and_eq_true, List.all_eq_true, decide_eq_true_eq]
  refine ⟨hs, fun k hk => ?_⟩
  have hk' := List.mem_range.1 hk
  unfold okSign
  rw [Bool.and_eq_true, decide_eq_true_eq, decide_eq_true_eq, ba_getD _ _ (by omega)]
  exact h k hk'
theorem boIs_any (v : Value) (ps : List Nat) (bs cs : List Blk) (s : ByteArray) (w : World) (hG : GB ps cs) (h : Bo w v (ints ps) bs) (hs : s.size ≤ maxLen) :
    Calls Try.prog 85 #[v, .string s] w fun e w' => e = .returned (.bool (isText ps s)) ∧ Below w.heap.size w w' := by
  obtain ⟨pv, bv, rfl, ⟨p, c, rfl, -, hr⟩, -⟩ := h
  unfold maxLen at hs
  have hln : (ints ps).length = ps.length := by simp
  rw [hln]; clear hln
  obtain ⟨n, hn⟩ : ∃ n, ps.length = n := ⟨_, rfl⟩
  have h6 := hG.l6
  rw [hn] at h6 ⊢
  replace hG := Lib.hid hG
  obtain ⟨w2, hw2⟩ : ∃ w2, Hid (w2 = w.alloc (.cells #[.slice p n c, bv] 31)) := ⟨_, Lib.hid rfl⟩
  have hb2 : Hid (Below w.heap.size w w2) := Lib.hid (by rw [hw2.out]; exact ba1 w _)
  have F := Lib.hid (show w2.heap[w.heap.size]? = some (.cells #[.slice p n c, bv] 31) by rw [hw2.out]; exact hb_new _ _)
  have f0 : w2.cell? ⟨w.heap.size, 0, none⟩ = some (.slice p n c) := hb_cell F.out 0
  have hr2 := Lib.hid (hr.below hb2.out)
  clear hr
  by_cases hsz : s.size = n
  · have hne : ((s.size : Int) != (n : Int)) = false := by simp; omega
    have hyes := Lib.hid (isText_yes (ps := ps) (s := s) (by omega))
    have hno := Lib.hid (fun k hk => isText_no (ps := ps) (s := s) k hk (by omega))
    replace hn := Lib.hid hn
    generalize isText ps s = G at *
    go_enter Try.func85, Try.ntmps85
    go_wp2_with fail
    rw [← hw2.out]
    go_loopw [5, 6, 16] (fun _ _ i wr => ∃ k : Nat, k ≤ n ∧ i = .int .i64 k ∧ wr = w2 ∧ Hid (∀ j (hj : j < s.size), j < k → 48 ≤ s[j].toNat ∧ s[j].toNat < 48 + ps.getD j 1)) (fun _ _ i _ => n - (intOf i).toNat)
    case atStart => exact ⟨0, Nat.zero_le _, rfl, rfl, Lib.hid (fun j _ hj => by omega)⟩
    case round =>
      obtain ⟨k, hk, rfl, rfl, ha⟩ := hrel
      by_cases hlt : k < n
      · have hkp : k < ps.length := by rw [hn.out]; exact hlt
        obtain ⟨g, rfl, hgl, hc⟩ := hr2.out.at (k := k) (by simpa using hkp)
        have hks : k < s.size := by omega
        have hx : (ints ps)[k]'(by simpa using hkp) = ((ps.getD k 1 : Nat) : Int) := by simp [List.getD, List.getElem?_eq_getElem hkp]
        rw [hx] at hc
        have hpk := hG.out.p k hkp
        have hnk := Lib.hid (hno.out k hkp)
        have hak := Lib.hid (fun (hh : 48 ≤ s[k].toNat ∧ s[k].toNat < 48 + ps.getD k 1) j (hj : j < s.size) (hjk : j < k + 1) => show 48 ≤ s[j].toNat ∧ s[j].toNat < 48 + ps.getD j 1 by
          by_cases e : j = k
          · subst e; exact hh
          · exact ha.out j hj (by omega))
        clear hx hno
        generalize ps.getD k 1 = x at *
        have hb8 := s[k].toNat_lt
        generalize hcv : s[k].toNat = y at *
        have e1 : IntKind.i64.wrap ((x : Int) - 1) = (x : Int) - 1 := by rw [IntKind.wrap_i64]; omega
        by_cases hin : 48 ≤ y ∧ y < 48 + x
        · obtain ⟨h1, h2⟩ := hin
          go_wp2_with fail
          refine (l1In_yes _ _ _ _ (by omega) (by omega)).mono ?_; rintro e w' ⟨rfl, rfl⟩
          go_wp2_with fail
          go_roundw
          case rel => exact ⟨k + 1, by omega, by go_num, (by first | rfl | trivial), Lib.hid (hak.out ⟨h1, h2⟩)⟩
          all_goals (simp [intOf] <;> omega)
        · have HF : Hid (G = false) := Lib.hid (hnk.out (by omega))
          go_wp2_with fail
          refine (l1In_no _ _ _ _ (by omega)).mono ?_; rintro e w' ⟨rfl, rfl⟩
          go_wp2_with fail
          go_ret; exact ⟨ret_bool HF.out.symm, hb2.out⟩
      · have HF : Hid (G = true) := Lib.hid (hyes.out (fun j hj => ha.out j (by have := hn.out; omega) (by have := hn.out; omega)))
        go_wp2_with fail
        go_ret; exact ⟨ret_bool HF.out.symm, hb2.out⟩
  · have hne : ((s.size : Int) != (n : Int)) = true := by simp; omega
    have HF : Hid (isText ps s = false) := Lib.hid (by unfold isText; rw [decide_eq_false (by omega)]; rfl)
    generalize isText ps s = G at *
    go_enter Try.func85, Try.ntmps85
    go_wp2_with fail
    rw [← hw2.out]
    go_ret; exact ⟨ret_bool HF.out.symm, hb2.out⟩
end Go.Proofs.Ytcfeaaakfjilgaa
