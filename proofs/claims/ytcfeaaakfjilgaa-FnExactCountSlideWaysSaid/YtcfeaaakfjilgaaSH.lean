/- The number of a state, by the model; rows of how far each state is. -/
import Derived.Test.YtcfeaaakfjilgaaSF
import Derived.Test.YtcfeaaakfjilgaaJ3
import Derived.Test.YtcfeaaakfjilgaaStrs4
namespace Go.Proofs.Ytcfeaaakfjilgaa
set_option linter.unusedSimpArgs false
set_option linter.unusedVariables false
open Go Go.RowKit RM
def fI : Option Nat → Int | none => -1 | some d => (d : Int)
/-- how far each state is, by its number -/
def mS (ps : List Nat) (f : List Nat → Option Nat) : List Int := (List.range (pr ps ps.length)).map fun y => fI (f (dg ps ps.length y))
theorem mS_len (ps : List Nat) (f : List Nat → Option Nat) : (mS ps f).length = pr ps ps.length := by simp [mS]
theorem nm_st {ps t : List Nat} (ht : isSt ps t) : nm ps t ps.length < pr ps ps.length := nm_lt _ _ ht.2
theorem dg_st_nm {ps t : List Nat} (ht : isSt ps t) : dg ps ps.length (nm ps t ps.length) = t := dg_nm _ _ ht.1 ht.2
theorem mS_get {ps t : List Nat} (ht : isSt ps t) (f : List Nat → Option Nat) (h : nm ps t ps.length < (mS ps f).length) : (mS ps f)[nm ps t ps.length] = fI (f t) := by
  simp [mS, dg_st_nm ht]
theorem mS_set {ps t : List Nat} {bs : List Blk} (hG : GB ps bs) (ht : isSt ps t) (f g : List Nat → Option Nat) (d : Nat) (h : g t = some d) (ho : ∀ u, u ≠ t → g u = f u) : (mS ps f).set (nm ps t ps.length) (d : Int) = mS ps g := by
  apply List.ext_getElem
  · simp [mS]
  · intro i h1 h2
    rw [List.getElem_set]
    rw [mS_len] at h2
    split
    · rename_i e; subst e
      simp only [mS, List.getElem_map, List.getElem_range]
      rw [dg_st_nm ht, h]; rfl
    · rename_i e
      simp only [mS, List.getElem_map, List.getElem_range]
      rw [ho _ (fun e2 => e (by rw [← e2]; exact (nm_dg hG _ _ h2)))]
theorem mS_none (ps : List Nat) : (List.replicate (pr ps ps.length) (-1) : List Int) = mS ps (fun _ => none) := by
  apply List.ext_getElem
  · simp [mS]
  · intro i h1 h2; simp [mS, fI]
theorem mS_one {ps t : List Nat} {bs : List Blk} (hG : GB ps bs) (ht : isSt ps t) : (List.replicate (pr ps ps.length) (-1) : List Int).set (nm ps t ps.length) 0 = mS ps (Sr.one t).far := by
  rw [mS_none]
  exact mS_set hG ht _ _ 0 (by simp [Sr.one]) (fun u hu => by simp [Sr.one, hu])
theorem fI_neg (o : Option Nat) : decide (fI o < 0) = o.isNone := by
  cases o with
  | none => rfl
  | some d => show decide ((d : Int) < 0) = false; rw [decide_eq_false]; omega
theorem nm_take (ps t : List Nat) (k : Nat) (i : Nat) : nm ps t (k + 1) = nm ps t k * ps.getD k 1 + t.getD k 0 := rfl
theorem val_eq (zx y N : Nat) (h1 : zx ≤ 1000) (h2 : y ≤ 9) (h : N = zx + y) : wrap64 ((zx : Int) + (48 + (y : Int) - 48)) = (N : Int) := by
  have e : (zx : Int) + (48 + (y : Int) - 48) = (N : Int) := by omega
  rw [e]; unfold wrap64; omega
set_option maxHeartbeats 1000000 in
theorem boNumber_any (v : Value) (ps : List Nat) (bs : List Blk) (d : List Nat) (w : World) (hG : GB ps bs) (h : Bo w v (ints ps) bs) (hd : isSt ps d) :
    Calls Try.prog 43 #[v, .string (tS d)] w fun e w' => e = .returned (.int .i64 ((nm ps d ps.length : Nat) : Int)) ∧ Below w.heap.size w w' := by
  obtain ⟨pv, bv, rfl, ⟨p, c, rfl, -, hr⟩, -⟩ := h
  have hln : (ints ps).length = ps.length := by simp
  rw [hln]; clear hln
  have h6 := hG.l6
  have hbd := Lib.hid (fun k (hk : k ≤ ps.length) => Nat.le_trans (Nat.le_of_lt (nm_lt k d (fun i hi => hd.2 i (by omega)))) (Nat.le_trans (pr_mono hG hk) hG.n))
  obtain ⟨L, hL⟩ : ∃ L, ps.length = L := ⟨_, rfl⟩
  have hsz : (tS d).size = L := by rw [tS_size, hd.1, hL]
  rw [hL] at h6 hbd ⊢
  replace hL := Lib.hid hL
  replace hG := Lib.hid hG
  replace hd := Lib.hid hd
  obtain ⟨w2, hw2⟩ : ∃ w2, Hid (w2 = w.alloc (.cells #[.slice p L c, bv] 31)) := ⟨_, Lib.hid rfl⟩
  have hb2 : Hid (Below w.heap.size w w2) := Lib.hid (by rw [hw2.out]; exact ba1 w _)
  have F := Lib.hid (show w2.heap[w.heap.size]? = some (.cells #[.slice p L c, bv] 31) by rw [hw2.out]; exact hb_new _ _)
  have f0 : w2.cell? ⟨w.heap.size, 0, none⟩ = some (.slice p L c) := hb_cell F.out 0
  have hr2 := Lib.hid (hr.below hb2.out)
  clear hr
  go_enter Try.func43, Try.ntmps43
  go_wp2_with fail
  rw [← hw2.out]
  go_loopw [5, 6, 7, 11] (fun n _ _ i wr => ∃ k : Nat, k ≤ L ∧ i = .int .i64 k ∧ n = .int .i64 ((nm ps d k : Nat) : Int) ∧ wr = w2) (fun _ _ _ i _ => L - (intOf i).toNat)
  case atStart => exact ⟨0, Nat.zero_le _, rfl, rfl, rfl⟩
  case round =>
    obtain ⟨k, hk, rfl, rfl, rfl⟩ := hrel
    by_cases hlt : k < L
    · have hkp : k < ps.length := by rw [hL.out]; exact hlt
      obtain ⟨g, rfl, hgl, hc⟩ := hr2.out.at (k := k) (by simpa using hkp)
      have hx : (ints ps)[k]'(by simpa using hkp) = ((ps.getD k 1 : Nat) : Int) := by simp [List.getD, List.getElem?_eq_getElem hkp]
      rw [hx] at hc
      have hpk := hG.out.p k hkp
      have hks : k < (tS d).size := by omega
      have hch := tS_get d k hks
      have hdk := hd.out.2 k hkp
      have h5 : 48 + d.getD k 0 < 256 := by omega
      have hnn := Lib.hid (nm_take ps d k 0)
      have hb1 := hbd.out k (by omega)
      have hb2' := hbd.out (k + 1) (by omega)
      have e0 : (48 : UInt8).toNat = 48 := rfl
      have hcn : (tS d)[k].toNat = 48 + d.getD k 0 := by rw [hch]; exact u8_dig _ (by omega)
      rw [hnn.out] at hb2'
      clear hx hch
      generalize ps.getD k 1 = x at *
      generalize d.getD k 0 = y at *
      generalize nm ps d k = z at *
      generalize hcv : (tS d)[k].toNat = cc at *
      subst hcn
      have hz2 : z * x ≤ 1000 := by omega
      have ew : IntKind.i64.wrap ((z : Int) * (x : Int)) = ((z * x : Nat) : Int) := by rw [IntKind.wrap_i64, ← Int.natCast_mul]; omega
      have ew2 : wrap64 ((z : Int) * (x : Int)) = ((z * x : Nat) : Int) := by rw [← Int.natCast_mul]; unfold wrap64; omega
      generalize hzx : z * x = zx at *
      have hval : wrap64 ((zx : Int) + (48 + (y : Int) - 48)) = ((nm ps d (k + 1) : Nat) : Int) := val_eq zx y _ (by omega) (by omega) hnn.out
      replace hval := Lib.hid hval
      go_wp2_with fail
      go_roundw
      case rel => exact ⟨k + 1, by omega, by go_num, congrArg (Value.int .i64) hval.out, trivial⟩
      all_goals (simp [intOf] <;> omega)
    · obtain rfl : k = L := by omega
      go_wp2_with fail
      go_ret; exact ⟨rfl, hb2.out⟩
end Go.Proofs.Ytcfeaaakfjilgaa
