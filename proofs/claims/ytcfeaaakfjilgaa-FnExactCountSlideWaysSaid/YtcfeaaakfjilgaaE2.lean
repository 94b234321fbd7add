/- Which states blocks forbid: the model's look, and the program's. -/
import Derived.Test.YtcfeaaakfjilgaaE1
import Derived.Test.YtcfeaaakfjilgaaBytes
namespace Go.Proofs.Ytcfeaaakfjilgaa
open Go Go.RowKit RM
theorem fr_no (bs : List Blk) (d : List Nat) (k : Nat) (hk : k < bs.length) (h : hit bs[k] d = true) : fr bs d = false := by
  unfold fr
  exact all_no (fun k => !(hit k d)) bs k hk (by simp [h])
theorem fr_snoc (bs : List Blk) (d : List Nat) (k : Nat) (hk : k < bs.length) (h : fr (bs.take k) d = true) (h1 : hit bs[k] d = false) : fr (bs.take (k + 1)) d = true := by
  unfold fr at *
  exact all_snoc (fun k => !(hit k d)) bs k hk h (by simp [h1])
theorem getD_beyond {α : Type} (l : List α) (i : Nat) (x : α) (h : l.length ≤ i) : l.getD i x = x := by simp [List.getD, List.getElem?_eq_none h]
set_option maxHeartbeats 1000000 in
theorem boFree_any (v : Value) (ps : List Nat) (bs : List Blk) (d : List Nat) (w : World) (hG : GB ps bs) (h : Bo w v (ints ps) bs) (hd : isSt ps d) :
    Calls Try.prog 82 #[v, .string (tS d)] w fun e w' => e = .returned (.bool (fr bs d)) ∧ Below w.heap.size w w' := by
  obtain ⟨pv, bv, rfl, -, ⟨p, c, rfl, hml, hr⟩⟩ := h
  obtain ⟨m, hm⟩ : ∃ m, bs.length = m := ⟨_, rfl⟩
  have hm40 := hG.b
  rw [hm] at hml hm40 ⊢
  replace hm := Lib.hid hm
  replace hG := Lib.hid hG
  have hdl := hd.1
  have h6 := hG.out.l6
  obtain ⟨w2, hw2⟩ : ∃ w2, Hid (w2 = w.alloc (.cells #[pv, .slice p m c] 31)) := ⟨_, Lib.hid rfl⟩
  have hb2 : Hid (Below w.heap.size w w2) := Lib.hid (by rw [hw2.out]; exact ba1 w _)
  have F := Lib.hid (show w2.heap[w.heap.size]? = some (.cells #[pv, .slice p m c] 31) by rw [hw2.out]; exact hb_new _ _)
  have f1 : w2.cell? ⟨w.heap.size, 1, none⟩ = some (.slice p m c) := hb_cell F.out 1
  have hr2 := Lib.hid (hr.below hb2.out)
  have hl2 : w.heap.size < w2.heap.size := hb_lt F.out
  clear hr
  have hno := Lib.hid (fr_no bs d)
  have hye := Lib.hid (fr_snoc bs d)
  have hfin : Hid (fr (bs.take m) d = fr bs d) := Lib.hid (by rw [List.take_of_length_le (by rw [hm.out]; omega)])
  have htg := Lib.hid (tS_get d)
  have htz : (tS d).size = ps.length := by rw [tS_size, hdl]
  replace hd := Lib.hid hd
  generalize fr bs d = G at *
  generalize tS d = s at *
  replace hdl := Lib.hid hdl
  go_enter Try.func82, Try.ntmps82
  go_wp2_with fail
  rw [← hw2.out]
  go_loopw [6, 10] (fun _ i wr => ∃ k : Nat, k ≤ m ∧ i = .int .i64 k ∧ Hid (fr (bs.take k) d = true) ∧ Hid (Below w2.heap.size w2 wr)) (fun _ i _ => m - (intOf i).toNat)
  case atStart => exact ⟨0, Nat.zero_le _, rfl, Lib.hid rfl, Lib.hid (Below.refl _ _)⟩
  case round =>
    obtain ⟨k, hk, rfl, ha, hbr⟩ := hrel
    by_cases hlt : k < m
    · have hkx : k < bs.length := by rw [hm.out]; exact hlt
      obtain ⟨g, rfl, hgl, e0, e1, e2, e3⟩ := (hr2.out.below hbr.out).blk hkx
      have hno := Lib.hid (hno.out k hkx)
      have hye := Lib.hid (hye.out k hkx ha.out)
      obtain ⟨A, I, B, J, hke, hab, hA, hB, hI, hJ⟩ := hG.out.k bs[k] (List.getElem_mem _)
      have hit_eq : hit bs[k] d = (decide (((d.getD A 0 : Nat) : Int) = (I : Int)) && decide (((d.getD B 0 : Nat) : Int) = (J : Int))) := by rw [hke]; rfl
      rw [hit_eq] at hno hye
      rw [hke] at e0 e1 e2 e3
      clear hke hit_eq
      have dA := hd.out.2 A hA
      have dB := hd.out.2 B hB
      have pA := (hG.out.p A hA).2
      have pB := (hG.out.p B hB).2
      have sA : s[A]'(by rw [htz]; exact hA) = UInt8.ofNat (48 + d.getD A 0) := htg.out A (by rw [htz]; exact hA)
      have sB : s[B]'(by rw [htz]; exact hB) = UInt8.ofNat (48 + d.getD B 0) := htg.out B (by rw [htz]; exact hB)
      have tA : (s[A]'(by rw [htz]; exact hA)).toNat = 48 + d.getD A 0 := by rw [sA, u8_dig _ (by omega)]
      have tB : (s[B]'(by rw [htz]; exact hB)).toNat = 48 + d.getD B 0 := by rw [sB, u8_dig _ (by omega)]
      replace htz := htz
      clear sA sB
      have hAs : (A : Int) < (s.size : Int) := by omega
      have hBs : (B : Int) < (s.size : Int) := by omega
      have hA0 : (0 : Int) ≤ (A : Int) := by omega
      have hB0 : (0 : Int) ≤ (B : Int) := by omega
      generalize d.getD A 0 = x at *
      generalize d.getD B 0 = y at *
      have u1 : IntKind.u8.wrap (48 + (x : Int) - 48) = (x : Int) := by rw [IntKind.wrap_u8]; omega
      have u2 : IntKind.u8.wrap (48 + (y : Int) - 48) = (y : Int) := by rw [IntKind.wrap_u8]; omega
      have i1 : IntKind.i64.wrap (x : Int) = (x : Int) := by rw [IntKind.wrap_i64]; omega
      have i2 : IntKind.i64.wrap (y : Int) = (y : Int) := by rw [IntKind.wrap_i64]; omega
      obtain ⟨w5, hw5⟩ : ∃ w5, Hid (w5 = wr.alloc (.cells #[.int .i64 (A : Int), .int .i64 (I : Int), .int .i64 (B : Int), .int .i64 (J : Int)] 51)) := ⟨_, Lib.hid rfl⟩
      have hb5 := Lib.hid (show Below wr.heap.size wr w5 by rw [hw5.out]; exact ba1 wr _)
      have K5 := Lib.hid (show w5.heap[wr.heap.size]? = some (.cells #[.int .i64 (A : Int), .int .i64 (I : Int), .int .i64 (B : Int), .int .i64 (J : Int)] 51) by rw [hw5.out]; exact hb_new _ _)
      have k0 : w5.cell? ⟨wr.heap.size, 0, none⟩ = some (.int .i64 (A : Int)) := hb_cell K5.out 0
      have k1 : w5.cell? ⟨wr.heap.size, 1, none⟩ = some (.int .i64 (I : Int)) := hb_cell K5.out 1
      have k2 : w5.cell? ⟨wr.heap.size, 2, none⟩ = some (.int .i64 (B : Int)) := hb_cell K5.out 2
      have k3 : w5.cell? ⟨wr.heap.size, 3, none⟩ = some (.int .i64 (J : Int)) := hb_cell K5.out 3
      by_cases h1 : x = I
      · subst h1
        have q1 : ((x : Int) == (x : Int)) = true := by simp
        by_cases h2 : y = J
        · subst h2
          have q2 : ((y : Int) == (y : Int)) = true := by simp
          have HF : Hid (G = false) := Lib.hid (hno.out (by simp))
          go_wp2_with fail
          rw [← hw5.out]
          go_quiet (fail)
          go_wp2_with fail
          go_ret; exact ⟨ret_bool HF.out.symm, below_drewN (bt1 hb2.out (bt1 hbr.out hb5.out)) _⟩
        · have q2 : ((y : Int) == (J : Int)) = false := by simp; omega
          have hye2 : Hid (fr (List.take (k + 1) bs) d = true) := Lib.hid (hye.out (by simp; omega))
          go_wp2_with fail
          rw [← hw5.out]
          go_quiet (fail)
          go_wp2_with fail
          go_roundw
          case rel => exact ⟨k + 1, by omega, by go_num, hye2, Lib.hid (below_drewN (bt1 hbr.out hb5.out) _)⟩
          all_goals (simp [intOf] <;> omega)
      · have q1 : ((x : Int) == (I : Int)) = false := by simp; omega
        have hye2 : Hid (fr (List.take (k + 1) bs) d = true) := Lib.hid (hye.out (by simp; omega))
        go_wp2_with fail
        rw [← hw5.out]
        go_quiet (fail)
        go_wp2_with fail
        go_roundw
        case rel => exact ⟨k + 1, by omega, by go_num, hye2, Lib.hid (below_drewN (bt1 hbr.out hb5.out) _)⟩
        all_goals (simp [intOf] <;> omega)
    · have HF : Hid (G = true) := Lib.hid (by
        rw [← hfin.out]; have := ha.out; rwa [show k = m by omega] at this)
      go_wp2_with fail
      go_ret; exact ⟨ret_bool HF.out.symm, bt1 hb2.out hbr.out⟩
end Go.Proofs.Ytcfeaaakfjilgaa
