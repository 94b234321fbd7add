/- States of boxes and their turns, by the model. -/
import Derived.Test.YtjlecipeoaohiaaXE
namespace Go.Proofs.Ytjlecipeoaohiaa
open Go Go.RowKit RM
set_option maxRecDepth 100000 in
set_option maxHeartbeats 1000000 in
theorem bxState_any (p s : Nat) (u : Value) (t : ByteArray) (w : World) (hz : t.size ≤ maxLen) (hp : p ≤ 6) (hs1 : 2 ≤ s) (hs : s ≤ 5) :
    Calls Try.prog 53 #[.agg #[.int .i64 p, .int .i64 s, u], .string t] w fun e w' => e = .returned (.bool (stB p s t)) ∧ Below w.heap.size w w' := by
  have hlen := Lib.hid (stB_len (p := p) (s := s) (t := t))
  have hby := Lib.hid (stB_byte (p := p) (s := s) (t := t))
  have hye := Lib.hid (stB_all (p := p) (s := s) (t := t))
  generalize stB p s t = G at *
  unfold maxLen at hz
  by_cases hsz : t.size = p
  · have hneq : ((t.size : Int) != (p : Int)) = false := by rw [hsz]; simp
    replace hye := Lib.hid (hye.out hsz)
    replace hsz := Lib.hid hsz
    obtain ⟨w1, hw1⟩ : ∃ w1, Hid (w1 = (w.alloc (boxO p s u)).iter t 0) := ⟨_, Lib.hid rfl⟩
    have hb1 : Hid (Below w.heap.size w w1) := Lib.hid (by rw [hw1.out]; exact (ba1 w _).alloc (by simp) (.stringIter t 0))
    have F1 := Lib.hid (show w1.heap[w.heap.size]? = some (boxO p s u) by rw [hw1.out]; exact hb_old (.stringIter t 0) (hb_new _ _))
    have I1 := Lib.hid (show w1.heap[w.heap.size + 1]? = some (.stringIter t 0) by rw [hw1.out]; exact hb_new' (w.alloc (boxO p s u)) (.stringIter t 0) _ (by simp))
    go_enter Try.func53, Try.ntmps53
    go_wp2_with fail
    rw [← hw1.out]
    go_loopw [5] (fun _ wr => ∃ k : Nat, k ≤ t.size ∧ wr.heap[w.heap.size + 1]? = some (.stringIter t k) ∧ Hid (∀ i (h : i < t.size), i < k → okd s t[i] = true) ∧ Hid (Below (w.heap.size + 1) w1 wr)) (fun _ wr => t.size - wr.iterPos (w.heap.size + 1))
    case atStart => exact ⟨0, Nat.zero_le _, I1.out, Lib.hid (fun i _ h => by omega), Lib.hid (Below.refl _ _)⟩
    case round =>
      obtain ⟨k, hkk, hit, hf, hb⟩ := hrel
      have hlt0 := lt_of_block hit
      have hpos : wr.iterPos (w.heap.size + 1) = k := iterPos_of hit
      by_cases hlt : k < t.size
      · have hnx := fun ty => Lib.run_next_any_at (P := Try.prog) wr (w.heap.size + 1) t k ty hit hlt
        have hdec := Lib.hid (decode_ascii t k hlt)
        have hbk := Lib.hid (hby.out k hlt)
        have hos := Lib.hid (okd_int s t[k])
        have hoa := Lib.hid (okd_asc (s := s) (by omega) (c := t[k]))
        generalize Utf8.decode t k = D at *
        have hit2 := Lib.iterAt_heap wr (w.heap.size + 1) t k (k + D.2) hit
        have hb2 := Lib.hid (Lib.below_iterAt hb.out (k := w.heap.size + 1) (Nat.le_refl _) t (k + D.2))
        obtain ⟨W1, hW1⟩ : ∃ W1, W1 = wr.iterAt (w.heap.size + 1) t (k + D.2) := ⟨_, rfl⟩
        rw [← hW1] at hnx hit2 hb2
        have hpos2 : W1.iterPos (w.heap.size + 1) = k + D.2 := iterPos_of hit2
        clear hW1 hit hb
        have hst : Hid (okd s t[k] = true → ∀ i (h : i < t.size), i < k + 1 → okd s t[i] = true) := Lib.hid (fun h8 i hi h1 => by
          by_cases e : i = k
          · subst e; exact h8
          · exact hf.out i hi (by omega))
        have hu := t[k].toNat_lt
        have hwr1 : IntKind.i64.wrap ((t[k].toNat : Int) - 48) = (t[k].toNat : Int) - 48 := by rw [IntKind.wrap_i64]; omega
        have hwr2 : IntKind.i64.wrap ((s : Int) - 1) = (s : Int) - 1 := by rw [IntKind.wrap_i64]; omega
        have hwr3 : IntKind.i64.wrap (t[k].toNat : Int) = (t[k].toNat : Int) := by rw [IntKind.wrap_i64]; omega
        have hI := Lib.hid (fun w => l1In_any ((t[k].toNat : Int) - 48) 0 ((s : Int) - 1) _ w hos.out.symm)
        have hF2 := Lib.hid (hb_below hb2.out (by omega) F1.out)
        have f1 : W1.cell? ⟨w.heap.size, 1, none⟩ = some (.int .i64 s) := hb_cell hF2.out 1
        cases hok : okd s t[k] with
        | true =>
          rw [hok] at hI
          have hS := Lib.hid (hst.out hok)
          have hD2 : Hid (k + D.2 = k + 1) := Lib.hid (by rw [hdec.out (hoa.out hok)])
          have hit3 : Hid (W1.heap[w.heap.size + 1]? = some (.stringIter t (k + 1))) := Lib.hid (by rw [← hD2.out]; exact hit2)
          have hp3 : Hid (W1.iterPos (w.heap.size + 1) = k + 1) := Lib.hid (by rw [hpos2, hD2.out])
          clear hok hos hit2 hpos2
          go_upto_region 6 with fail
          go_quiet ((go_at_call 84; refine Calls.quiet_of_same ((hI.out _).mono fun _ _ h => ⟨h.1, h.2.symm⟩)))
          go_wp2_with fail
          go_roundw
          case rel => exact ⟨k + 1, by omega, hit3.out, hS, Lib.hid (below_drewN hb2.out _)⟩
          case measure => rw [hpos]; show _ - W1.iterPos (w.heap.size + 1) < _; rw [hp3.out]; omega
        | false =>
          rw [hok] at hI
          have hF : Hid (G = false) := Lib.hid (hbk.out hok)
          clear hok hos hit2 hpos2
          go_upto_region 6 with fail
          go_quiet ((go_at_call 84; refine Calls.quiet_of_same ((hI.out _).mono fun _ _ h => ⟨h.1, h.2.symm⟩)))
          go_wp2_with fail
          go_ret; exact ⟨ret_bool hF.out.symm, hb1.out.trans ((below_drewN hb2.out _).mono (by omega))⟩
      · obtain rfl : k = t.size := by omega
        have hF : Hid (G = true) := Lib.hid (hye.out (fun i hi => hf.out i hi hi))
        have hnx : ∀ ty, (Instr.next (.pointer (some ⟨w.heap.size + 1, 0, none⟩)) true ty).run Try.prog wr = .ok (.tuple #[.bool false]) wr := fun ty => Lib.run_next_end_at (P := Try.prog) wr (w.heap.size + 1) t _ ty hit hlt
        go_wp2_with fail
        go_ret
        exact ⟨ret_bool hF.out.symm, hb1.out.trans (hb.out.mono (by omega))⟩
  · have hneq : ((t.size : Int) != (p : Int)) = true := by simp; omega
    have hF : Hid (G = false) := Lib.hid (hlen.out hsz)
    go_enter Try.func53, Try.ntmps53
    go_wp2_with fail
    go_ret; exact ⟨ret_bool hF.out.symm, ba1 w _⟩
/-- the way of a turn -/
def byX (up : Bool) : Int := if up then 1 else -1
theorem vX_int {p s : Nat} {d : List Nat} (h : stOk p s d) (hs : 2 ≤ s) (k : Nat) (up : Bool) : vX s d k up = (decide ((0 : Int) ≤ (d.getD k 0 : Nat) + byX up) && decide (((d.getD k 0 : Nat) : Int) + byX up ≤ (s : Int) - 1)) := by
  have := stOk_getD h (by omega) k
  unfold vX byX
  generalize d.getD k 0 = v at *
  cases up
  · rw [if_neg (by simp), if_neg (by simp), decide_eq_true (show (v : Int) + -1 ≤ (s : Int) - 1 by omega), Bool.and_true, Bool.eq_iff_iff, decide_eq_true_eq, decide_eq_true_eq]; omega
  · rw [if_pos rfl, if_pos rfl, decide_eq_true (show (0 : Int) ≤ (v : Int) + 1 by omega), Bool.true_and, Bool.eq_iff_iff, decide_eq_true_eq, decide_eq_true_eq]; omega
theorem lo_int {p s : Nat} {d : List Nat} (h : stOk p s d) (hs : 2 ≤ s) (k : Nat) (up : Bool) (hv : vX s d k up = true) : min (((d.getD k 0 : Nat) : Int) + byX up) ((d.getD k 0 : Nat) : Int) = (loX d k up : Nat) := by
  unfold vX at hv
  unfold loX byX
  generalize d.getD k 0 = v at *
  cases up
  · simp only [Bool.false_eq_true, if_false, decide_eq_true_eq] at hv ⊢; omega
  · simp only [if_true] at hv ⊢; omega
theorem tu_int {s : Nat} {d : List Nat} (k : Nat) (up : Bool) (hv : vX s d k up = true) : ∃ x : Nat, ((d.getD k 0 : Nat) : Int) + byX up = x ∧ tuD d k up = d.set k x := by
  unfold vX at hv
  unfold tuD byX
  generalize d.getD k 0 = v at *
  cases up
  · simp only [Bool.false_eq_true, if_false, decide_eq_true_eq] at hv ⊢; exact ⟨v - 1, by omega, rfl⟩
  · simp only [if_true] at hv ⊢; exact ⟨v + 1, by omega, rfl⟩
end Go.Proofs.Ytjlecipeoaohiaa
