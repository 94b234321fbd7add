/- The model's check of boxes: rules. -/
import Derived.Test.YtjlecipeoaohiaaX1
import Derived.StillTailTactics
import Derived.Deep.DeepCutAuto
namespace Go.Proofs.Ytjlecipeoaohiaa
open Go Go.RowKit RM
theorem l1In_any (n lo hi : Int) (b : Bool) (w : World) (h : (decide (lo ≤ n) && decide (n ≤ hi)) = b) : Calls Try.prog 84 #[.int .i64 n, .int .i64 lo, .int .i64 hi] w fun e w' => e = .returned (.bool b) ∧ w = w' := by
  subst h
  by_cases g : lo ≤ n ∧ n ≤ hi
  · rw [decide_eq_true g.1, decide_eq_true g.2]; exact l1In_yes n lo hi w g.1 g.2
  · have : (decide (lo ≤ n) && decide (n ≤ hi)) = false := by rw [← Bool.not_eq_true, Bool.and_eq_true, decide_eq_true_eq, decide_eq_true_eq]; exact g
    rw [this]; exact l1In_no n lo hi w (by omega)
set_option maxHeartbeats 1000000 in
theorem bxRule_any (p s part : Nat) (r : ByteArray) (w : World) (hz : r.size ≤ maxLen) (hpp : part < p) (hp : p ≤ 6) (hs1 : 2 ≤ s) (hs : s ≤ 5) :
    Calls Try.prog 79 #[.int .i64 p, .int .i64 s, .int .i64 part, .string r] w fun e w' => e = .returned (.bool (ruleOk p s part r)) ∧ Below w.heap.size w w' := by
  have hlen := Lib.hid (ruleOk_len p s part r)
  have hby := Lib.hid (ruleOk_byte p s part r)
  have hpa := Lib.hid (ruleOk_part p s part r)
  have hye := Lib.hid (ruleOk_all p s part r)
  generalize ruleOk p s part r = G at *
  unfold maxLen at hz
  by_cases hsz : r.size = p
  · have hneq : ((r.size : Int) != (p : Int)) = false := by rw [hsz]; simp
    have hpr : part < r.size := by omega
    have hpa2 := Lib.hid (hpa.out hpr)
    have hye2 := Lib.hid (hye.out hsz hpr)
    clear hye hpa
    cases h63 : ((r[part].toNat : Int) == 63) with
    | false =>
      have hF : Hid (G = false) := Lib.hid (hpa2.out h63)
      have hn63 : ((r[part].toNat : Int) != 63) = true := by simp only [bne, h63]; rfl
      clear hsz h63 hye2 hpa2 hby hlen
      go_enter Try.func79, Try.ntmps79
      go_wp2_with fail
      go_ret; exact ⟨ret_bool hF.out.symm, Below.refl _ _⟩
    | true =>
      have hn63 : ((r[part].toNat : Int) != 63) = false := by simp only [bne, h63]; rfl
      have hye3 := Lib.hid (hye2.out h63)
      clear hsz h63 hye2 hpa2 hlen
      go_enter Try.func79, Try.ntmps79
      go_wp2_with fail
      go_loopw [9] (fun _ wr => ∃ k : Nat, k ≤ r.size ∧ wr.heap[w.heap.size]? = some (.stringIter r k) ∧ Hid (∀ i (h : i < r.size), i < k → oks s r[i] = true) ∧ Hid (Below w.heap.size w wr)) (fun _ wr => r.size - wr.iterPos w.heap.size)
      case atStart => exact ⟨0, Nat.zero_le _, World.iter_heap w r 0, Lib.hid (fun i _ h => by omega), Lib.hid ((Below.refl _ _).alloc (Nat.le_refl _) _)⟩
      case round =>
        obtain ⟨k, hkk, hit, hf, hb⟩ := hrel
        have hlt0 := lt_of_block hit
        have hpos : wr.iterPos w.heap.size = k := iterPos_of hit
        by_cases hlt : k < r.size
        · have hnx := fun ty => Lib.run_next_any_at (P := Try.prog) wr w.heap.size r k ty hit hlt
          have hdec := Lib.hid (decode_ascii r k hlt)
          have hbk := Lib.hid (hby.out k hlt)
          have hos := Lib.hid (oks_int s r[k])
          have hoa := Lib.hid (oks_ascii s (by omega) r[k])
          generalize Utf8.decode r k = D at *
          have hit2 := Lib.iterAt_heap wr w.heap.size r k (k + D.2) hit
          have hb2 := Lib.hid (Lib.below_iterAt hb.out (k := w.heap.size) (Nat.le_refl _) r (k + D.2))
          obtain ⟨W1, hW1⟩ : ∃ W1, W1 = wr.iterAt w.heap.size r (k + D.2) := ⟨_, rfl⟩
          rw [← hW1] at hnx hit2 hb2
          have hpos2 : W1.iterPos w.heap.size = k + D.2 := iterPos_of hit2
          clear hW1 hit hb
          have hst : Hid (oks s r[k] = true → ∀ i (h : i < r.size), i < k + 1 → oks s r[i] = true) := Lib.hid (fun h8 i hi h1 => by
            by_cases e : i = k
            · subst e; exact h8
            · exact hf.out i hi (by omega))
          have hu := r[k].toNat_lt
          cases h1 : ((r[k].toNat : Int) == 63) with
          | true =>
            have h2 : ((r[k].toNat : Int) != 63) = false := by simp only [bne, h1]; rfl
            have hok : oks s r[k] = true := by rw [hos.out, h1]; rfl
            have hS := Lib.hid (hst.out hok)
            have hD2 : Hid (k + D.2 = k + 1) := Lib.hid (by rw [hdec.out (hoa.out hok)])
            have hit3 : Hid (W1.heap[w.heap.size]? = some (.stringIter r (k + 1))) := Lib.hid (by rw [← hD2.out]; exact hit2)
            have hp3 : Hid (W1.iterPos w.heap.size = k + 1) := Lib.hid (by rw [hpos2, hD2.out])
            clear hok hos hit2 hpos2
            go_wp2_with fail
            go_roundw
            case rel => exact ⟨k + 1, by omega, hit3.out, hS, hb2⟩
            case measure => rw [hpos]; show _ - W1.iterPos w.heap.size < _; rw [hp3.out]; omega
          | false =>
            have h2 : ((r[k].toNat : Int) != 63) = true := by simp only [bne, h1]; rfl
            have hrd : Hid (oks s r[k] = (decide ((0 : Int) ≤ (r[k].toNat : Int) - 48) && decide ((r[k].toNat : Int) - 48 ≤ (s : Int) - 1))) := Lib.hid (by
              rw [hos.out, h1, Bool.false_or]; congr 1; rw [Bool.eq_iff_iff, decide_eq_true_eq, decide_eq_true_eq]; omega)
            have hI := Lib.hid (fun w => l1In_any ((r[k].toNat : Int) - 48) 0 ((s : Int) - 1) _ w hrd.out.symm)
            cases hok : oks s r[k] with
            | true =>
              rw [hok] at hI
              have hS := Lib.hid (hst.out hok)
              have hD2 : Hid (k + D.2 = k + 1) := Lib.hid (by rw [hdec.out (hoa.out hok)])
              have hit3 : Hid (W1.heap[w.heap.size]? = some (.stringIter r (k + 1))) := Lib.hid (by rw [← hD2.out]; exact hit2)
              have hp3 : Hid (W1.iterPos w.heap.size = k + 1) := Lib.hid (by rw [hpos2, hD2.out])
              clear hok hos hit2 hpos2 hrd
              go_wp2_with fail
              refine (hI.out _).mono ?_; rintro e w' ⟨rfl, rfl⟩
              go_wp2_with fail
              go_roundw
              case rel => exact ⟨k + 1, by omega, hit3.out, hS, hb2⟩
              case measure => rw [hpos]; show _ - W1.iterPos w.heap.size < _; rw [hp3.out]; omega
            | false =>
              rw [hok] at hI
              have hF : Hid (G = false) := Lib.hid (hbk.out hok)
              clear hok hos hit2 hpos2 hrd
              go_wp2_with fail
              refine (hI.out _).mono ?_; rintro e w' ⟨rfl, rfl⟩
              go_wp2_with fail
              go_ret; exact ⟨ret_bool hF.out.symm, hb2.out⟩
        · obtain rfl : k = r.size := by omega
          have hF : Hid (G = true) := Lib.hid (hye3.out (fun i hi => hf.out i hi hi))
          have hnx : ∀ ty, (Instr.next (.pointer (some ⟨w.heap.size, 0, none⟩)) true ty).run Try.prog wr = .ok (.tuple #[.bool false]) wr := fun ty => Lib.run_next_end_at (P := Try.prog) wr w.heap.size r _ ty hit hlt
          go_wp2_with fail
          go_ret
          exact ⟨ret_bool hF.out.symm, hb.out⟩
  · have hneq : ((r.size : Int) != (p : Int)) = true := by simp; omega
    have hF : Hid (G = false) := Lib.hid (hlen.out hsz)
    go_enter Try.func79, Try.ntmps79
    go_wp2_with fail
    go_ret; exact ⟨ret_bool hF.out.symm, Below.refl _ _⟩
end Go.Proofs.Ytjlecipeoaohiaa
