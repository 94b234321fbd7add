/- States of boxes and their turns, by the program: one part turned, a rule that fits. -/
import Derived.Test.YtjlecipeoaohiaaXI
namespace Go.Proofs.Ytjlecipeoaohiaa
open Go Go.RowKit RM
/-- a state as the program holds it: six sides -/
abbrev bsC (f : Nat → Int) : Array Value := #[.int .i64 (f 0), .int .i64 (f 1), .int .i64 (f 2), .int .i64 (f 3), .int .i64 (f 4), .int .i64 (f 5)]
abbrev bsV (f : Nat → Int) : Value := .agg (bsC f)
def updF (f : Nat → Int) (k : Nat) (x : Int) : Nat → Int := fun q => if q = k then x else f q
def dF (d : List Nat) : Nat → Int := fun q => ((d.getD q 0 : Nat) : Int)
theorem dF_set (d : List Nat) (k x : Nat) (h : k < d.length) : updF (dF d) k x = dF (d.set k x) := by
  funext q
  unfold updF dF
  by_cases e : q = k
  · subst e; rw [if_pos rfl]; simp [h]
  · rw [if_neg e]
    rw [List.getD_eq_getElem?_getD, List.getD_eq_getElem?_getD, List.getElem?_set_ne (fun e2 => e e2.symm)]
abbrev bsO (f : Nat → Int) : Obj := .cells (bsC f) 64
theorem six {k : Nat} (h : k < 6) : k = 0 ∨ k = 1 ∨ k = 2 ∨ k = 3 ∨ k = 4 ∨ k = 5 := by omega
set_option maxRecDepth 100000 in
theorem turnedOn_any (f : Nat → Int) (k : Nat) (w : World) (hk : k < 6) (h0 : -10 ≤ f k) (h9 : f k ≤ 10) :
    Calls Try.prog 109 #[bsV f, .int .i64 k] w fun e w' => e = .returned (bsV (updF f k (f k + 1))) ∧ Below w.heap.size w w' := by
  have e1 : IntKind.i64.wrap (f k + 1) = f k + 1 := by rw [IntKind.wrap_i64]; omega
  rcases six hk with rfl | rfl | rfl | rfl | rfl | rfl
  all_goals
    go_enter Try.func109, Try.ntmps109
    go_wp2_with fail
    refine bodyPost_ret (v := bsV (updF f _ (f _ + 1))) ?_ rfl ⟨rfl, ?_⟩
    · simp [results, Try.results109, go_sem, updF]
    · exact (ba1 w _).alloc (by simp) _
set_option maxRecDepth 100000 in
theorem turnedBack_any (f : Nat → Int) (k : Nat) (w : World) (hk : k < 6) (h0 : -10 ≤ f k) (h9 : f k ≤ 10) :
    Calls Try.prog 110 #[bsV f, .int .i64 k] w fun e w' => e = .returned (bsV (updF f k (f k - 1))) ∧ Below w.heap.size w w' := by
  have e1 : IntKind.i64.wrap (f k - 1) = f k - 1 := by rw [IntKind.wrap_i64]; omega
  rcases six hk with rfl | rfl | rfl | rfl | rfl | rfl
  all_goals
    go_enter Try.func110, Try.ntmps110
    go_wp2_with fail
    refine bodyPost_ret (v := bsV (updF f _ (f _ - 1))) ?_ rfl ⟨rfl, ?_⟩
    · simp [results, Try.results110, go_sem, updF]
    · exact (ba1 w _).alloc (by simp) _
theorem bsC_get (f : Nat → Int) {k : Nat} (h : k < 6) : (bsC f)[k]? = some (.int .i64 (f k)) := by
  rcases six h with rfl | rfl | rfl | rfl | rfl | rfl <;> rfl
theorem bs_cell {w : World} {g : Nat} {f : Nat → Int} (h : w.heap[g]? = some (bsO f)) {k : Nat} (hk : k < 6) : w.cell? ⟨g, k, none⟩ = some (.int .i64 (f k)) := by
  rw [hb_cell h]; exact bsC_get f hk
set_option maxRecDepth 100000 in
set_option maxHeartbeats 2000000 in
theorem fits_any (d : List Nat) (s : Nat) (r : ByteArray) (w : World) (hr6 : r.size ≤ 6) (hs : s ≤ 5) (hro : ∀ i (h : i < r.size), oks s r[i] = true) :
    Calls Try.prog 98 #[bsV (dF d), .string r] w fun e w' => e = .returned (.bool (fitX r d)) ∧ Below w.heap.size w w' := by
  have hfn := Lib.hid (fun j (hj : j < r.size) => fitX_no r d j hj)
  have hfy := Lib.hid (fitX_yes r d)
  have hoA := Lib.hid (fun i (h : i < r.size) => oks_ascii s (by omega) r[i] (hro i h))
  generalize fitX r d = FB at *
  have hdd : Hid (∀ j, dF d j = ((d.getD j 0 : Nat) : Int)) := Lib.hid fun j => rfl
  generalize dF d = f at *
  obtain ⟨w1, hw1⟩ : ∃ w1, Hid (w1 = (w.alloc (bsO f)).iter r 0) := ⟨_, Lib.hid rfl⟩
  have hb1 : Hid (Below w.heap.size w w1) := Lib.hid (by rw [hw1.out]; exact (ba1 w _).alloc (by simp) (.stringIter r 0))
  have F1 := Lib.hid (show w1.heap[w.heap.size]? = some (bsO f) by rw [hw1.out]; exact hb_old (.stringIter r 0) (hb_new _ _))
  have I1 := Lib.hid (show w1.heap[w.heap.size + 1]? = some (.stringIter r 0) by rw [hw1.out]; exact hb_new' (w.alloc (bsO f)) (.stringIter r 0) _ (by simp))
  go_enter Try.func98, Try.ntmps98
  go_wp2_with fail
  rw [← hw1.out]
  go_loopw [5, 6] (fun _ _ wr => ∃ j : Nat, j ≤ r.size ∧ wr.heap[w.heap.size + 1]? = some (.stringIter r j) ∧ Hid (∀ i (h : i < r.size), i < j → (((r[i].toNat : Int) == 63) || ((r[i].toNat : Int) == 48 + (d.getD i 0 : Nat))) = true) ∧ Hid (Below (w.heap.size + 1) w1 wr)) (fun _ _ wr => r.size - wr.iterPos (w.heap.size + 1))
  case atStart => exact ⟨0, Nat.zero_le _, I1.out, Lib.hid (fun i _ h => by omega), Lib.hid (Below.refl _ _)⟩
  case round =>
    obtain ⟨j, hjj, hit, hf, hb⟩ := hrel
    have hlt0 := lt_of_block hit
    have hpos : wr.iterPos (w.heap.size + 1) = j := iterPos_of hit
    by_cases hlt : j < r.size
    · have hnx : ∀ ty, (Instr.next (.pointer (some ⟨w.heap.size + 1, 0, none⟩)) true ty).run Try.prog wr = .ok (.tuple #[.bool true, .int .i64 (j : Int), .int .i32 (r[j].toNat : Int)]) (wr.iterAt (w.heap.size + 1) r (j + 1)) := fun ty => by
        have := Lib.run_next_any_at (P := Try.prog) wr (w.heap.size + 1) r j ty hit hlt
        rw [decode_ascii r j hlt (hoA.out j hlt)] at this; exact this
      have hit2 := Lib.iterAt_heap wr (w.heap.size + 1) r j (j + 1) hit
      have hb2 := Lib.hid (Lib.below_iterAt hb.out (k := w.heap.size + 1) (Nat.le_refl _) r (j + 1))
      obtain ⟨W1, hW1⟩ : ∃ W1, W1 = wr.iterAt (w.heap.size + 1) r (j + 1) := ⟨_, rfl⟩
      rw [← hW1] at hnx hit2 hb2
      have hpos2 : W1.iterPos (w.heap.size + 1) = j + 1 := iterPos_of hit2
      clear hW1 hit hb
      have hu := r[j].toNat_lt
      have F2 := Lib.hid (hb_below hb2.out (by omega) F1.out)
      have c1 : W1.cell? ⟨w.heap.size, j, none⟩ = some (.int .i64 (f j)) := bs_cell F2.out (by omega)
      have ij : (j : Int) < 6 := by omega
      have ij0 : (0 : Int) ≤ (j : Int) := by omega
      have hSd := Lib.hid (fun w => sideOf_any (r[j].toNat : Int) w (by omega) (by omega))
      have hfj := Lib.hid (hfn.out j hlt)
      have hst : Hid ((((r[j].toNat : Int) == 63) || ((r[j].toNat : Int) == 48 + (d.getD j 0 : Nat))) = true → ∀ i (h : i < r.size), i < j + 1 → (((r[i].toNat : Int) == 63) || ((r[i].toNat : Int) == 48 + (d.getD i 0 : Nat))) = true) := Lib.hid (fun h8 i hi h1 => by
        by_cases e : i = j
        · subst e; exact h8
        · exact hf.out i hi (by omega))
      rw [← hdd.out j] at hst hfj
      generalize f j = fj at *
      cases h1 : ((r[j].toNat : Int) == 63) with
      | true =>
        have h1' : ((r[j].toNat : Int) != 63) = false := by simp only [bne, h1]; rfl
        have hS := Lib.hid (hst.out (by rw [h1]; rfl))
        go_upto_region 4 with fail
        go_quiet (fail)
        go_wp2_with fail
        go_roundw
        case rel => exact ⟨j + 1, by omega, hit2, hS, Lib.hid (below_drewN hb2.out _)⟩
        case measure => rw [hpos]; show _ - W1.iterPos (w.heap.size + 1) < _; rw [hpos2]; omega
      | false =>
        have h1' : ((r[j].toNat : Int) != 63) = true := by simp only [bne, h1]; rfl
        have he : ((r[j].toNat : Int) == 48 + fj) = (fj == (r[j].toNat : Int) - 48) := by rw [Bool.eq_iff_iff, beq_iff_eq, beq_iff_eq]; omega
        rw [he] at hst hfj
        cases h2 : (fj == (r[j].toNat : Int) - 48) with
        | true =>
          have h2' : (fj != (r[j].toNat : Int) - 48) = false := by simp only [bne, h2]; rfl
          have hS := Lib.hid (hst.out (by rw [h2, Bool.or_true]))
          clear he
          go_upto_region 4 with fail
          go_quiet ((go_at_call 96; refine Calls.quiet_of_same (hSd.out _)))
          go_wp2_with fail
          go_roundw
          case rel => exact ⟨j + 1, by omega, hit2, hS, Lib.hid (below_drewN hb2.out _)⟩
          case measure => rw [hpos]; show _ - W1.iterPos (w.heap.size + 1) < _; rw [hpos2]; omega
        | false =>
          have h2' : (fj != (r[j].toNat : Int) - 48) = true := by simp only [bne, h2]; rfl
          have hF : Hid (FB = false) := Lib.hid (hfj.out h1 h2)
          clear he
          go_upto_region 4 with fail
          go_quiet ((go_at_call 96; refine Calls.quiet_of_same (hSd.out _)))
          go_wp2_with fail
          go_ret; exact ⟨ret_bool hF.out.symm, hb1.out.trans ((below_drewN hb2.out _).mono (by omega))⟩
    · obtain rfl : j = r.size := by omega
      have hF : Hid (FB = true) := Lib.hid (hfy.out (fun i hi => hf.out i hi hi))
      have hnx : ∀ ty, (Instr.next (.pointer (some ⟨w.heap.size + 1, 0, none⟩)) true ty).run Try.prog wr = .ok (.tuple #[.bool false]) wr := fun ty => Lib.run_next_end_at (P := Try.prog) wr (w.heap.size + 1) r _ ty hit hlt
      go_wp2_with fail
      go_ret
      exact ⟨ret_bool hF.out.symm, hb1.out.trans (hb.out.mono (by omega))⟩
end Go.Proofs.Ytjlecipeoaohiaa
