/- The program's check of rules. -/
import Derived.Test.YtjlecipeoaohiaaX4
namespace Go.Proofs.Ytjlecipeoaohiaa
open Go Go.RowKit RM
set_option maxRecDepth 100000 in
set_option maxHeartbeats 2000000 in
theorem isRule_any (p s part : Nat) (u : Value) (r : ByteArray) (w : World) (hz : r.size ≤ maxLen) (hpp : part < p) (hp : p ≤ 6) (hs1 : 2 ≤ s) (hs : s ≤ 5) :
    Calls Try.prog 81 #[.agg #[.int .i64 p, .int .i64 s, u], .int .i64 part, .string r] w fun e w' => e = .returned (.bool (ruleOk p s part r)) ∧ Below w.heap.size w w' := by
  have hlen := Lib.hid (ruleOk_len p s part r)
  have hby := Lib.hid (ruleOk_byte p s part r)
  have hpa := Lib.hid (ruleOk_part p s part r)
  have hye := Lib.hid (ruleOk_all p s part r)
  generalize ruleOk p s part r = G at *
  unfold maxLen at hz
  by_cases hsz : r.size = p
  · have hneq : ((r.size : Int) != (p : Int)) = false := by rw [hsz]; simp
    have hpr : part < r.size := by omega
    replace hpa := Lib.hid (hpa.out hpr)
    replace hye := Lib.hid (hye.out hsz hpr)
    replace hsz := Lib.hid hsz
    obtain ⟨w1, hw1⟩ : ∃ w1, Hid (w1 = (w.alloc (boxO p s u)).iter r 0) := ⟨_, Lib.hid rfl⟩
    have hb1 : Hid (Below w.heap.size w w1) := Lib.hid (by rw [hw1.out]; exact (ba1 w _).alloc (by simp) (.stringIter r 0))
    have F1 := Lib.hid (show w1.heap[w.heap.size]? = some (boxO p s u) by rw [hw1.out]; exact hb_old (.stringIter r 0) (hb_new _ _))
    have I1 := Lib.hid (show w1.heap[w.heap.size + 1]? = some (.stringIter r 0) by rw [hw1.out]; exact hb_new' (w.alloc (boxO p s u)) (.stringIter r 0) _ (by simp))
    go_enter Try.func81, Try.ntmps81
    go_wp2_with fail
    rw [← hw1.out]
    go_loopw [7, 8] (fun _ _ wr => ∃ k : Nat, k ≤ r.size ∧ wr.heap[w.heap.size + 1]? = some (.stringIter r k) ∧ Hid (∀ i (h : i < r.size), i < k → oks s r[i] = true ∧ (i = part → ((r[i].toNat : Int) == 63) = true)) ∧ Hid (Below (w.heap.size + 1) w1 wr)) (fun _ _ wr => r.size - wr.iterPos (w.heap.size + 1))
    case atStart => exact ⟨0, Nat.zero_le _, I1.out, Lib.hid (fun i _ h => by omega), Lib.hid (Below.refl _ _)⟩
    case round =>
      obtain ⟨k, hkk, hit, hf, hb⟩ := hrel
      have hlt0 := lt_of_block hit
      have hpos : wr.iterPos (w.heap.size + 1) = k := iterPos_of hit
      by_cases hlt : k < r.size
      · have hnx := fun ty => Lib.run_next_any_at (P := Try.prog) wr (w.heap.size + 1) r k ty hit hlt
        have hdec := Lib.hid (decode_ascii r k hlt)
        have hdh := Lib.hid (decode_high r k hlt)
        have hdl := decode_le r k
        have hbk := Lib.hid (hby.out k hlt)
        have hos := Lib.hid (oks_int s r[k])
        have hoa := Lib.hid (oks_ascii s (by omega) r[k])
        have hkp : Hid (k = part → ((r[k].toNat : Int) == 63) = false → G = false) := Lib.hid (fun e h => by subst e; exact hpa.out h)
        generalize Utf8.decode r k = D at *
        have hit2 := Lib.iterAt_heap wr (w.heap.size + 1) r k (k + D.2) hit
        have hb2 := Lib.hid (Lib.below_iterAt hb.out (k := w.heap.size + 1) (Nat.le_refl _) r (k + D.2))
        obtain ⟨W1, hW1⟩ : ∃ W1, W1 = wr.iterAt (w.heap.size + 1) r (k + D.2) := ⟨_, rfl⟩
        rw [← hW1] at hnx hit2 hb2
        have hpos2 : W1.iterPos (w.heap.size + 1) = k + D.2 := iterPos_of hit2
        clear hW1 hit hb
        have hst : Hid (oks s r[k] = true → (k = part → ((r[k].toNat : Int) == 63) = true) → ∀ i (h : i < r.size), i < k + 1 → oks s r[i] = true ∧ (i = part → ((r[i].toNat : Int) == 63) = true)) := Lib.hid (fun h8 h9 i hi h1 => by
          by_cases e : i = k
          · subst e; exact ⟨h8, h9⟩
          · exact hf.out i hi (by omega))
        have hu := r[k].toNat_lt
        -- the sign as a number
        obtain ⟨c, hc⟩ : ∃ c : Nat, D.1 = c := ⟨_, rfl⟩
        have hcr : Hid ((r[k].toNat = c ∧ D.2 = 1) ∨ (128 ≤ c ∧ 128 ≤ r[k].toNat ∧ oks s r[k] = false)) := Lib.hid (by
          by_cases ha : r[k].toNat < 128
          · left; have := hdec.out ha; rw [this] at hc; exact ⟨hc, by rw [this]⟩
          · right; have := hdh.out (by omega); refine ⟨by omega, by omega, ?_⟩
            rw [← Bool.not_eq_true]; intro h; have := hoa.out h; omega)
        rw [hc] at hnx hdl
        have hF2 := Lib.hid (hb_below hb2.out (by omega) F1.out)
        have f0 : W1.cell? ⟨w.heap.size, 0, none⟩ = some (.int .i64 p) := hb_cell hF2.out 0
        have f1 : W1.cell? ⟨w.heap.size, 1, none⟩ = some (.int .i64 s) := hb_cell hF2.out 1
        have f2 : W1.cell? ⟨w.heap.size, 2, none⟩ = some u := hb_cell hF2.out 2
        have hsw : w.heap.size < W1.heap.size := hb_lt hF2.out
        cases h63 : ((c : Int) == 63) with
        | true =>
          have h64 : ((c : Int) != 63) = false := by simp only [bne, h63]; rfl
          have hce : c = 63 := by have : (c : Int) = 63 := by simpa using h63
                                  omega
          have hrk : Hid (((r[k].toNat : Int) == 63) = true ∧ D.2 = 1) := Lib.hid (by
            rcases hcr.out with ⟨h, h'⟩ | ⟨h, _⟩
            · exact ⟨by rw [h, hce]; rfl, h'⟩
            · omega)
          have hS := Lib.hid (hst.out (by rw [hos.out, hrk.out.1]; rfl) (fun _ => hrk.out.1))
          have hit3 : Hid (W1.heap[w.heap.size + 1]? = some (.stringIter r (k + 1))) := Lib.hid (by rw [hit2, hrk.out.2])
          have hp3 : Hid (W1.iterPos (w.heap.size + 1) = k + 1) := Lib.hid (by rw [hpos2, hrk.out.2])
          clear hit2 hpos2 hc hdl hce hu
          go_upto_region 6 with fail
          go_quiet (fail)
          go_wp2_with fail
          go_roundw
          case rel => exact ⟨k + 1, by omega, hit3.out, hS, Lib.hid (below_drewN hb2.out _)⟩
          case measure => rw [hpos]; show _ - W1.iterPos (w.heap.size + 1) < _; rw [hp3.out]; omega
        | false =>
          have h64 : ((c : Int) != 63) = true := by simp only [bne, h63]; rfl
          have hrn : Hid (((r[k].toNat : Int) == 63) = false) := Lib.hid (by
            rcases hcr.out with ⟨h, h'⟩ | ⟨h, h', _⟩
            · rw [h]; exact h63
            · rw [beq_eq_false_iff_ne]; omega)
          by_cases hkpart : k = part
          · have hF : Hid (G = false) := Lib.hid (hkp.out hkpart hrn.out)
            have heq : ((k : Int) == (part : Int)) = true := by rw [hkpart]; simp
            clear hit2 hpos2 hc hdl hu hkpart
            go_upto_region 6 with fail
            go_quiet (fail)
            go_wp2_with fail
            go_ret; exact ⟨ret_bool hF.out.symm, hb1.out.trans ((below_drewN hb2.out _).mono (by omega))⟩
          · have heq : ((k : Int) == (part : Int)) = false := by rw [beq_eq_false_iff_ne]; omega
            have hok : Hid (oks s r[k] = (decide (0 ≤ (c : Int) - 48) && decide ((c : Int) - 48 < (s : Int)))) := Lib.hid (by
              rcases hcr.out with ⟨h, h'⟩ | ⟨h, h', h''⟩
              · rw [hos.out, hrn.out, Bool.false_or, h, Bool.eq_iff_iff]
                simp only [Bool.and_eq_true, decide_eq_true_eq]; omega
              · rw [h'', decide_eq_false (show ¬ ((c : Int) - 48 < (s : Int)) by omega), Bool.and_false])
            have hH := Lib.hid (fun w => hasSide_any p s ((c : Int) - 48) u w _ hok.out.symm)
            have hSd := Lib.hid (fun w => sideOf_any (c : Int) w (by omega) (by omega))
            have hD2 : Hid (oks s r[k] = true → D.2 = 1) := Lib.hid (fun h => by
              rcases hcr.out with ⟨_, h'⟩ | ⟨_, _, h''⟩
              · exact h'
              · rw [h''] at h; cases h)
            have hkp1 : Hid (k = part → ((r[k].toNat : Int) == 63) = true) := Lib.hid (fun e => absurd e hkpart)
            have hbF : Hid (oks s r[k] = false → G = false) := Lib.hid (fun h => hbk.out h)
            clear hu hc hdl hok
            generalize oks s r[k] = OK at *
            go_upto_region 6 with fail
            refine wp_region_still_tail 10 (by kernel_rfl) (by kernel_rfl) ?_
            simp only [List.take_succ_cons, List.take_zero, List.drop_succ_cons, List.drop_zero]
            repeat still_step
            still_call (hSd.out _)
            repeat still_step
            try refine wpStill_nil ?_
            change wpList _ _ _ _ _ W1.drew
            go_wp2_with fail
            refine (hH.out _).mono ?_; rintro e w9 ⟨rfl, hb9⟩
            have hb8 : Below (w.heap.size + 1) w1 w9 := (hb2.out.drew).trans (hb9.mono (by simp; omega))
            cases OK with
            | true =>
              have hit3 : Hid (w9.heap[w.heap.size + 1]? = some (.stringIter r (k + 1))) := Lib.hid (by
                rw [hb9.block _ (by have := lt_of_block hit2; simpa using this)]
                show W1.heap[w.heap.size + 1]? = _
                rw [hit2, hD2.out rfl])
              have hS := Lib.hid (hst.out rfl hkp1.out)
              clear hb9 hit2 hpos2
              go_wp2_with fail
              go_roundw
              case rel => exact ⟨k + 1, by omega, hit3.out, hS, Lib.hid hb8⟩
              case measure => rw [hpos]; show _ - w9.iterPos (w.heap.size + 1) < _; rw [iterPos_of hit3.out]; omega
            | false =>
              have hF : Hid (G = false) := Lib.hid (hbF.out rfl)
              clear hb9 hit2 hpos2
              go_wp2_with fail
              go_ret; exact ⟨ret_bool hF.out.symm, hb1.out.trans (hb8.mono (by omega))⟩
      · obtain rfl : k = r.size := by omega
        have hF : Hid (G = true) := Lib.hid (hye.out ((hf.out part hpr hpr).2 rfl) (fun i hi => (hf.out i hi hi).1))
        have hnx : ∀ ty, (Instr.next (.pointer (some ⟨w.heap.size + 1, 0, none⟩)) true ty).run Try.prog wr = .ok (.tuple #[.bool false]) wr := fun ty => Lib.run_next_end_at (P := Try.prog) wr (w.heap.size + 1) r _ ty hit hlt
        go_wp2_with fail
        go_ret
        exact ⟨ret_bool hF.out.symm, hb1.out.trans (hb.out.mono (by omega))⟩
  · have hneq : ((r.size : Int) != (p : Int)) = true := by simp; omega
    have hF : Hid (G = false) := Lib.hid (hlen.out hsz)
    go_enter Try.func81, Try.ntmps81
    go_wp2_with fail
    go_ret; exact ⟨ret_bool hF.out.symm, ba1 w _⟩
end Go.Proofs.Ytjlecipeoaohiaa
