/- The program's check of boxes, whole. -/
import Derived.Test.YtjlecipeoaohiaaX5
namespace Go.Proofs.Ytjlecipeoaohiaa
open Go Go.RowKit RM
set_option maxRecDepth 100000 in
set_option maxHeartbeats 1000000 in
theorem iIB_any (v : Value) (P S : Int) (rs : List ByteArray) (w : World) (hz : ∀ s ∈ rs, s.size ≤ maxLen) (h : RdX w v P S rs) :
    Calls Try.prog 71 #[v] w fun e w' => e = .returned (.bool (goodX P S rs)) ∧ Below w.heap.size w w' := by
  obtain ⟨u, rfl, p0, c, rfl, hm, hr⟩ := h
  replace hr := Lib.hid hr
  obtain ⟨n, hn⟩ : ∃ n, rs.length = n := ⟨_, rfl⟩
  have hSz := Lib.hid (fun w => isBS_any P S w)
  cases hsz : szI P S with
  | false =>
    have hF : Hid (goodX P S rs = false) := Lib.hid (goodX_sz hsz)
    rw [hsz] at hSz
    generalize goodX P S rs = G at *
    rw [hn] at hm ⊢
    unfold maxLen at hm
    clear hn hr hz
    go_enter Try.func71, Try.ntmps71
    go_upto_region 1 with fail
    go_quiet ((go_at_call 85; refine Calls.quiet_of_same ((hSz.out _).mono fun _ _ h => ⟨h.1, h.2.symm⟩)))
    go_wp2_with fail
    go_ret; exact ⟨ret_bool hF.out.symm, below_drewN (ba1 w _) _⟩
  | true =>
    rw [hsz] at hSz
    obtain ⟨p, s, rfl, rfl, h1, h2, h3, h4, h5⟩ := szI_nat hsz
    have hms := mulsub (p := p) (s := s) (by omega)
    have h24 := mul24 (p := p) (s := s) h2 h4
    have hlen := Lib.hid (goodX_len (P := (p : Int)) (S := (s : Int)) (rs := rs))
    have hno := Lib.hid (goodX_no (p := p) (s := s) (rs := rs))
    have hye := Lib.hid (goodX_yes (p := p) (s := s) (rs := rs) hsz)
    have hCR := Lib.hid (fun w => countR_any p s w h2 (by omega) h4)
    generalize goodX (p : Int) (s : Int) rs = G at *
    rw [hn] at hlen hm ⊢
    unfold maxLen at hm
    replace hn := Lib.hid hn
    clear h5
    obtain ⟨w1, hw1⟩ : ∃ w1, Hid (w1 = w.alloc (boxO p s (.slice p0 n c))) := ⟨_, Lib.hid rfl⟩
    have hb1 : Hid (Below w.heap.size w w1) := Lib.hid (by rw [hw1.out]; exact ba1 w _)
    have F1 := Lib.hid (show w1.heap[w.heap.size]? = some (boxO p s (.slice p0 n c)) by rw [hw1.out]; exact hb_new _ _)
    have f0 : w1.cell? ⟨w.heap.size, 0, none⟩ = some (.int .i64 p) := hb_cell F1.out 0
    have f1 : w1.cell? ⟨w.heap.size, 1, none⟩ = some (.int .i64 s) := hb_cell F1.out 1
    have f2 : w1.cell? ⟨w.heap.size, 2, none⟩ = some (.slice p0 n c) := hb_cell F1.out 2
    have hl1 := Lib.hid (show w1.heap.size = w.heap.size + 1 by rw [hw1.out]; simp)
    obtain ⟨M, hM⟩ : ∃ M, p * (s - 1) = M := ⟨_, rfl⟩
    rw [hM] at hms h24 hCR
    by_cases hnM : n = M
    · subst hnM
      have hneq : ((n : Int) != (n : Int)) = false := by simp
      replace hM := Lib.hid hM
      replace hms := Lib.hid hms
      go_enter Try.func71, Try.ntmps71
      go_upto_region 1 with fail
      rw [← hw1.out]
      go_quiet (first | (go_at_call 85; (with_reducible refine Calls.quiet_of_same ((hSz.out _).mono fun _ _ h => ⟨h.1, h.2.symm⟩))) | (go_at_call 87; refine Calls.quiet_of_same ((hCR.out _).mono fun _ _ h => ⟨h.1, h.2.symm⟩)))
      go_wp2_with fail
      clear hneq
      go_loopw [25] (fun i wr => ∃ k : Nat, k ≤ n ∧ i = .int .i64 k ∧ Hid (∀ j (hj : j < rs.length), j < k → ruleOk p s (j / (s - 1)) rs[j] = true) ∧ Hid (Below (w.heap.size + 1) w1 wr)) (fun i _ => n - (intOf i).toNat)
      case atStart => exact ⟨0, Nat.zero_le _, rfl, Lib.hid (fun j _ h => by omega), Lib.hid (below_drewN (Below.refl _ _) _)⟩
      case round =>
        obtain ⟨k, hk, rfl, ha, hb⟩ := hrel
        clear f0 f1 f2
        have Fr := Lib.hid (hb_below hb.out (by omega) F1.out)
        by_cases hlt : k < n
        · have hkx : k < rs.length := by rw [hn.out]; exact hlt
          have hbw := Lib.hid (show Below w.heap.size w wr from hb1.out.trans (hb.out.mono (by omega)))
          obtain ⟨g, rfl, -, hc⟩ := (hr.out.below hbw.out).tx hkx
          have hnk := Lib.hid (hno.out k hkx)
          have hyk : Hid (ruleOk p s (k / (s - 1)) rs[k] = true → ∀ j (hj : j < rs.length), j < k + 1 → ruleOk p s (j / (s - 1)) rs[j] = true) := Lib.hid (fun h9 j hj hj1 => by
            by_cases e : j = k
            · subst e; exact h9
            · exact ha.out j hj (by omega))
          have hrz := hz _ (List.getElem_mem hkx)
          have hR := Lib.hid (fun w => isRule_any p s (k / (s - 1)) (.slice (some ⟨g, 0, none⟩) n c) rs[k] w hrz (div_part (by rw [hM.out]; exact hlt)) h2 h3 h4)
          have htd := tdiv_nat k s (by omega)
          have hds : k / (s - 1) ≤ 24 := Nat.le_trans (Nat.div_le_self _ _) (by omega)
          generalize rs[k] = r at *
          generalize k / (s - 1) = d at *
          have f0 : wr.cell? ⟨w.heap.size, 0, none⟩ = some (.int .i64 p) := hb_cell Fr.out 0
          have f1 : wr.cell? ⟨w.heap.size, 1, none⟩ = some (.int .i64 s) := hb_cell Fr.out 1
          have f2 : wr.cell? ⟨w.heap.size, 2, none⟩ = some (.slice (some ⟨g, 0, none⟩) n c) := hb_cell Fr.out 2
          clear hrz
          have hsv : ¬ ((s : Int) - 1 = 0) := by omega
          have hwr1 : IntKind.i64.wrap ((s : Int) - 1) = (s : Int) - 1 := by rw [IntKind.wrap_i64]; omega
          have hwr2 : IntKind.i64.wrap (d : Int) = d := by rw [IntKind.wrap_i64]; omega
          have hwr3 : IntKind.i64.wrap ((k : Int).tdiv ((s : Int) - 1)) = d := by rw [htd, hwr2]
          obtain ⟨wq, rfl⟩ : ∃ x, x = wr := ⟨_, rfl⟩
          go_upto_region 6 with fail
          go_still_tail 7, (by kernel_rfl)
          change wpList _ _ _ _ _ wq.drew
          go_wp2_with fail
          refine (hR.out _).mono ?_; rintro e w9 ⟨rfl, hb9⟩
          have hb8 : Below (w.heap.size + 1) w1 w9 := (hb.out.drew).trans (hb9.mono (by have := hb.out.size; have := hl1.out; simp; omega))
          cases hok : ruleOk p s d r with
          | true =>
            have hS := Lib.hid (hyk.out hok)
            go_wp2_with fail
            go_roundw
            case rel => exact ⟨k + 1, by omega, by go_num, hS, Lib.hid hb8⟩
            all_goals (simp [intOf] <;> omega)
          | false =>
            have hF : Hid (G = false) := Lib.hid (hnk.out hok)
            go_wp2_with fail
            go_ret; exact ⟨ret_bool hF.out.symm, hb1.out.trans (hb8.mono (by omega))⟩
        · have hF : Hid (G = true) := Lib.hid (hye.out (by rw [hn.out, hM.out]) (by omega) (fun j hj => ha.out j hj (by rw [hn.out] at hj; omega)))
          go_wp2_with fail
          go_ret; exact ⟨ret_bool hF.out.symm, hb1.out.trans (hb.out.mono (by omega))⟩
    · have hneq : ((n : Int) != (M : Int)) = true := by simp; omega
      have hF : Hid (G = false) := Lib.hid (hlen.out (by rw [hms]; omega))
      clear hms
      go_enter Try.func71, Try.ntmps71
      go_upto_region 1 with fail
      rw [← hw1.out]
      go_quiet (first | (go_at_call 85; (with_reducible refine Calls.quiet_of_same ((hSz.out _).mono fun _ _ h => ⟨h.1, h.2.symm⟩))) | (go_at_call 87; refine Calls.quiet_of_same ((hCR.out _).mono fun _ _ h => ⟨h.1, h.2.symm⟩)))
      go_wp2_with fail
      go_ret; exact ⟨ret_bool hF.out.symm, below_drewN hb1.out _⟩
end Go.Proofs.Ytjlecipeoaohiaa
