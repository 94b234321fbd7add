/- Which texts are lamps, by the model. -/
import Derived.Test.YtjlecipeoaohiacDoorLa2
import Derived.Test.YtjlecipeoaohiacDoorV3
import Derived.Test.YtjlecipeoaohiacDoorX1
import Derived.StillTailTactics
import Derived.Deep.DeepCutAuto
namespace Go.Proofs.YtjlecipeoaohiacDoor
set_option linter.unusedSimpArgs false
set_option linter.unusedVariables false
open Go Go.RowKit RM
/-- lamps: one to ten texts of as many signs -/
def goodL (ks : List ByteArray) : Bool := decide (1 ≤ ks.length) && decide (ks.length ≤ 10) && ks.all fun k => decide (k.size = ks.length) && k.data.toList.all okq
theorem goodL_iff (ks : List ByteArray) : goodL ks = true ↔ 1 ≤ ks.length ∧ ks.length ≤ 10 ∧ ∀ k (hk : k < ks.length), ks[k].size = ks.length ∧ ks[k].data.toList.all okq = true := by
  unfold goodL
  simp only [Bool.and_eq_true, decide_eq_true_eq, List.all_eq_true (l := ks)]
  constructor
  · rintro ⟨⟨h1, h2⟩, h3⟩; exact ⟨h1, h2, fun k hk => h3 _ (List.getElem_mem hk)⟩
  · rintro ⟨h1, h2, h3⟩
    refine ⟨⟨h1, h2⟩, fun x hx => ?_⟩
    obtain ⟨k, hk, rfl⟩ := List.getElem_of_mem hx
    exact h3 k hk
theorem goodL_len (ks : List ByteArray) (h : goodL ks = true) : 1 ≤ ks.length ∧ ks.length ≤ 10 := by
  have := (goodL_iff ks).1 h; exact ⟨this.1, this.2.1⟩
theorem goodL_no (ks : List ByteArray) (k : Nat) (hk : k < ks.length) (h : (decide (ks[k].size = ks.length) && ks[k].data.toList.all okq) = false) : goodL ks = false := by
  rw [← Bool.not_eq_true]; intro e
  have := ((goodL_iff ks).1 e).2.2 k hk
  rw [this.2, decide_eq_true this.1] at h; cases h
theorem goodL_yes (ks : List ByteArray) (h1 : 1 ≤ ks.length) (h2 : ks.length ≤ 10) (h : ∀ k (hk : k < ks.length), (decide (ks[k].size = ks.length) && ks[k].data.toList.all okq) = true) : goodL ks = true :=
  (goodL_iff ks).2 ⟨h1, h2, fun k hk => by have := h k hk; rw [Bool.and_eq_true, decide_eq_true_eq] at this; exact this⟩
theorem okq_asc {c : UInt8} (h : okq c = true) : c.toNat < 128 := by
  rw [okq_int] at h
  have : (c.toNat : Int) = 63 ∨ (c.toNat : Int) = 48 ∨ (c.toNat : Int) = 49 := by
    simp only [bne, Bool.not_eq_true', Bool.and_eq_false_iff, Bool.not_eq_false', beq_iff_eq] at h
    omega
  omega
/-- a text that is fit for n lamps -/
def lampOk (n : Nat) (k : ByteArray) : Bool := decide (k.size = n) && k.data.toList.all okq
theorem lampOk_len {n : Nat} {k : ByteArray} (h : k.size ≠ n) : lampOk n k = false := by
  unfold lampOk; rw [decide_eq_false h]; rfl
theorem lampOk_byte {n : Nat} {k : ByteArray} (i : Nat) (h : i < k.size) (hq : okq k[i] = false) : lampOk n k = false := by
  unfold lampOk; rw [all_no k i h hq, Bool.and_false]
theorem lampOk_all {n : Nat} {k : ByteArray} (h : k.size = n) (hq : ∀ i (h : i < k.size), okq k[i] = true) : lampOk n k = true := by
  unfold lampOk; rw [all_yes k hq, decide_eq_true h]; rfl
set_option maxRecDepth 100000 in
set_option maxHeartbeats 2000000 in
theorem laGood_any (v : Value) (rs : List ByteArray) (w : World) (hz : ∀ s ∈ rs, s.size ≤ maxLen) (h : RdY w v rs) :
    Calls Tryd.prog 39 #[v] w fun e w' => e = .returned (.bool (goodL rs)) ∧ Below w.heap.size w w' := by
  obtain ⟨u, rfl, p0, c, rfl, hm, hr⟩ := h
  replace hr := Lib.hid hr
  obtain ⟨n, hn⟩ : ∃ n, rs.length = n := ⟨_, rfl⟩
  have hgl := Lib.hid (goodL_len rs)
  have hgn := Lib.hid (fun k (hk : k < rs.length) (h : lampOk n rs[k] = false) => goodL_no rs k hk (by rw [hn]; exact h))
  have hgy := Lib.hid (fun (h1 : 1 ≤ n) (h2 : n ≤ 10) (h : ∀ k (hk : k < rs.length), lampOk n rs[k] = true) => goodL_yes rs (by rw [hn]; exact h1) (by rw [hn]; exact h2) (fun k hk => by rw [hn]; exact h k hk))
  rw [hn] at hm hgl ⊢
  generalize goodL rs = G at *
  unfold maxLen at hm
  obtain ⟨w1, hw1⟩ : ∃ w1, Hid (w1 = w.alloc (lampO (.slice p0 n c))) := ⟨_, Lib.hid rfl⟩
  have hb1 : Hid (Below w.heap.size w w1) := Lib.hid (by rw [hw1.out]; exact ba1 w _)
  have F1 := Lib.hid (show w1.heap[w.heap.size]? = some (lampO (.slice p0 n c)) by rw [hw1.out]; exact hb_new _ _)
  have f0 : w1.cell? ⟨w.heap.size, 0, none⟩ = some (.slice p0 n c) := hb_cell F1.out 0
  have hl1 : Hid (w1.heap.size = w.heap.size + 1) := Lib.hid (by rw [hw1.out]; simp)
  by_cases hin : (1 : Int) ≤ (n : Int) ∧ (n : Int) ≤ 10
  · obtain ⟨i1, i2⟩ := hin
    have hI := Lib.hid (fun w => l1In_yes (n : Int) 1 10 w i1 i2)
    replace hn := Lib.hid hn
    go_enter Tryd.func39, Tryd.ntmps39
    go_wp2_with fail
    rw [← hw1.out]
    go_wp2_with fail
    refine (hI.out _).mono ?_; rintro e w' ⟨rfl, rfl⟩
    go_wp2_with fail
    go_loopw [14] (fun i wr => ∃ k : Nat, k ≤ n ∧ i = .int .i64 k ∧ Hid (∀ j (hj : j < rs.length), j < k → lampOk n rs[j] = true) ∧ Hid (Below (w.heap.size + 1) w1 wr)) (fun i _ => n - (intOf i).toNat)
    case atStart => exact ⟨0, Nat.zero_le _, rfl, Lib.hid (fun j _ h => by omega), Lib.hid (Below.refl _ _)⟩
    case round =>
      obtain ⟨k, hk, rfl, ha, hb⟩ := hrel
      clear f0
      obtain ⟨wA, rfl⟩ : ∃ x, x = wr := ⟨_, rfl⟩
      have Fr := Lib.hid (hb_below hb.out (by omega) F1.out)
      by_cases hlt : k < n
      · have hkx : k < rs.length := by rw [hn.out]; exact hlt
        have hbw := Lib.hid (show Below w.heap.size w wA from hb1.out.trans (hb.out.mono (by omega)))
        obtain ⟨g, rfl, -, hc⟩ := (hr.out.below hbw.out).tx hkx
        have hno := Lib.hid (hgn.out k hkx)
        have hye : Hid (lampOk n rs[k] = true → ∀ j (hj : j < rs.length), j < k + 1 → lampOk n rs[j] = true) := Lib.hid (fun h9 j hj hj1 => by
          by_cases e : j = k
          · subst e; exact h9
          · exact ha.out j hj (by omega))
        have hrz := hz _ (List.getElem_mem hkx)
        generalize rs[k] = t at *
        have f0 : wA.cell? ⟨w.heap.size, 0, none⟩ = some (.slice (some ⟨g, 0, none⟩) n c) := hb_cell Fr.out 0
        unfold maxLen at hrz
        by_cases hsz : t.size = n
        · have hneq : ((t.size : Int) != (n : Int)) = false := by rw [hsz]; simp
          have hye2 := Lib.hid (fun h => hye.out (lampOk_all hsz h))
          have hno2 := Lib.hid (fun i (h : i < t.size) hq => hno.out (lampOk_byte i h hq))
          have hsA := hb.out.size
          have hl1' := hl1.out
          replace hsz := Lib.hid hsz
          obtain ⟨w3, hw3⟩ : ∃ x, Hid (x = wA.iter t 0) := ⟨_, Lib.hid rfl⟩
          have hb3 : Hid (Below wA.heap.size wA w3) := Lib.hid (by rw [hw3.out]; exact (Below.refl _ _).alloc (Nat.le_refl _) (.stringIter t 0))
          have I3 := Lib.hid (show w3.heap[wA.heap.size]? = some (.stringIter t 0) by rw [hw3.out]; exact hb_new wA (.stringIter t 0))
          go_wp2_with fail
          rw [← hw3.out]
          go_loopw [5] (fun _ wr => ∃ q : Nat, q ≤ t.size ∧ wr.heap[wA.heap.size]? = some (.stringIter t q) ∧ Hid (∀ i (h : i < t.size), i < q → okq t[i] = true) ∧ Hid (Below wA.heap.size w3 wr)) (fun _ wr => t.size - wr.iterPos wA.heap.size)
          case atStart => exact ⟨0, Nat.zero_le _, I3.out, Lib.hid (fun i _ h => by omega), Lib.hid (Below.refl _ _)⟩
          case round =>
            obtain ⟨q, hqq, hit, hf, hbi⟩ := hrel
            have hlt0 := lt_of_block hit
            have hpos : wr.iterPos wA.heap.size = q := iterPos_of hit
            have hbN := Lib.hid (show Below (w.heap.size + 1) w1 wr from hb.out.trans ((hb3.out.trans hbi.out).mono (by omega)))
            by_cases hltq : q < t.size
            · have hnx := fun ty => Lib.run_next_any_at (P := Tryd.prog) wr wA.heap.size t q ty hit hltq
              have hdec := Lib.hid (decode_ascii t q hltq)
              have hbk := Lib.hid (hno2.out q hltq)
              have hos := Lib.hid (okq_int t[q])
              have hoa := Lib.hid (okq_asc (c := t[q]))
              generalize Utf8.decode t q = D at *
              have hit2 := Lib.iterAt_heap wr wA.heap.size t q (q + D.2) hit
              have hb2 := Lib.hid (Lib.below_iterAt hbi.out (k := wA.heap.size) (Nat.le_refl _) t (q + D.2))
              have hbN2 := Lib.hid (Lib.below_iterAt hbN.out (k := wA.heap.size) (by omega) t (q + D.2))
              obtain ⟨W1, hW1⟩ : ∃ W1, W1 = wr.iterAt wA.heap.size t (q + D.2) := ⟨_, rfl⟩
              rw [← hW1] at hnx hit2 hb2 hbN2
              have hpos2 : W1.iterPos wA.heap.size = q + D.2 := iterPos_of hit2
              clear hW1 hit hbi
              have hst : Hid (okq t[q] = true → ∀ i (h : i < t.size), i < q + 1 → okq t[i] = true) := Lib.hid (fun h8 i hi h1 => by
                by_cases e : i = q
                · subst e; exact h8
                · exact hf.out i hi (by omega))
              have hu := t[q].toNat_lt
              cases g1 : ((t[q].toNat : Int) != 48) <;> cases g2 : ((t[q].toNat : Int) != 49) <;> cases g3 : ((t[q].toNat : Int) != 63) <;> (
                rw [g1, g2, g3] at hos
                first
                | (have hok : okq t[q] = true := by rw [hos.out]; rfl
                   have hS := Lib.hid (hst.out hok)
                   have hD2 : Hid (q + D.2 = q + 1) := Lib.hid (by rw [hdec.out (hoa.out hok)])
                   have hit3 : Hid (W1.heap[wA.heap.size]? = some (.stringIter t (q + 1))) := Lib.hid (by rw [← hD2.out]; exact hit2)
                   have hp3 : Hid (W1.iterPos wA.heap.size = q + 1) := Lib.hid (by rw [hpos2, hD2.out])
                   clear hok hos hit2 hpos2
                   go_wp2_with fail
                   go_roundw
                   case rel => exact ⟨q + 1, by omega, hit3.out, hS, hb2⟩
                   case measure => rw [hpos]; show _ - W1.iterPos wA.heap.size < _; rw [hp3.out]; omega)
                | (have hF : Hid (G = false) := Lib.hid (hbk.out (by rw [hos.out]; rfl))
                   go_wp2_with fail
                   go_ret; exact ⟨ret_bool hF.out.symm, hb1.out.trans (hbN2.out.mono (by omega))⟩))
            · obtain rfl : q = t.size := by omega
              have hS := Lib.hid (hye2.out (fun i h => hf.out i h h))
              have hnx : ∀ ty, (Instr.next (.pointer (some ⟨wA.heap.size, 0, none⟩)) true ty).run Tryd.prog wr = .ok (.tuple #[.bool false]) wr := fun ty => Lib.run_next_end_at (P := Tryd.prog) wr wA.heap.size t _ ty hit (by omega)
              go_wp2_with fail
              go_roundw
              case rel => exact ⟨k + 1, by omega, by go_num, hS, hbN⟩
              all_goals (simp [intOf] <;> omega)
        · have hneq : ((t.size : Int) != (n : Int)) = true := by simp; omega
          have hF : Hid (G = false) := Lib.hid (hno.out (lampOk_len hsz))
          go_wp2_with fail
          go_ret; exact ⟨ret_bool hF.out.symm, hbw.out⟩
      · obtain rfl : k = n := by omega
        have hT : Hid (G = true) := Lib.hid (hgy.out (by omega) (by omega) (fun j hj => ha.out j hj (by rw [hn.out] at hj; exact hj)))
        go_wp2_with fail
        go_ret; exact ⟨ret_bool hT.out.symm, hb1.out.trans (hb.out.mono (by omega))⟩
  · have hI := Lib.hid (fun w => l1In_no (n : Int) 1 10 w (by omega))
    have hF : Hid (G = false) := Lib.hid (by
      rw [← Bool.not_eq_true]; intro e
      have := hgl.out e
      omega)
    go_enter Tryd.func39, Tryd.ntmps39
    go_wp2_with fail
    rw [← hw1.out]
    go_wp2_with fail
    refine (hI.out _).mono ?_; rintro e w' ⟨rfl, rfl⟩
    go_wp2_with fail
    go_ret; exact ⟨ret_bool hF.out.symm, hb1.out⟩
end Go.Proofs.YtjlecipeoaohiacDoor
