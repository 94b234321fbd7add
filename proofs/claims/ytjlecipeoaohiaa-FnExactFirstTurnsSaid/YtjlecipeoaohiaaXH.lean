/- A turn, by the model. -/
import Derived.Test.YtjlecipeoaohiaaXF
namespace Go.Proofs.Ytjlecipeoaohiaa
open Go Go.RowKit RM
/-- what is told of a box that is one -/
structure GX (p s : Nat) (rs : List ByteArray) : Prop where
  p1 : 1 ≤ p
  p6 : p ≤ 6
  s2 : 2 ≤ s
  s5 : s ≤ 5
  len : rs.length = p * (s - 1)
  all : ∀ k (hk : k < rs.length), ruleOk p s (k / (s - 1)) rs[k] = true
theorem GX.of {P S : Int} {rs : List ByteArray} (h : goodX P S rs = true) : ∃ p s : Nat, P = p ∧ S = s ∧ GX p s rs ∧ s ^ p ≤ 1000 := by
  obtain ⟨p, s, rfl, rfl, h1, h2, h3, h4, h5, h6, h7⟩ := goodX_nat h
  exact ⟨p, s, rfl, rfl, ⟨h1, h2, h3, h4, h6, h7⟩, h5⟩
theorem rule_facts {p s : Nat} {rs : List ByteArray} (h : GX p s rs) {k : Nat} (hk : k < rs.length) : rs[k].size = p ∧ ∀ i (hi : i < rs[k].size), oks s rs[k][i] = true := by
  have := h.all k hk
  rw [ruleOk_iff] at this
  refine ⟨this.1, fun i hi => ?_⟩
  have h2 := List.all_eq_true.1 this.2.2 _ (List.getElem_mem (show i < rs[k].data.toList.length by rw [len_data]; exact hi))
  rw [byte_at _ i hi] at h2; exact h2
theorem keepQd {N : Nat} {w a : World} (h : N ≤ a.heap.size ∧ Below N w a) : N ≤ a.drew.heap.size ∧ Below N w a.drew := ⟨h.1, h.2.drew⟩
theorem keepQF {N : Nat} {w a : World} (h : N ≤ a.heap.size ∧ Below N w a) : Below N w a := h.2
theorem keepQ {A B : Prop} {N : Nat} {w a b : World} (k : Below a.heap.size a b) (h : N ≤ a.heap.size ∧ Below N w a) : N ≤ b.heap.size ∧ Below N w b := ⟨Nat.le_trans h.1 k.size, h.2.trans (k.mono h.1)⟩
set_option maxRecDepth 100000 in
set_option maxHeartbeats 4000000 in
theorem bxTurn_any (v : Value) (p s : Nat) (rs : List ByteArray) (d : List Nat) (k : Nat) (up : Bool) (w : World) (hG : GX p s rs) (h : RdX w v p s rs) (hd : stOk p s d) (hk : k < p) :
    Calls Try.prog 68 #[v, .string (tS d), .int .i64 k, .int .i64 (byX up)] w fun e w' => e = .returned (.tuple #[.string (if tuB s rs d k up then tS (tuD d k up) else ⟨#[]⟩), .bool (tuB s rs d k up)]) ∧ Below w.heap.size w w' := by
  obtain ⟨u, rfl, pp, c, rfl, hmx, hr⟩ := h
  have h6 := hG.p6
  have h5 := hG.s5
  have h2 := hG.s2
  have hdl := hd.1
  have hVs := stOk_getD hd (by omega) k
  have hvx := vX_int hd h2 k up
  have hlo := lo_int hd h2 k up
  have hll := loX_lt (k := k) (up := up) hd h2
  have htu := tu_int (s := s) (d := d) k up
  have hby : byX up = 1 ∨ byX up = -1 := by cases up <;> simp [byX]
  have htb : tuB s rs d k up = (vX s d k up && fitX (rs.getD (k * (s - 1) + loX d k up) ⟨#[]⟩) d) := rfl
  have hks : k < (tS d).size := by rw [tS_size, hdl]; exact hk
  have htz : (tS d).size = p := by rw [tS_size, hdl]
  have hti : Hid (∀ i (hi : i < (tS d).size), ((tS d)[i].toNat : Int) = 48 + (d.getD i 0 : Nat)) := Lib.hid fun i hi => by
    rw [tS_get d i hi, u8_dig _ (by have := stOk_getD hd (by omega) i; omega)]; omega
  have htk := hti.out k hks
  have hset := Lib.hid (fun x => tS_set d k x (by omega))
  rw [hdl] at hset
  have hLI := Lib.hid (fun w => l1In_any (((d.getD k 0 : Nat) : Int) + byX up) 0 ((s : Int) - 1) _ w hvx.symm)
  have hLe := Lib.hid (fun w => l1Least_any (((d.getD k 0 : Nat) : Int) + byX up) ((d.getD k 0 : Nat) : Int) w)
  have hNum := Lib.hid (fun x (hx9 : x ≤ 9) w' => l1Num_dig x w' hx9)
  have e1 : IntKind.i64.wrap ((s : Int) - 1) = (s : Int) - 1 := by rw [IntKind.wrap_i64]; omega
  have hlen := hG.len
  have hms := mulsub (p := k) (s := s) (by omega)
  have h24 := mul24 (p := p) (s := s) h6 h5
  have hix := fun (hv : vX s d k up = true) => idx_lt hk (hll hv)
  have hrz := fun i (hi : i < rs.length) => rule_facts hG hi
  have hfn := Lib.hid (fun i hi (hq : i < (rs.getD (k * (s - 1) + loX d k up) ⟨#[]⟩).size) => fitX_no (rs.getD (k * (s - 1) + loX d k up) ⟨#[]⟩) d i hi)
  have hfy := Lib.hid (fitX_yes (rs.getD (k * (s - 1) + loX d k up) ⟨#[]⟩) d)
  rw [htb]
  clear hvx htb
  generalize tuD d k up = TD at *
  generalize loX d k up = LO at *
  generalize d.getD k 0 = V at *
  have eu : IntKind.u8.wrap (48 + (V : Int) - 48) = (V : Int) := by rw [IntKind.wrap_u8]; omega
  have ei : IntKind.i64.wrap (V : Int) = (V : Int) := by rw [IntKind.wrap_i64]; omega
  have ea : IntKind.i64.wrap ((V : Int) + byX up) = (V : Int) + byX up := by rw [IntKind.wrap_i64]; rcases hby with h | h <;> rw [h] <;> omega
  obtain ⟨Y, hY⟩ : ∃ Y, byX up = Y := ⟨_, rfl⟩
  rw [hY] at hlo htu hby hLI hLe ea ⊢
  clear hY
  obtain ⟨n, hn⟩ : ∃ n, rs.length = n := ⟨_, rfl⟩
  rw [hn] at hlen hmx ⊢
  have hn24 : n ≤ 24 := by omega
  replace hlen := Lib.hid hlen
  obtain ⟨w1, hw1⟩ : ∃ w1, Hid (w1 = w.alloc (boxO p s (.slice pp n c))) := ⟨_, Lib.hid rfl⟩
  have hb1 : Hid (Below w.heap.size w w1) := Lib.hid (by rw [hw1.out]; exact ba1 w _)
  have F1 := Lib.hid (show w1.heap[w.heap.size]? = some (boxO p s (.slice pp n c)) by rw [hw1.out]; exact hb_new _ _)
  have f1 : w1.cell? ⟨w.heap.size, 1, none⟩ = some (.int .i64 s) := hb_cell F1.out 1
  have f2 : w1.cell? ⟨w.heap.size, 2, none⟩ = some (.slice pp n c) := hb_cell F1.out 2
  have iB : (k : Int) < (p : Int) := by omega
  have iB0 : (0 : Int) ≤ (k : Int) := by omega
  have iBs : (k : Int) < ((tS d).size : Int) := by omega
  cases hv : vX s d k up with
  | false =>
    rw [hv] at hLI
    rw [Bool.false_and, if_neg (by simp)]
    generalize tS d = st at *
    clear hlo hll htu hix hv
    go_enter Try.func68, Try.ntmps68
    go_wp2_with fail
    rw [← hw1.out]
    go_wp2_with fail
    refine (hLI.out _).mono ?_; rintro e w' ⟨rfl, rfl⟩
    go_wp2_with fail
    go_ret2; exact ⟨rfl, hb1.out⟩
  | true =>
    rw [hv] at hLI
    rw [Bool.true_and]
    have hlo := hlo hv
    have hix := hix hv
    obtain ⟨X, hX1, hX2⟩ := htu hv
    rw [hlo] at hLe
    have hXs : X ≤ 9 := by rcases hby with rfl | rfl <;> omega
    have hkx : k * (s - 1) + LO < rs.length := by rw [hn, hlen.out]; exact hix
    obtain ⟨g, rfl, hgl, hc⟩ := hr.tx hkx
    rw [getD_at rs _ _ hkx] at hfn hfy ⊢
    obtain ⟨hrp, hro⟩ := hrz _ hkx
    clear hrz
    generalize rs[k * (s - 1) + LO] = r at *
    have hkn : k * (s - 1) + LO < n := by omega
    have hI : (k : Int) * ((s : Int) - 1) + (LO : Int) = ((k * (s - 1) + LO : Nat) : Int) := by rw [hms]; simp
    have hm0 : 0 ≤ (k : Int) * ((s : Int) - 1) := by rw [hms]; omega
    have hm1 : (k : Int) * ((s : Int) - 1) ≤ 24 := by rw [hms]; omega
    have em : IntKind.i64.wrap ((k : Int) * ((s : Int) - 1)) = (k : Int) * ((s : Int) - 1) := by rw [IntKind.wrap_i64]; omega
    clear hix hkx hms hn hlen hr hmx h24
    generalize k * (s - 1) + LO = q at *
    have eq1 : IntKind.i64.wrap ((k : Int) * ((s : Int) - 1) + (LO : Int)) = (q : Int) := by rw [hI, IntKind.wrap_i64]; omega
    have iq0 : (0 : Int) ≤ (q : Int) := by omega
    have iq1 : (q : Int) < (n : Int) := by omega
    have iq2 : ¬ (q : Int) < 0 := by omega
    have hc1 : w1.cell? ⟨g, q, none⟩ = some (.string r) := by rw [hb1.out.cell (p := ⟨g, q, none⟩) hgl]; exact hc
    replace hI := Lib.hid hI
    replace hlo := Lib.hid hlo
    have hns := Lib.hid (hNum.out X hXs)
    have hsetX := Lib.hid (hset.out X)
    rw [← hX2, show tS [X] = tS [X] from rfl] at hsetX
    have ht1 : (tS [X]).size = 1 := tS_size _
    rw [← hX1] at hns
    generalize tS [X] = tp at *
    generalize tS TD = tTD at *
    generalize tS d = st at *
    have hoA := Lib.hid (fun i (h : i < r.size) => oks_ascii s (by omega) r[i] (hro i h))
    replace hrp := Lib.hid hrp
    replace htz := Lib.hid htz
    generalize fitX r d = FB at *
    obtain ⟨RS, hRS⟩ : ∃ t : ByteArray, Hid (t = if FB then tTD else ⟨#[]⟩) := ⟨_, Lib.hid rfl⟩
    rw [← hRS.out]
    clear hc hro hv hX1 hX2 hset hNum hll htu
    go_enter Try.func68, Try.ntmps68
    go_wp2_with fail
    rw [← hw1.out]
    go_wp2_with fail
    refine (hLI.out _).mono ?_; rintro e w' ⟨rfl, rfl⟩
    go_upto_region 4 with fail
    go_quiet ((go_at_call 99; refine Calls.quiet_of_same ((hLe.out _).mono fun _ _ h => ⟨h.1, h.2.symm⟩)))
    go_wp2_with fail
    obtain ⟨w3, hw3⟩ : ∃ w3, Hid (w3 = (w1.drewN nq).iter r 0) := ⟨_, Lib.hid rfl⟩
    have hb3 := Lib.hid (show Below w.heap.size w w3 by rw [hw3.out]; exact (below_drewN hb1.out nq).alloc (by have := hb1.out.size; simpa using this) (.stringIter r 0))
    have I3 := Lib.hid (show w3.heap[w1.heap.size]? = some (.stringIter r 0) by rw [hw3.out]; exact hb_new' (w1.drewN nq) (.stringIter r 0) _ (by simp))
    have hw1s := hb1.out.size
    rw [← hw3.out]
    go_loopw [12] (fun _ wr => ∃ j : Nat, j ≤ r.size ∧ wr.heap[w1.heap.size]? = some (.stringIter r j) ∧ Hid (∀ i (h : i < r.size), i < j → (((r[i].toNat : Int) == 63) || ((r[i].toNat : Int) == 48 + (d.getD i 0 : Nat))) = true) ∧ Hid (Below w1.heap.size w3 wr)) (fun _ wr => r.size - wr.iterPos w1.heap.size)
    case atStart => exact ⟨0, Nat.zero_le _, I3.out, Lib.hid (fun i _ h => by omega), Lib.hid (Below.refl _ _)⟩
    case round =>
      obtain ⟨j, hjj, hit, hf, hb⟩ := hrel
      have hlt0 := lt_of_block hit
      have hpos : wr.iterPos w1.heap.size = j := iterPos_of hit
      by_cases hlt : j < r.size
      · have hnx : ∀ ty, (Instr.next (.pointer (some ⟨w1.heap.size, 0, none⟩)) true ty).run Try.prog wr = .ok (.tuple #[.bool true, .int .i64 (j : Int), .int .i32 (r[j].toNat : Int)]) (wr.iterAt w1.heap.size r (j + 1)) := fun ty => by
          have := Lib.run_next_any_at (P := Try.prog) wr w1.heap.size r j ty hit hlt
          rw [decode_ascii r j hlt (hoA.out j hlt)] at this; exact this
        have hit2 := Lib.iterAt_heap wr w1.heap.size r j (j + 1) hit
        have hb2 := Lib.hid (Lib.below_iterAt hb.out (k := w1.heap.size) (Nat.le_refl _) r (j + 1))
        obtain ⟨W1, hW1⟩ : ∃ W1, W1 = wr.iterAt w1.heap.size r (j + 1) := ⟨_, rfl⟩
        rw [← hW1] at hnx hit2 hb2
        have hpos2 : W1.iterPos w1.heap.size = j + 1 := iterPos_of hit2
        clear hW1 hit hb
        have hjs : j < st.size := by rw [htz.out, ← hrp.out]; exact hlt
        have hsj := hti.out j hjs
        have hfj := Lib.hid (hfn.out j hlt hlt)
        have hst : Hid ((((r[j].toNat : Int) == 63) || ((r[j].toNat : Int) == 48 + (d.getD j 0 : Nat))) = true → ∀ i (h : i < r.size), i < j + 1 → (((r[i].toNat : Int) == 63) || ((r[i].toNat : Int) == 48 + (d.getD i 0 : Nat))) = true) := Lib.hid (fun h8 i hi h1 => by
          by_cases e : i = j
          · subst e; exact h8
          · exact hf.out i hi (by omega))
        rw [← hsj] at hst hfj
        replace hsj := Lib.hid hsj
        cases h1 : ((r[j].toNat : Int) == 63) with
        | true =>
          have h1' : ((r[j].toNat : Int) != 63) = false := by simp only [bne, h1]; rfl
          have hS := Lib.hid (hst.out (by rw [h1]; rfl))
          go_upto_region 8 with fail
          go_quiet (fail)
          go_wp2_with fail
          go_roundw
          case rel => exact ⟨j + 1, by omega, hit2, hS, Lib.hid (below_drewN hb2.out _)⟩
          case measure => rw [hpos]; show _ - W1.iterPos w1.heap.size < _; rw [hpos2]; omega
        | false =>
          have h1' : ((r[j].toNat : Int) != 63) = true := by simp only [bne, h1]; rfl
          cases h2 : ((r[j].toNat : Int) == (st[j].toNat : Int)) with
          | true =>
            have h2' : ((r[j].toNat : Int) != (st[j].toNat : Int)) = false := by simp only [bne, h2]; rfl
            have hS := Lib.hid (hst.out (by rw [h2, Bool.or_true]))
            go_upto_region 8 with fail
            go_quiet (fail)
            go_wp2_with fail
            go_roundw
            case rel => exact ⟨j + 1, by omega, hit2, hS, Lib.hid (below_drewN hb2.out _)⟩
            case measure => rw [hpos]; show _ - W1.iterPos w1.heap.size < _; rw [hpos2]; omega
          | false =>
            have h2' : ((r[j].toNat : Int) != (st[j].toNat : Int)) = true := by simp only [bne, h2]; rfl
            have hF : Hid (FB = false) := Lib.hid (hfj.out h1 h2)
            go_upto_region 8 with fail
            go_quiet (fail)
            go_wp2_with fail
            go_ret2; exact ⟨by rw [hRS.out, hF.out]; rfl, hb3.out.trans ((below_drewN hb2.out _).mono hw1s)⟩
      · obtain rfl : j = r.size := by omega
        have hF : Hid (FB = true) := Lib.hid (hfy.out (fun i hi => hf.out i hi hi))
        have htz' := htz.out
        have hnx : ∀ ty, (Instr.next (.pointer (some ⟨w1.heap.size, 0, none⟩)) true ty).run Try.prog wr = .ok (.tuple #[.bool false]) wr := fun ty => Lib.run_next_end_at (P := Try.prog) wr w1.heap.size r _ ty hit hlt
        have hbw := Lib.hid (hb3.out.trans (hb.out.mono hw1s))
        have iB1 : (k : Int) + 1 ≤ (p : Int) := by omega
        have iB2 : (k : Int) ≤ (p : Int) := by omega
        have iB3 : (0 : Int) ≤ (k : Int) + 1 := by omega
        have iB4 : ¬ (p : Int) < (k : Int) + 1 := by omega
        have iB5 : ¬ (p : Int) < (k : Int) := by omega
        have iB8 : IntKind.i64.wrap ((k : Int) + 1) = (k : Int) + 1 := by rw [IntKind.wrap_i64]; omega
        have sz1 : (st.extract 0 k).size = k := by rw [ByteArray.size_extract]; omega
        have sz2 : (st.extract (k + 1) p).size = p - (k + 1) := by rw [ByteArray.size_extract]; omega
        have iL1 : ¬ 9223372036854775807 < k + 1 := by omega
        have iL2 : ¬ 9223372036854775807 < p := by omega
        have iB6 : k ≤ p := by omega
        have iB7 : k + 1 ≤ p := by omega
        obtain ⟨wq, rfl⟩ : ∃ x, x = wr := ⟨_, rfl⟩
        have hrf : wq.heap.size ≤ wq.heap.size ∧ Below wq.heap.size wq wq := ⟨Nat.le_refl _, Below.refl _ _⟩
        go_upto_region 10 with fail
        go_region_held3 (fun v => wq.heap.size ≤ v.heap.size ∧ Below wq.heap.size wq v) ((first | assumption | exact keepQd (by assumption)))
          (first | (go_at_call 43; refine (hns.out _).mono ?_; rintro e w' ⟨rfl, hb4⟩; have hbn := keepQ (A := True) (B := True) hb4 (by assumption)))
        all_goals
          have hfin := keepQF (by assumption)
          go_wp2_with fail
          go_ret2; exact ⟨by rw [hRS.out, hF.out, if_pos rfl, ← hsetX.out]; rfl, bt1 hbw.out hfin⟩
end Go.Proofs.Ytjlecipeoaohiaa
