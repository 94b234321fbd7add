/- A slide made, by the model. -/
import Derived.Test.YtcfeaaakfjilgaaJ1
import Derived.Deep.RegionHeld3
import Derived.BigRegion
namespace Go.Proofs.Ytcfeaaakfjilgaa
open Go Go.RowKit RM
theorem hb_drewN {w : World} {g : Nat} {o : Obj} (n : Nat) (h : w.heap[g]? = some o) : (w.drewN n).heap[g]? = some o := h
theorem keepP {W a b : World} {g : Nat} {v0 : Value} (hb : Below a.heap.size a b) (h : a.cell? ⟨g, 0, none⟩ = some v0 ∧ g < a.heap.size ∧ Below W.heap.size W a) :
    b.cell? ⟨g, 0, none⟩ = some v0 ∧ g < b.heap.size ∧ Below W.heap.size W b :=
  ⟨by rw [hb.cell (p := ⟨g, 0, none⟩) h.2.1]; exact h.1, Nat.lt_of_lt_of_le h.2.1 hb.size, bt1 h.2.2 hb⟩
theorem keepPF {W a : World} {g : Nat} {v0 : Value} (h : a.cell? ⟨g, 0, none⟩ = some v0 ∧ g < a.heap.size ∧ Below W.heap.size W a) : Below W.heap.size W a := h.2.2
theorem boPut_bad (v : Value) (ps : List Nat) (bs cs : List Blk) (s : ByteArray) (b y : Int) (w : World) (hG : GB ps cs) (h : Bo w v (ints ps) bs) (hbad : b < 0 ∨ (ps.length : Int) ≤ b ∨ (y ≠ 1 ∧ y ≠ -1)) :
    Calls Try.prog 51 #[v, .string s, .agg #[.int .i64 b, .int .i64 y]] w fun e w' => e = .returned (.tuple #[.string ⟨#[]⟩, .bool false]) ∧ Below w.heap.size w w' := by
  obtain ⟨pv, bv, rfl, ⟨p, c, rfl, -, -⟩, -⟩ := h
  have hln : (ints ps).length = ps.length := by simp
  rw [hln]; clear hln
  have h6 := hG.l6
  clear hG
  generalize ps.length = n at *
  by_cases hb : b < 0 ∨ (n : Int) ≤ b
  · clear hbad
    go_enter Try.func51, Try.ntmps51
    go_wp2_with fail
    refine (l1In_no _ _ _ _ (by omega)).mono ?_; rintro e w' ⟨rfl, rfl⟩
    go_wp2_with fail
    go_ret2; exact ⟨rfl, (ba1 w _).alloc (by simp) _⟩
  · have h1 : (y != 1) = true := by simp; omega
    have h2 : (y != -1) = true := by simp; omega
    clear hbad
    go_enter Try.func51, Try.ntmps51
    go_wp2_with fail
    refine (l1In_yes _ _ _ _ (by omega) (by omega)).mono ?_; rintro e w' ⟨rfl, rfl⟩
    go_wp2_with fail
    go_ret2; exact ⟨rfl, (ba1 w _).alloc (by simp) _⟩
set_option maxHeartbeats 1000000 in
theorem boPut_at (v : Value) (ps : List Nat) (bs : List Blk) (d : List Nat) (B : Nat) (up : Bool) (w : World) (hG : GB ps bs) (h : Bo w v (ints ps) bs) (hd : isSt ps d) (hB : B < ps.length) :
    Calls Try.prog 51 #[v, .string (tS d), .agg #[.int .i64 B, .int .i64 (byI up)]] w fun e w' => ∃ t, e = .returned (.tuple #[.string t, .bool (canS ps bs d B up)]) ∧ (canS ps bs d B up = true → t = tS (mvS d B up)) ∧ Below w.heap.size w w' := by
  have h0 := Lib.hid h
  obtain ⟨pv, bv, rfl, ⟨p, c, rfl, -, hr⟩, -⟩ := h
  have hln : (ints ps).length = ps.length := by simp
  rw [hln] at h0 ⊢; clear hln
  have h6 := hG.l6
  have hdl := hd.1
  have hcs := can_eq (bs := bs) hd B hB up
  have hpk := hG.p B hB
  have hdB := hd.2 B hB
  have hpl : pl d B = d.getD B 0 := rfl
  have hx : (ints ps)[B]'(by simpa using hB) = ((ps.getD B 1 : Nat) : Int) := by simp [List.getD, List.getElem?_eq_getElem hB]
  obtain ⟨g, rfl, hgl, hc⟩ := hr.at (k := B) (by simpa using hB)
  rw [hx] at hc
  have hBs : B < (tS d).size := by rw [tS_size, hdl]; exact hB
  have htn : ((tS d)[B]'hBs).toNat = 48 + pl d B := by rw [tS_get d B hBs, u8_dig _ (by omega), hpl]
  have htz : (tS d).size = ps.length := by rw [tS_size, hdl]
  have hset := Lib.hid (fun x => tS_set d B x (by rw [hdl]; exact hB))
  rw [hdl] at hset
  have hby : byI up = 1 ∨ byI up = -1 := by cases up <;> simp [byI]
  have e1 : IntKind.i64.wrap (((ps.getD B 1 : Nat) : Int) - 1) = ((ps.getD B 1 : Nat) : Int) - 1 := by rw [IntKind.wrap_i64]; omega
  have eu : IntKind.u8.wrap (48 + ((pl d B : Nat) : Int) - 48) = ((pl d B : Nat) : Int) := by rw [IntKind.wrap_u8]; omega
  have ei : IntKind.i64.wrap ((pl d B : Nat) : Int) = ((pl d B : Nat) : Int) := by rw [IntKind.wrap_i64]; omega
  have hPdef : plS d B up = ((pl d B : Nat) : Int) + byI up := rfl
  have hP9 : plS d B up ≤ 5 := by rw [hPdef]; rcases hby with h | h <;> rw [h] <;> omega
  have ea : IntKind.i64.wrap (((pl d B : Nat) : Int) + byI up) = plS d B up := by rw [hPdef, IntKind.wrap_i64]; rcases hby with h | h <;> rw [h] <;> omega
  replace hd := Lib.hid hd
  clear hx hr hpl hPdef hdB
  obtain ⟨n, hn⟩ : ∃ n, ps.length = n := ⟨_, rfl⟩
  rw [hn] at h0 hB h6 htz hset ⊢
  have hFr := Lib.hid (fun (d' : List Nat) (hd' : isSt ps d') w' hb => boFree_any _ ps bs d' w' hG (h0.out.below hb) hd')
  clear hG
  replace hdl := Lib.hid hdl
  have hres := Lib.hid (fun x (hx9 : x ≤ 9) w' => l1Num_dig x w' hx9)
  obtain ⟨w2, hw2⟩ : ∃ w2, Hid (w2 = (w.alloc (.cells #[.slice (some ⟨g, 0, none⟩) n c, bv] 31)).alloc (.cells #[.int .i64 (B : Int), .int .i64 (byI up)] 79)) := ⟨_, Lib.hid rfl⟩
  have hb2 : Hid (Below w.heap.size w w2) := Lib.hid (by rw [hw2.out]; exact (ba1 w _).alloc (by simp) _)
  have F := Lib.hid (show w2.heap[w.heap.size]? = some (.cells #[.slice (some ⟨g, 0, none⟩) n c, bv] 31) by rw [hw2.out]; exact hb_old _ (hb_new _ _))
  have M := Lib.hid (show w2.heap[w.heap.size + 1]? = some (.cells #[.int .i64 (B : Int), .int .i64 (byI up)] 79) by rw [hw2.out]; exact hb_new' _ _ _ (by simp))
  have f0 : w2.cell? ⟨w.heap.size, 0, none⟩ = some (.slice (some ⟨g, 0, none⟩) n c) := hb_cell F.out 0
  have f1 : w2.cell? ⟨w.heap.size, 1, none⟩ = some bv := hb_cell F.out 1
  have m0 : w2.cell? ⟨w.heap.size + 1, 0, none⟩ = some (.int .i64 (B : Int)) := hb_cell M.out 0
  have m1 : w2.cell? ⟨w.heap.size + 1, 1, none⟩ = some (.int .i64 (byI up)) := hb_cell M.out 1
  have hcB : w2.cell? ⟨g, B, none⟩ = some (.int .i64 ((ps.getD B 1 : Nat) : Int)) := by rw [hb2.out.cell (p := ⟨g, B, none⟩) hgl]; exact hc
  have iB : (B : Int) < (n : Int) := by omega
  have iB0 : (0 : Int) ≤ (B : Int) := by omega
  have iBs : (B : Int) < ((tS d).size : Int) := by omega
  generalize hC : ps.getD B 1 = C at *
  generalize hZ : pl d B = Z at *
  generalize hPP : plS d B up = P at *
  generalize hcan : canS ps bs d B up = cn at *
  generalize hmv : mvS d B up = dm at *
  generalize byI up = y at *
  generalize hst : tS d = st at *
  clear hc hC hZ hPP hcan hmv hst
  have hq : ((y != 1) = false) ∨ ((y != 1) = true ∧ (y != -1) = false) := by rcases hby with rfl | rfl <;> simp
  rcases hcs with ⟨rfl, hbad⟩ | ⟨hp0, hpC, hcn, rfl, hds⟩
  · rcases hby with rfl | rfl
    all_goals
      go_enter Try.func51, Try.ntmps51
      go_wp2_with fail
      rw [← hw2.out]
      refine (l1In_yes _ _ _ _ (by omega) (by omega)).mono ?_; rintro e w' ⟨rfl, rfl⟩
      go_wp2_with fail
      go_quiet (fail)
      go_wp2_with fail
      refine (l1In_no _ _ _ _ (by omega)).mono ?_; rintro e w' ⟨rfl, rfl⟩
      go_wp2_with fail
      go_ret2; exact ⟨_, rfl, (fun h => by cases h), below_drewN hb2.out _⟩
  · have hNum := Lib.hid (hres.out P.toNat (by omega))
    have hPi : ((P.toNat : Nat) : Int) = P := by omega
    rw [hPi] at hNum
    have hF := Lib.hid (hFr.out _ hds)
    have hT := Lib.hid (hset.out P.toNat)
    have ht1 : (tS [P.toNat]).size = 1 := tS_size _
    rw [← hcn] at hF
    replace hcn := Lib.hid hcn
    replace hds := Lib.hid hds
    generalize tS [P.toNat] = tp at *
    rcases hby with rfl | rfl
    all_goals
      go_enter Try.func51, Try.ntmps51
      go_wp2_with fail
      rw [← hw2.out]
      refine (l1In_yes _ _ _ _ (by omega) (by omega)).mono ?_; rintro e w' ⟨rfl, rfl⟩
      go_wp2_with fail
      go_quiet (fail)
      go_wp2_with fail
      refine (l1In_yes _ _ _ _ (by omega) (by omega)).mono ?_; rintro e w' ⟨rfl, rfl⟩
      obtain ⟨w3, hw3⟩ : ∃ w3, Hid (w3 = w2.drewN nq) := ⟨_, Lib.hid rfl⟩
      have hb3 := Lib.hid (show Below w.heap.size w w3 by rw [hw3.out]; exact below_drewN hb2.out nq)
      have M3 := Lib.hid (hb_drewN nq M.out)
      have F3 := Lib.hid (hb_drewN nq F.out)
      rw [← hw3.out] at M3 F3 ⊢
      have m03 : w3.cell? ⟨w.heap.size + 1, 0, none⟩ = some (.int .i64 (B : Int)) := hb_cell M3.out 0
      have lm3 := hb_lt M3.out
      have iB1 : (B : Int) + 1 ≤ (n : Int) := by omega
      have iB2 : (B : Int) ≤ (n : Int) := by omega
      have iB3 : (0 : Int) ≤ (B : Int) + 1 := by omega
      have iB4 : ¬ (n : Int) < (B : Int) + 1 := by omega
      have iB5 : ¬ (n : Int) < (B : Int) := by omega
      have iB8 : IntKind.i64.wrap ((B : Int) + 1) = (B : Int) + 1 := by rw [IntKind.wrap_i64]; omega
      have sz1 : (st.extract 0 B).size = B := by rw [ByteArray.size_extract]; omega
      have sz2 : (st.extract (B + 1) n).size = n - (B + 1) := by rw [ByteArray.size_extract]; omega
      have iL1 : ¬ 9223372036854775807 < B + 1 := by omega
      have iL2 : ¬ 9223372036854775807 < n := by omega
      have iB6 : B ≤ n := by omega
      have iB7 : B + 1 ≤ n := by omega
      have m13 : w3.cell? ⟨w.heap.size + 1, 0, none⟩ = some (.int .i64 (B : Int)) ∧ w.heap.size + 1 < w3.heap.size ∧ Below w3.heap.size w3 w3 := ⟨m03, lm3, Below.refl _ _⟩
      go_wp2_with fail
      go_region_held3 (fun v => v.cell? ⟨w.heap.size + 1, 0, none⟩ = some (.int .i64 (B : Int)) ∧ w.heap.size + 1 < v.heap.size ∧ Below w3.heap.size w3 v) ((first | assumption | (refine ⟨?_, ?_, ?_⟩ <;> first | assumption | go_keep | omega | exact (Below.refl _ _).drew)))
        (first | (go_at_call 81; refine (hNum.out _).mono ?_; rintro e w' ⟨rfl, hb4⟩; have hbn := keepP hb4 (by assumption)))
      all_goals
        have hfin := Lib.hid (keepPF (by assumption))
        have F8 := Lib.hid (hb_below hfin.out (hb_lt F3.out) F3.out)
        have g0 : _ = some (Value.slice (some ⟨g, 0, none⟩) n c) := hb_cell F8.out 0
        have g1 : _ = some bv := hb_cell F8.out 1
        have hb8 := Lib.hid (bt1 hb3.out hfin.out)
        have hF8 := Lib.hid (hF.out _ hb8.out)
        rw [← hT.out] at hF8
        go_wp2_with fail
        refine hF8.out.mono ?_; rintro e w9 ⟨rfl, hb9⟩
        go_wp2_with fail
        go_ret2; exact ⟨_, rfl, (fun _ => hT.out), bt1 hb8.out hb9⟩
end Go.Proofs.Ytcfeaaakfjilgaa
