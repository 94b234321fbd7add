/- The program's check of bolts. -/
import Derived.Test.YtcfeaaakfjilgaaD2
namespace Go.Proofs.Ytcfeaaakfjilgaa
open Go Go.RowKit RM
theorem okP_eq (ps : List Int) : okP ps = (decide (1 ≤ ps.length) && decide (ps.length ≤ 6) && allIn ps 2 5 && decide (prI ps ≤ 1000)) := rfl
theorem arePC_any (p : Option Addr) (n c : Nat) (ps : List Int) (w : World) (hn : ps.length = n) (hm : n ≤ maxLen) (h : RI w p ps) :
    Calls Try.prog 89 #[.slice p n c] w fun e w' => e = .returned (.bool (okP ps)) ∧ w = w' := by
  have h := Lib.hid h
  have hE := Lib.hid (okP_eq ps)
  generalize okP ps = G at *
  rw [hn] at hE
  unfold maxLen at hm
  have hn := Lib.hid hn
  by_cases hl : 1 ≤ n
  · by_cases hl6 : n ≤ 6
    · go_enter Try.func89, Try.ntmps89
      go_wp2_with fail
      go_loop [3, 5, 16] (fun m _ i => ∃ (k : Nat) (q : Int), k ≤ n ∧ i = .int .i64 k ∧ m = .int .i64 q ∧ Hid (q = prI (ps.take k)) ∧ Hid (allIn (ps.take k) 2 5 = true) ∧ 0 ≤ q ∧ q ≤ 5 ^ k) (fun _ _ i => n - (intOf i).toNat)
      case atStart => exact ⟨0, 1, Nat.zero_le _, rfl, rfl, Lib.hid rfl, Lib.hid rfl, by omega, by simp⟩
      case round =>
        obtain ⟨k, q, hk, rfl, rfl, hq, ha, hq0, hq5⟩ := hrel
        by_cases hlt : k < n
        · have hkx : k < ps.length := by rw [hn.out]; exact hlt
          obtain ⟨g, rfl, hgl, hc⟩ := h.out.at hkx
          have hs := Lib.hid (pr_snoc ps k hkx)
          have hno := Lib.hid (allIn_no ps 2 5 k hkx)
          have hye := Lib.hid (allIn_snoc ps 2 5 k hkx ha.out)
          have hpw : (5 : Int) ^ k ≤ 5 ^ 5 := by
            have : (5 : Nat) ^ k ≤ 5 ^ 5 := Nat.pow_le_pow_right (by omega) (by omega)
            exact_mod_cast this
          have hpk : (5 : Int) ^ (k + 1) = 5 ^ k * 5 := Int.pow_succ _ _
          generalize ps[k] = x at *
          by_cases hx : x < 2
          · have HF : Hid (G = false) := Lib.hid (by rw [hE.out, hno.out (by omega)]; simp)
            clear hpw hpk hq5
            go_wp2_with fail
            go_ret; exact ⟨ret_bool HF.out.symm, rfl⟩
          · by_cases hx5 : 5 < x
            · have HF : Hid (G = false) := Lib.hid (by rw [hE.out, hno.out (by omega)]; simp)
              clear hpw hpk hq5
              go_wp2_with fail
              go_ret; exact ⟨ret_bool HF.out.symm, rfl⟩
            · have hmul : q * x ≤ 5 ^ k * 5 := Int.mul_le_mul hq5 (by omega) (by omega) (Int.le_trans hq0 hq5)
              have hmul0 : 0 ≤ q * x := Int.mul_nonneg hq0 (by omega)
              have hm3 : q * x ≤ 15625 := by omega
              have hpk := Lib.hid hpk
              have hmul := Lib.hid hmul
              clear hq5 hpw
              go_wp2_with fail
              go_round
              case rel => exact ⟨k + 1, q * x, by omega, by go_num, rfl, Lib.hid (by rw [hs.out, ← hq.out]), Lib.hid (hye.out (by omega) (by omega)), hmul0, by rw [hpk.out]; exact hmul.out⟩
              all_goals (simp [intOf] <;> omega)
        · have HF : Hid (G = decide (q ≤ 1000)) := Lib.hid (by
            have h1 := hq.out; have h2 := ha.out
            rw [List.take_of_length_le (by rw [hn.out]; omega)] at h1 h2
            rw [hE.out, h2, ← h1, decide_eq_true hl, decide_eq_true hl6]; simp)
          clear hq5
          go_wp2_with fail
          go_ret; exact ⟨ret_bool HF.out.symm, rfl⟩
    · have HF : Hid (G = false) := Lib.hid (by rw [hE.out, decide_eq_false hl6]; simp)
      go_enter Try.func89, Try.ntmps89
      go_wp2_with fail
      go_ret; exact ⟨ret_bool HF.out.symm, rfl⟩
  · have HF : Hid (G = false) := Lib.hid (by rw [hE.out, decide_eq_false hl]; simp)
    go_enter Try.func89, Try.ntmps89
    go_wp2_with fail
    go_ret; exact ⟨ret_bool HF.out.symm, rfl⟩
theorem hasB_cases (ps : List Int) (x y : Int) : ((x < 0) ∧ hasB ps x y = false) ∨ (0 ≤ x ∧ (ps.length : Int) ≤ x ∧ hasB ps x y = false) ∨ ∃ X : Nat, x = X ∧ X < ps.length ∧ ((y < 0 ∧ hasB ps x y = false) ∨ (0 ≤ y ∧ ∃ z, ps[X]? = some z ∧ hasB ps x y = decide (y < z))) := by
  unfold hasB
  by_cases h1 : x < 0
  · left; refine ⟨h1, ?_⟩
    rw [decide_eq_false (by omega)]; simp
  · right
    by_cases h2 : (ps.length : Int) ≤ x
    · left; refine ⟨by omega, h2, ?_⟩
      rw [decide_eq_false (show ¬ x < (ps.length : Int) by omega)]; simp
    · right
      refine ⟨x.toNat, by omega, by omega, ?_⟩
      by_cases h3 : y < 0
      · left; refine ⟨h3, ?_⟩
        rw [decide_eq_false (show ¬ 0 ≤ y by omega)]; simp
      · right; refine ⟨by omega, ps[x.toNat]'(by omega), List.getElem?_eq_getElem (by omega), ?_⟩
        rw [decide_eq_true (show 0 ≤ x by omega), decide_eq_true (show x < (ps.length : Int) by omega), decide_eq_true (show 0 ≤ y by omega), getD_eq ps x.toNat 0 (by omega)]
        simp
theorem hasP_any (v : Value) (x y : Int) (ps : List Int) (bs : List Blk) (w : World) (h : Bo w v ps bs) :
    Calls Try.prog 94 #[v, .int .i64 x, .int .i64 y] w fun e w' => e = .returned (.bool (hasB ps x y)) ∧ Below w.heap.size w w' := by
  obtain ⟨pv, bv, rfl, ⟨p, c, rfl, hm, hr⟩, -⟩ := h
  have hcs := hasB_cases ps x y
  generalize hasB ps x y = G at *
  obtain ⟨n, hn⟩ : ∃ n, ps.length = n := ⟨_, rfl⟩
  rw [hn] at hcs hm ⊢
  unfold maxLen at hm
  have hb0 := Lib.hid fun o => ba1 w o
  rcases hcs with ⟨h1, rfl⟩ | ⟨h1, h2, rfl⟩ | ⟨X, rfl, hX, ⟨h2, rfl⟩ | ⟨h2, z, hz, rfl⟩⟩
  · clear hn hr
    go_enter Try.func94, Try.ntmps94
    go_wp2_with fail
    go_ret; exact ⟨rfl, hb0.out _⟩
  · clear hn hr
    go_enter Try.func94, Try.ntmps94
    go_wp2_with fail
    go_ret; exact ⟨rfl, hb0.out _⟩
  · clear hn hr
    go_enter Try.func94, Try.ntmps94
    go_wp2_with fail
    go_ret; exact ⟨rfl, hb0.out _⟩
  · obtain ⟨g, rfl, hgl, hc⟩ := hr.at (k := X) (by rw [hn]; exact hX)
    have hz1 : ps[X]'(by rw [hn]; exact hX) = z := by rw [List.getElem?_eq_getElem (by rw [hn]; exact hX)] at hz; exact Option.some.inj hz
    rw [hz1] at hc
    have hne : ¬ g = w.heap.size := by omega
    clear hn hr hz hz1
    go_enter Try.func94, Try.ntmps94
    go_wp2_with fail
    go_ret; exact ⟨rfl, hb0.out _⟩
theorem isNoB_any (v : Value) (a i b j : Int) (ps : List Int) (bs : List Blk) (w : World) (h : Bo w v ps bs) :
    Calls Try.prog 70 #[v, .agg #[.int .i64 a, .int .i64 i, .int .i64 b, .int .i64 j]] w fun e w' => e = .returned (.bool (!(okBlk ps ⟨a, i, b, j⟩))) ∧ Below w.heap.size w w' := by
  have h0 := Lib.hid h
  obtain ⟨pv, bv, rfl, -, -⟩ := h
  have hE : Hid ((!(okBlk ps ⟨a, i, b, j⟩)) = (decide (a = b) || !(hasB ps a i) || !(hasB ps b j))) := Lib.hid (by unfold okBlk; cases hasB ps a i <;> cases hasB ps b j <;> simp)
  generalize (!(okBlk ps ⟨a, i, b, j⟩)) = G at *
  have hP := Lib.hid fun x y w' (hb : Below w.heap.size w w') => hasP_any _ x y ps bs w' (h0.out.below hb)
  obtain ⟨w2, hw2⟩ : ∃ w2, Hid (w2 = (w.alloc (.cells #[pv, bv] 31)).alloc (.cells #[.int .i64 a, .int .i64 i, .int .i64 b, .int .i64 j] 51)) := ⟨_, Lib.hid rfl⟩
  have hb2 : Hid (Below w.heap.size w w2) := Lib.hid (by rw [hw2.out]; exact (ba1 w _).alloc (by simp) _)
  have f0 : w2.cell? ⟨w.heap.size, 0, none⟩ = some pv := by rw [hw2.out]; simp
  have f1 : w2.cell? ⟨w.heap.size, 1, none⟩ = some bv := by rw [hw2.out]; simp
  have g0 : w2.cell? ⟨w.heap.size + 1, 0, none⟩ = some (.int .i64 a) := by rw [hw2.out]; simp
  have g1 : w2.cell? ⟨w.heap.size + 1, 1, none⟩ = some (.int .i64 i) := by rw [hw2.out]; simp
  have g2 : w2.cell? ⟨w.heap.size + 1, 2, none⟩ = some (.int .i64 b) := by rw [hw2.out]; simp
  have g3 : w2.cell? ⟨w.heap.size + 1, 3, none⟩ = some (.int .i64 j) := by rw [hw2.out]; simp
  have hl2 : w.heap.size + 1 < w2.heap.size := by rw [hw2.out]; simp
  by_cases hab : a = b
  · subst hab
    have HF : Hid (G = true) := Lib.hid (by rw [hE.out]; simp)
    have hne : (a == a) = true := by simp
    go_enter Try.func70, Try.ntmps70
    go_wp2_with fail
    rw [← hw2.out]
    go_ret; exact ⟨ret_bool HF.out.symm, hb2.out⟩
  · have hne : (a == b) = false := by simpa using hab
    have hE : Hid (G = (!(hasB ps a i) || !(hasB ps b j))) := Lib.hid (by rw [hE.out, decide_eq_false hab]; simp)
    have hA := Lib.hid fun w' hb => hP.out a i w' hb
    have hB := Lib.hid fun w' hb => hP.out b j w' hb
    generalize hasB ps a i = A at *
    generalize hasB ps b j = B at *
    cases A
    · have HF : Hid (G = true) := Lib.hid (by rw [hE.out]; simp)
      go_enter Try.func70, Try.ntmps70
      go_wp2_with fail
      rw [← hw2.out]
      refine (hA.out _ hb2.out).mono ?_; rintro e w3 ⟨rfl, hb3⟩
      go_wp2_with fail
      go_ret; exact ⟨ret_bool HF.out.symm, bt1 hb2.out hb3⟩
    · have HF : Hid (G = !B) := Lib.hid (by rw [hE.out]; simp)
      go_enter Try.func70, Try.ntmps70
      go_wp2_with fail
      rw [← hw2.out]
      refine (hA.out _ hb2.out).mono ?_; rintro e w3 ⟨rfl, hb3⟩
      have f0' : w3.cell? ⟨w.heap.size, 0, none⟩ = some pv := by rw [hb3.cell (p := ⟨w.heap.size, 0, none⟩) (by show w.heap.size < _; omega)]; exact f0
      have f1' : w3.cell? ⟨w.heap.size, 1, none⟩ = some bv := by rw [hb3.cell (p := ⟨w.heap.size, 1, none⟩) (by show w.heap.size < _; omega)]; exact f1
      have g2' : w3.cell? ⟨w.heap.size + 1, 2, none⟩ = some (.int .i64 b) := by rw [hb3.cell (p := ⟨w.heap.size + 1, 2, none⟩) (by show w.heap.size + 1 < _; omega)]; exact g2
      have g3' : w3.cell? ⟨w.heap.size + 1, 3, none⟩ = some (.int .i64 j) := by rw [hb3.cell (p := ⟨w.heap.size + 1, 3, none⟩) (by show w.heap.size + 1 < _; omega)]; exact g3
      have hb3 := Lib.hid hb3
      go_wp2_with fail
      refine (hB.out _ (bt1 hb2.out hb3.out)).mono ?_; rintro e w4 ⟨rfl, hb4⟩
      go_wp2_with fail
      go_ret; exact ⟨ret_bool HF.out.symm, bt1 (bt1 hb2.out hb3.out) hb4⟩
/-- where the first block lies that is none; none lies there: -1 -/
theorem ixNo_any (p : Option Addr) (m c : Nat) (v : Value) (ps : List Int) (cs bs : List Blk) (w : World) (hm : cs.length = m) (hml : m ≤ maxLen) (hr : RG blkE w p cs) (h : Bo w v ps bs) :
    Calls Try.prog 100 #[.slice p m c, .func (.func 70) #[v] #[]] w fun e w' => ∃ r : Int, e = .returned (.int .i64 r) ∧ decide (0 ≤ r) = !(cs.all (okBlk ps)) ∧ Below w.heap.size w w' := by
  have h := Lib.hid h
  have hr := Lib.hid hr
  have hm := Lib.hid hm
  unfold maxLen at hml
  go_enter Try.func100, Try.ntmps100
  go_wp2_with fail
  go_loopw [5, 8] (fun _ i wr => ∃ k : Nat, k ≤ m ∧ i = .int .i64 k ∧ Hid ((cs.take k).all (okBlk ps) = true) ∧ Hid (Below w.heap.size w wr)) (fun _ i _ => m - (intOf i).toNat)
  case atStart => exact ⟨0, Nat.zero_le _, rfl, Lib.hid rfl, Lib.hid (Below.refl _ _)⟩
  case round =>
    obtain ⟨k, hk, rfl, ha, hb⟩ := hrel
    by_cases hlt : k < m
    · have hkx : k < cs.length := by rw [hm.out]; exact hlt
      obtain ⟨g, rfl, hgl, e0, e1, e2, e3⟩ := (hr.out.below hb.out).blk hkx
      have hno := Lib.hid (all_no (okBlk ps) cs k hkx)
      have hye := Lib.hid (all_snoc (okBlk ps) cs k hkx ha.out)
      obtain ⟨ka, ki, kb, kj, hke⟩ : ∃ a i b j, cs[k] = ⟨a, i, b, j⟩ := ⟨_, _, _, _, rfl⟩
      rw [hke] at e0 e1 e2 e3 hno hye
      have hK := Lib.hid (isNoB_any _ ka ki kb kj ps bs wr (h.out.below hb.out))
      generalize okBlk ps ⟨ka, ki, kb, kj⟩ = ok at *
      clear hke
      cases ok
      · have HF : Hid (cs.all (okBlk ps) = false) := Lib.hid (hno.out rfl)
        go_wp2_with fail
        refine hK.out.mono ?_; rintro e w4 ⟨rfl, hb4⟩
        go_wp2_with fail
        go_ret; exact ⟨_, rfl, by rw [HF.out]; simp, bt1 hb.out hb4⟩
      · go_wp2_with fail
        refine hK.out.mono ?_; rintro e w4 ⟨rfl, hb4⟩
        go_wp2_with fail
        go_roundw
        case rel => exact ⟨k + 1, by omega, by go_num, Lib.hid (hye.out trivial), Lib.hid (bt1 hb.out hb4)⟩
        all_goals (simp [intOf] <;> omega)
    · have HF : Hid (cs.all (okBlk ps) = true) := Lib.hid (by
        have := ha.out; rwa [List.take_of_length_le (by rw [hm.out]; omega)] at this)
      go_wp2_with fail
      go_ret; exact ⟨_, rfl, by rw [HF.out]; rfl, hb.out⟩
theorem ctNo_any (p : Option Addr) (m c : Nat) (v : Value) (ps : List Int) (cs bs : List Blk) (w : World) (hm : cs.length = m) (hml : m ≤ maxLen) (hr : RG blkE w p cs) (h : Bo w v ps bs) :
    Calls Try.prog 90 #[.slice p m c, .func (.func 70) #[v] #[]] w fun e w' => e = .returned (.bool (!(cs.all (okBlk ps)))) ∧ Below w.heap.size w w' := by
  have hI := Lib.hid (ixNo_any p m c v ps cs bs w hm hml hr h)
  generalize (!(cs.all (okBlk ps))) = G at *
  clear h hr hm
  go_enter Try.func90, Try.ntmps90
  go_wp2_with fail
  refine hI.out.mono ?_; rintro e w2 ⟨r, rfl, hr, hb⟩
  have hr := Lib.hid hr
  go_wp2_with fail
  go_ret; exact ⟨rfl, hb⟩
theorem AreBolts_any (v : Value) (ps : List Int) (bs : List Blk) (w : World) (h : Bo w v ps bs) :
    Calls Try.prog 64 #[v] w fun e w' => e = .returned (.bool (goodBo ps bs)) ∧ Below w.heap.size w w' := by
  have h0 := Lib.hid h
  obtain ⟨pv, bv, rfl, ⟨p, c, rfl, hm, hr⟩, ⟨p2, c2, rfl, hm2, hr2⟩⟩ := h
  have hr1 := Lib.hid hr
  have hr3 := Lib.hid hr2
  obtain ⟨n, hn⟩ : ∃ n, ps.length = n := ⟨_, rfl⟩
  obtain ⟨m, hmm⟩ : ∃ m, bs.length = m := ⟨_, rfl⟩
  have hE : Hid (goodBo ps bs = (okP ps && decide (bs.length ≤ 40) && bs.all (okBlk ps))) := Lib.hid rfl
  generalize goodBo ps bs = G at *
  rw [hn] at hm h0 ⊢
  rw [hmm] at hm2 hE h0 ⊢
  have hn := Lib.hid hn
  have hmm := Lib.hid hmm
  have hA := Lib.hid (fun w' hb => arePC_any p n c ps w' hn.out hm (hr1.out.below hb))
  have hC := Lib.hid (fun w' hb => ctNo_any p2 m c2 _ ps bs bs w' hmm.out hm2 (hr3.out.below hb) (h0.out.below hb))
  unfold maxLen at hm hm2
  obtain ⟨w2, hw2⟩ : ∃ w2, Hid (w2 = (w.alloc (.cells #[.slice p n c, .slice p2 m c2] 31))) := ⟨_, Lib.hid rfl⟩
  have hb2 : Hid (Below w.heap.size w w2) := Lib.hid (by rw [hw2.out]; exact ba1 w _)
  have f0 : w2.cell? ⟨w.heap.size, 0, none⟩ = some (.slice p n c) := by rw [hw2.out]; simp
  have f1 : w2.cell? ⟨w.heap.size, 1, none⟩ = some (.slice p2 m c2) := by rw [hw2.out]; simp
  have hA := Lib.hid (hA.out w2 hb2.out)
  have hC := Lib.hid (hC.out w2 hb2.out)
  generalize okP ps = A at *
  generalize bs.all (okBlk ps) = B at *
  clear hr hr2
  cases A
  · have HF : Hid (G = false) := Lib.hid (by rw [hE.out]; simp)
    go_enter Try.func64, Try.ntmps64
    go_wp2_with fail
    rw [← hw2.out]
    refine hA.out.mono ?_; rintro e w3 ⟨rfl, rfl⟩
    go_wp2_with fail
    go_ret; exact ⟨ret_bool HF.out.symm, hb2.out⟩
  · by_cases h40 : m ≤ 40
    · have HF : Hid (G = B) := Lib.hid (by rw [hE.out, decide_eq_true h40]; simp)
      go_enter Try.func64, Try.ntmps64
      go_wp2_with fail
      rw [← hw2.out]
      refine hA.out.mono ?_; rintro e w3 ⟨rfl, rfl⟩
      go_wp2_with fail
      refine hC.out.mono ?_; rintro e w4 ⟨rfl, hb4⟩
      go_wp2_with fail
      go_ret; exact ⟨ret_bool (by first | (rw [HF.out]; simp; done) | rw [HF.out]), bt1 hb2.out hb4⟩
    · have HF : Hid (G = false) := Lib.hid (by rw [hE.out, decide_eq_false h40]; simp)
      go_enter Try.func64, Try.ntmps64
      go_wp2_with fail
      rw [← hw2.out]
      refine hA.out.mono ?_; rintro e w3 ⟨rfl, rfl⟩
      go_wp2_with fail
      go_ret; exact ⟨ret_bool HF.out.symm, hb2.out⟩
end Go.Proofs.Ytcfeaaakfjilgaa
