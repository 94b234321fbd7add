/- The farthest states by keys, on both sides: FarthestByKeys. -/
import Derived.Test.YtcfeaaakfjilgabDoorFA
import Derived.Test.YtcfeaaakfjilgabDoorV16
import Derived.Test.YtcfeaaakfjilgabDoorV10
import Derived.Test.YtcfeaaakfjilgabDoorI3
import Derived.Test.YtcfeaaakfjilgabDoorS3
import Derived.Deep.RegionHeld3
namespace Go.Proofs.YtcfeaaakfjilgabDoor
set_option linter.unusedSimpArgs false
set_option linter.unusedVariables false
open Go Go.RowKit RM
theorem sFB_no (v : Value) (ks : List ByteArray) (s : ByteArray) (w : World) (hz : ∀ s ∈ ks, s.size ≤ maxLen) (hs : s.size ≤ maxLen) (h : RdT w v ks) (hk : askK ks s = false) :
    Calls Tryd.prog 17 #[v, .string s] w fun e w' => e = .returned (.tuple #[.string ⟨#[]⟩, .int .i64 0, .bool false]) ∧ Below w.heap.size w w' := by
  have hA := Lib.hid (keAsked_any v ks s w hz hs h)
  rw [hk] at hA
  go_enter Tryd.func17, Tryd.ntmps17
  go_wp2_with fail
  refine hA.out.mono ?_; rintro e w' ⟨rfl, rfl⟩
  go_wp2_with fail
  go_ret3; exact ⟨rfl, Below.refl _ _⟩
set_option maxHeartbeats 1000000 in
theorem sFB_yes (v : Value) (ks : List ByteArray) (n x : Nat) (w : World) (hz : ∀ s ∈ ks, s.size ≤ maxLen) (h : RdT w v ks) (h2 : n ≤ 10) (hx : x < 2 ^ n) (hn : ks.length = n) (hG : goodK ks = true) (ha : askK ks (ST n x) = true) :
    Calls Tryd.prog 17 #[v, .string (ST n x)] w fun e w' => ∃ (M : Nat) (t : ByteArray), Best n (kD n (fkS ks) x) M t ∧ e = .returned (.tuple #[.string t, .int .i64 (M : Int), .bool true]) ∧ Below w.heap.size w w' := by
  have hA := Lib.hid (keAsked_any v ks (ST n x) w hz (by rw [ST_size]; unfold maxLen; omega) h)
  rw [ha] at hA
  have hK := keys_keyd ks hG
  rw [hn] at hK
  have hD := hK.dst hx
  have hFar := Lib.hid (keFar_any v ks n x w h h2 hx hn hG)
  obtain ⟨N, hNd⟩ : ∃ N, Hid (N = 2 ^ n) := ⟨_, Lib.hid rfl⟩
  have hN : N ≤ 1024 := by rw [hNd.out]; exact Nat.pow_le_pow_right (n := 2) (by decide) h2
  have hss := ST_size n x
  have h0 := Lib.hid (BestTo.zero hx hD.zero)
  have hdone := Lib.hid (fun M t (h : BestTo n (kD n (fkS ks) x) (2 ^ n) M t) => h.done (fun x d e => (hD.lt x d e).1))
  have hdN : Hid (∀ y d, kD n (fkS ks) x y = some d → d < N) := Lib.hid (fun y d e => by rw [hNd.out]; exact (hD.lt y d e).2)
  have hSt := Lib.hid (fun m w (hm : m < N) => riState_any n m w (by omega) (by omega))
  rw [← hNd.out] at hFar hdone
  generalize ST n x = s at *
  generalize kD n (fkS ks) x = D at *
  clear h hx hn hG hz hK hD ha
  go_enter Tryd.func17, Tryd.ntmps17
  go_wp2_with fail
  refine hA.out.mono ?_; rintro e w' ⟨rfl, rfl⟩
  go_wp2_with fail
  refine hFar.out.mono ?_; rintro e w5 ⟨gm, gw, rfl, ho5, hb5⟩
  have hcell := Lib.hid (fun y (hy : y < N) wr (hb : Below w5.heap.size w5 wr) => show wr.cell? ⟨gm, y, none⟩ = some (.int .i64 (fI (D (gray y)))) by
    rw [hb.cell (p := ⟨gm, y, none⟩) (ho5.lt gm rfl).2]
    have := (ho5.cell (by simp) y (by simpa using hy)).1
    simpa using this)
  replace hb5 := Lib.hid hb5
  clear ho5
  go_wp2_with fail
  go_loopw [9, 10, 27] (fun b m i wr => ∃ (k M : Nat) (t : ByteArray), k ≤ N ∧ M ≤ N ∧ i = .int .i64 k ∧ b = .string t ∧ m = .int .i64 (M : Int) ∧ Hid (BestTo n D k M t) ∧ Hid (Below w5.heap.size w5 wr)) (fun _ _ i _ => N - (intOf i).toNat)
  case atStart => exact ⟨0, 0, s, Nat.zero_le _, Nat.zero_le _, rfl, rfl, rfl, h0, Lib.hid (Below.refl _ _)⟩
  case round =>
    obtain ⟨k, M, t, hk, hM, rfl, rfl, rfl, hB, hbr⟩ := hrel
    rename World => wA
    by_cases hlt : k < N
    · have c0 := hcell.out k hlt wA hbr.out
      have hStk := Lib.hid (fun w => hSt.out k w hlt)
      have hkn : Hid (k < 2 ^ n) := Lib.hid (by rw [← hNd.out]; exact hlt)
      obtain ⟨tx, htx⟩ : ∃ tx, Hid (tx = ST n (gray k)) := ⟨_, Lib.hid rfl⟩
      rw [← htx.out] at hStk
      cases hd : D (gray k) with
      | none =>
        rw [hd] at c0
        replace c0 : wA.cell? ⟨gm, k, none⟩ = some (.int .i64 (-1)) := c0
        have f1 : decide ((M : Int) < -1) = false := by rw [decide_eq_false_iff_not]; omega
        have f2 : ((-1 : Int) == (M : Int)) = false := by rw [beq_eq_false_iff_ne]; omega
        have hB2 := Lib.hid (hB.out.keep (fun d e => by rw [hd] at e; cases e))
        clear hd
        go_wp2_with fail
        refine (hStk.out _).mono ?_; rintro e w6 ⟨rfl, q, rfl⟩
        have hb6 := Lib.hid (below_drewN hbr.out q)
        go_wp2_with fail
        go_roundw
        case rel => exact ⟨k + 1, M, t, by omega, hM, by go_num, rfl, rfl, hB2, hb6⟩
        all_goals (simp [intOf] <;> omega)
      | some d =>
        rw [hd] at c0
        replace c0 : wA.cell? ⟨gm, k, none⟩ = some (.int .i64 (d : Int)) := c0
        have hdN' := hdN.out _ d hd
        by_cases h1 : M < d
        · have f1 : decide ((M : Int) < (d : Int)) = true := by simp; omega
          have hB2 := Lib.hid (hB.out.more hkn.out hd h1)
          rw [← htx.out] at hB2
          clear hd
          go_wp2_with fail
          refine (hStk.out _).mono ?_; rintro e w6 ⟨rfl, q, rfl⟩
          have hb6 := Lib.hid (below_drewN hbr.out q)
          go_wp2_with fail
          go_roundw
          case rel => exact ⟨k + 1, d, tx, by omega, by omega, by go_num, rfl, rfl, hB2, hb6⟩
          all_goals (simp [intOf] <;> omega)
        · have f1 : decide ((M : Int) < (d : Int)) = false := by simp; omega
          by_cases h3 : d = M
          · subst h3
            have f2 : ((d : Int) == (d : Int)) = true := by simp
            cases hbl : bl tx t with
            | true =>
              have f3 : Op.bytesLess tx.toList t.toList = true := hbl
              have hB2 := Lib.hid (hB.out.first hkn.out hd (by rw [← htx.out]; exact hbl))
              rw [← htx.out] at hB2
              clear hd hbl
              go_wp2_with fail
              refine (hStk.out _).mono ?_; rintro e w6 ⟨rfl, q, rfl⟩
              have hb6 := Lib.hid (below_drewN hbr.out q)
              go_wp2_with fail
              go_roundw
              case rel => exact ⟨k + 1, d, tx, by omega, by omega, by go_num, rfl, rfl, hB2, hb6⟩
              all_goals (simp [intOf] <;> omega)
            | false =>
              have f3 : Op.bytesLess tx.toList t.toList = false := hbl
              have hB2 := Lib.hid (hB.out.keep (fun d' e => by rw [hd] at e; have := Option.some.inj e; exact .inr ⟨by omega, by rw [← htx.out]; exact hbl⟩))
              clear hd hbl
              go_wp2_with fail
              refine (hStk.out _).mono ?_; rintro e w6 ⟨rfl, q, rfl⟩
              have hb6 := Lib.hid (below_drewN hbr.out q)
              go_wp2_with fail
              go_roundw
              case rel => exact ⟨k + 1, d, t, by omega, by omega, by go_num, rfl, rfl, hB2, hb6⟩
              all_goals (simp [intOf] <;> omega)
          · have f2 : ((d : Int) == (M : Int)) = false := by simp; omega
            have hB2 := Lib.hid (hB.out.keep (fun d' e => by rw [hd] at e; have := Option.some.inj e; exact .inl (by omega)))
            clear hd
            go_wp2_with fail
            refine (hStk.out _).mono ?_; rintro e w6 ⟨rfl, q, rfl⟩
            have hb6 := Lib.hid (below_drewN hbr.out q)
            go_wp2_with fail
            go_roundw
            case rel => exact ⟨k + 1, M, t, by omega, by omega, by go_num, rfl, rfl, hB2, hb6⟩
            all_goals (simp [intOf] <;> omega)
    · obtain rfl : k = N := by omega
      have hBB := hdone.out M t hB.out
      go_wp2_with fail
      go_ret3; exact ⟨M, t, hBB, rfl, bt1 hb5.out hbr.out⟩
set_option maxHeartbeats 1000000 in
theorem minT_any (g c n : Nat) (zs : List ByteArray) (B : Nat) (w : World) (h0 : 0 < n) (hn : zs.length = n) (hN : n ≤ 1024) (ho : OwnT w B (.slice (some ⟨g, 0, none⟩) n c) zs) :
    Calls Tryd.prog 46 #[.slice (some ⟨g, 0, none⟩) n c] w fun e w' => e = .returned (.string (Lib.minOfS zs)) ∧ w = w' := by
  have hmx : ∀ (w : World) (ts : Array TypeId) (t : TypeId) (x y : ByteArray), (Builtin.min_ ts t #[.string x, .string y]).run Tryd.prog w = .ok (.string (Lib.minS x y)) w := Lib.run_min_strs
  have hc := Lib.hid (fun k (hk : k < zs.length) => (ho.cell hn k hk).1)
  have c0 := hc.out 0 (by omega)
  have h1 : Hid (Lib.minOfS (zs.take 1) = zs[0]) := Lib.hid (by rw [Lib.minOfS_one]; exact getD_at zs 0 _ _)
  have hst : Hid (∀ k, 0 < k → (hk : k < zs.length) → Lib.minOfS (zs.take (k + 1)) = Lib.minS (Lib.minOfS (zs.take k)) zs[k]) := Lib.hid (fun k h0 hk => by rw [Lib.minOfS_step zs k h0 hk, getD_at zs k _ hk])
  have hfin : Hid (Lib.minOfS (zs.take n) = Lib.minOfS zs) := Lib.hid (by rw [List.take_of_length_le (by omega)])
  obtain ⟨G, hG⟩ : ∃ G : Nat → ByteArray, G = fun k => Lib.minOfS (zs.take k) := ⟨_, rfl⟩
  have h1' : Hid (G 1 = zs[0]) := Lib.hid (by rw [hG]; exact h1.out)
  have hst' : Hid (∀ k, 0 < k → (hk : k < zs.length) → G (k + 1) = Lib.minS (G k) zs[k]) := Lib.hid (by rw [hG]; exact hst.out)
  have hfin' : Hid (G n = Lib.minOfS zs) := Lib.hid (by rw [hG]; exact hfin.out)
  clear h1 hst hfin hG ho
  generalize Lib.minOfS zs = R at *
  obtain ⟨z0, hz0⟩ : ∃ z, Hid (z = zs[0]) := ⟨_, Lib.hid rfl⟩
  rw [← hz0.out] at c0 h1'
  replace hn := Lib.hid hn
  go_enter Tryd.func46, Tryd.ntmps46
  go_wp2_with fail
  go_loop [3, 4] (fun m i => ∃ k : Nat, 0 < k ∧ k ≤ n ∧ i = .int .i64 k ∧ m = .string (G k)) (fun _ i => n - (intOf i).toNat)
  case atStart => exact ⟨1, by omega, by omega, rfl, by rw [h1'.out]⟩
  case round =>
    obtain ⟨k, hk0, hk, rfl, rfl⟩ := hrel
    by_cases hlt : k < n
    · have hkx : k < zs.length := by rw [hn.out]; exact hlt
      have ck := hc.out k hkx
      have hS := Lib.hid (hst'.out k hk0 hkx)
      generalize zs[k] = z at *
      clear c0
      go_wp2_with fail
      go_round
      case rel => exact ⟨k + 1, by omega, by omega, by go_num, by rw [hS.out]⟩
      all_goals (simp [intOf] <;> omega)
    · obtain rfl : k = n := by omega
      clear c0
      go_wp2_with fail
      go_ret; exact ⟨ret_str hfin'.out, rfl⟩
/-- the texts of the farthest ones among the first states that are found -/
def ftL (n M : Nat) (R : List (Nat × Nat)) (SL : List Nat) (k : Nat) : List ByteArray := ((SL.take k).filter fun s => (R.getD s (0, 0)).1 == M).map (ST n)
theorem ftL_yes (n M : Nat) (R : List (Nat × Nat)) (SL : List Nat) (k : Nat) (hk : k < SL.length) (hs : SL[k] < R.length) (h : R[SL[k]].1 = M) : ftL n M R SL (k + 1) = ftL n M R SL k ++ [ST n SL[k]] := by
  unfold ftL
  rw [List.take_succ_eq_append_getElem hk, List.filter_append, List.filter_cons_of_pos (by rw [getD_at R _ _ hs]; simpa using h)]; simp
theorem ftL_no (n M : Nat) (R : List (Nat × Nat)) (SL : List Nat) (k : Nat) (hk : k < SL.length) (hs : SL[k] < R.length) (h : R[SL[k]].1 ≠ M) : ftL n M R SL (k + 1) = ftL n M R SL k := by
  unfold ftL
  rw [List.take_succ_eq_append_getElem hk, List.filter_append, List.filter_cons_of_neg (by rw [getD_at R _ _ hs]; simpa using h)]; simp
theorem ftL_len (n M : Nat) (R : List (Nat × Nat)) (SL : List Nat) (k : Nat) : (ftL n M R SL k).length ≤ k := by
  unfold ftL
  rw [List.length_map]
  have := List.length_filter_le (fun s => (R.getD s (0, 0)).1 == M) (SL.take k)
  have := List.length_take_le k SL
  omega
theorem ft_best (n x : Nat) (fk : Nat → Nat → Bool) (D : Nat → Option Nat) (R : List (Nat × Nat)) (hD : Dst n fk x D) (hl : R.length = 2 ^ n) (hR : ∀ s (hl : s < R.length), (∀ m, D s = some m → R[s].1 = m ∧ 1 ≤ R[s].2 ∧ R[s].2 ≤ 9223372036854775808) ∧ (D s = none → R[s] = (0, 0))) :
    ftL n (fmax (R.map (·.1))) R (stL R (2 ^ n)) (stL R (2 ^ n)).length ≠ [] ∧ Best n D (fmax (R.map (·.1))) (Lib.minOfS (ftL n (fmax (R.map (·.1))) R (stL R (2 ^ n)) (stL R (2 ^ n)).length)) := by
  obtain ⟨M, hM⟩ : ∃ M, M = fmax (R.map (·.1)) := ⟨_, rfl⟩
  rw [← hM]
  have hex : ∃ y, y < 2 ^ n ∧ D y = some M := by
    rcases fmax_at (R.map (·.1)) with e | e
    · exact ⟨x, (hD.lt x 0 hD.zero).1, by rw [hM, e]; exact hD.zero⟩
    · obtain ⟨r, hr, e2⟩ := List.mem_map.1 e
      obtain ⟨t, ht, rfl⟩ := List.getElem_of_mem hr
      cases hd : D t with
      | none =>
        rw [(hR t ht).2 hd] at e2
        exact ⟨x, (hD.lt x 0 hD.zero).1, by rw [hM, ← e2]; exact hD.zero⟩
      | some m =>
        rw [((hR t ht).1 m hd).1] at e2
        exact ⟨t, by omega, by rw [hM, ← e2]; exact hd⟩
  have htop : ∀ y d, D y = some d → d ≤ M := fun y d e => by
    have hy : y < R.length := by rw [hl]; exact (hD.lt y d e).1
    rw [hM, ← ((hR y hy).1 d e).1]
    exact fmax_le _ _ (List.mem_map.2 ⟨R[y], List.getElem_mem hy, rfl⟩)
  have hmem : ∀ t, t ∈ ftL n M R (stL R (2 ^ n)) (stL R (2 ^ n)).length ↔ ∃ y, y < 2 ^ n ∧ D y = some M ∧ t = ST n y := fun t => by
    unfold ftL
    rw [List.take_length, List.mem_map]
    constructor
    · rintro ⟨y, hy, rfl⟩
      rw [List.mem_filter] at hy
      unfold stL at hy
      rw [List.mem_filter, List.mem_range] at hy
      have hyl : y < R.length := by rw [hl]; exact hy.1.1
      rw [getD_at R y _ hyl] at hy
      refine ⟨y, hy.1.1, ?_, rfl⟩
      cases hd : D y with
      | none => rw [(hR y hyl).2 hd] at hy; simp at hy
      | some m =>
        have := ((hR y hyl).1 m hd).1
        have h2 : R[y].1 = M := by simpa using hy.2
        rw [← h2, this]
    · rintro ⟨y, hy, hd, rfl⟩
      have hyl : y < R.length := by rw [hl]; exact hy
      obtain ⟨a1, a2, _⟩ := (hR y hyl).1 M hd
      refine ⟨y, List.mem_filter.2 ⟨?_, by rw [getD_at R y _ hyl, a1]; simp⟩, rfl⟩
      unfold stL
      exact List.mem_filter.2 ⟨List.mem_range.2 hy, by rw [getD_at R y _ hyl]; simp; omega⟩
  have hne : ftL n M R (stL R (2 ^ n)) (stL R (2 ^ n)).length ≠ [] := by
    obtain ⟨y, hy, hd⟩ := hex
    intro e
    have := (hmem (ST n y)).2 ⟨y, hy, hd, rfl⟩
    rw [e] at this; cases this
  obtain ⟨m1, m2⟩ := minOf_spec _ hne
  refine ⟨hne, htop, (hmem _).1 m1, fun y hy hd => m2 _ ((hmem _).2 ⟨y, hy, hd, rfl⟩)⟩
theorem iFB_no (v : Value) (ks : List ByteArray) (s : ByteArray) (w : World) (hz : ∀ s ∈ ks, s.size ≤ maxLen) (hs : s.size ≤ maxLen) (h : RdT w v ks) (hT : TabOk w) (hno : askK ks s = false) :
    Calls Tryd.prog 18 #[v, .string s] w fun e w' => e = .returned (.tuple #[.string ⟨#[]⟩, .int .i64 0, .bool false]) ∧ Below w.heap.size w w' := by
  have hA := Lib.hid (keyedBar_no v ks s w hz hs h hT hno)
  rw [← bz0] at hA
  go_enter Tryd.func18, Tryd.ntmps18
  go_wp2_with fail
  refine hA.out.mono ?_; rintro e w' ⟨rfl, hb⟩
  go_wp2_with fail
  go_ret3; exact ⟨rfl, hb.alloc hb.size _⟩
set_option maxRecDepth 100000 in
set_option maxHeartbeats 2000000 in
theorem iFB_yes (v : Value) (ks : List ByteArray) (n x : Nat) (w : World) (hz : ∀ s ∈ ks, s.size ≤ maxLen) (h : RdT w v ks) (hT : TabOk w) (h1 : 1 ≤ n) (h2 : n ≤ 10) (hx : x < 2 ^ n) (hn : ks.length = n) (hG : goodK ks = true) :
    Calls Tryd.prog 18 #[v, .string (ST n x)] w fun e w' => ∃ (M : Nat) (t : ByteArray), Best n (kD n (fkS ks) x) M t ∧ e = .returned (.tuple #[.string t, .int .i64 (M : Int), .bool true]) ∧ Below w.heap.size w w' := by
  have hA := Lib.hid (keyedBar_yes v ks n x w hz h hT h1 h2 hx hn hG)
  have hSe := Lib.hid (fun u B w ho => search_any u ks B n x w ho h1 h2 hx hn hG)
  obtain ⟨N, hNd⟩ : ∃ N, Hid (N = 2 ^ n) := ⟨_, Lib.hid rfl⟩
  have hN : N ≤ 1024 := by rw [hNd.out]; exact Nat.pow_le_pow_right (n := 2) (by decide) h2
  have hSt := Lib.hid (fun u B R w ho (hl : R.length = N) => statesIn_any u B N R w ho hl hN)
  have hMM := Lib.hid (fun v B R w ho (hl : R.length = N) => mostMoves_any v B N R w ho hl hN)
  have hK := keys_keyd ks hG
  rw [hn] at hK
  have hFT := Lib.hid (fun R hl hR => ft_best n x (fkS ks) (kD n (fkS ks) x) R (hK.dst hx) hl hR)
  have hNB := Lib.hid (fun s w (hs : s < N) hT => newBar_any n s w (by omega) hT)
  have hTX := Lib.hid (fun s w (hs : s < N) => text_any n s w (by omega) (by omega))
  rw [← hNd.out] at hSe hFT
  generalize kD n (fkS ks) x = D at *
  generalize ks.map kp = KL at *
  generalize ST n x = s at *
  replace hT := Lib.hid hT
  clear h hz hx hn hG hK
  go_enter Tryd.func18, Tryd.ntmps18
  go_wp2_with fail
  refine hA.out.mono ?_; rintro e w3 ⟨u, rfl, ho, hb⟩
  replace ho := Lib.hid ho
  replace hb := Lib.hid hb
  obtain ⟨w4, hw4⟩ : ∃ w4, Hid (w4 = w3.alloc (.cells #[.int .i64 ((ctz x : Nat) : Int), .bool (onB x), .int .i64 (n : Int), .int .u64 (x : Int)] 58)) := ⟨_, Lib.hid rfl⟩
  have hb4 := Lib.hid (show Below w3.heap.size w3 w4 by rw [hw4.out]; exact ba1 w3 _)
  have X4 := Lib.hid (show w4.heap[w3.heap.size]? = some (.cells #[.int .i64 ((ctz x : Nat) : Int), .bool (onB x), .int .i64 (n : Int), .int .u64 (x : Int)] 58) by rw [hw4.out]; exact hb_new _ _)
  have hM4 := Lib.hid (hSe.out u _ w4 (ho.out.below hb4.out))
  go_wp2_with fail
  rw [← hw4.out]
  refine hM4.out.mono ?_; rintro e w5 ⟨u5, R, rfl, ho5, hRl, hRR, hb5⟩
  obtain ⟨hne, hBest⟩ := hFT.out R hRl hRR
  replace hne := Lib.hid hne
  replace hBest := Lib.hid hBest
  have X5 := Lib.hid (hb_below hb5 (hb_lt X4.out) X4.out)
  have hS5 := Lib.hid (fun w' (hb : Below w5.heap.size w5 w') => hSt.out u5 _ R w' (ho5.below hb) hRl)
  have hM5 := Lib.hid (hMM.out u5 _ R w5 ho5 hRl)
  obtain ⟨p5, c5, rfl, hc5⟩ := kw_rd (w' := w5) ho5
  replace hc5 := Lib.hid hc5
  rw [hRl] at hS5 hM5 ⊢
  replace hb5 := Lib.hid (bt1 (bt1 hb.out hb4.out) hb5)
  clear hRR ho5
  generalize fmax (R.map (·.1)) = M at *
  go_wp2_with fail
  refine hM5.out.mono ?_; rintro e w6 ⟨rfl, hb6⟩
  have hS6 := Lib.hid (hS5.out w6 hb6)
  have X6 := Lib.hid (hb_below hb6 (hb_lt X5.out) X5.out)
  go_wp2_with fail
  refine hS6.out.mono ?_; rintro e w7 ⟨u7, rfl, ho7, hb7⟩
  obtain ⟨SL, hSL⟩ : ∃ SL, Hid (SL = stL R N) := ⟨_, Lib.hid rfl⟩
  rw [← hSL.out] at ho7 hne hBest
  obtain ⟨L, hL⟩ : ∃ L, Hid (SL.length = L) := ⟨_, Lib.hid rfl⟩
  rw [hL.out] at hne hBest
  have hLN : L ≤ 1024 := by have := stL_len R N; rw [← hL.out, hSL.out]; omega
  have hSLt : Hid (∀ k (hk : k < SL.length), SL[k] < N) := Lib.hid (fun k hk => by
    have : SL[k] ∈ stL R N := by rw [← hSL.out]; exact List.getElem_mem hk
    unfold stL at this
    exact List.mem_range.1 (List.mem_filter.1 this).1)
  have X7 := Lib.hid (hb_below hb7 (hb_lt X6.out) X6.out)
  have hb57 := Lib.hid (bt1 hb6 hb7)
  obtain ⟨p7, c7, rfl, hr7⟩ : ∃ p c, u7 = .slice p SL.length c ∧ ∀ w', Below w7.heap.size w7 w' → ∀ k (hk : k < SL.length), ∃ g, p = some ⟨g, 0, none⟩ ∧ w'.cell? ⟨g, k, none⟩ = some (.int .u64 ((SL[k] : Nat) : Int)) := by
    obtain ⟨p, c, rfl, _, hr⟩ := ho7.rd
    refine ⟨p, c, rfl, fun w' hb k hk => ?_⟩
    obtain ⟨g, rfl, hg, hc⟩ := (hr.below hb) (fun e => by rw [e] at hk; simp at hk)
    exact ⟨g, rfl, by have := hc k hk 0 (by decide); simpa [uE] using this⟩
  rw [hL.out]
  replace hr7 := Lib.hid hr7
  have hb07 := Lib.hid (bt1 hb5.out hb57.out)
  clear ho7 hb6 hb7
  go_wp2_with fail
  go_loopw [12, 33] (fun o i wr => ∃ k : Nat, k ≤ L ∧ i = .int .i64 k ∧ Hid (OwnT wr w7.heap.size o (ftL n M R SL k)) ∧ Hid (Below w7.heap.size w7 wr)) (fun _ i _ => L - (intOf i).toNat)
  case atStart => exact ⟨0, Nat.zero_le _, rfl, Lib.hid (OwnT.nil _ _), Lib.hid (Below.refl _ _)⟩
  case round =>
    obtain ⟨k, hk, rfl, hoo, hbr⟩ := hrel
    rename World => wA
    by_cases hlt : k < L
    · have hkx : k < SL.length := by rw [hL.out]; exact hlt
      obtain ⟨g7, rfl, ck⟩ := hr7.out wA hbr.out k hkx
      have hsN := hSLt.out k hkx
      have hsR : SL[k] < R.length := by rw [hRl]; exact hsN
      obtain ⟨g5, rfl, c0, c1⟩ := hc5.out wA (bt1 hb57.out hbr.out) SL[k] hsR
      have hy := Lib.hid (ftL_yes n M R SL k hkx hsR)
      have hno := Lib.hid (ftL_no n M R SL k hkx hsR)
      have hln := ftL_len n M R SL k
      obtain ⟨tx, htx⟩ : ∃ tx, Hid (tx = ST n SL[k]) := ⟨_, Lib.hid rfl⟩
      have hNBk := Lib.hid (fun w hT => hNB.out SL[k] w hsN hT)
      have hTXk := Lib.hid (fun w => hTX.out SL[k] w hsN)
      rw [← htx.out] at hy hTXk
      generalize R[SL[k]].1 = y at *
      generalize R[SL[k]].2 = y2 at *
      generalize SL[k] = sk at *
      have hXA := Lib.hid (hb_below hbr.out (hb_lt X7.out) X7.out)
      have b2 : wA.cell? ⟨w3.heap.size, 2, none⟩ = some (.int .i64 (n : Int)) := hb_cell hXA.out 2
      have hTA := Lib.hid (hT.out.below (bt1 hb07.out hbr.out))
      by_cases hyM : y = M
      · subst hyM
        have hS := Lib.hid (hy.out rfl)
        have hq : ((y : Int) == (y : Int)) = true := by simp
        clear c1
        go_wp2_with fail
        refine (hNBk.out _ ?_).mono ?_
        · exact hTA.out
        rintro e w8 ⟨rfl, hb8⟩
        have ho8 := Lib.hid (hoo.out.below hb8)
        replace hb8 := Lib.hid (bt1 hbr.out hb8)
        go_wp2_with fail
        refine (hTXk.out _).mono ?_; rintro e w9 ⟨rfl, hb9⟩
        have ho9 := Lib.hid (ho8.out.below hb9)
        replace hb9 := Lib.hid (bt1 hb8.out hb9)
        have hs9 := hb9.out.size
        go_wp2_with (at_builtin; refine app_txt _ rfl _ _ rfl w7.heap.size _ _ rfl (ho9.out.alloc _) w9.heap.size tx rfl (by simp) (by omega) (by simp; omega) ?_; intro v' w10 ho10 hg10; have hb10 := Lib.hid (bel_ownT (hb9.out.alloc hb9.out.size _) (ho9.out.alloc _) hg10 (by simp; omega)); replace ho10 := Lib.hid ho10; clear hg10)
        go_roundw
        case rel => exact ⟨k + 1, by omega, by go_num, Lib.hid (by rw [hS.out]; exact ho10.out), hb10⟩
        all_goals (simp [intOf] <;> omega)
      · have hS := Lib.hid (hno.out hyM)
        have hq : ((y : Int) == (M : Int)) = false := by simp; omega
        clear c1
        go_wp2_with fail
        go_roundw
        case rel => exact ⟨k + 1, by omega, by go_num, Lib.hid (by rw [hS.out]; exact hoo.out), hbr⟩
        all_goals (simp [intOf] <;> omega)
    · obtain rfl : k = L := by omega
      rcases hoo.out.form with ⟨_, e⟩ | ⟨g, cap, rfl, -, -, -, -, -⟩
      · exact absurd e hne.out
      obtain ⟨z, hz⟩ : ∃ z, Hid ((ftL n M R SL k).length = z) := ⟨_, Lib.hid rfl⟩
      have hz0 : 0 < z := by rw [← hz.out]; exact List.length_pos_iff.2 hne.out
      have hzk : z ≤ 1024 := by have := ftL_len n M R SL k; rw [← hz.out]; omega
      rw [hz.out] at hoo ⊢
      have hMin := Lib.hid (minT_any g cap z _ _ _ hz0 hz.out hzk hoo.out)
      generalize Lib.minOfS (ftL n M R SL k) = t at *
      clear hoo
      go_wp2_with fail
      refine hMin.out.mono ?_; rintro e w8 ⟨rfl, rfl⟩
      go_wp2_with fail
      go_ret3; exact ⟨M, t, hBest.out, rfl, bt1 hb07.out hbr.out⟩
theorem FarthestByKeys_both (ks : List ByteArray) (hz : ∀ s ∈ ks, s.size ≤ maxLen) (s : ByteArray) (hs : s.size ≤ maxLen) : ∃ (r0 : ByteArray) (r1 : Int) (r2 : Bool),
    (∀ w v, RdT w v ks → Calls Tryd.prog 17 #[v, .string s] w fun e w' => e = .returned (.tuple #[.string r0, .int .i64 r1, .bool r2]) ∧ Below w.heap.size w w') ∧
    (∀ w v, TabOk w → RdT w v ks → Calls Tryd.prog 18 #[v, .string s] w fun e w' => e = .returned (.tuple #[.string r0, .int .i64 r1, .bool r2]) ∧ Below w.heap.size w w') := by
  rcases key_cases ks s with ha | ⟨n, x, h1, h2, hx, hn, hG, rfl, ha⟩
  · exact ⟨⟨#[]⟩, 0, false, fun w v h => sFB_no v ks s w hz hs h ha, fun w v hT h => iFB_no v ks s w hz hs h hT ha⟩
  · obtain ⟨M, t, hB⟩ : ∃ M t, Best n (kD n (fkS ks) x) M t := by
      have hK := keys_keyd ks hG
      rw [hn] at hK
      exact best_ex (hK.dst hx)
    refine ⟨t, (M : Int), true, fun w v h => ?_, fun w v hT h => ?_⟩
    · refine (sFB_yes v ks n x w hz h h2 hx hn hG ha).mono ?_
      rintro e w' ⟨M', t', hB', rfl, hb⟩
      obtain ⟨rfl, rfl⟩ := hB'.uniq hB
      exact ⟨rfl, hb⟩
    · refine (iFB_yes v ks n x w hz h hT h1 h2 hx hn hG).mono ?_
      rintro e w' ⟨M', t', hB', rfl, hb⟩
      obtain ⟨rfl, rfl⟩ := hB'.uniq hB
      exact ⟨rfl, hb⟩
end Go.Proofs.YtcfeaaakfjilgabDoor
