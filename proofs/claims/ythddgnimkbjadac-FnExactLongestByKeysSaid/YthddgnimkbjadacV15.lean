/- The greatest number of moves, on both sides: LongestByKeys. -/
import Derived.Test.YthddgnimkbjadacW4
import Derived.Test.YthddgnimkbjadacW7
namespace Go.Proofs.Ythddgnimkbjadac
set_option linter.unusedSimpArgs false
set_option linter.unusedVariables false
open Go Go.RowKit RM
def fmax (l : List Nat) : Nat := l.foldl max 0
theorem fmax_snoc (l : List Nat) (a : Nat) : fmax (l ++ [a]) = max (fmax l) a := by simp [fmax]
theorem fmax_le (l : List Nat) : ∀ a ∈ l, a ≤ fmax l := by
  induction l using revRec with
  | nil => intro a h; cases h
  | append_singleton l b ih =>
    intro a h
    rw [fmax_snoc]
    rcases List.mem_append.1 h with h | h
    · have := ih a h; omega
    · have := List.mem_singleton.1 h; omega
theorem fmax_at (l : List Nat) : fmax l = 0 ∨ fmax l ∈ l := by
  induction l using revRec with
  | nil => exact .inl rfl
  | append_singleton l b ih =>
    rw [fmax_snoc]
    by_cases h : b ≤ fmax l
    · rw [Nat.max_eq_left h]
      rcases ih with ih | ih
      · exact .inl ih
      · exact .inr (List.mem_append_left _ ih)
    · rw [Nat.max_eq_right (by omega)]; exact .inr (by simp)
/-- the greatest of the numbers from the states of a set -/
structure Sup (n : Nat) (D : Nat → Nat → Option Nat) (P : Nat → Prop) (M : Nat) : Prop where
  le : ∀ x t d, x < 2 ^ n → P x → D x t = some d → d ≤ M
  at_ : M = 0 ∨ ∃ x t, x < 2 ^ n ∧ D x t = some M
theorem Sup.row {n m M A : Nat} {D : Nat → Nat → Option Nat} {P P' : Nat → Prop} (h : Sup n D P M) (hm : m < 2 ^ n) (hP : ∀ x, P' x → P x ∨ x = m) (h1 : ∀ t d, D m t = some d → d ≤ A) (h2 : A = 0 ∨ ∃ t, D m t = some A) : Sup n D P' (max M A) := by
  refine ⟨fun x t d hx hp e => ?_, ?_⟩
  · rcases hP x hp with hp | rfl
    · have := h.le x t d hx hp e; omega
    · have := h1 t d e; omega
  · by_cases hc : A ≤ M
    · rw [Nat.max_eq_left hc]; exact h.at_
    · rw [Nat.max_eq_right (by omega)]
      rcases h2 with h2 | ⟨t, h2⟩
      · exact .inl h2
      · exact .inr ⟨m, t, hm, h2⟩
theorem Sup.uniq {n M M' : Nat} {D : Nat → Nat → Option Nat} {P P' : Nat → Prop} (h : Sup n D P M) (h' : Sup n D P' M') (hP : ∀ x, x < 2 ^ n → P x) (hP' : ∀ x, x < 2 ^ n → P' x) : M = M' := by
  apply Nat.le_antisymm
  · rcases h.at_ with e | ⟨x, t, hx, e⟩
    · omega
    · exact h'.le x t M hx (hP' x hx) e
  · rcases h'.at_ with e | ⟨x, t, hx, e⟩
    · omega
    · exact h.le x t M' hx (hP x hx) e
theorem sup_zero {n : Nat} {D : Nat → Nat → Option Nat} {P : Nat → Prop} (h : ∀ x, ¬ P x) : Sup n D P 0 := ⟨fun x _ _ _ hp _ => absurd hp (h x), .inl rfl⟩
theorem fI_max (M : Nat) (o : Option Nat) : max (M : Int) (fI o) = ((max M (o.getD 0) : Nat) : Int) := by
  cases o with
  | none => show max (M : Int) (-1) = ((max M 0 : Nat) : Int); omega
  | some d => show max (M : Int) (d : Int) = ((max M d : Nat) : Int); omega
theorem kw_rd {w w' : World} {B : Nat} {v : Value} {R : List (Nat × Nat)} (h : OwnG kwE w B v R) : ∃ p c, v = .slice p R.length c ∧ ∀ w', Below w.heap.size w w' → ∀ k (hk : k < R.length), ∃ g, p = some ⟨g, 0, none⟩ ∧ w'.cell? ⟨g, k * 2, none⟩ = some (.int .i64 ((R[k].1 : Nat) : Int)) ∧ w'.cell? ⟨g, k * 2 + 1, none⟩ = some (.int .u64 ((R[k].2 : Nat) : Int)) := by
  obtain ⟨p, c, rfl, _, hr⟩ := h.rd
  refine ⟨p, c, rfl, fun w' hb k hk => ?_⟩
  obtain ⟨g, rfl, _, hc⟩ := (hr.below hb) (fun e => by rw [e] at hk; cases hk)
  exact ⟨g, rfl, hc k hk 0 (by decide), hc k hk 1 (by decide)⟩
set_option maxHeartbeats 1000000 in
theorem mostMoves_any (u : Value) (B N : Nat) (R : List (Nat × Nat)) (w : World) (h : OwnG kwE w B u R) (hN : R.length = N) (hN2 : N ≤ 1024) :
    Calls Try.prog 29 #[u] w fun e w' => e = .returned (.int .i64 ((fmax (R.map (·.1)) : Nat) : Int)) ∧ Below w.heap.size w w' := by
  obtain ⟨p, c, rfl, hc⟩ := kw_rd (w' := w) h
  replace hc := Lib.hid hc
  obtain ⟨F, hF⟩ : ∃ F : Nat → Nat, F = fun k => fmax ((R.take k).map (·.1)) := ⟨_, rfl⟩
  have hFs : Hid (∀ k (hk : k < R.length), F (k + 1) = max (F k) R[k].1) := Lib.hid (fun k hk => by
    rw [hF]
    show fmax ((R.take (k + 1)).map (·.1)) = max (fmax ((R.take k).map (·.1))) R[k].1
    rw [List.take_succ_eq_append_getElem hk, List.map_append, List.map_cons, List.map_nil, fmax_snoc])
  have hF0 : F 0 = 0 := by rw [hF]; rfl
  have hFN : fmax (R.map (·.1)) = F N := by rw [hF]; show _ = fmax ((R.take N).map (·.1)); rw [← hN, List.take_length]
  rw [hFN, hN]
  replace hN := Lib.hid hN
  clear hF hFN h
  go_enter Try.func29, Try.ntmps29
  go_wp2_with fail
  go_loopw [3, 8] (fun m i wr => ∃ k : Nat, k ≤ N ∧ i = .int .i64 k ∧ m = .int .i64 ((F k : Nat) : Int) ∧ Hid (Below w.heap.size w wr)) (fun _ i _ => N - (intOf i).toNat)
  case atStart => exact ⟨0, Nat.zero_le _, rfl, by rw [hF0]; rfl, Lib.hid (Below.refl _ _)⟩
  case round =>
    obtain ⟨k, hk, rfl, rfl, hb⟩ := hrel
    rename World => wA
    by_cases hlt : k < N
    · have hkx : k < R.length := by rw [hN.out]; exact hlt
      obtain ⟨g, rfl, c0, c1⟩ := hc.out wA hb.out k hkx
      have hS := Lib.hid (hFs.out k hkx)
      generalize R[k].1 = y at *
      generalize R[k].2 = y2 at *
      have hmx : max ((F k : Nat) : Int) (y : Int) = ((max (F k) y : Nat) : Int) := by omega
      have hb5 := Lib.hid (bt1 hb.out (ba1 wA (.cells #[.int .i64 (y : Int), .int .u64 (y2 : Int)] 74)))
      go_wp2_with fail
      go_roundw
      case rel => exact ⟨k + 1, by omega, by go_num, by rw [hS.out], hb5⟩
      all_goals (simp [intOf] <;> omega)
    · obtain rfl : k = N := by omega
      go_wp2_with fail
      go_ret; exact ⟨rfl, hb.out⟩
theorem iLK_no (v : Value) (ks : List ByteArray) (w : World) (hz : ∀ s ∈ ks, s.size ≤ maxLen) (h : RdT w v ks) (hG : goodK ks = false) :
    Calls Try.prog 11 #[v] w fun e w' => e = .returned (.tuple #[.int .i64 0, .bool false]) ∧ Below w.heap.size w w' := by
  have hA := Lib.hid (keyringOf_any v ks w hz h)
  rw [hG] at hA
  go_enter Try.func11, Try.ntmps11
  go_wp2_with fail
  refine hA.out.mono ?_; rintro e w' ⟨u, rfl, -, hb⟩
  go_wp2_with fail
  go_ret2; exact ⟨rfl, hb⟩
set_option maxHeartbeats 1000000 in
theorem iLK_yes (v : Value) (ks : List ByteArray) (n : Nat) (w : World) (hz : ∀ s ∈ ks, s.size ≤ maxLen) (h : RdT w v ks) (hn : ks.length = n) (h1 : 1 ≤ n) (h2 : n ≤ 10) (hG : goodK ks = true) :
    Calls Try.prog 11 #[v] w fun e w' => ∃ M : Nat, Sup n (kD n (fkS ks)) (fun x => x < 2 ^ n) M ∧ e = .returned (.tuple #[.int .i64 (M : Int), .bool true]) ∧ Below w.heap.size w w' := by
  have hA := Lib.hid (keyringOf_any v ks w hz h)
  rw [hG, if_pos rfl] at hA
  have hK := keys_keyd ks hG
  rw [hn] at hK
  obtain ⟨N, hNd⟩ : ∃ N, Hid (N = 2 ^ n) := ⟨_, Lib.hid rfl⟩
  have hN : N ≤ 1024 := by rw [hNd.out]; exact Nat.pow_le_pow_right (n := 2) (by decide) h2
  have hC := Lib.hid (fun p c w => count_any p n c w h2)
  have hSe := Lib.hid (fun u B x w (ho : OwnG keyE w B u (ks.map kp)) (hx : x < N) => search_any u ks B n x w ho h1 h2 (by rw [← hNd.out]; exact hx) hn hG)
  rw [← hNd.out] at hC
  have hRow : Hid (∀ x (hx : x < N) (M : Nat) (R : List (Nat × Nat)), R.length = 2 ^ n → (∀ s (hl : s < R.length), (∀ m, kD n (fkS ks) x s = some m → R[s].1 = m ∧ 1 ≤ R[s].2 ∧ R[s].2 ≤ 9223372036854775808) ∧ (kD n (fkS ks) x s = none → R[s] = (0, 0))) →
      Sup n (kD n (fkS ks)) (fun y => y < x) M → Sup n (kD n (fkS ks)) (fun y => y < x + 1) (max M (fmax (R.map (·.1))))) := Lib.hid (fun x hx M R hl hR hS => by
    have hx' : x < 2 ^ n := by rw [← hNd.out]; exact hx
    have hD := hK.dst hx'
    refine hS.row hx' (fun y hy => by omega) (fun t d e => ?_) ?_
    · have ht : t < R.length := by rw [hl]; exact (hD.lt t d e).1
      rw [← ((hR t ht).1 d e).1]
      exact fmax_le _ _ (List.mem_map.2 ⟨R[t], List.getElem_mem ht, rfl⟩)
    · rcases fmax_at (R.map (·.1)) with e | e
      · exact .inl e
      · obtain ⟨r, hr, e2⟩ := List.mem_map.1 e
        obtain ⟨t, ht, rfl⟩ := List.getElem_of_mem hr
        cases hd : kD n (fkS ks) x t with
        | none => left; rw [← e2, (hR t ht).2 hd]
        | some m => right; exact ⟨t, by rw [hd, ← e2, ((hR t ht).1 m hd).1]⟩)
  have h0 : Hid (Sup n (kD n (fkS ks)) (fun y => y < 0) 0) := Lib.hid (sup_zero (fun x h => by omega))
  generalize kD n (fkS ks) = D at *
  clear hK hG hz h
  rw [← hNd.out]
  go_enter Try.func11, Try.ntmps11
  go_wp2_with fail
  refine hA.out.mono ?_; rintro e w2 ⟨u, rfl, ho, hb⟩
  obtain ⟨p, c, rfl, -, -⟩ := ho.rd
  rw [List.length_map, hn] at ho ⊢
  replace ho := Lib.hid ho
  replace hb := Lib.hid hb
  go_wp2_with fail
  refine (hC.out _ _ _).mono ?_; rintro e w3 ⟨rfl, rfl⟩
  go_wp2_with fail
  go_loopw [6, 17] (fun m i wr => ∃ k M : Nat, k ≤ N ∧ i = .int .u64 k ∧ m = .int .i64 (M : Int) ∧ Hid (Sup n D (fun y => y < k) M) ∧ Hid (Below w2.heap.size w2 wr)) (fun _ i _ => N - (intOf i).toNat)
  case atStart => exact ⟨0, 0, Nat.zero_le _, rfl, rfl, h0, Lib.hid (Below.refl _ _)⟩
  case round =>
    obtain ⟨k, M, hk, rfl, rfl, hS, hbr⟩ := hrel
    rename World => wA
    by_cases hlt : k < N
    · have hSk := Lib.hid (fun w hw => hSe.out (.slice p n c) w.heap.size k w hw hlt)
      have hoA := Lib.hid (ho.out.below hbr.out)
      go_wp2_with fail
      refine (hSe.out _ _ k wA hoA.out hlt).mono ?_; rintro e w4 ⟨vv, R, rfl, hoR, hRl, hRR, hb4⟩
      have hR' := Lib.hid (hRow.out k hlt M R hRl hRR hS.out)
      have hMM := Lib.hid (mostMoves_any vv _ N R w4 hoR (by rw [hRl, hNd.out]) hN)
      clear hRR hoR
      generalize fmax (R.map (·.1)) = A at *
      replace hb4 := Lib.hid (bt1 hbr.out hb4)
      go_wp2_with fail
      refine hMM.out.mono ?_; rintro e w5 ⟨rfl, hb5⟩
      replace hb5 := Lib.hid (bt1 hb4.out hb5)
      have hmx : max (M : Int) (A : Int) = ((max M A : Nat) : Int) := by omega
      go_wp2_with fail
      go_roundw
      case rel => exact ⟨k + 1, max M A, by omega, by go_num, by rw [← hmx], hR', hb5⟩
      all_goals (simp [intOf] <;> omega)
    · obtain rfl : k = N := by omega
      go_wp2_with fail
      go_ret2; exact ⟨M, hS.out, rfl, bt1 hb.out hbr.out⟩
theorem sup_ex {n : Nat} {D : Nat → Nat → Option Nat} (hlt : ∀ x t d, x < 2 ^ n → D x t = some d → t < 2 ^ n) : ∀ k, k ≤ 2 ^ n → ∃ M, Sup n D (fun x => x < k) M := by
  intro k
  induction k with
  | zero => intro _; exact ⟨0, sup_zero (fun x h => by omega)⟩
  | succ k ih =>
    intro hk
    obtain ⟨M, hM⟩ := ih (by omega)
    refine ⟨_, hM.row (m := k) (by omega) (fun x hx => by omega) (A := fmax ((List.range (2 ^ n)).map fun t => (D k t).getD 0)) (fun t d e => ?_) ?_⟩
    · exact fmax_le _ _ (List.mem_map.2 ⟨t, List.mem_range.2 (hlt k t d (by omega) e), by rw [e]; rfl⟩)
    · rcases fmax_at ((List.range (2 ^ n)).map fun t => (D k t).getD 0) with e | e
      · exact .inl e
      · obtain ⟨t, _, e2⟩ := List.mem_map.1 e
        cases hd : D k t with
        | none => left; rw [← e2, hd]; rfl
        | some d => right; exact ⟨t, by rw [hd, ← e2, hd]; rfl⟩
theorem sLK_no (v : Value) (ks : List ByteArray) (w : World) (hz : ∀ s ∈ ks, s.size ≤ maxLen) (h : RdT w v ks) (hG : goodK ks = false) :
    Calls Try.prog 9 #[v] w fun e w' => e = .returned (.tuple #[.int .i64 0, .bool false]) ∧ Below w.heap.size w w' := by
  have hA := Lib.hid (keGood_any v ks w hz h)
  rw [hG] at hA
  go_enter Try.func9, Try.ntmps9
  go_wp2_with fail
  refine hA.out.mono ?_; rintro e w' ⟨rfl, rfl⟩
  go_wp2_with fail
  go_ret2; exact ⟨rfl, Below.refl _ _⟩
set_option maxHeartbeats 1000000 in
theorem sLK_yes (v : Value) (ks : List ByteArray) (n : Nat) (w : World) (hz : ∀ s ∈ ks, s.size ≤ maxLen) (h : RdT w v ks) (hn : ks.length = n) (h2 : n ≤ 10) (hG : goodK ks = true) :
    Calls Try.prog 9 #[v] w fun e w' => ∃ M : Nat, Sup n (kD n (fkS ks)) (fun x => num x < 2 ^ n) M ∧ e = .returned (.tuple #[.int .i64 (M : Int), .bool true]) ∧ Below w.heap.size w w' := by
  have hA := Lib.hid (keGood_any v ks w hz h)
  rw [hG] at hA
  have hK := keys_keyd ks hG
  rw [hn] at hK
  obtain ⟨N, hNd⟩ : ∃ N, Hid (N = 2 ^ n) := ⟨_, Lib.hid rfl⟩
  have hN : N ≤ 1024 := by rw [hNd.out]; exact Nat.pow_le_pow_right (n := 2) (by decide) h2
  have hX : (2 : Int) ^ n = (N : Int) := by rw [hNd.out]; simp
  have hSt := Lib.hid (fun m w (hm : m < N) => riState_any n m w (by omega) (by omega))
  have hFar := Lib.hid (fun m w' (hb : Below w.heap.size w w') (hm : m < N) => keFar_any v ks n (gray m) w' (h.below hb) h2 (gray_lt n m (by rw [← hNd.out]; exact hm)) hn hG)
  rw [← hNd.out] at hFar
  have hRow : Hid (∀ m (hm : m < N) (M : Nat), Sup n (kD n (fkS ks)) (fun y => num y < m) M → Sup n (kD n (fkS ks)) (fun y => num y < m + 1) (max M (fmax ((List.range N).map fun y => (kD n (fkS ks) (gray m) (gray y)).getD 0)))) := Lib.hid (fun m hm M hS => by
    have hx' : gray m < 2 ^ n := gray_lt n m (by rw [← hNd.out]; exact hm)
    have hD := hK.dst hx'
    refine hS.row hx' (fun y hy => ?_) (fun t d e => ?_) ?_
    · by_cases e : num y = m
      · right; rw [← e, gray_num]
      · left; omega
    · refine fmax_le _ _ (List.mem_map.2 ⟨num t, List.mem_range.2 (by rw [hNd.out]; exact num_lt n t (hD.lt t d e).1), ?_⟩)
      rw [gray_num, e]; rfl
    · rcases fmax_at ((List.range N).map fun y => (kD n (fkS ks) (gray m) (gray y)).getD 0) with e | e
      · exact .inl e
      · obtain ⟨y, _, e2⟩ := List.mem_map.1 e
        cases hd : kD n (fkS ks) (gray m) (gray y) with
        | none => left; rw [← e2, hd]; rfl
        | some d => right; exact ⟨gray y, by rw [hd, ← e2, hd]; rfl⟩)
  have h0 : Hid (Sup n (kD n (fkS ks)) (fun y => num y < 0) 0) := Lib.hid (sup_zero (fun x h => by omega))
  obtain ⟨p, c, rfl, -, -⟩ := h
  rw [hn] at *
  generalize kD n (fkS ks) = D at *
  rw [← hNd.out]
  clear hK hG hz
  have hmx := Lib.hid (fun (M : Nat) o => fI_max M o)
  go_enter Try.func9, Try.ntmps9
  go_wp2_with fail
  refine hA.out.mono ?_; rintro e w2 ⟨rfl, rfl⟩
  go_wp2_with fail
  go_loopw [4, 5] (fun o i wr => ∃ k M : Nat, k ≤ N ∧ i = .int .i64 k ∧ o = .int .i64 (M : Int) ∧ Hid (Sup n D (fun y => num y < k) M) ∧ Hid (Below w.heap.size w wr)) (fun _ i _ => N - (intOf i).toNat)
  case atStart => exact ⟨0, 0, Nat.zero_le _, rfl, rfl, h0, Lib.hid (Below.refl _ _)⟩
  case round =>
    obtain ⟨k, M, hk, rfl, rfl, hS, hbr⟩ := hrel
    rename World => wA
    by_cases hlt : k < N
    · have hR' := Lib.hid (hRow.out k hlt M hS.out)
      have hStk := Lib.hid (fun w => hSt.out k w hlt)
      have hFk := Lib.hid (fun w' hb => hFar.out k w' hb hlt)
      generalize ST n (gray k) = tx at *
      obtain ⟨l, hl⟩ : ∃ l : List Nat, l = (List.range N).map fun y => (D (gray k) (gray y)).getD 0 := ⟨_, rfl⟩
      obtain ⟨G, hG⟩ : ∃ G : Nat → Nat, G = fun y => max M (fmax (l.take y)) := ⟨_, rfl⟩
      have hG0 : Hid (G 0 = M) := Lib.hid (by rw [hG]; show max M (fmax []) = M; exact Nat.max_eq_left (Nat.zero_le _))
      have hGN : Hid (G N = max M (fmax l)) := Lib.hid (by rw [hG]; show max M (fmax (l.take N)) = _; rw [List.take_of_length_le (by rw [hl]; simp)])
      have hGs : Hid (∀ y (hy : y < N), max ((G y : Nat) : Int) (fI (D (gray k) (gray y))) = ((G (y + 1) : Nat) : Int)) := Lib.hid (fun y hy => by
        rw [fI_max]
        congr 1
        have hyl : y < l.length := by rw [hl]; simpa using hy
        rw [hG]
        show max (max M (fmax (l.take y))) _ = max M (fmax (l.take (y + 1)))
        rw [List.take_succ_eq_append_getElem hyl, fmax_snoc, Nat.max_assoc]
        congr 2
        simp [hl])
      rw [← hl] at hR'
      clear hG hl
      go_wp2_with fail
      refine (hStk.out _).mono ?_; rintro e w4 ⟨rfl, qd, rfl⟩
      have hbq := bt1 hbr.out (below_drewN (Below.refl _ _) qd)
      go_wp2_with fail
      refine (hFk.out _ hbq).mono ?_; rintro e w5 ⟨gm, gw, rfl, ho5, hb5⟩
      replace hb5 := Lib.hid (bt1 hbq hb5)
      have hcell := Lib.hid (fun y (hy : y < N) => show w5.cell? ⟨gm, y, none⟩ = some (.int .i64 (fI (D (gray k) (gray y)))) by
        have := (ho5.cell (by simp) y (by simpa using hy)).1
        simpa using this)
      clear ho5 hbq
      go_wp2_with fail
      go_loopw [4, 31] (fun o i wr => ∃ y : Nat, y ≤ N ∧ i = .int .i64 y ∧ o = .int .i64 ((G y : Nat) : Int) ∧ wr = w5) (fun _ i _ => N - (intOf i).toNat)
      case atStart => exact ⟨0, Nat.zero_le _, rfl, by rw [hG0.out], by first | rfl | trivial⟩
      case round =>
        obtain ⟨y, hy, rfl, rfl, rfl⟩ := hrel
        by_cases hyl : y < N
        · have c0 := hcell.out y hyl
          have hMx := Lib.hid (fun w => l1Most_any ((G y : Nat) : Int) (fI (D (gray k) (gray y))) w)
          rw [hGs.out y hyl] at hMx
          generalize fI (D (gray k) (gray y)) = fi at *
          go_wp2_with fail
          refine (hMx.out _).mono ?_; rintro e w6 ⟨rfl, rfl⟩
          go_wp2_with fail
          go_roundw
          case rel => exact ⟨y + 1, by omega, by go_num, by first | rfl | trivial, by first | rfl | trivial⟩
          all_goals (simp [intOf] <;> omega)
        · obtain rfl : y = N := by omega
          go_wp2_with fail
          go_roundw
          case rel => exact ⟨k + 1, _, by omega, by go_num, by rw [hGN.out], hR', hb5⟩
          all_goals (simp [intOf] <;> omega)
    · obtain rfl : k = N := by omega
      go_wp2_with fail
      go_ret2; exact ⟨M, hS.out, rfl, hbr.out⟩
theorem LongestByKeys_both (ks : List ByteArray) (hz : ∀ s ∈ ks, s.size ≤ maxLen) : ∃ (r0 : Int) (r1 : Bool),
    (∀ w v, RdT w v ks → Calls Try.prog 9 #[v] w fun e w' => e = .returned (.tuple #[.int .i64 r0, .bool r1]) ∧ Below w.heap.size w w') ∧
    (∀ w v, RdT w v ks → Calls Try.prog 11 #[v] w fun e w' => e = .returned (.tuple #[.int .i64 r0, .bool r1]) ∧ Below w.heap.size w w') := by
  cases hG : goodK ks with
  | false => exact ⟨0, false, fun w v h => sLK_no v ks w hz h hG, fun w v h => iLK_no v ks w hz h hG⟩
  | true =>
    obtain ⟨h1, h2⟩ := goodK_len ks hG
    have hK := keys_keyd ks hG
    obtain ⟨M, hM⟩ := sup_ex (n := ks.length) (D := kD ks.length (fkS ks)) (fun x t d hx e => ((hK.dst hx).lt t d e).1) (2 ^ ks.length) (Nat.le_refl _)
    refine ⟨(M : Int), true, fun w v h => ?_, fun w v h => ?_⟩
    · refine (sLK_yes v ks _ w hz h rfl h2 hG).mono ?_
      rintro e w' ⟨M', hS, rfl, hb⟩
      obtain rfl := hS.uniq hM (fun x hx => num_lt _ x hx) (fun x hx => hx)
      exact ⟨rfl, hb⟩
    · refine (iLK_yes v ks _ w hz h rfl h1 h2 hG).mono ?_
      rintro e w' ⟨M', hS, rfl, hb⟩
      obtain rfl := hS.uniq hM (fun x hx => hx) (fun x hx => hx)
      exact ⟨rfl, hb⟩
end Go.Proofs.Ythddgnimkbjadac
