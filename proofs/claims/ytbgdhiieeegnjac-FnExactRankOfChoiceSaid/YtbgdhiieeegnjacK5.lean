/- Chapter 2: the rank of a choice, both ways. -/
import Derived.Test.YtbgdhiieeegnjacK4
import Derived.Deep.QuietTactic
import Derived.BigQuiet
namespace Go.Proofs.Ytbgdhiieeegnjac
open Go Go.RowKit RM

/-- a set's rank among the choices of as many numbers, or 0 -/
def rkI (n : Int) (l : List Int) : Int := if setB n l then rkC l l.length else 0

theorem iRankC_no (n : Int) (v : Value) (p : Option Addr) (len cap : Nat) (w : World) (hv : v = .slice p len cap) (hS : Hid (∀ w', w = w' → Calls Try.prog 49 #[.int .i64 n, .slice p len cap] w' fun e w'' => e = .returned (.bool false) ∧ w' = w'')) :
    Calls Try.prog 23 #[.int .i64 n, v] w fun e w' => QI w 0 false e w' := by
  subst hv
  go_enter Try.func23, Try.ntmps23
  go_wp2_with fail
  refine (hS.out _ rfl).mono ?_; rintro e w' ⟨rfl, rfl⟩
  go_wp2_with fail
  go_ret2; exact ⟨rfl, rfl⟩

theorem iRankC_nil (n : Int) (p : Option Addr) (cap : Nat) (w : World) (h1 : 1 ≤ n) (h2 : n ≤ 20) :
    Calls Try.prog 23 #[.int .i64 n, .slice p 0 cap] w fun e w' => QI w 0 true e w' := by
  have hS := Lib.hid fun w => isSet_nil n p cap w h1 h2
  go_enter Try.func23, Try.ntmps23
  go_wp2_with fail
  refine (hS.out _).mono ?_; rintro e w' ⟨rfl, rfl⟩
  go_wp2_with fail
  go_loop [6, 15] (fun b i => i = .int .i64 0 ∧ b = .int .i64 0) (fun _ _ => 0)
  case atStart => exact ⟨rfl, rfl⟩
  case round =>
    obtain ⟨rfl, rfl⟩ := hrel
    go_wp2
    go_ret2; exact ⟨rfl, rfl⟩

theorem iRankC_some (n : Int) (xs : List Int) (b cap len : Nat) (w : World) (h1 : 1 ≤ n) (h2 : n ≤ 20) (hr : Hid (risF n 0 xs = true)) (hlen : len ≤ 20) (hx : Hid (xs.length = len))
    (hc : Hid (∀ i (h : i < xs.length), w.cell? ⟨b, i, none⟩ = some (.int .i64 xs[i]))) :
    Calls Try.prog 23 #[.int .i64 n, .slice (some ⟨b, 0, none⟩) len cap] w fun e w' => QI w (rkC xs len) true e w' := by
  have hS := Lib.hid fun w' (e : w = w') => by
    subst e
    have := isSet_some n xs b cap len w h1 h2 (by omega) hx hc
    rw [hr.out] at this; exact this
  go_enter Try.func23, Try.ntmps23
  go_wp2_with fail
  refine (hS.out _ rfl).mono ?_; rintro e w' ⟨rfl, rfl⟩
  go_wp2_with fail
  go_loop [6, 15] (fun l i => ∃ (k : Nat) (z : Int), k ≤ len ∧ i = .int .i64 k ∧ l = .int .i64 z ∧ -4000000 ≤ z ∧ z ≤ 4000000 ∧ Hid (rkC xs k = z)) (fun _ i => len - (intOf i).toNat)
  case atStart => exact ⟨0, 0, by omega, rfl, rfl, by omega, by omega, rfl⟩
  case round =>
    obtain ⟨k, z, hk, rfl, rfl, hz0, hz1, hz⟩ := hrel
    by_cases hlt : k < len
    · have hkx : k < xs.length := by rw [hx.out]; exact hlt
      have hrd := hc.out k hkx
      have hbd := ris_bd n xs 0 hr.out xs[k] (List.getElem_mem _)
      obtain ⟨y, hy⟩ : ∃ y : Nat, xs[k] = (y : Int) := ⟨xs[k].toNat, by omega⟩
      have hsc : Hid (rkC xs (k + 1) = ((ch (y + 1) (k + 1) : Nat) : Int) - 1 - z) := Lib.hid (by
        rw [rkC_succ, hz.out, getD_at xs k hkx, hy]; rfl)
      have hcb := ch_le (s := y + 1) (k := k + 1) (by omega) (by omega)
      have hbk := rkC_bd xs (k + 1) (by omega) (fun j hj => by
        have := ris_bd n xs 0 hr.out (xs[j]'(by omega)) (List.getElem_mem _)
        rw [getD_at xs j (by omega)]; omega)
      rw [hsc.out] at hbk
      have hC := Lib.hid fun w => choices_any (y + 1) (k + 1) w (by omega) (by omega)
      rw [show ((y + 1 : Nat) : Int) = (y : Int) + 1 from by omega, show ((k + 1 : Nat) : Int) = (k : Int) + 1 from by omega] at hC
      rw [hy] at hrd hbd
      generalize ch (y + 1) (k + 1) = c at *
      clear hy
      obtain ⟨hb1, hb2⟩ := hbk
      go_wp2_with fail
      refine (hC.out _).mono ?_; rintro e w' ⟨rfl, rfl⟩
      go_wp2_with fail
      go_round
      case rel => exact ⟨k + 1, (c : Int) - 1 - z, by omega, by go_num, rfl, by omega, by omega, hsc⟩
      all_goals (simp [intOf] <;> omega)
    · obtain rfl : k = len := by omega
      go_wp2
      go_ret2
      rw [hz.out]; exact ⟨rfl, rfl⟩

theorem iRankC_any (n : Int) (v : Value) (xs : List Int) (B : Nat) (w : World) (hn : xs.length ≤ 2000000) (h : OwnI w B v xs) :
    Calls Try.prog 23 #[.int .i64 n, v] w fun e w' => QI w (rkI n xs) (setB n xs) e w' := by
  have hS := fun w' (e : w = w') => isSet_any n v xs B w' hn (e ▸ h)
  unfold rkI
  cases hb : setB n xs
  · rw [hb] at hS
    rw [if_neg (by simp)]
    rcases h.form with ⟨rfl, rfl⟩ | ⟨g, cap, rfl, _, _, hc, _, _⟩
    · exact iRankC_no n _ none 0 0 w rfl (Lib.hid hS)
    · exact iRankC_no n _ _ _ _ w rfl (Lib.hid hS)
  · rw [if_pos rfl]
    unfold setB at hb
    simp only [Bool.and_eq_true, decide_eq_true_eq] at hb
    obtain ⟨⟨h1, h2⟩, hr⟩ := hb
    rcases h.form with ⟨rfl, rfl⟩ | ⟨g, cap, rfl, _, _, hc, _, _⟩
    · exact iRankC_nil n _ _ w h1 h2
    · have := ris_len n xs 0 (by omega) hr
      exact iRankC_some n xs g cap _ w h1 h2 (Lib.hid hr) (by omega) (Lib.hid rfl) (Lib.hid hc)

theorem nuRank_zero (s : Int) (p : Option Addr) (cap : Nat) (w : World) :
    Calls Try.prog 48 #[.int .i64 s, .slice p 0 cap] w fun e w' => e = .returned (.int .i64 0) ∧ ∃ q, w' = w.drewN q := by
  go_enter Try.func48, Try.ntmps48
  go_wp2
  go_ret; exact ⟨rfl, 0, rfl⟩

theorem nuRank_low (s c y : Nat) (r : Int) (b cap : Nat) (w : World) (hs : s < 20) (hcc : c ≤ 19) (hy : y < s)
    (hc : w.cell? ⟨b, c, none⟩ = some (.int .i64 y))
    (hI : Hid (∀ q, Calls Try.prog 48 #[.int .i64 s, .slice (some ⟨b, 0, none⟩) (c + 1) cap] (w.drewN q) fun e w' => e = .returned (.int .i64 r) ∧ ∃ q, w' = w.drewN q)) :
    Calls Try.prog 48 #[.int .i64 ((s : Int) + 1), .slice (some ⟨b, 0, none⟩) (c + 1) cap] w fun e w' => e = .returned (.int .i64 r) ∧ ∃ q, w' = w.drewN q := by
  have hI0 := Lib.hid (hI.out 0)
  have hne : ((y : Int) != (s : Int)) = true := by simp; omega
  go_enter Try.func48, Try.ntmps48
  go_wp2_with fail
  refine hI0.out.mono ?_; rintro e w' ⟨rfl, q, rfl⟩
  go_wp2_with fail
  go_ret; exact ⟨rfl, q, rfl⟩
theorem ownI_cap {w : World} {B g n cap : Nat} {xs : List Int} (h : OwnI w B (.slice (some ⟨g, 0, none⟩) n cap) xs) : xs.length ≤ cap := by
  rcases h.2 with ⟨h1, _⟩ | ⟨g', cap', cur, h1, hg, hh, hn, hc, _, _⟩
  · cases h1
  · cases h1; exact hn

theorem nuRank_high (s c W C : Nat) (r : Int) (b cap : Nat) (w : World) (hs : s < 20) (hcc : c ≤ 19) (hcap : c + 1 ≤ cap) (hcap2 : cap ≤ 9223372036854775807)
    (hr1 : -4000000 ≤ r) (hr2 : r ≤ 4000000) (hW : W ≤ 184756) (hC : C ≤ 184756)
    (hc : w.cell? ⟨b, c, none⟩ = some (.int .i64 s))
    (hWz : s ≤ c → W = 0)
    (h1 : Hid (∀ w, Calls Try.prog 40 #[.int .i64 s, .int .i64 ((c : Int) + 1)] w fun e w' => e = .returned (.int .i64 W) ∧ w = w'))
    (h2 : Hid (∀ q, Calls Try.prog 40 #[.int .i64 s, .int .i64 c] (w.drewN q) fun e w' => e = .returned (.int .i64 C) ∧ w' = w.drewN q))
    (hI : Hid (∀ q, Calls Try.prog 48 #[.int .i64 s, .slice (some ⟨b, 0, none⟩) c cap] (w.drewN q) fun e w' => e = .returned (.int .i64 r) ∧ ∃ q2, w' = (w.drewN q).drewN q2)) :
    Calls Try.prog 48 #[.int .i64 ((s : Int) + 1), .slice (some ⟨b, 0, none⟩) (c + 1) cap] w fun e w' => e = .returned (.int .i64 ((W : Int) + C - 1 - r)) ∧ ∃ q, w' = w.drewN q := by
  have hne : ((s : Int) != (s : Int)) = false := by simp
  have e1 : IntKind.i64.wrap ((s : Int) + 1 - 1) = (s : Int) := by rw [IntKind.wrap_i64]; omega
  have e2 : IntKind.i64.wrap ((c : Int) + 1 - 1) = (c : Int) := by rw [IntKind.wrap_i64]; omega
  by_cases hlt : c < s
  · clear hWz
    go_enter Try.func48, Try.ntmps48
    go_wp2_with fail
    refine (h1.out _).mono ?_; rintro e w' ⟨rfl, rfl⟩
    go_wp2_with fail
    go_quiet (first | (go_at_call 40; refine Calls.quiet_of_same (h2.out _)) | (go_at_call 48; refine Calls.quiet_of (hI.out _)))
    go_wp2
    go_ret; exact ⟨ret_int (by first | rfl | omega | (simp only [IntKind.wrap_i64]; omega)), _, rfl⟩
  · obtain rfl := hWz (by omega)
    clear hWz
    go_enter Try.func48, Try.ntmps48
    go_wp2_with fail
    go_quiet (first | (go_at_call 40; refine Calls.quiet_of_same (h2.out _)) | (go_at_call 48; refine Calls.quiet_of (hI.out _)))
    go_wp2
    go_ret; exact ⟨ret_int (by first | rfl | omega | (simp only [IntKind.wrap_i64]; omega)), _, rfl⟩
theorem nuRank_any (xs : List Int) (b cap : Nat) (w : World) (hcap : xs.length ≤ cap) (hcap2 : cap ≤ 9223372036854775807)
    (hc : ∀ i (h : i < xs.length), w.cell? ⟨b, i, none⟩ = some (.int .i64 xs[i])) (hinc : ∀ i j (hi : i < xs.length) (hj : j < xs.length), i < j → xs[i] < xs[j]) (h0 : ∀ i (h : i < xs.length), 0 ≤ xs[i]) :
    ∀ (s c : Nat), s ≤ 20 → c ≤ xs.length → (∀ i (h : i < xs.length), i < c → xs[i] < s) → ∀ q, Calls Try.prog 48 #[.int .i64 s, .slice (some ⟨b, 0, none⟩) c cap] (w.drewN q) fun e w' => e = .returned (.int .i64 (rkC xs c)) ∧ ∃ q2, w' = (w.drewN q).drewN q2 := by
  intro s
  induction s with
  | zero =>
    intro c hs hcl hlt q
    have : c = 0 := by
      rcases Nat.eq_zero_or_pos c with e | e
      · exact e
      · have a := hlt 0 (by omega) e
        have := h0 0 (by omega)
        omega
    subst this
    rw [rkC_zero]; exact nuRank_zero _ _ _ _
  | succ s ih =>
    intro c hs hcl hlt q
    rw [show ((s + 1 : Nat) : Int) = (s : Int) + 1 from by omega]
    cases c with
    | zero => rw [rkC_zero]; exact nuRank_zero _ _ _ _
    | succ c =>
      have hcx : c < xs.length := by omega
      have hb := hlt c hcx (by omega)
      have hz := h0 c hcx
      obtain ⟨y, hy⟩ : ∃ y : Nat, xs[c] = (y : Int) := ⟨xs[c].toNat, by omega⟩
      have hcell := hc c hcx
      rw [hy] at hcell
      have hlen : c ≤ y := by
        have : ∀ i (h : i < xs.length), i ≤ c → (i : Int) ≤ xs[i] := by
          intro i
          induction i with
          | zero => intro h _; have := h0 0 h; omega
          | succ i ihi => intro h hi; have a := ihi (by omega) (by omega); have b := hinc i (i + 1) (by omega) h (by omega); omega
        have := this c hcx (Nat.le_refl _); omega
      by_cases he : y = s
      · subst he
        have hsm : ∀ i (h : i < xs.length), i < c → xs[i] < (y : Int) := fun i h hi => by have := hinc i c h hcx hi; omega
        have hk : rkC xs (c + 1) = ((ch y (c + 1) : Nat) : Int) + ((ch y c : Nat) : Int) - 1 - rkC xs c := by
          have e1 : (xs.getD c 0).toNat = y := by rw [getD_at xs c hcx, hy]; rfl
          rw [rkC_succ, e1, pascal (s := y) (k := c) (by omega) (by omega)]
          omega
        have hbk := rkC_bd xs c (by omega) (fun j hj => by
          have := hsm j (by omega) hj
          rw [getD_at xs j (by omega)]; omega)
        rw [hk]
        refine nuRank_high y c (ch y (c + 1)) (ch y c) (rkC xs c) b cap (w.drewN q) (by omega) (by omega) (by omega) hcap2 (by omega) (by omega) (ch_le (by omega) (by omega)) (ch_le (by omega) (by omega)) hcell (fun h => ch_over (by omega) (by omega) (by omega)) (Lib.hid fun w => ?_) (Lib.hid fun q2 => ?_) (Lib.hid fun q2 => ?_)
        · have := nuChoices_any y (c + 1) w (by omega) (by omega)
          rw [show ((c + 1 : Nat) : Int) = (c : Int) + 1 from by omega] at this; exact this
        · exact (nuChoices_any y c _ (by omega) (by omega)).mono fun _ _ ⟨a, b⟩ => ⟨a, b.symm⟩
        · rw [World.drewN_drewN]; exact ih c (by omega) (by omega) hsm _
      · have hsm : ∀ i (h : i < xs.length), i < c + 1 → xs[i] < (s : Int) := fun i h hi => by
          rcases Nat.lt_or_ge i c with g | g
          · have := hinc i c h hcx g; omega
          · have : i = c := by omega
            subst this; omega
        refine nuRank_low s c y (rkC xs (c + 1)) b cap (w.drewN q) (by omega) (by omega) (by omega) hcell (Lib.hid fun q2 => ?_)
        rw [World.drewN_drewN]
        exact (ih (c + 1) (by omega) hcl hsm _).mono fun _ _ ⟨a, q3, b⟩ => ⟨a, q2 + q3, by rw [b]; simp [World.drewN_drewN, Nat.add_assoc]⟩

theorem setB_parts {n : Int} {l : List Int} (h : setB n l = true) : 1 ≤ n ∧ n ≤ 20 ∧ risF n 0 l = true := by
  unfold setB at h
  simp only [Bool.and_eq_true, decide_eq_true_eq] at h
  exact ⟨h.1.1, h.1.2, h.2⟩

theorem sRankC_size (n : Int) (p : Option Addr) (len cap : Nat) (w : World) (h : n < 1 ∨ 20 < n) :
    Calls Try.prog 21 #[.int .i64 n, .slice p len cap] w fun e w' => QB0 w 0 false e w' := by
  have hS := Lib.hid fun w => nuSize_no n w h
  clear h
  go_enter Try.func21, Try.ntmps21
  go_wp2_with fail
  refine (hS.out _).mono ?_; rintro e w' ⟨rfl, rfl⟩
  go_wp2_with fail
  go_ret2; exact ⟨rfl, Below.refl _ _⟩

theorem sRankC_in (n : Int) (p : Option Addr) (len cap : Nat) (r : Int) (b : Bool) (w : World) (h1 : 1 ≤ n) (h2 : n ≤ 20)
    (hL : Hid (∀ w', w = w' → Calls Try.prog 47 #[.slice p len cap, .int .i64 0, .int .i64 (n - 1)] w' fun e w'' => e = .returned (.bool b) ∧ ∃ q, w'' = w'.drewN q))
    (hb : Hid (b = false → r = 0))
    (hN : Hid (b = true → ∀ q, Calls Try.prog 48 #[.int .i64 n, .slice p len cap] (w.drewN q) fun e w' => e = .returned (.int .i64 r) ∧ ∃ q2, w' = (w.drewN q).drewN q2)) :
    Calls Try.prog 21 #[.int .i64 n, .slice p len cap] w fun e w' => QB0 w r b e w' := by
  have hS := Lib.hid fun w => nuSize_yes n w h1 h2
  cases b
  · have hr := Lib.hid (hb.out rfl)
    go_enter Try.func21, Try.ntmps21
    go_wp2_with fail
    refine (hS.out _).mono ?_; rintro e w' ⟨rfl, rfl⟩
    go_wp2_with fail
    refine (hL.out _ rfl).mono ?_; rintro e w' ⟨rfl, q, rfl⟩
    go_wp2_with fail
    go_ret2; rw [hr.out]; exact ⟨rfl, below_drewN (Below.refl _ _) _⟩
  · have hN2 := Lib.hid (hN.out rfl)
    clear hN
    go_enter Try.func21, Try.ntmps21
    go_wp2_with fail
    refine (hS.out _).mono ?_; rintro e w' ⟨rfl, rfl⟩
    go_wp2_with fail
    refine (hL.out _ rfl).mono ?_; rintro e w' ⟨rfl, q, rfl⟩
    go_wp2_with fail
    refine (hN2.out _).mono ?_; rintro e w' ⟨rfl, q2, rfl⟩
    go_wp2_with fail
    go_ret2; exact ⟨rfl, below_drewN (Below.refl _ _) _⟩

theorem sRankC_any (n : Int) (v : Value) (xs : List Int) (B : Nat) (w : World) (hn : xs.length ≤ 2000000) (h : OwnI w B v xs) :
    Calls Try.prog 21 #[.int .i64 n, v] w fun e w' => QB0 w (rkI n xs) (setB n xs) e w' := by
  by_cases hs : n < 1 ∨ 20 < n
  · have e1 := setB_size xs hs
    have e2 : rkI n xs = 0 := by unfold rkI; rw [e1]; rfl
    rw [e1, e2]
    rcases h.form with ⟨rfl, rfl⟩ | ⟨g, cap, rfl, _, _, hc, _, _⟩
    · exact sRankC_size n _ _ _ w hs
    · exact sRankC_size n _ _ _ w hs
  · have hL := fun w' (e : w = w') => rising_any n v xs B w' (by omega) (by omega) hn (e ▸ h)
    have e1 := setB_in (n := n) xs (by omega) (by omega)
    rw [← e1] at hL
    have hz : setB n xs = false → rkI n xs = 0 := fun e => by unfold rkI; rw [e]; rfl
    have hy : setB n xs = true → rkI n xs = rkC xs xs.length := fun e => by unfold rkI; rw [e]; rfl
    rcases h.form with ⟨rfl, rfl⟩ | ⟨g, cap, rfl, _, _, hc, _, hm⟩
    · refine sRankC_in n none 0 0 _ _ w (by omega) (by omega) (Lib.hid hL) (Lib.hid hz) (Lib.hid fun e q => ?_)
      rw [hy e]
      exact nuRank_zero _ _ _ _
    · have hcap := ownI_cap h
      have hcap2 : cap ≤ maxLen := by
        rcases h.2 with ⟨h1, _⟩ | ⟨g', cap', cur, h1, _, _, _, hcm, _, _⟩
        · cases h1
        · cases h1; exact hcm
      unfold maxLen at hcap2
      refine sRankC_in n _ _ cap _ _ w (by omega) (by omega) (Lib.hid hL) (Lib.hid hz) (Lib.hid fun e q => ?_)
      rw [hy e]
      obtain ⟨h1, h2, hr⟩ := setB_parts e
      obtain ⟨s, rfl⟩ : ∃ s : Nat, n = (s : Int) := ⟨n.toNat, by omega⟩
      exact nuRank_any xs g cap w hcap (by omega) hc (ris_lt _ xs 0 hr) (fun i hi => (ris_bd _ xs 0 hr _ (List.getElem_mem hi)).1) s xs.length (by omega) (Nat.le_refl _) (fun i hi _ => (ris_bd _ xs 0 hr _ (List.getElem_mem hi)).2) q
end Go.Proofs.Ytbgdhiieeegnjac
