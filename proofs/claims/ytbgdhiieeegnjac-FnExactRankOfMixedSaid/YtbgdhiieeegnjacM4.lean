/- Chapter 2: the rank of mixed digits: the model. -/
import Derived.Test.YtbgdhiieeegnjacM3
namespace Go.Proofs.Ytbgdhiieeegnjac
open Go Go.RowKit RM

theorem sRankM_lim (p q : Option Addr) (n c m c2 : Nat) (w : World) (hA : Hid (∀ w', w = w' → Calls Try.prog 61 #[.slice p n c] w' fun e w'' => e = .returned (.bool false) ∧ w' = w'')) :
    Calls Try.prog 32 #[.slice p n c, .slice q m c2] w fun e w' => QB0 w 0 false e w' := by
  go_enter Try.func32, Try.ntmps32
  go_wp2_with fail
  refine (hA.out _ rfl).mono ?_; rintro e w' ⟨rfl, rfl⟩
  go_wp2_with fail
  go_ret2; exact ⟨rfl, Below.refl _ _⟩

theorem sRankM_len (p q : Option Addr) (n c m c2 : Nat) (w : World) (hn : n ≤ 1048576) (hm : m ≤ 1048576) (h : m ≠ n) (hA : Hid (∀ w', w = w' → Calls Try.prog 61 #[.slice p n c] w' fun e w'' => e = .returned (.bool true) ∧ w' = w'')) :
    Calls Try.prog 32 #[.slice p n c, .slice q m c2] w fun e w' => QB0 w 0 false e w' := by
  have hne : ((m : Int) != (n : Int)) = true := by simp; omega
  go_enter Try.func32, Try.ntmps32
  go_wp2_with fail
  refine (hA.out _ rfl).mono ?_; rintro e w' ⟨rfl, rfl⟩
  go_wp2_with fail
  go_ret2; exact ⟨rfl, Below.refl _ _⟩

set_option maxHeartbeats 1000000 in
theorem sRankM_in (xs ds : List Int) (b c b2 c2 n : Nat) (r : Int) (ok : Bool) (w : World) (h1 : 1 ≤ n) (h2 : n ≤ 8) (hnc : n ≤ c) (hc63 : c ≤ 9223372036854775807) (hx : Hid (xs.length = n)) (hd : Hid (ds.length = n)) (hlm : Hid (lmB xs = true))
    (hno : Hid (mdT xs ds n = false → r = 0 ∧ ok = false)) (hyes : Hid (mdT xs ds n = true → r = rkM xs ds ∧ ok = true))
    (hcx : Hid (∀ i (h : i < xs.length), w.cell? ⟨b, i, none⟩ = some (.int .i64 xs[i]))) (hcd : Hid (∀ i (h : i < ds.length), w.cell? ⟨b2, i, none⟩ = some (.int .i64 ds[i])))
    (hA : Hid (∀ w', w = w' → Calls Try.prog 61 #[.slice (some ⟨b, 0, none⟩) n c] w' fun e w'' => e = .returned (.bool true) ∧ w' = w'')) :
    Calls Try.prog 32 #[.slice (some ⟨b, 0, none⟩) n c, .slice (some ⟨b2, 0, none⟩) n c2] w fun e w' => QB0 w r ok e w' := by
  have hne : ((n : Int) != (n : Int)) = false := by simp
  go_enter Try.func32, Try.ntmps32
  go_wp2_with fail
  refine (hA.out _ rfl).mono ?_; rintro e w' ⟨rfl, rfl⟩
  go_wp2_with fail
  go_loop [23] (fun i => ∃ k : Nat, k ≤ n ∧ i = .int .i64 k ∧ Hid (mdT xs ds k = true)) (fun i => n - (intOf i).toNat)
  case atStart => exact ⟨0, by omega, rfl, rfl⟩
  case round =>
    obtain ⟨k, hk, rfl, ha⟩ := hrel
    by_cases hlt : k < n
    · have k1 : k < xs.length := by rw [hx.out]; exact hlt
      have k2 : k < ds.length := by rw [hd.out]; exact hlt
      have hr1 := hcx.out k k1
      have hr2 := hcd.out k k2
      have hsu := Lib.hid (mdT_succ xs ds k)
      obtain ⟨hl1, hl2⟩ := lm_at hlm.out k k1
      by_cases hin : 0 ≤ ds[k] ∧ ds[k] < xs[k]
      · have HT := Lib.hid (show mdT xs ds (k + 1) = true by rw [hsu.out, ha.out, mdP_yes k1 k2 hin.1 hin.2]; rfl)
        have hR := Lib.hid fun w => l1In_yes ds[k] 0 (xs[k] - 1) w hin.1 (by omega)
        clear hin
        generalize xs[k] = x at *
        generalize ds[k] = d at *
        go_wp2_with fail
        refine (hR.out _).mono ?_; rintro e w' ⟨rfl, rfl⟩
        go_wp2_with fail
        go_round
        case rel => exact ⟨k + 1, by omega, by go_num, HT⟩
        all_goals (simp [intOf] <;> omega)
      · have hin' : ds[k] < 0 ∨ xs[k] ≤ ds[k] := by omega
        have HF := Lib.hid (hno.out (mdT_no xs ds n k hlt (mdP_no k1 k2 hin')))
        have hR := Lib.hid fun w => l1In_no ds[k] 0 (xs[k] - 1) w (by omega)
        clear hin hin'
        generalize xs[k] = x at *
        generalize ds[k] = d at *
        go_wp2_with fail
        refine (hR.out _).mono ?_; rintro e w' ⟨rfl, rfl⟩
        go_wp2_with fail
        go_ret2
        rw [HF.out.1, HF.out.2]
        exact ⟨rfl, Below.refl _ _⟩
    · obtain rfl : k = n := by omega
      have hmd := ha
      have HF := Lib.hid (hyes.out ha.out)
      clear ha hno hyes hlt hk
      go_wp2_with fail
      go_loop [8, 9] (fun rr ii => ∃ (j : Nat) (i z : Int), j ≤ k ∧ ii = .int .i64 i ∧ i = (j : Int) - 1 ∧ rr = .int .i64 z ∧ 0 ≤ z ∧ Hid (z < prd (xs.drop j)) ∧ Hid (rkM (xs.drop j) (ds.drop j) = z)) (fun _ ii => (intOf ii + 1).toNat)
      case atStart => exact ⟨k, _, 0, by omega, rfl, rfl, rfl, by omega, Lib.hid (by rw [prd_end xs k hx.out]; omega), Lib.hid (rk_end xs ds k hx.out hd.out)⟩
      case round =>
        obtain ⟨j, i, z, hj, rfl, hi, rfl, hz0, hz1, hz⟩ := hrel
        by_cases hlt : j = 0
        · subst hlt
          obtain rfl : i = -1 := by omega
          clear hi
          have HG : Hid (rkM xs ds = z) := Lib.hid (by have := hz.out; rw [List.drop_zero, List.drop_zero] at this; exact this)
          go_wp2
          go_ret2
          rw [HF.out.1, HF.out.2, HG.out]; exact ⟨rfl, Below.refl _ _⟩
        · obtain ⟨t, rfl⟩ : ∃ t, j = t + 1 := ⟨j - 1, by omega⟩
          obtain rfl : i = (t : Int) := by omega
          clear hi hlt
          have htk : t < k := by omega
          have k1 : t < xs.length := by rw [hx.out]; omega
          have k2 : t < ds.length := by rw [hd.out]; omega
          have hr1 := hcx.out t k1
          have hr2 := hcd.out t k2
          obtain ⟨hl1, hl2⟩ := lm_at hlm.out t k1
          obtain ⟨hm1, hm2⟩ := mdT_at hmd.out t (by omega) k1 k2
          have hrk := Lib.hid (rk_step xs ds t k1 k2)
          have hpd := Lib.hid (prd_drop xs t k1)
          have hq := lm_prd hlm.out t
          have hO := lm_prd hlm.out (t + 1)
          have hbk := bck_bd (d := ds[t]) hz0 hz1.out
          have hz1' := hz1.out
          have hPr : ∀ (p : Option Addr) (cp : Nat), (p = some ⟨b, t + 1, none⟩ ∨ k - (t + 1) = 0) → Calls Try.prog 62 #[.slice p (k - (t + 1)) cp] w fun e w' => e = .returned (.int .i64 (prd (xs.drop (t + 1)))) ∧ w = w' := by
            intro p cp hp
            by_cases h0 : k - (t + 1) = 0
            · rw [h0, List.drop_eq_nil_of_le (by rw [hx.out]; omega)]
              exact prod_nil _ _ _
            · obtain rfl := hp.resolve_right h0
              refine prod_some (xs.drop (t + 1)) b (t + 1) _ _ w (by omega) (Lib.hid (by rw [List.length_drop, hx.out])) (Lib.hid ?_) (Lib.hid fun i h => ?_)
              · have := (lm_parts hlm.out).2.2
                rw [allBd_lim, List.all_eq_true] at this
                rw [List.all_eq_true]
                exact fun x hx => this x (List.mem_of_mem_drop hx)
              · rw [List.getElem_drop]
                exact hcx.out (t + 1 + i) (by rw [List.length_drop] at h; omega)
          obtain ⟨O, hOe⟩ : ∃ O, O = prd (xs.drop (t + 1)) := ⟨_, rfl⟩
          rw [← hOe] at hO hrk hpd hbk hPr hz1'
          rw [hz.out] at hrk
          clear hOe hz1 hz
          obtain ⟨g1, g2⟩ := hbk
          obtain ⟨O1, O2⟩ := hO
          have hnum := rk_nums hm1 hm2 hl2 O1 O2 g1 g2
          obtain ⟨D, hD⟩ : ∃ D, D = ds[t] * O := ⟨_, rfl⟩
          rw [← hD] at hnum hrk
          rw [← hpd.out] at hnum
          have w1 : IntKind.i64.wrap (ds[t] * O) = D := by rw [← hD, IntKind.wrap_i64]; omega
          obtain ⟨n1, n2, n3, n4⟩ := hnum
          have N4 := Lib.hid n4
          clear n4
          clear hD hpd hq
          by_cases hcap : c = t + 1
          · subst hcap
            have hPA := hPr (some ⟨b, 0, none⟩) 0 (Or.inr (by omega))
            rw [show k - (t + 1) = 0 from by omega] at hPA
            have hPA := Lib.hid hPA
            clear hPr
            by_cases hodd : ds[t] % 2 = 1
            · have ho1 : (ds[t] % 2 == 1) = true := by rw [hodd]; rfl
              have hbk : bck ds[t] z O = O - 1 - z := by unfold bck; rw [if_pos hodd]
              rw [hbk] at hrk g1 g2 n3 N4
              clear hbk hodd
              generalize xs[t] = x at *
              generalize ds[t] = d at *
              go_wp2_with fail
              refine hPA.out.mono ?_; rintro e w' ⟨rfl, rfl⟩
              go_wp2_with fail
              go_round
              case rel => exact ⟨t, _, O - 1 - z + D, by omega, rfl, by go_num, rfl, by omega, Lib.hid (by have := N4.out; omega), Lib.hid (by rw [hrk.out]; omega)⟩
              all_goals (simp [intOf] <;> omega)
            · have ho1 : (ds[t] % 2 == 1) = false := by simpa using hodd
              have hbk : bck ds[t] z O = z := by unfold bck; rw [if_neg hodd]
              rw [hbk] at hrk g1 g2 n3 N4
              clear hbk hodd
              generalize xs[t] = x at *
              generalize ds[t] = d at *
              go_wp2_with fail
              refine hPA.out.mono ?_; rintro e w' ⟨rfl, rfl⟩
              go_wp2_with fail
              go_round
              case rel => exact ⟨t, _, z + D, by omega, rfl, by go_num, rfl, by omega, Lib.hid (by have := N4.out; omega), Lib.hid (by rw [hrk.out]; omega)⟩
              all_goals (simp [intOf] <;> omega)
          · have hPA := Lib.hid (hPr (some ⟨b, t + 1, none⟩) (c - (t + 1)) (Or.inl rfl))
            clear hPr
            by_cases hodd : ds[t] % 2 = 1
            · have ho1 : (ds[t] % 2 == 1) = true := by rw [hodd]; rfl
              have hbk : bck ds[t] z O = O - 1 - z := by unfold bck; rw [if_pos hodd]
              rw [hbk] at hrk g1 g2 n3 N4
              clear hbk hodd
              generalize xs[t] = x at *
              generalize ds[t] = d at *
              go_wp2_with fail
              refine hPA.out.mono ?_; rintro e w' ⟨rfl, rfl⟩
              go_wp2_with fail
              go_round
              case rel => exact ⟨t, _, O - 1 - z + D, by omega, rfl, by go_num, rfl, by omega, Lib.hid (by have := N4.out; omega), Lib.hid (by rw [hrk.out]; omega)⟩
              all_goals (simp [intOf] <;> omega)
            · have ho1 : (ds[t] % 2 == 1) = false := by simpa using hodd
              have hbk : bck ds[t] z O = z := by unfold bck; rw [if_neg hodd]
              rw [hbk] at hrk g1 g2 n3 N4
              clear hbk hodd
              generalize xs[t] = x at *
              generalize ds[t] = d at *
              go_wp2_with fail
              refine hPA.out.mono ?_; rintro e w' ⟨rfl, rfl⟩
              go_wp2_with fail
              go_round
              case rel => exact ⟨t, _, z + D, by omega, rfl, by go_num, rfl, by omega, Lib.hid (by have := N4.out; omega), Lib.hid (by rw [hrk.out]; omega)⟩
              all_goals (simp [intOf] <;> omega)

theorem iRankM_any (v u : Value) (xs ds : List Int) (B C : Nat) (w : World) (hn : xs.length ≤ 1048576) (hm : ds.length ≤ 1048576) (h : OwnI w B v xs) (k : OwnI w C u ds) :
    Calls Try.prog 33 #[v, u] w fun e w' => QB0 w (rmA xs ds) (rmB xs ds) e w' := by
  have hA := fun w' (e : w = w') => areLim_any v xs B w' hn (e ▸ h)
  have sh : ∀ {C : Nat} {v : Value} {zs : List Int}, OwnI w C v zs → ∃ p c, v = .slice p zs.length c := by
    intro C v zs h
    rcases h.form with ⟨rfl, rfl⟩ | ⟨g, cap, rfl, _, _, _, _, hm⟩
    · exact ⟨none, 0, rfl⟩
    · exact ⟨_, cap, rfl⟩
  cases hb : lmB xs
  · have e1 := rm_lim (ds := ds) hb
    rw [rm_no e1, e1]
    rw [hb] at hA
    obtain ⟨p, c, rfl⟩ := sh h
    obtain ⟨q, c2, rfl⟩ := sh k
    exact iRankM_lim _ _ _ _ _ _ w (Lib.hid hA)
  · rw [hb] at hA
    obtain ⟨h1, h2, _⟩ := lm_parts hb
    by_cases hl : ds.length = xs.length
    · rcases h.form with ⟨rfl, rfl⟩ | ⟨g, cap, rfl, _, _, hc, _, _⟩
      · simp at h1
      · rcases k.form with ⟨rfl, rfl⟩ | ⟨g2, cap2, rfl, _, _, hc2, _, _⟩
        · simp at hl; omega
        · rw [hl]
          have hM := fun w' (e : w = w') => areMx_some xs ds g cap g2 cap2 xs.length w' hn (Lib.hid rfl) (Lib.hid hl) (Lib.hid (e ▸ hc)) (Lib.hid (e ▸ hc2))
          have e1 := rm_in hb hl
          rw [hl] at e1
          cases hmd : mdT xs ds xs.length
          · rw [hmd] at hM e1
            rw [rm_no e1, e1]
            exact iRankM_mix _ _ _ _ _ _ w (Lib.hid hA) (Lib.hid hM)
          · rw [hmd] at hM e1
            rw [rm_yes e1, e1]
            exact iRankM_yes xs ds g cap g2 cap2 _ w h1 h2 (Lib.hid rfl) (Lib.hid hl) (Lib.hid hb) (Lib.hid hmd) (Lib.hid hc) (Lib.hid hc2) (Lib.hid hA) (Lib.hid hM)
    · have e1 := rm_len hl
      rw [rm_no e1, e1]
      obtain ⟨p, c, rfl⟩ := sh h
      obtain ⟨q, c2, rfl⟩ := sh k
      exact iRankM_mix _ _ _ _ _ _ w (Lib.hid hA) (Lib.hid fun w' _ => areMx_len _ _ _ _ _ _ w' hn hm hl)

theorem sRankM_any (v u : Value) (xs ds : List Int) (B C : Nat) (w : World) (hn : xs.length ≤ 1048576) (hm : ds.length ≤ 1048576) (h : OwnI w B v xs) (k : OwnI w C u ds) :
    Calls Try.prog 32 #[v, u] w fun e w' => QB0 w (rmA xs ds) (rmB xs ds) e w' := by
  have hA := fun w' (e : w = w') => nuLim_any v xs B w' hn (e ▸ h)
  have sh : ∀ {C : Nat} {v : Value} {zs : List Int}, OwnI w C v zs → ∃ p c, v = .slice p zs.length c := by
    intro C v zs h
    rcases h.form with ⟨rfl, rfl⟩ | ⟨g, cap, rfl, _, _, _, _, hm⟩
    · exact ⟨none, 0, rfl⟩
    · exact ⟨_, cap, rfl⟩
  cases hb : lmB xs
  · have e1 := rm_lim (ds := ds) hb
    rw [rm_no e1, e1]
    rw [hb] at hA
    obtain ⟨p, c, rfl⟩ := sh h
    obtain ⟨q, c2, rfl⟩ := sh k
    exact sRankM_lim _ _ _ _ _ _ w (Lib.hid hA)
  · rw [hb] at hA
    obtain ⟨h1, h2, _⟩ := lm_parts hb
    by_cases hl : ds.length = xs.length
    · rcases h.form with ⟨rfl, rfl⟩ | ⟨g, cap, rfl, _, _, hc, _, _⟩
      · simp at h1
      · have hcap : xs.length ≤ cap ∧ cap ≤ 9223372036854775807 := by
          rcases h.2 with ⟨h1, _⟩ | ⟨g', cap', cur, h1, _, _, hn', hcm, _, _⟩
          · cases h1
          · cases h1; unfold maxLen at hcm; exact ⟨hn', by omega⟩
        rcases k.form with ⟨rfl, rfl⟩ | ⟨g2, cap2, rfl, _, _, hc2, _, _⟩
        · simp at hl; omega
        · rw [hl]
          have e1 := rm_in hb hl
          rw [hl] at e1
          exact sRankM_in xs ds g cap g2 cap2 _ _ _ w h1 h2 hcap.1 hcap.2 (Lib.hid rfl) (Lib.hid hl) (Lib.hid hb)
            (Lib.hid fun e => ⟨rm_no (by rw [e1, e]), by rw [e1, e]⟩) (Lib.hid fun e => ⟨rm_yes (by rw [e1, e]), by rw [e1, e]⟩) (Lib.hid hc) (Lib.hid hc2) (Lib.hid hA)
    · have e1 := rm_len hl
      rw [rm_no e1, e1]
      obtain ⟨p, c, rfl⟩ := sh h
      obtain ⟨q, c2, rfl⟩ := sh k
      exact sRankM_len _ _ _ _ _ _ w hn hm hl (Lib.hid hA)
end Go.Proofs.Ytbgdhiieeegnjac
