/- The state with a number, and all turns from a state, by the model. -/
import Derived.Test.YtjlecipeoaohiaaXX
namespace Go.Proofs.Ytjlecipeoaohiaa
set_option linter.unusedSimpArgs false
set_option linter.unusedVariables false
open Go Go.RowKit RM
theorem gX_step (s p m : Nat) : gX s (p + 1) m = gX s p (m / s) ++ [m % s] := rfl
set_option maxRecDepth 100000 in
theorem bxOf_any (p s : Nat) (u : Value) (n : Nat) (w : World) (hp : p ≤ 6) (hs1 : 2 ≤ s) (hs : s ≤ 5) (hn : n ≤ 20000) :
    Calls Try.prog 70 #[.agg #[.int .i64 p, .int .i64 s, u], .int .i64 n] w fun e w' => e = .returned (.string (tS (gX s p n))) ∧ Below w.heap.size w w' := by
  obtain ⟨w1, hw1⟩ : ∃ w1, Hid (w1 = w.alloc (boxO p s u)) := ⟨_, Lib.hid rfl⟩
  have hb1 : Hid (Below w.heap.size w w1) := Lib.hid (by rw [hw1.out]; exact ba1 w _)
  have F1 := Lib.hid (show w1.heap[w.heap.size]? = some (boxO p s u) by rw [hw1.out]; exact hb_new _ _)
  have f0 : w1.cell? ⟨w.heap.size, 0, none⟩ = some (.int .i64 p) := hb_cell F1.out 0
  have hNum := Lib.hid (fun x (hx : x ≤ 9) w => l1Num_dig x w hx)
  obtain ⟨T, hT⟩ : ∃ T, Hid (T = gX s p n) := ⟨_, Lib.hid rfl⟩
  rw [← hT.out]
  go_enter Try.func70, Try.ntmps70
  go_wp2_with fail
  rw [← hw1.out]
  go_wp2_with fail
  go_loopw [1, 5, 6] (fun m o k wr => ∃ (q x : Nat) (tl : List Nat), q + tl.length = p ∧ x ≤ 20000 ∧ k = .int .i64 q ∧ m = .int .i64 x ∧ o = .string (tS tl) ∧ Hid (T = gX s q x ++ tl) ∧ Hid (Below (w.heap.size + 1) w1 wr)) (fun _ _ k _ => (intOf k).toNat)
  case atStart => exact ⟨p, n, [], rfl, hn, rfl, rfl, rfl, Lib.hid (by rw [List.append_nil]; exact hT.out), Lib.hid (Below.refl _ _)⟩
  case round =>
    obtain ⟨q, x, tl, hq, hx, rfl, rfl, rfl, ht, hb⟩ := hrel
    rename World => wA
    by_cases h0 : 0 < q
    · have F2 := Lib.hid (hb_below hb.out (by omega) F1.out)
      have f1 : wA.cell? ⟨w.heap.size, 1, none⟩ = some (.int .i64 s) := hb_cell F2.out 1
      have l1 := hb_lt F2.out
      have hm : x % s ≤ 9 := by have := Nat.mod_lt x (show 0 < s by omega); omega
      have hdv : x / s ≤ 20000 := Nat.le_trans (Nat.div_le_self _ _) hx
      have hs0 : (s : Int) ≠ 0 := by omega
      have hs0' : ((s : Int) == 0) = false := by rw [beq_eq_false_iff_ne]; omega
      have er : Int.tmod (x : Int) (s : Int) = ((x % s : Nat) : Int) := by rw [Int.tmod_eq_emod_of_nonneg (by omega)]; omega
      have ed : Int.tdiv (x : Int) (s : Int) = ((x / s : Nat) : Int) := by rw [Int.tdiv_eq_ediv_of_nonneg (by omega)]; omega
      have er2 : (x : Int) % (s : Int) = ((x % s : Nat) : Int) := by omega
      have ed2 : (x : Int) / (s : Int) = ((x / s : Nat) : Int) := by omega
      have hst : Hid (T = gX s (q - 1) (x / s) ++ ([x % s] ++ tl)) := Lib.hid (by
        rw [ht.out, show q = (q - 1) + 1 by omega, gX_step, List.append_assoc]; rfl)
      have happ := Lib.hid (tS_app [x % s] tl)
      have hNx := Lib.hid (fun w => hNum.out (x % s) hm w)
      have hz1 : (tS [x % s]).size ≤ 10 := by rw [tS_size]; simp
      have hz2 : (tS tl).size ≤ 10 := by rw [tS_size]; omega
      generalize x % s = r at *
      generalize x / s = y at *
      go_wp2_with fail
      refine (hNx.out _).mono ?_; rintro e wB ⟨rfl, hbB⟩
      have hsA := hb.out.size
      have hb1s : w.heap.size + 1 ≤ w1.heap.size := hb_lt F1.out
      have hbB2 := Lib.hid (bt2 hb.out hbB (by omega))
      have F3 := Lib.hid (hb_below hbB2.out (by omega) F1.out)
      clear f1
      have f1 : wB.cell? ⟨w.heap.size, 1, none⟩ = some (.int .i64 s) := hb_cell F3.out 1
      clear hbB
      have e2 : tS [r] ++ tS tl = tS ([r] ++ tl) := happ.out.symm
      go_wp2_with fail
      go_roundw
      case rel => exact ⟨q - 1, y, [r] ++ tl, by simp; omega, hdv, by go_num, by first | rfl | go_num, by first | rfl | (rw [e2]), hst, hbB2⟩
      all_goals (simp [intOf] <;> omega)
    · obtain rfl : q = 0 := by omega
      go_wp2_with fail
      go_ret; exact ⟨by rw [ht.out]; rfl, hb1.out.trans (hb.out.mono (by omega))⟩
/-- a turn as the model tells it -/
def tnI (m : Nat × Bool) : List Int := [(m.1 : Int), byX m.2]
theorem own_lit2 (w : World) (x y : Int) (B : Nat) (hB : B ≤ w.heap.size) : OwnI (w.alloc (.cells #[.int .i64 x, .int .i64 y] 3)) B (.slice (some ⟨w.heap.size, 0, none⟩) 2 2) [x, y] :=
  ⟨rfl, .inr ⟨_, 2, #[.int .i64 x, .int .i64 y], rfl, hB, hb_new _ _, Nat.le_refl _, by decide, rfl, rfl⟩⟩
set_option maxRecDepth 100000 in
set_option maxHeartbeats 4000000 in
theorem bxTurns_any (v : Value) (p s : Nat) (rs : List ByteArray) (d : List Nat) (w : World) (hG : GX p s rs) (h : RdX w v p s rs) (hd : stOk p s d) :
    Calls Try.prog 54 #[v, .string (tS d)] w fun e w' => ∃ u, e = .returned u ∧ OwnSS w' w.heap.size u ((tK s rs d (2 * p)).map tnI) ∧ Below w.heap.size w w' := by
  have hTn := Lib.hid (fun w' (hb : Below w.heap.size w w') k (hk : k < p) up => bxTurn_any v p s rs d k up w' hG (h.below hb) hd hk)
  obtain ⟨u, rfl, -⟩ := h
  have h6 := hG.p6
  have hlen := Lib.hid (fun n => tK_len s rs d n)
  have hon := Lib.hid (fun k => tK_on s rs d k)
  have hback := Lib.hid (fun k => tK_back s rs d k)
  have hK0 : Hid (tK s rs d (2 * 0) = []) := Lib.hid rfl
  obtain ⟨t, ht⟩ : ∃ t, Hid (t = tS d) := ⟨_, Lib.hid rfl⟩
  rw [← ht.out] at hTn ⊢
  generalize hKd : tK s rs d = K at *
  clear hKd
  obtain ⟨w1, hw1⟩ : ∃ w1, Hid (w1 = w.alloc (boxO p s u)) := ⟨_, Lib.hid rfl⟩
  have hb1 : Hid (Below w.heap.size w w1) := Lib.hid (by rw [hw1.out]; exact ba1 w _)
  have F1 := Lib.hid (show w1.heap[w.heap.size]? = some (boxO p s u) by rw [hw1.out]; exact hb_new _ _)
  have l1 : w.heap.size < w1.heap.size := hb_lt F1.out
  go_enter Try.func54, Try.ntmps54
  go_wp2_with fail
  rw [← hw1.out]
  go_loopw [5, 6] (fun o i wr => ∃ k : Nat, k ≤ p ∧ i = .int .i64 k ∧ Hid (OwnSS wr w1.heap.size o ((K (2 * k)).map tnI)) ∧ Hid (Below w1.heap.size w1 wr)) (fun _ i _ => p - (intOf i).toNat)
  case atStart => exact ⟨0, Nat.zero_le _, rfl, Lib.hid (by rw [hK0.out]; exact OwnSS.nil _ _), Lib.hid (Below.refl _ _)⟩
  case round =>
    obtain ⟨k, hk, rfl, ho, hbr⟩ := hrel
    obtain ⟨wA, rfl⟩ : ∃ x, x = wr := ⟨_, rfl⟩
    have FA := Lib.hid (hb_below hbr.out l1 F1.out)
    have f0 : wA.cell? ⟨w.heap.size, 0, none⟩ = some (.int .i64 p) := hb_cell FA.out 0
    by_cases hlt : k < p
    · go_wp2_with fail
      go_loopw [5, 7] (fun o i wr => ∃ j : Nat, j ≤ 2 ∧ i = .int .i64 (1 - 2 * (j : Int)) ∧ Hid (OwnSS wr w1.heap.size o ((K (2 * k + j)).map tnI)) ∧ Hid (Below w1.heap.size w1 wr)) (fun _ i _ => (intOf i + 3).toNat)
      case atStart => exact ⟨0, Nat.zero_le _, rfl, ho, hbr⟩
      case round =>
        obtain ⟨j, hj, rfl, ho1, hbr1⟩ := hrel
        obtain ⟨wB, rfl⟩ : ∃ x, x = wr := ⟨_, rfl⟩
        by_cases hj2 : j = 2
        · subst hj2
          go_wp2_with fail
          go_roundw
          case rel => exact ⟨k + 1, by omega, by go_num, ho1, hbr1⟩
          all_goals (simp [intOf] <;> omega)
        · have FB := Lib.hid (hb_below hbr1.out l1 F1.out)
          have g0 : wB.cell? ⟨w.heap.size, 0, none⟩ = some (.int .i64 p) := hb_cell FB.out 0
          have g1 : wB.cell? ⟨w.heap.size, 1, none⟩ = some (.int .i64 s) := hb_cell FB.out 1
          have g2 : wB.cell? ⟨w.heap.size, 2, none⟩ = some u := hb_cell FB.out 2
          have hsB : w1.heap.size ≤ wB.heap.size := hbr1.out.size
          obtain ⟨up, hju, htk⟩ : ∃ up : Bool, (1 - 2 * (j : Int) = byX up) ∧ Hid (K (2 * k + (j + 1)) = K (2 * k + j) ++ (if tuB s rs d k up then [(k, up)] else [])) := by
            have h01 : j = 0 ∨ j = 1 := by omega
            clear ho1 hj hj2
            rcases h01 with rfl | rfl
            · exact ⟨true, rfl, Lib.hid (hon.out k)⟩
            · exact ⟨false, rfl, Lib.hid (hback.out k)⟩
          rw [hju]
          have hTk := Lib.hid (fun w' hb => hTn.out w' hb k hlt up)
          have hbw := Lib.hid (bt1 hb1.out hbr1.out)
          have hyb : byX up = 1 - 2 * (j : Int) := hju.symm
          clear hju
          obtain ⟨Y, hY⟩ : ∃ Y, Hid (Y = byX up) := ⟨_, Lib.hid rfl⟩
          rw [← hY.out] at hTk hyb ⊢
          have hY1 : (-1 : Int) ≤ Y ∧ Y ≤ 1 := by omega
          have hYn : Hid (Y - 2 = 1 - 2 * ((j + 1 : Nat) : Int)) := Lib.hid (by omega)
          replace hyb := Lib.hid hyb
          cases hTB : tuB s rs d k up with
          | false =>
            rw [hTB] at htk hTk
            rw [if_neg (by simp), List.append_nil] at htk
            clear hTB
            go_wp2_with fail
            refine (hTk.out _ hbw.out).mono ?_; rintro e wC ⟨rfl, hbC⟩
            have ho2 := Lib.hid (ho1.out.below hbC)
            have hbr2 := Lib.hid (bt2 hbr1.out hbC hsB)
            clear hbC g0 g1 g2
            rw [← htk.out] at ho2
            go_wp2_with fail
            go_roundw
            case rel => exact ⟨j + 1, by omega, by rw [← hYn.out], ho2, hbr2⟩
            all_goals (have hyb9 := hyb.out; simp [intOf] <;> omega)
          | true =>
            rw [hTB] at htk hTk
            rw [if_pos rfl] at htk
            clear hTB
            go_wp2_with fail
            refine (hTk.out _ hbw.out).mono ?_; rintro e wC ⟨rfl, hbC⟩
            have ho2 := Lib.hid (ho1.out.below hbC)
            have hbr2 := Lib.hid (bt2 hbr1.out hbC hsB)
            clear hbC g0 g1 g2
            obtain ⟨wD, hwD⟩ : ∃ x, Hid (x = wC.alloc (.cells #[.int .i64 k, .int .i64 Y] 3)) := ⟨_, Lib.hid rfl⟩
            have hoD := Lib.hid (show OwnSS wD w1.heap.size u5 _ by rw [hwD.out]; exact ho2.out.alloc _)
            have hsC : w1.heap.size ≤ wC.heap.size := hbr2.out.size
            have hlD := Lib.hid (show OwnI wD w1.heap.size (.slice (some ⟨wC.heap.size, 0, none⟩) 2 2) [(k : Int), Y] by rw [hwD.out]; exact own_lit2 wC k Y _ hsC)
            have hbr3 := Lib.hid (show Below w1.heap.size w1 wD by rw [hwD.out]; exact hbr2.out.alloc hsC _)
            obtain ⟨wE, hwE⟩ : ∃ x, Hid (x = wD.alloc (.cells #[.slice (some ⟨wC.heap.size, 0, none⟩) 2 2] 54)) := ⟨_, Lib.hid rfl⟩
            have hoE := Lib.hid (show OwnSS wE w1.heap.size u5 _ by rw [hwE.out]; exact hoD.out.alloc _)
            have hlE := Lib.hid (show OwnI wE w1.heap.size (.slice (some ⟨wC.heap.size, 0, none⟩) 2 2) [(k : Int), Y] by rw [hwE.out]; exact hlD.out.alloc _)
            have hsD : w1.heap.size ≤ wD.heap.size := hbr3.out.size
            have hbr4 := Lib.hid (show Below w1.heap.size w1 wE by rw [hwE.out]; exact hbr3.out.alloc hsD _)
            have hcE := Lib.hid (show wE.heap[wC.heap.size + 1]? = some (.cells #[.slice (some ⟨wC.heap.size, 0, none⟩) 2 2] 54) by rw [hwE.out]; exact hb_new' _ _ _ (by rw [hwD.out]; simp))
            have hsE : w1.heap.size ≤ wE.heap.size := hbr4.out.size
            have hbCE := Lib.hid (show Below wC.heap.size wC wE by rw [hwE.out, hwD.out]; exact ((ba1 wC _).alloc (by simp) _))
            have hlen9 : ((K (2 * k + j)).map tnI).length ≤ 1000000 := by rw [List.length_map]; have := hlen.out (2 * k + j); omega
            replace hlen9 := Lib.hid hlen9
            go_upto_region 10 with fail
            go_wp2_with (at_builtin; rw [← hwD.out, ← hwE.out]; refine app_ss _ rfl _ _ rfl w1.heap.size _ _ rfl wC ho2.out hbCE.out (wC.heap.size + 1) (some ⟨wC.heap.size, 0, none⟩, 2, 2) [(k : Int), Y] rfl hcE.out hlE.out (fun x e => by injection e with e; exact Nat.le_of_eq e) hlen9.out hsE ?_; intro v' wF hoF hgF hatF; replace hoF := Lib.hid hoF; replace hgF := Lib.hid hgF; clear hatF)
            have ho9 := Lib.hid (show OwnSS wF w1.heap.size v' ((K (2 * k + (j + 1))).map tnI) by
              rw [htk.out, List.map_append]
              have : [(k, up)].map tnI = [[(k : Int), Y]] := by rw [hY.out]; rfl
              rw [this]; exact hoF.out)
            have hbr9 := Lib.hid (hbr4.out.grown hgF.out hsE (fun a e => (hoE.out.lt a e).1))
            go_roundw
            case rel => exact ⟨j + 1, by omega, by rw [← hYn.out], ho9, hbr9⟩
            all_goals (have hyb9 := hyb.out; simp [intOf] <;> omega)
    · obtain rfl : k = p := by omega
      go_wp2_with fail
      go_ret; exact ⟨_, rfl, ho.out.mono (by have := hb1.out.size; omega), hb1.out.trans (hbr.out.mono (by omega))⟩
end Go.Proofs.Ytjlecipeoaohiaa
