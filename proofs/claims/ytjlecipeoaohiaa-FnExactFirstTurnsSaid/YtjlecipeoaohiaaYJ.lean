/- FirstTurns, by the program. -/
import Derived.Test.YtjlecipeoaohiaaYI
namespace Go.Proofs.Ytjlecipeoaohiaa
set_option linter.unusedSimpArgs false
set_option linter.unusedVariables false
open Go Go.RowKit RM Go.Maps Go.WideMaps Go.ChangeMaps
def ansT (A : Nat → List (List Int)) : Option Nat → List (List Int)
  | some L => A L
  | none => []
def lenV : Value → Nat
  | .slice _ n _ => n
  | _ => 0
set_option maxRecDepth 1000000 in
theorem iFi_no (v : Value) (P S : Int) (rs : List ByteArray) (x y : ByteArray) (w : World) (hz : ∀ s ∈ rs, s.size ≤ maxLen) (hx : x.size ≤ maxLen) (hy : y.size ≤ maxLen) (hA : askT P S rs x y = false) (h : RdX w v P S rs) :
    Calls Try.prog 28 #[v, .string x, .string y] w fun e w' => e = .returned (.tuple #[.slice none 0 0, .bool false]) ∧ Below w.heap.size w w' := by
  rw [askT_two] at hA
  have hQ := Lib.hid (fun w' (hb : Below w.heap.size w w') => twoSO_no v P S rs x y _ _ _ _ hA w' (h.below hb)
    (Lib.hid (fun w v h => stateOf_core v P S rs x w hz hx h (askS P S rs x) rfl)) (Lib.hid (fun w v h => stateOf_core v P S rs y w hz hy h (askS P S rs y) rfl)))
  obtain ⟨u, rfl, -⟩ := h
  obtain ⟨w1, hw1⟩ : ∃ w1, Hid (w1 = w.alloc (boxO P S u)) := ⟨_, Lib.hid rfl⟩
  have hb1 : Hid (Below w.heap.size w w1) := Lib.hid (by rw [hw1.out]; exact ba1 w _)
  have F1 := Lib.hid (show w1.heap[w.heap.size]? = some (boxO P S u) by rw [hw1.out]; exact hb_new _ _)
  have f0 : w1.cell? ⟨w.heap.size, 0, none⟩ = some (.int .i64 P) := hb_cell F1.out 0
  have f1 : w1.cell? ⟨w.heap.size, 1, none⟩ = some (.int .i64 S) := hb_cell F1.out 1
  have f2 : w1.cell? ⟨w.heap.size, 2, none⟩ = some u := hb_cell F1.out 2
  clear hA hz hx hy
  go_enter Try.func28, Try.ntmps28
  go_wp2_with fail
  rw [← hw1.out]
  go_wp2_with fail
  refine (hQ.out _ hb1.out).mono ?_; rintro e w2 ⟨rfl, hb⟩
  go_wp2_with fail
  go_ret2; exact ⟨rfl, ((bt1 hb1.out hb).alloc (by have h1 := hb1.out.size; have h2 := hb.size; omega) _).alloc (by have h1 := hb1.out.size; have h2 := hb.size; simp; omega) _⟩
abbrev set6 (w : World) (g : Nat) (f : Nat → Int) : World := (((((w.setCell ⟨g, 0, none⟩ (.int .i64 (f 0))).setCell ⟨g, 1, none⟩ (.int .i64 (f 1))).setCell ⟨g, 2, none⟩ (.int .i64 (f 2))).setCell ⟨g, 3, none⟩ (.int .i64 (f 3))).setCell ⟨g, 4, none⟩ (.int .i64 (f 4))).setCell ⟨g, 5, none⟩ (.int .i64 (f 5))
theorem set6_grown (w : World) (g : Nat) (f : Nat → Int) : w.grownBy (set6 w g f) (some g) :=
  Lib.grownBy_trans (Lib.grownBy_trans (Lib.grownBy_trans (Lib.grownBy_trans (Lib.grownBy_trans (grown_set _ _ _ _) (grown_set _ _ _ _)) (grown_set _ _ _ _)) (grown_set _ _ _ _)) (grown_set _ _ _ _)) (grown_set _ _ _ _)
theorem set6_at {w : World} {g : Nat} {f f' : Nat → Int} (h : w.heap[g]? = some (bsO f')) : (set6 w g f).heap[g]? = some (bsO f) := by
  have h1 := hb_set (hb_set (hb_set (hb_set (hb_set (hb_set h (i := 0) (.int .i64 (f 0))) (i := 1) (.int .i64 (f 1))) (i := 2) (.int .i64 (f 2))) (i := 3) (.int .i64 (f 3))) (i := 4) (.int .i64 (f 4))) (i := 5) (.int .i64 (f 5))
  exact h1
theorem own_ne_bs {α : Type} {E : Elt α} {w : World} {B g : Nat} {v : Value} {xs : List α} {f : Nat → Int} (h : OwnG E w B v xs) (k : w.heap[g]? = some (bsO f)) (hef : E.e ≠ 64) : v.ownBlock ≠ some g := by
  rcases h.2 with ⟨rfl, _⟩ | ⟨g', cap, cur, rfl, _, hh, _⟩
  · intro e; cases e
  · intro e
    have e1 : g' = g := by simpa [Value.ownBlock] using e
    subst e1
    rw [k] at hh
    have := Option.some.inj hh
    injection this with _ h2 _
    exact hef h2.symm
theorem own_ne_tn {α : Type} {E : Elt α} {w : World} {B g : Nat} {v : Value} {xs : List α} {k y : Int} {f : Nat → Int} (h : OwnG E w B v xs) (hk : w.heap[g]? = some (tnO k y f)) (hef : E.e ≠ 70) : v.ownBlock ≠ some g := by
  rcases h.2 with ⟨rfl, _⟩ | ⟨g', cap, cur, rfl, _, hh, _⟩
  · intro e; cases e
  · intro e
    have e1 : g' = g := by simpa [Value.ownBlock] using e
    subst e1
    rw [hk] at hh
    have := Option.some.inj hh
    injection this with _ h2 _
    exact hef h2.symm
theorem owni_ne_bs {w : World} {B g : Nat} {v : Value} {xs : List Int} {f : Nat → Int} (h : OwnI w B v xs) (k : w.heap[g]? = some (bsO f)) : v.ownBlock ≠ some g := by
  rcases h.2 with ⟨rfl, _⟩ | ⟨g', cap, cur, rfl, _, hh, _⟩
  · intro e; cases e
  · intro e
    have e1 : g' = g := by simpa [Value.ownBlock] using e
    subst e1
    rw [k] at hh
    have := Option.some.inj hh
    injection this with _ h2 _
    exact absurd h2 (by decide)
theorem ss_ne_bs {w : World} {B g : Nat} {v : Value} {xss : List (List Int)} {f : Nat → Int} (h : OwnSS w B v xss) (k : w.heap[g]? = some (bsO f)) : some g ≠ v.ownBlock := by
  obtain ⟨ps, _, h⟩ := h; exact fun e => own_ne_bs h.row k (by decide) e.symm
theorem ss_ne_tn {w : World} {B g : Nat} {v : Value} {xss : List (List Int)} {k y : Int} {f : Nat → Int} (h : OwnSS w B v xss) (hk : w.heap[g]? = some (tnO k y f)) : some g ≠ v.ownBlock := by
  obtain ⟨ps, _, h⟩ := h; exact fun e => own_ne_tn h.row hk (by decide) e.symm
theorem OwnSS.keptNe {w w' : World} {B : Nat} {v : Value} {xss : List (List Int)} {g : Nat} (h : OwnSS w B v xss) (hg : w.grownBy w' (some g)) {f : Nat → Int} (hh : w.heap[g]? = some (bsO f)) : OwnSS w' B v xss := by
  obtain ⟨ps, e, h⟩ := h
  refine ⟨ps, e, h.row.kept hg (.inr fun e => ?_), fun q hq => (h.inn q hq).kept hg (.inr fun e => ?_), h.apart⟩
  · exact own_ne_bs h.row hh (by decide) e
  · exact owni_ne_bs (h.inn q hq) hh e
set_option maxRecDepth 1000000 in
set_option maxHeartbeats 4000000 in
theorem iFi_yes (v : Value) (p s : Nat) (rs : List ByteArray) (d e : List Nat) (w : World) (hz : ∀ s ∈ rs, s.size ≤ maxLen) (hA : askT p s rs (tS d) (tS e) = true) (hG : GX p s rs) (hsp : s ^ p ≤ 1000) (hd : stOk p s d) (he : stOk p s e) (h : RdX w v p s rs)
    (o : Option Nat) (ho : (fin 1 (nbX p s rs) (allX p s) e).far d = o) (hL9 : ∀ L, o = some L → L ≤ 1000) :
    Calls Try.prog 28 #[v, .string (tS d), .string (tS e)] w fun en w' => RetSS w (ansT (anT s rs p (fin 1 (nbX p s rs) (allX p s) e).far d) o) o.isSome en w' := by
  rw [askT_two, Bool.and_eq_true] at hA
  have h6 := hG.p6
  have h5 := hG.s5
  have h2 := hG.s2
  have ht1 : (tS d).size ≤ maxLen := by rw [tS_size, hd.1]; unfold maxLen; omega
  have ht2 : (tS e).size ≤ maxLen := by rw [tS_size, he.1]; unfold maxLen; omega
  have hQ := Lib.hid (fun w' (hb : Below w.heap.size w w') => twoSO_yes v p s rs (tS d) (tS e) (dF d) (dF e) w' (h.below hb)
    (Lib.hid (fun w v h => by have := stateOf_core v p s rs (tS d) w hz ht1 h true hA.1; rw [if_pos rfl, tF_end (by omega) hd] at this; exact this))
    (Lib.hid (fun w v h => by have := stateOf_core v p s rs (tS e) w hz ht2 h true hA.2; rw [if_pos rfl, tF_end (by omega) he] at this; exact this)))
  have hSe := Lib.hid (fun w' (hb : Below w.heap.size w w') => searchT_any v p s rs e 1 w' hG hsp he (Nat.le_refl _) (h.below hb))
  have hLk := Lib.hid (fun W b (hm : MM hG.ks b (fin 1 (nbX p s rs) (allX p s) e).far W) => show (Instr.lookup 77 (.map (some b)) (bsV (dF d)) true).run Try.prog W = .ok (.tuple #[.int .i64 ((o.getD 0 : Nat) : Int), .bool o.isSome]) W by
    obtain ⟨D, h1, h2⟩ := hm.ex
    rw [← ho]; exact mlkO (K := hG.ks) humX hd h1 h2)
  have hst := Lib.hid (fun L (hL : o = some L) => stT_ok hG he hd (ho.trans hL))
  have hen := Lib.hid (fun L (hL : o = some L) => stT_end hG he hd (ho.trans hL))
  have hNr := Lib.hid (fun w' (hb : Below w.heap.size w w') t m b1 (ht : stOk p s t) (hm : (fin 1 (nbX p s rs) (allX p s) e).far t = some (m + 1)) (hM : MM hG.ks b1 (fin 1 (nbX p s rs) (allX p s) e).far w') => tnearer_any v p s rs t e m b1 w' hG ht he (h.below hb) hm hM)
  have hasu := Lib.hid (anT_succ s rs p (fin 1 (nbX p s rs) (allX p s) e).far d)
  have hale := Lib.hid (anT_len s rs p (fin 1 (nbX p s rs) (allX p s) e).far d)
  have hneq := Lib.hid (fun t (ht : stOk p s t) w => eq_six ht he (by omega : 1 ≤ s) (by omega : s ≤ 9) h6 w)
  have hst0 : Hid (stT s rs p (fin 1 (nbX p s rs) (allX p s) e).far d 0 = d) := Lib.hid rfl
  have hsts := Lib.hid (fun i => show stT s rs p (fin 1 (nbX p s rs) (allX p s) e).far d (i + 1) = tuD (stT s rs p (fin 1 (nbX p s rs) (allX p s) e).far d i) (nkT s rs p (fin 1 (nbX p s rs) (allX p s) e).far (stT s rs p (fin 1 (nbX p s rs) (allX p s) e).far d i)).1 (nkT s rs p (fin 1 (nbX p s rs) (allX p s) e).far (stT s rs p (fin 1 (nbX p s rs) (allX p s) e).far d i)).2 from rfl)
  have hMM := hG.ks
  generalize hAN : anT s rs p (fin 1 (nbX p s rs) (allX p s) e).far d = AN at *
  have hAN0 : Hid (AN 0 = []) := Lib.hid (by rw [← hAN]; rfl)
  clear hAN
  generalize stT s rs p (fin 1 (nbX p s rs) (allX p s) e).far d = ST at *
  generalize nkT s rs p (fin 1 (nbX p s rs) (allX p s) e).far = NK at *
  generalize hFF : (fin 1 (nbX p s rs) (allX p s) e).far = FF at *
  clear ho hFF
  obtain ⟨u, rfl, -⟩ := h
  obtain ⟨fa, hfa⟩ : ∃ f, Hid (f = dF d) := ⟨_, Lib.hid rfl⟩
  obtain ⟨fb, hfb⟩ : ∃ f, Hid (f = dF e) := ⟨_, Lib.hid rfl⟩
  rw [← hfa.out] at hQ hLk
  rw [← hfb.out] at hQ hSe hneq
  generalize tS d = x at *
  generalize tS e = y at *
  clear hA ht1 ht2
  obtain ⟨w1, hw1⟩ : ∃ w1, Hid (w1 = w.alloc (boxO p s u)) := ⟨_, Lib.hid rfl⟩
  have hb1 : Hid (Below w.heap.size w w1) := Lib.hid (by rw [hw1.out]; exact ba1 w _)
  have F1 := Lib.hid (show w1.heap[w.heap.size]? = some (boxO p s u) by rw [hw1.out]; exact hb_new _ _)
  have f0 : w1.cell? ⟨w.heap.size, 0, none⟩ = some (.int .i64 p) := hb_cell F1.out 0
  have f1 : w1.cell? ⟨w.heap.size, 1, none⟩ = some (.int .i64 s) := hb_cell F1.out 1
  have f2 : w1.cell? ⟨w.heap.size, 2, none⟩ = some u := hb_cell F1.out 2
  have l1 := hb_lt F1.out
  go_enter Try.func28, Try.ntmps28
  go_wp2_with fail
  rw [← hw1.out]
  go_wp2_with fail
  refine (hQ.out _ hb1.out).mono ?_; rintro e w2 ⟨rfl, hb⟩
  have F2 := Lib.hid (hb_below hb l1 F1.out)
  have l2 := hb_lt F2.out
  obtain ⟨w3, hw3⟩ : ∃ w3, Hid (w3 = (w2.alloc (bsO fa)).alloc (bsO fb)) := ⟨_, Lib.hid rfl⟩
  have hb3 : Hid (Below w.heap.size w w3) := Lib.hid (by rw [hw3.out]; exact ((bt1 hb1.out hb).alloc (by omega) _).alloc (by simp; omega) _)
  have F3 := Lib.hid (show w3.heap[w.heap.size]? = some (boxO p s u) by rw [hw3.out]; exact hb_old _ (hb_old _ F2.out))
  have G3 := Lib.hid (show w3.heap[w2.heap.size]? = some (bsO fa) by rw [hw3.out]; exact hb_old _ (hb_new _ _))
  have H3 := Lib.hid (show w3.heap[w2.heap.size + 1]? = some (bsO fb) by rw [hw3.out]; exact hb_new' _ _ _ (by simp))
  clear hb f0 f1 f2
  have f0 : w3.cell? ⟨w.heap.size, 0, none⟩ = some (.int .i64 p) := hb_cell F3.out 0
  have f1 : w3.cell? ⟨w.heap.size, 1, none⟩ = some (.int .i64 s) := hb_cell F3.out 1
  have f2 : w3.cell? ⟨w.heap.size, 2, none⟩ = some u := hb_cell F3.out 2
  have h0 : w3.cell? ⟨w2.heap.size + 1, 0, none⟩ = some (.int .i64 (fb 0)) := hb_cell H3.out 0
  have h1 : w3.cell? ⟨w2.heap.size + 1, 1, none⟩ = some (.int .i64 (fb 1)) := hb_cell H3.out 1
  have h2 : w3.cell? ⟨w2.heap.size + 1, 2, none⟩ = some (.int .i64 (fb 2)) := hb_cell H3.out 2
  have h3 : w3.cell? ⟨w2.heap.size + 1, 3, none⟩ = some (.int .i64 (fb 3)) := hb_cell H3.out 3
  have h4 : w3.cell? ⟨w2.heap.size + 1, 4, none⟩ = some (.int .i64 (fb 4)) := hb_cell H3.out 4
  have h5 : w3.cell? ⟨w2.heap.size + 1, 5, none⟩ = some (.int .i64 (fb 5)) := hb_cell H3.out 5
  go_upto_region 4 with fail
  rw [← hw3.out]
  have l3 := hb_lt H3.out
  go_wp2_with fail
  refine (hSe.out _ hb3.out).mono ?_; rintro e w5 ⟨b1, rfl, hm, -, hb⟩
  have F5 := Lib.hid (hb_below hb (by omega) F3.out)
  have G5 := Lib.hid (hb_below hb (by omega) G3.out)
  have H5 := Lib.hid (hb_below hb l3 H3.out)
  have hb5 := Lib.hid (bt1 hb3.out hb)
  have hs5 : w3.heap.size ≤ w5.heap.size := hb.size
  have hlk := hLk.out _ _ hm
  have hm5 := Lib.hid hm
  clear hm hb f0 f1 f2 h0 h1 h2 h3 h4 h5
  have g0 : w5.cell? ⟨w2.heap.size, 0, none⟩ = some (.int .i64 (fa 0)) := hb_cell G5.out 0
  have g1 : w5.cell? ⟨w2.heap.size, 1, none⟩ = some (.int .i64 (fa 1)) := hb_cell G5.out 1
  have g2 : w5.cell? ⟨w2.heap.size, 2, none⟩ = some (.int .i64 (fa 2)) := hb_cell G5.out 2
  have g3 : w5.cell? ⟨w2.heap.size, 3, none⟩ = some (.int .i64 (fa 3)) := hb_cell G5.out 3
  have g4 : w5.cell? ⟨w2.heap.size, 4, none⟩ = some (.int .i64 (fa 4)) := hb_cell G5.out 4
  have g5 : w5.cell? ⟨w2.heap.size, 5, none⟩ = some (.int .i64 (fa 5)) := hb_cell G5.out 5
  have l5 := hb_lt H5.out
  cases o with
  | none =>
    have hlk : (Instr.lookup 77 (.map (some b1)) (bsV fa) true).run Try.prog w5 = .ok (.tuple #[.int .i64 0, .bool false]) w5 := hlk
    go_wp2_with fail
    go_ret2; exact ⟨_, rfl, OwnSS.nil _ _, hb5.out⟩
  | some L =>
    have hlk : (Instr.lookup 77 (.map (some b1)) (bsV fa) true).run Try.prog w5 = .ok (.tuple #[.int .i64 (L : Int), .bool true]) w5 := hlk
    have hL1 := hL9 L rfl
    obtain ⟨w6, hw6⟩ : ∃ w6, Hid (w6 = w5.alloc (bsO fa)) := ⟨_, Lib.hid rfl⟩
    have Q6 := Lib.hid (show w6.heap[w5.heap.size]? = some (bsO fa) by rw [hw6.out]; exact hb_new _ _)
    have hb6 := Lib.hid (show Below w5.heap.size w5 w6 by rw [hw6.out]; exact ba1 _ _)
    go_upto_region 10 with fail
    rw [← hw6.out]
    clear hlk g0 g1 g2 g3 g4 g5
    go_loopw [14, 15] (fun o q wr => ∃ (i gq : Nat), i ≤ L ∧ (∃ po co, o = .slice po i co) ∧ q = .pointer (some ⟨gq, 0, none⟩) ∧ Hid (OwnSS wr w5.heap.size o (AN i)) ∧ Hid (wr.heap[gq]? = some (bsO (dF (ST i)))) ∧ Hid (w5.heap.size ≤ gq) ∧ Hid (Below w5.heap.size w5 wr)) (fun o _ _ => L - lenV o)
    case atStart => exact ⟨0, _, Nat.zero_le _, ⟨_, _, rfl⟩, rfl, Lib.hid (by rw [hAN0.out]; exact OwnSS.nil _ _), Lib.hid (by rw [hst0.out, ← hfa.out]; exact Q6.out), Lib.hid (Nat.le_refl _), hb6⟩
    case round =>
      obtain ⟨i, gq, hi, ⟨po, co, rfl⟩, rfl, hoS, hQ1, hgq, hbr⟩ := hrel
      obtain ⟨wA, rfl⟩ : ∃ x, x = wr := ⟨_, rfl⟩
      obtain ⟨hsti, hfi⟩ := hst.out L rfl i hi
      have heni := hen.out L rfl i hi
      have HA := Lib.hid (hb_below hbr.out l5 H5.out)
      have hneA := hneq.out (ST i) hsti wA
      obtain ⟨fz, hfz⟩ : ∃ f, Hid (f = dF (ST i)) := ⟨_, Lib.hid rfl⟩
      have QA := Lib.hid (show wA.heap[gq]? = some (bsO fz) by rw [hfz.out]; exact hQ1.out)
      clear hQ1
      rw [← hfz.out] at hneA
      have g0 : wA.cell? ⟨gq, 0, none⟩ = some (.int .i64 (fz 0)) := hb_cell QA.out 0
      have g1 : wA.cell? ⟨gq, 1, none⟩ = some (.int .i64 (fz 1)) := hb_cell QA.out 1
      have g2 : wA.cell? ⟨gq, 2, none⟩ = some (.int .i64 (fz 2)) := hb_cell QA.out 2
      have g3 : wA.cell? ⟨gq, 3, none⟩ = some (.int .i64 (fz 3)) := hb_cell QA.out 3
      have g4 : wA.cell? ⟨gq, 4, none⟩ = some (.int .i64 (fz 4)) := hb_cell QA.out 4
      have g5 : wA.cell? ⟨gq, 5, none⟩ = some (.int .i64 (fz 5)) := hb_cell QA.out 5
      have h0 : wA.cell? ⟨w2.heap.size + 1, 0, none⟩ = some (.int .i64 (fb 0)) := hb_cell HA.out 0
      have h1 : wA.cell? ⟨w2.heap.size + 1, 1, none⟩ = some (.int .i64 (fb 1)) := hb_cell HA.out 1
      have h2 : wA.cell? ⟨w2.heap.size + 1, 2, none⟩ = some (.int .i64 (fb 2)) := hb_cell HA.out 2
      have h3 : wA.cell? ⟨w2.heap.size + 1, 3, none⟩ = some (.int .i64 (fb 3)) := hb_cell HA.out 3
      have h4 : wA.cell? ⟨w2.heap.size + 1, 4, none⟩ = some (.int .i64 (fb 4)) := hb_cell HA.out 4
      have h5 : wA.cell? ⟨w2.heap.size + 1, 5, none⟩ = some (.int .i64 (fb 5)) := hb_cell HA.out 5
      by_cases hlt : i < L
      · have hnd : decide (ST i = e) = false := by rw [decide_eq_false_iff_not]; exact heni.2 hlt
        rw [hnd] at hneA
        have hfi2 : FF (ST i) = some ((L - (i + 1)) + 1) := by rw [hfi]; congr 1; omega
        have hNA := Lib.hid (hNr.out wA (bt1 hb5.out hbr.out) (ST i) _ b1 hsti hfi2 (hm5.out.below hbr.out))
        rw [← hfz.out] at hNA
        have FA := Lib.hid (hb_below hbr.out (by omega) F5.out)
        have f0 : wA.cell? ⟨w.heap.size, 0, none⟩ = some (.int .i64 p) := hb_cell FA.out 0
        have f1 : wA.cell? ⟨w.heap.size, 1, none⟩ = some (.int .i64 s) := hb_cell FA.out 1
        have f2 : wA.cell? ⟨w.heap.size, 2, none⟩ = some u := hb_cell FA.out 2
        have hs1 := Lib.hid (hsts.out i)
        have ha1 := Lib.hid (hasu.out i)
        have hln := Lib.hid (show (AN i).length ≤ 1000000 by rw [hale.out]; omega)
        generalize NK (ST i) = nk at *
        obtain ⟨k2, hk2⟩ : ∃ x : Int, Hid (x = (nk.1 : Int)) := ⟨_, Lib.hid rfl⟩
        obtain ⟨y2, hy2⟩ : ∃ x : Int, Hid (x = byX nk.2) := ⟨_, Lib.hid rfl⟩
        obtain ⟨q2, hq2⟩ : ∃ x, Hid (x = dF (tuD (ST i) nk.1 nk.2)) := ⟨_, Lib.hid rfl⟩
        have htI : Hid (tnI nk = [k2, y2]) := Lib.hid (by rw [hk2.out, hy2.out]; rfl)
        rw [← hk2.out, ← hy2.out, ← hq2.out] at hNA
        clear hnd heni hfi hfi2
        go_wp2_with fail
        refine hNA.out.mono ?_; rintro e' wB ⟨rfl, hb⟩
        have hsA := hbr.out.size
        have hbB := Lib.hid (bt2 hbr.out hb hsA)
        have hoB := Lib.hid (hoS.out.below hb)
        have QB := Lib.hid (hb_below hb (hb_lt QA.out) QA.out)
        have HB := Lib.hid (hb_below hb (hb_lt HA.out) HA.out)
        clear hb f0 f1 f2 g0 g1 g2 g3 g4 g5 h0 h1 h2 h3 h4 h5 hneA
        obtain ⟨wC, hwC⟩ : ∃ x, Hid (x = wB.alloc (tnO k2 y2 q2)) := ⟨_, Lib.hid rfl⟩
        have hsB := hbB.out.size
        have hbC := Lib.hid (show Below w5.heap.size w5 wC by rw [hwC.out]; exact hbB.out.alloc hsB _)
        have TC := Lib.hid (show wC.heap[wB.heap.size]? = some (tnO k2 y2 q2) by rw [hwC.out]; exact hb_new _ _)
        have QC := Lib.hid (show wC.heap[gq]? = some (bsO fz) by rw [hwC.out]; exact hb_old _ QB.out)
        have hoC := Lib.hid (show OwnSS wC w5.heap.size (.slice po i co) _ by rw [hwC.out]; exact hoB.out.alloc _)
        have t0 : wC.cell? ⟨wB.heap.size, 0, none⟩ = some (.int .i64 k2) := hb_cell TC.out 0
        have t1 : wC.cell? ⟨wB.heap.size, 1, none⟩ = some (.int .i64 y2) := hb_cell TC.out 1
        have t2 : wC.cell? ⟨wB.heap.size, 2, none⟩ = some (.int .i64 (q2 0)) := hb_cell TC.out 2
        have t3 : wC.cell? ⟨wB.heap.size, 3, none⟩ = some (.int .i64 (q2 1)) := hb_cell TC.out 3
        have t4 : wC.cell? ⟨wB.heap.size, 4, none⟩ = some (.int .i64 (q2 2)) := hb_cell TC.out 4
        have t5 : wC.cell? ⟨wB.heap.size, 5, none⟩ = some (.int .i64 (q2 3)) := hb_cell TC.out 5
        have t6 : wC.cell? ⟨wB.heap.size, 6, none⟩ = some (.int .i64 (q2 4)) := hb_cell TC.out 6
        have t7 : wC.cell? ⟨wB.heap.size, 7, none⟩ = some (.int .i64 (q2 5)) := hb_cell TC.out 7
        go_upto_region 12 with fail
        rw [← hwC.out]
        have hsC := hbC.out.size
        go_wp2_with fail
        refine (told_any k2 y2 q2 wC).mono ?_; rintro e' wD ⟨gt, rfl, hlD, hb⟩
        have hbD := Lib.hid (bt2 hbC.out hb hsC)
        obtain ⟨wE, hwE⟩ : ∃ x, Hid (x = wD.alloc (.cells #[.slice (some ⟨gt, 0, none⟩) 2 2] 54)) := ⟨_, Lib.hid rfl⟩
        have hsD := hbD.out.size
        have hbCE := Lib.hid (show Below wC.heap.size wC wE by rw [hwE.out]; exact hb.alloc (hb.size) _)
        have hoE := Lib.hid (hoC.out.below hbCE.out)
        have hlE := Lib.hid (show OwnI wE wC.heap.size (.slice (some ⟨gt, 0, none⟩) 2 2) [k2, y2] by rw [hwE.out]; exact hlD.alloc _)
        have hbr4 := Lib.hid (show Below w5.heap.size w5 wE by rw [hwE.out]; exact hbD.out.alloc hsD _)
        have hcE := Lib.hid (show wE.heap[wD.heap.size]? = some (.cells #[.slice (some ⟨gt, 0, none⟩) 2 2] 54) by rw [hwE.out]; exact hb_new _ _)
        have hsE := hbr4.out.size
        have TE := Lib.hid (hb_below hbCE.out (hb_lt TC.out) TC.out)
        have QE := Lib.hid (hb_below hbCE.out (hb_lt QC.out) QC.out)
        have hneT := Lib.hid (ss_ne_tn hoE.out TE.out)
        have hneQ := Lib.hid (ss_ne_bs hoE.out QE.out)
        clear t0 t1 t2 t3 t4 t5 t6 t7 hb hlD
        go_wp2_with (at_builtin; rw [← hwE.out]; refine app_ss _ rfl _ _ rfl w5.heap.size _ _ rfl wC hoC.out hbCE.out wD.heap.size (some ⟨gt, 0, none⟩, 2, 2) [k2, y2] rfl hcE.out (hlE.out.mono hsC) (fun x e => (hlE.out.lt x e).1) hln.out hsE ?_; intro v' wF hoF hgF hatF; have TF := Lib.hid ((hgF.block _ (hb_lt TE.out) hneT.out).trans TE.out); have QF := Lib.hid ((hgF.block _ (hb_lt QE.out) hneQ.out).trans QE.out); have hlF : (AN i ++ [[k2, y2]]).length = i + 1 := (by simp [hale.out]); (obtain ⟨pF, cF, hvF, -, -⟩ := hoF.rd); (rw [hlF] at hvF); (subst hvF); clear hlF; replace hoF := Lib.hid hoF; replace hgF := Lib.hid hgF; clear hatF; have t2 : wF.cell? ⟨wB.heap.size, 2, none⟩ = some (.int .i64 (q2 0)) := hb_cell TF.out 2; have t3 : wF.cell? ⟨wB.heap.size, 3, none⟩ = some (.int .i64 (q2 1)) := hb_cell TF.out 3; have t4 : wF.cell? ⟨wB.heap.size, 4, none⟩ = some (.int .i64 (q2 2)) := hb_cell TF.out 4; have t5 : wF.cell? ⟨wB.heap.size, 5, none⟩ = some (.int .i64 (q2 3)) := hb_cell TF.out 5; have t6 : wF.cell? ⟨wB.heap.size, 6, none⟩ = some (.int .i64 (q2 4)) := hb_cell TF.out 6; have t7 : wF.cell? ⟨wB.heap.size, 7, none⟩ = some (.int .i64 (q2 5)) := hb_cell TF.out 7; have g0 : wF.cell? ⟨gq, 0, none⟩ = some (.int .i64 (fz 0)) := hb_cell QF.out 0; have g1 : wF.cell? ⟨gq, 1, none⟩ = some (.int .i64 (fz 1)) := hb_cell QF.out 1; have g2 : wF.cell? ⟨gq, 2, none⟩ = some (.int .i64 (fz 2)) := hb_cell QF.out 2; have g3 : wF.cell? ⟨gq, 3, none⟩ = some (.int .i64 (fz 3)) := hb_cell QF.out 3; have g4 : wF.cell? ⟨gq, 4, none⟩ = some (.int .i64 (fz 4)) := hb_cell QF.out 4; have g5 : wF.cell? ⟨gq, 5, none⟩ = some (.int .i64 (fz 5)) := hb_cell QF.out 5; have zF := hb_frozen QF.out; have lF := hb_lt QF.out)
        have ho9 := Lib.hid (show OwnSS wF w5.heap.size (.slice pF (i + 1) cF) (AN (i + 1)) by
          rw [ha1.out, htI.out]; exact hoF.out)
        have hbF := Lib.hid (hbr4.out.grown hgF.out hsE (fun a e => (hoE.out.lt a e).1))
        have hgq1 := hgq.out
        clear hgF hoF
        go_roundw
        case rel =>
          refine ⟨i + 1, _, by omega, ⟨_, _, rfl⟩, rfl, Lib.hid ((ho9.out.keptNe (set6_grown wF gq q2) QF.out).alloc (bsO q2)), Lib.hid ?_, Lib.hid ?_, Lib.hid ?_⟩
          · rw [hs1.out, ← hq2.out]; exact hb_new' _ _ _ (by simp)
          · have := hbF.out.size
            simp; omega
          · exact (hbF.out.grown (set6_grown wF gq q2) hbF.out.size (fun a e => by have := Option.some.inj e; omega)).alloc (by have := hbF.out.size; simp; omega) _
        all_goals (simp [lenV] <;> omega)
      · obtain rfl : i = L := by omega
        have hnd : decide (ST i = e) = true := by rw [decide_eq_true_eq]; exact Decidable.byContradiction fun h => hlt (heni.1 h)
        rw [hnd] at hneA
        go_wp2_with fail
        go_ret2; exact ⟨_, rfl, hoS.out.mono (by have := hb5.out.size; omega), bt1 hb5.out hbr.out⟩
end Go.Proofs.Ytjlecipeoaohiaa
