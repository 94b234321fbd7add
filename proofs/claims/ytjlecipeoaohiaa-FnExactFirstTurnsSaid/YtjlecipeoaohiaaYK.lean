/- FirstTurns, by the model. -/
import Derived.Test.YtjlecipeoaohiaaYJ
namespace Go.Proofs.Ytjlecipeoaohiaa
set_option linter.unusedSimpArgs false
set_option linter.unusedVariables false
open Go Go.RowKit RM Go.Maps Go.WideMaps Go.ChangeMaps
theorem far_le {p s : Nat} {rs : List ByteArray} (hG : GX p s rs) {e d : List Nat} (he : stOk p s e) (hd : stOk p s d) (hsp : s ^ p ≤ 1000) {L : Nat} (hL : (fin 1 (nbX p s rs) (allX p s) e).far d = some L) : L ≤ 1000 := by
  have h := stT_ok hG he hd hL
  have h1 : 1 ≤ s := by have := hG.s2; omega
  have hn : ((List.range (L + 1)).map (stT s rs p (fin 1 (nbX p s rs) (allX p s) e).far d)).Nodup := by
    unfold List.Nodup
    rw [List.pairwise_map]
    refine List.Pairwise.imp_of_mem ?_ (List.pairwise_lt_range (n := L + 1))
    intro a b ha hb hlt heq
    rw [List.mem_range] at ha hb
    have e1 := (h a (by omega)).2
    have e2 := (h b (by omega)).2
    rw [heq, e2] at e1
    have := Option.some.inj e1
    omega
  have hs : ∀ t ∈ (List.range (L + 1)).map (stT s rs p (fin 1 (nbX p s rs) (allX p s) e).far d), t ∈ allX p s := fun t ht => by
    obtain ⟨i, hi, rfl⟩ := List.mem_map.1 ht
    rw [List.mem_range] at hi
    exact (mem_X h1).2 (h i (by omega)).1
  have := nodup_sub_len hn hs
  rw [List.length_map, List.length_range, X_len] at this
  omega
set_option maxRecDepth 100000 in
theorem sFi_no (v : Value) (P S : Int) (rs : List ByteArray) (x y : ByteArray) (w : World) (hz : ∀ s ∈ rs, s.size ≤ maxLen) (hx : x.size ≤ maxLen) (hy : y.size ≤ maxLen) (h : RdX w v P S rs) (hA : askT P S rs x y = false) :
    Calls Try.prog 27 #[v, .string x, .string y] w fun e w' => e = .returned (.tuple #[.slice none 0 0, .bool false]) ∧ Below w.heap.size w w' := by
  have hQ := Lib.hid (fun w' (hb : Below w.heap.size w w') => bxTwo_any v P S rs x y w' hz hx hy (h.below hb))
  rw [hA] at hQ
  obtain ⟨u, rfl, -⟩ := h
  obtain ⟨w1, hw1⟩ : ∃ w1, Hid (w1 = w.alloc (boxO P S u)) := ⟨_, Lib.hid rfl⟩
  have hb1 : Hid (Below w.heap.size w w1) := Lib.hid (by rw [hw1.out]; exact ba1 w _)
  have F1 := Lib.hid (show w1.heap[w.heap.size]? = some (boxO P S u) by rw [hw1.out]; exact hb_new _ _)
  have f0 : w1.cell? ⟨w.heap.size, 0, none⟩ = some (.int .i64 P) := hb_cell F1.out 0
  have f1 : w1.cell? ⟨w.heap.size, 1, none⟩ = some (.int .i64 S) := hb_cell F1.out 1
  have f2 : w1.cell? ⟨w.heap.size, 2, none⟩ = some u := hb_cell F1.out 2
  clear hA
  go_enter Try.func27, Try.ntmps27
  go_wp2_with fail
  rw [← hw1.out]
  go_wp2_with fail
  refine (hQ.out _ hb1.out).mono ?_; rintro e w2 ⟨rfl, hb⟩
  go_wp2_with fail
  go_ret2; exact ⟨rfl, bt1 hb1.out hb⟩
/-- what a look at a turn loads: the box, and the turn's two numbers -/
abbrev XK (f g B : Nat) (P S : Int) (u : Value) (k y : Int) (W w : World) : Prop :=
  (w.cell? ⟨f, 0, none⟩ = some (.int .i64 P) ∧ w.cell? ⟨f, 1, none⟩ = some (.int .i64 S) ∧ w.cell? ⟨f, 2, none⟩ = some u) ∧
  (w.cell? ⟨g, 0, none⟩ = some (.int .i64 k) ∧ w.cell? ⟨g, 1, none⟩ = some (.int .i64 y)) ∧ f < w.heap.size ∧ g < w.heap.size ∧ Below B W w
theorem keepK {f g : Nat} {P S : Int} {u : Value} {k y : Int} {W a b : World} (kk : Below a.heap.size a b) (hx : XK f g W.heap.size P S u k y W a) : XK f g W.heap.size P S u k y W b := by
  obtain ⟨⟨a0, a1, a2⟩, ⟨b0, b1⟩, hf, hg, hb⟩ := hx
  have e : ∀ g o, g < a.heap.size → b.cell? ⟨g, o, none⟩ = a.cell? ⟨g, o, none⟩ := fun g o hg => kk.cell (p := ⟨g, o, none⟩) hg
  have hs := kk.size
  exact ⟨⟨by rw [e _ _ hf]; exact a0, by rw [e _ _ hf]; exact a1, by rw [e _ _ hf]; exact a2⟩, ⟨by rw [e _ _ hg]; exact b0, by rw [e _ _ hg]; exact b1⟩, by omega, by omega, bt1 hb kk⟩
theorem keepKB {f g : Nat} {P S : Int} {u : Value} {k y : Int} {W w : World} (hx : XK f g W.heap.size P S u k y W w) : Below W.heap.size W w := hx.2.2.2.2
set_option maxRecDepth 1000000 in
set_option maxHeartbeats 4000000 in
theorem sFi_yes (v : Value) (p s : Nat) (rs : List ByteArray) (d e : List Nat) (w : World) (hz : ∀ s ∈ rs, s.size ≤ maxLen) (hA : askT p s rs (tS d) (tS e) = true) (hG : GX p s rs) (hsp : s ^ p ≤ 1000) (hd : stOk p s d) (he : stOk p s e) (h : RdX w v p s rs)
    (o : Option Nat) (ho : (fin 1 (nbX p s rs) (allX p s) e).far d = o) (hL9 : ∀ L, o = some L → L ≤ 1000) :
    Calls Try.prog 27 #[v, .string (tS d), .string (tS e)] w fun en w' => RetSS w (ansT (anT s rs p (fin 1 (nbX p s rs) (allX p s) e).far d) o) o.isSome en w' := by
  have h6 := hG.p6
  have h5 := hG.s5
  have h2 := hG.s2
  have ht1 : (tS d).size ≤ maxLen := by rw [tS_size, hd.1]; unfold maxLen; omega
  have ht2 : (tS e).size ≤ maxLen := by rw [tS_size, he.1]; unfold maxLen; omega
  have hQ := Lib.hid (fun w' (hb : Below w.heap.size w w') => bxTwo_any v p s rs (tS d) (tS e) w' hz ht1 ht2 (h.below hb))
  rw [hA] at hQ
  have hFar := Lib.hid (fun w' (hb : Below w.heap.size w w') => bxFar_any 1 v p s rs e w' hG hsp (h.below hb) he (Nat.le_refl _))
  have hTs := Lib.hid (fun w' (hb : Below w.heap.size w w') t (ht : stOk p s t) => bxTurns_any v p s rs t w' hG (h.below hb) ht)
  have hTn := Lib.hid (fun w' (hb : Below w.heap.size w w') t (ht : stOk p s t) k (hk : k < p) up => bxTurn_any v p s rs t k up w' hG (h.below hb) ht hk)
  obtain ⟨u, rfl, -⟩ := h
  have hNum := Lib.hid (fun t (ht : stOk p s t) w => bxNumber_any p s u t w h6 h2 h5 ht)
  have hnlt := Lib.hid (fun t (ht : stOk p s t) => nX_st ht)
  have hget := Lib.hid (fun t (ht : stOk p s t) h => mX_get ht (fin 1 (nbX p s rs) (allX p s) e).far h)
  have hml := Lib.hid (mX_len p s (fin 1 (nbX p s rs) (allX p s) e).far)
  have hst := Lib.hid (fun L (hL : o = some L) => stT_ok hG he hd (ho.trans hL))
  have hasu := Lib.hid (anT_succ s rs p (fin 1 (nbX p s rs) (allX p s) e).far d)
  have hale := Lib.hid (anT_len s rs p (fin 1 (nbX p s rs) (allX p s) e).far d)
  have hnk := Lib.hid (fun t m (ht : stOk p s t) hm => nkT_spec (m := m) hG he ht hm)
  have hst0 : Hid (stT s rs p (fin 1 (nbX p s rs) (allX p s) e).far d 0 = d) := Lib.hid rfl
  have hsts := Lib.hid (fun i => show stT s rs p (fin 1 (nbX p s rs) (allX p s) e).far d (i + 1) = tuD (stT s rs p (fin 1 (nbX p s rs) (allX p s) e).far d i) (nkT s rs p (fin 1 (nbX p s rs) (allX p s) e).far (stT s rs p (fin 1 (nbX p s rs) (allX p s) e).far d i)).1 (nkT s rs p (fin 1 (nbX p s rs) (allX p s) e).far (stT s rs p (fin 1 (nbX p s rs) (allX p s) e).far d i)).2 from rfl)
  have hok := Lib.hid (fun t (ht : stOk p s t) q (hq : q ∈ tK s rs t (2 * p)) => tK_ok ht hq)
  have htu := Lib.hid (fun t k up (hq : (k, up) ∈ tK s rs t (2 * p)) => ((tK_mem' s rs t k up (2 * p)).1 hq).2)
  have hll := Lib.hid (fun t => tK_len s rs t (2 * p))
  have hds := Lib.hid (hget.out d hd)
  rw [ho] at hds
  generalize hAN : anT s rs p (fin 1 (nbX p s rs) (allX p s) e).far d = AN at *
  have hAN0 : Hid (AN 0 = []) := Lib.hid (by rw [← hAN]; rfl)
  clear hAN
  generalize stT s rs p (fin 1 (nbX p s rs) (allX p s) e).far d = ST at *
  generalize nkT s rs p (fin 1 (nbX p s rs) (allX p s) e).far = NK at *
  generalize mX p s (fin 1 (nbX p s rs) (allX p s) e).far = mm at *
  generalize hFF : (fin 1 (nbX p s rs) (allX p s) e).far = FF at *
  generalize (fin 1 (nbX p s rs) (allX p s) e).q.length = CNT at *
  clear ho hFF
  generalize s ^ p = N at *
  have hdlt := hnlt.out d hd
  have hNd := Lib.hid (hNum.out d hd)
  have hx0 := Lib.hid (show tS d = tS (ST 0) by rw [hst0.out])
  generalize hxx : tS d = x at *
  generalize nX s d = nd at *
  generalize tS e = y at *
  clear hA ht1 ht2 hxx
  obtain ⟨w1, hw1⟩ : ∃ w1, Hid (w1 = w.alloc (boxO p s u)) := ⟨_, Lib.hid rfl⟩
  have hb1 : Hid (Below w.heap.size w w1) := Lib.hid (by rw [hw1.out]; exact ba1 w _)
  have F1 := Lib.hid (show w1.heap[w.heap.size]? = some (boxO p s u) by rw [hw1.out]; exact hb_new _ _)
  have f0 : w1.cell? ⟨w.heap.size, 0, none⟩ = some (.int .i64 p) := hb_cell F1.out 0
  have f1 : w1.cell? ⟨w.heap.size, 1, none⟩ = some (.int .i64 s) := hb_cell F1.out 1
  have f2 : w1.cell? ⟨w.heap.size, 2, none⟩ = some u := hb_cell F1.out 2
  have l1 := hb_lt F1.out
  go_enter Try.func27, Try.ntmps27
  go_wp2_with fail
  rw [← hw1.out]
  go_wp2_with fail
  refine (hQ.out _ hb1.out).mono ?_; rintro e1 w2 ⟨rfl, hb⟩
  have F2 := Lib.hid (hb_below hb l1 F1.out)
  have l2 := hb_lt F2.out
  have g0 : w2.cell? ⟨w.heap.size, 0, none⟩ = some (.int .i64 p) := hb_cell F2.out 0
  have g1 : w2.cell? ⟨w.heap.size, 1, none⟩ = some (.int .i64 s) := hb_cell F2.out 1
  have g2 : w2.cell? ⟨w.heap.size, 2, none⟩ = some u := hb_cell F2.out 2
  replace hb := Lib.hid (bt1 hb1.out hb)
  clear f0 f1 f2
  go_wp2_with fail
  refine (hFar.out _ hb.out).mono ?_; rintro e1 w3 ⟨gm, rfl, how, hb3⟩
  have F3 := Lib.hid (hb_below hb3 l2 F2.out)
  have l3 := hb_lt F3.out
  replace how := Lib.hid how
  replace hb3 := Lib.hid (bt1 hb.out hb3)
  clear g0 g1 g2
  have k0 : w3.cell? ⟨w.heap.size, 0, none⟩ = some (.int .i64 p) := hb_cell F3.out 0
  have k1 : w3.cell? ⟨w.heap.size, 1, none⟩ = some (.int .i64 s) := hb_cell F3.out 1
  have k2 : w3.cell? ⟨w.heap.size, 2, none⟩ = some u := hb_cell F3.out 2
  go_wp2_with fail
  refine (hNd.out _).mono ?_; rintro e1 w4 ⟨rfl, hb4⟩
  have F4 := Lib.hid (hb_below hb4 l3 F3.out)
  have l4 := hb_lt F4.out
  have how4 := Lib.hid (how.out.below hb4)
  obtain ⟨c0, -⟩ := how4.out.cell hml.out nd (by rw [hml.out]; exact hdlt)
  rw [hds.out] at c0
  replace hb4 := Lib.hid (bt1 hb3.out hb4)
  clear k0 k1 k2
  cases o with
  | none =>
    have c0 : w4.cell? ⟨gm, nd, none⟩ = some (.int .i64 (-1)) := c0
    go_wp2_with fail
    go_ret2; exact ⟨_, rfl, OwnSS.nil _ _, hb4.out⟩
  | some L =>
    replace c0 : w4.cell? ⟨gm, nd, none⟩ = some (.int .i64 (L : Int)) := c0
    have hL1 := hL9 L rfl
    have hLn : decide ((L : Int) < 0) = false := by rw [decide_eq_false_iff_not]; omega
    go_wp2_with fail
    clear c0
    go_loopw [1, 10, 11] (fun fr lf o wr => ∃ (i : Nat) (sx : ByteArray), i ≤ L ∧ fr = .string sx ∧ lf = .int .i64 ((L : Int) - (i : Int)) ∧ (∃ po co, o = .slice po i co) ∧ Hid (sx = tS (ST i)) ∧ Hid (OwnSS wr w4.heap.size o (AN i)) ∧ Hid (Below w4.heap.size w4 wr)) (fun _ lf _ _ => (intOf lf).toNat)
    case atStart => exact ⟨0, x, Nat.zero_le _, rfl, by simp, ⟨_, _, rfl⟩, hx0, Lib.hid (by rw [hAN0.out]; exact OwnSS.nil _ _), Lib.hid (Below.refl _ _)⟩
    case round =>
      obtain ⟨i, sx, hi, rfl, rfl, ⟨po, co, rfl⟩, hsx, hoS, hbr⟩ := hrel
      obtain ⟨wA, rfl⟩ : ∃ x, x = wr := ⟨_, rfl⟩
      by_cases hlt : i < L
      · have hgt : (0 : Int) < (L : Int) - (i : Int) := by omega
        have hgt2 : decide ((L : Int) - (i : Int) > 0) = true := by rw [decide_eq_true_eq]; omega
        obtain ⟨hsti, hfi⟩ := hst.out L rfl i hi
        have hfi2 : FF (ST i) = some ((L - (i + 1)) + 1) := by rw [hfi]; congr 1; omega
        obtain ⟨j, hj, hjk, hfj, hpj, hlj, hall⟩ := hnk.out (ST i) _ hsti hfi2
        have hs1 := Lib.hid (hsts.out i)
        have ha1 := Lib.hid (hasu.out i)
        have hln := Lib.hid (show (AN i).length ≤ 1000000 by rw [hale.out]; omega)
        rw [← hjk] at hs1 ha1
        have hTsA := Lib.hid (hTs.out wA (bt1 hb4.out hbr.out) (ST i) hsti)
        have hoki := Lib.hid (hok.out (ST i) hsti)
        have htui := Lib.hid (htu.out (ST i))
        have hlli := hll.out (ST i)
        have hTni := Lib.hid (fun w' hb => hTn.out w' hb (ST i) hsti)
        rw [← hsx.out] at hTsA hTni
        have hnr : Hid (∀ k (hk : k < (tK s rs (ST i) (2 * p)).length), k < j → ∃ x : Nat, FF (tuD (ST i) (tK s rs (ST i) (2 * p))[k].1 (tK s rs (ST i) (2 * p))[k].2) = some x ∧ x ≠ L - (i + 1)) := Lib.hid (fun k hk hkj => by
          obtain ⟨x, hx, hmx⟩ := hall k hk
          refine ⟨x, hx, fun e => ?_⟩
          have := hlj k hk hkj
          unfold nrT at this
          rw [hx, hfi2] at this
          have := of_decide_eq_false this
          simp at this
          omega)
        generalize tK s rs (ST i) (2 * p) = l at *
        replace hfj := Lib.hid hfj
        clear hall hlj hpj hjk hfi2 hfi
        have FA := Lib.hid (hb_below hbr.out (by omega) F4.out)
        have lA := hb_lt FA.out
        have hhA := Lib.hid (how4.out.below hbr.out)
        have f0 : wA.cell? ⟨w.heap.size, 0, none⟩ = some (.int .i64 p) := hb_cell FA.out 0
        have f1 : wA.cell? ⟨w.heap.size, 1, none⟩ = some (.int .i64 s) := hb_cell FA.out 1
        have f2 : wA.cell? ⟨w.heap.size, 2, none⟩ = some u := hb_cell FA.out 2
        go_wp2_with fail
        refine hTsA.out.mono ?_; rintro e1 wB ⟨ut, rfl, hut, hbB⟩
        obtain ⟨pt, ct, rfl, -, hr⟩ := hut.rd
        obtain ⟨g, -, -, -, rfl, -⟩ := hr wB (Below.refl _ _) j (by rw [List.length_map]; exact hj)
        replace hr := Lib.hid (fun w' hb k (hk : k < l.length) => hr w' hb k (by rw [List.length_map]; exact hk))
        rw [List.length_map]
        have FB := Lib.hid (hb_below hbB lA FA.out)
        have lB := hb_lt FB.out
        have hhB := Lib.hid (hhA.out.below hbB)
        have hbBw := Lib.hid (bt1 (bt1 hb4.out hbr.out) hbB)
        have hbB4 := Lib.hid (bt2 hbr.out hbB hbr.out.size)
        have hbAB := Lib.hid hbB
        clear f0 f1 f2 hbB hut
        go_wp2_with fail
        go_loopw [1, 11, 43] (fun s o i' wi => ∃ k : Nat, k ≤ j ∧ i' = .int .i64 k ∧ s = .string sx ∧ o = .slice po i co ∧ Hid (Below wB.heap.size wB wi)) (fun _ _ i' _ => j + 1 - (intOf i').toNat)
        case atStart => exact ⟨0, Nat.zero_le _, rfl, rfl, rfl, Lib.hid (Below.refl _ _)⟩
        case round =>
          obtain ⟨k, hk, rfl, rfl, rfl, hbw⟩ := hrel
          obtain ⟨wC, rfl⟩ : ∃ x, x = wr := ⟨_, rfl⟩
          have hkl : k < l.length := by omega
          obtain ⟨g', ac, mc, c2, e9, hg', hcl, hoI, hm2⟩ := hr.out wC hbw.out k hkl
          obtain rfl : g = g' := by injection e9 with e9; injection e9
          rw [List.getElem_map] at hoI
          obtain ⟨hkp, hst2⟩ := hoki.out l[k] (List.getElem_mem hkl)
          have htu2 := htui.out l[k].1 l[k].2 (List.getElem_mem hkl)
          have hTk := Lib.hid (fun w' hb => hTni.out w' hb l[k].1 hkp l[k].2)
          rw [htu2, if_pos rfl] at hTk
          have hNk := Lib.hid (fun w => hNum.out _ hst2 w)
          have hgk := Lib.hid (hget.out _ hst2)
          have hnk2 := hnlt.out _ hst2
          obtain ⟨X, hX, hXj⟩ : ∃ X : Nat, FF (tuD (ST i) l[k].1 l[k].2) = some X ∧ Hid ((k = j ∧ X = L - (i + 1)) ∨ (k ≠ j ∧ X ≠ L - (i + 1))) := by
            by_cases ek : k = j
            · subst ek; exact ⟨_, hfj.out, Lib.hid (.inl ⟨rfl, rfl⟩)⟩
            · obtain ⟨x, hx, hne⟩ := hnr.out k hkl (by omega)
              exact ⟨x, hx, Lib.hid (.inr ⟨ek, hne⟩)⟩
          rw [hX] at hgk
          have htT : Hid (k = j → tuD (ST i) l[k].1 l[k].2 = ST (i + 1) ∧ AN (i + 1) = AN i ++ [tnI l[k]]) := Lib.hid (fun ek => by subst ek; exact ⟨hs1.out.symm, ha1.out⟩)
          obtain ⟨k2, hk2⟩ : ∃ x : Int, Hid (x = (l[k].1 : Int)) := ⟨_, Lib.hid rfl⟩
          obtain ⟨y2, hy2⟩ : ∃ x : Int, Hid (x = byX l[k].2) := ⟨_, Lib.hid rfl⟩
          have htI : tnI l[k] = [k2, y2] := by rw [hk2.out, hy2.out]; rfl
          rw [htI] at hoI htT
          rw [← hk2.out, ← hy2.out] at hTk
          generalize tuD (ST i) l[k].1 l[k].2 = t2 at *
          generalize nX s t2 = nt at *
          clear hX htI hk2 hy2 htu2 hm2
          rcases hoI.form with ⟨_, e⟩ | ⟨g2, cap, e8, hg2a, hg2l, hc2, -⟩
          · cases e
          have e8 : Value.slice ac mc c2 = .slice (some ⟨g2, 0, none⟩) 2 cap := e8
          obtain ⟨rfl, rfl, rfl⟩ : ac = some ⟨g2, 0, none⟩ ∧ mc = 2 ∧ c2 = cap := by injection e8 with a b c; exact ⟨a, b, c⟩
          clear e8
          have FC := Lib.hid (hb_below hbw.out lB FB.out)
          have lC := hb_lt FC.out
          have t0 : wC.cell? ⟨g2, 0, none⟩ = some (.int .i64 k2) := hc2 0 (by simp)
          have t1 : wC.cell? ⟨g2, 1, none⟩ = some (.int .i64 y2) := hc2 1 (by simp)
          have hoI := Lib.hid hoI
          have hhC := Lib.hid (hhB.out.below hbw.out)
          have hbC := Lib.hid (bt1 hbBw.out hbw.out)
          have iq0 : (0 : Int) ≤ (k : Int) := by omega
          have iq1 : (k : Int) < (l.length : Int) := by omega
          have f0 : wC.cell? ⟨w.heap.size, 0, none⟩ = some (.int .i64 p) := hb_cell FC.out 0
          have f1 : wC.cell? ⟨w.heap.size, 1, none⟩ = some (.int .i64 s) := hb_cell FC.out 1
          have f2 : wC.cell? ⟨w.heap.size, 2, none⟩ = some u := hb_cell FC.out 2
          clear hc2
          go_upto_region 13 with fail
          go_region_held3 (fun v => XK w.heap.size g2 wC.heap.size p s u k2 y2 wC v) ((first | assumption | (refine ⟨⟨?_, ?_, ?_⟩, ⟨?_, ?_⟩, ?_, ?_, ?_⟩ <;> first | assumption | go_keep | omega | exact (Below.refl _ _).drew)))
            (first | (go_at_call 68; refine (hTk.out _ ?_).mono ?_; (exact bt1 hbC.out (keepKB (by assumption))); rintro e1 w9 ⟨rfl, hb9⟩; have hbn2 := keepK hb9 (by assumption)))
          have hX9 : XK w.heap.size g2 wC.heap.size p s u k2 y2 wC w9 := by assumption
          obtain ⟨⟨b0, b1, b2⟩, -, hf9, -, hb9'⟩ := hX9
          have hb9' := Lib.hid hb9'
          have hh9 := Lib.hid (hhC.out.below hb9'.out)
          clear f0 f1 f2 t0 t1
          go_wp2_with fail
          refine (hNk.out _).mono ?_; rintro e1 wD ⟨rfl, hbD⟩
          obtain ⟨c0, -⟩ := (hh9.out.below hbD).cell hml.out nt (by rw [hml.out]; exact hnk2)
          rw [hgk.out] at c0
          replace c0 : wD.cell? ⟨gm, nt, none⟩ = some (.int .i64 (X : Int)) := c0
          have hbCD := Lib.hid (bt1 hb9'.out hbD)
          have hw1 : IntKind.i64.wrap ((L : Int) - (i : Int) - 1) = (L : Int) - (i : Int) - 1 := by rw [IntKind.wrap_i64]; omega
          clear hbD b0 b1 b2
          rcases hXj.out with ⟨ek, hXe⟩ | ⟨ek, hXe⟩
          · have hcmp : ((X : Int) == (L : Int) - (i : Int) - 1) = true := by rw [beq_iff_eq]; omega
            obtain ⟨wE, hwE⟩ : ∃ x, Hid (x = wD.alloc (.cells #[.slice (some ⟨g2, 0, none⟩) 2 c2] 54)) := ⟨_, Lib.hid rfl⟩
            have hbCE := Lib.hid (show Below wC.heap.size wC wE by rw [hwE.out]; exact hbCD.out.alloc hbCD.out.size _)
            have hbAE := Lib.hid (bt1 (bt1 hbAB.out hbw.out) hbCE.out)
            have hsA := hbr.out.size
            have hbE4 := Lib.hid (bt2 hbr.out hbAE.out hsA)
            have hsE := hbE4.out.size
            have hcE := Lib.hid (show wE.heap[wD.heap.size]? = some (.cells #[.slice (some ⟨g2, 0, none⟩) 2 c2] 54) by rw [hwE.out]; exact hb_new _ _)
            have hlE := Lib.hid ((hoI.out.below hbCE.out).mono hsA)
            have hyn := Lib.hid hoI.out.lt
            have hoE := Lib.hid (hoS.out.below hbAE.out)
            obtain ⟨hT1, hT2⟩ := htT.out ek
            have hsn := Lib.hid (show tS t2 = tS (ST (i + 1)) by rw [hT1])
            replace hT2 := Lib.hid hT2
            clear hT1
            generalize tS t2 = sn at *
            have hln1 := Lib.hid (show (AN i ++ [[k2, y2]]).length = i + 1 by simp [hale.out])
            go_wp2_with (at_builtin; rw [← hwE.out]; refine app_ss _ rfl _ _ rfl w4.heap.size _ _ rfl wA hoS.out hbAE.out wD.heap.size (some ⟨g2, 0, none⟩, 2, c2) [k2, y2] rfl hcE.out hlE.out (fun x e => (hyn.out x e).1) hln.out hsE ?_; intro v' wF hoF hgF hatF; (obtain ⟨pF, cF, hvF, -, -⟩ := hoF.rd); (rw [hln1.out] at hvF); (subst hvF); replace hoF := Lib.hid hoF; replace hgF := Lib.hid hgF; clear hatF)
            have hbF := Lib.hid (hbE4.out.grown hgF.out hsE (fun a e => (hoE.out.lt a e).1))
            have ho9 := Lib.hid (show OwnSS wF w4.heap.size (.slice pF (i + 1) cF) (AN (i + 1)) by rw [hT2.out]; exact hoF.out)
            clear hgF hoF
            go_roundw
            case rel => exact ⟨i + 1, sn, by omega, rfl, vi (by omega), ⟨_, _, rfl⟩, hsn, ho9, hbF⟩
            all_goals (simp [intOf] <;> omega)
          · have hcmp : ((X : Int) == (L : Int) - (i : Int) - 1) = false := by rw [beq_eq_false_iff_ne]; omega
            have hbD4 := Lib.hid (bt1 hbw.out hbCD.out)
            go_wp2_with fail
            go_roundw
            case rel => exact ⟨k + 1, by omega, by go_num, rfl, rfl, hbD4⟩
            all_goals (simp [intOf] <;> omega)
      · obtain rfl : i = L := by omega
        have hgt : ¬ (0 : Int) < (i : Int) - (i : Int) := by omega
        have hgt2 : decide ((i : Int) - (i : Int) > 0) = false := by rw [decide_eq_false_iff_not]; omega
        go_wp2_with fail
        go_ret2; exact ⟨_, rfl, hoS.out.mono (by have := hb4.out.size; omega), bt1 hb4.out hbr.out⟩
theorem FirstTurns_both (P S : Int) (rs : List ByteArray) (hz : ∀ s ∈ rs, s.size ≤ maxLen) (x y : ByteArray) (hx : x.size ≤ maxLen) (hy : y.size ≤ maxLen) : ∃ (r : List (List Int)) (ok : Bool), (ssum r ≤ 2000000 ∧ r.length ≤ 1000000) ∧
    (∀ w v, RdX w v P S rs → Calls Try.prog 27 #[v, .string x, .string y] w fun e w' => RetSS w r ok e w') ∧
    (∀ w v, RdX w v P S rs → Calls Try.prog 28 #[v, .string x, .string y] w fun e w' => RetSS w r ok e w') := by
  cases hA : askT P S rs x y with
  | false =>
    exact ⟨[], false, ⟨by decide, by decide⟩, fun w v h => (sFi_no v P S rs x y w hz hx hy h hA).mono fun e w' ⟨he, hb⟩ => ⟨_, he, OwnSS.nil _ _, hb⟩, fun w v h => (iFi_no v P S rs x y w hz hx hy hA h).mono fun e w' ⟨he, hb⟩ => ⟨_, he, OwnSS.nil _ _, hb⟩⟩
  | true =>
    obtain ⟨p, s, d, e, rfl, rfl, hG, hsp, hd, rfl, he, rfl⟩ := askT_nat hA
    have hL9 : ∀ L, (fin 1 (nbX p s rs) (allX p s) e).far d = some L → L ≤ 1000 := fun L hL => far_le hG he hd hsp hL
    refine ⟨_, _, ?_, fun w v h => sFi_yes v p s rs d e w hz hA hG hsp hd he h _ rfl hL9, fun w v h => iFi_yes v p s rs d e w hz hA hG hsp hd he h _ rfl hL9⟩
    cases ho : (fin 1 (nbX p s rs) (allX p s) e).far d with
    | none => exact ⟨Nat.zero_le _, Nat.zero_le _⟩
    | some L =>
      have := hL9 L ho
      show ssum (anT s rs p _ d L) ≤ _ ∧ (anT s rs p _ d L).length ≤ _
      rw [ssum_anT, anT_len]; omega
end Go.Proofs.Ytjlecipeoaohiaa
