/- The search by keys, by the program. -/
import Derived.Test.YtcfeaaakfjilgabDoorW3
import Derived.Test.YtcfeaaakfjilgabDoorVF
import Derived.BigRegion
import Derived.RegionTactic
namespace Go.Proofs.YtcfeaaakfjilgabDoor
set_option linter.unusedSimpArgs false
set_option linter.unusedVariables false
open Go Go.RowKit RM Go.Maps
theorem wpAny_put {P : Program} {md : Region.Mode} {ops : Array Oper} {Q : Exit → Act → World → Prop} {i d : Nat} {oi : Oper} {v : Value} {fuel : Nat} {listed : Array Bool} {a : Act} {w : World} (hi : ops[i]? = some oi) (hd : oi.dst = some d)
    (hs : Region.noSelect ops = true) (hf : Region.free md ops listed i = true) (hr : (Region.ready md ops listed).contains i = true)
    (hQ : ∀ c a w, Q (.panic c) (a.put oi.dst v) w → Q (.panic c) a w) (hy : Yields P ops oi v a)
    (h : wpAny P md ops Q fuel (listed.setIfInBounds i true) { tmps := a.tmps.setIfInBounds d v, defers := a.defers } w) : wpAny P md ops Q (fuel + 1) listed a w :=
  wpAny_take hi hs hf hr hQ hy (by rw [hd]; exact h)
theorem cells_keep {W w1 : World} (hb : Below W.heap.size W w1) : (∀ b o, b < W.heap.size → w1.cell? ⟨b, o, none⟩ = W.cell? ⟨b, o, none⟩) ∧ (∀ b o, b < W.heap.size → w1.frozen? ⟨b, o, none⟩ = W.frozen? ⟨b, o, none⟩) :=
  ⟨fun b o h => hb.cell (p := ⟨b, o, none⟩) h, fun b o h => hb.frozen (p := ⟨b, o, none⟩) h⟩
theorem ranges_below {w w' : World} {b r n cnt : Nat} {D : DataW Unit} {left : Lit → Bool} (h : w.ranges Tryd.prog 56 (plainElem (H := Unit) Tryd.prog 4) b r n D left cnt) (hb : Below w.heap.size w w') : w'.ranges Tryd.prog 56 (plainElem (H := Unit) Tryd.prog 4) b r n D left cnt := h.kept (grown_any hb none) (by simp) (by simp)
set_option maxRecDepth 1000000 in
set_option maxHeartbeats 4000000 in
theorem search_any (u : Value) (ks : List ByteArray) (B0 n x : Nat) (w : World) (h : OwnG keyE w B0 u (ks.map kp)) (h1 : 1 ≤ n) (h2 : n ≤ 10) (hx : x < 2 ^ n) (hn : ks.length = n) (hG : goodK ks = true) :
    Calls Tryd.prog 35 #[u, .int .u64 x] w fun e w' => ∃ (v : Value) (R : List (Nat × Nat)), e = .returned v ∧ OwnG kwE w' w.heap.size v R ∧ R.length = 2 ^ n ∧ (∀ s (hl : s < R.length), (∀ m, kD n (fkS ks) x s = some m → R[s].1 = m ∧ 1 ≤ R[s].2 ∧ R[s].2 ≤ 9223372036854775808) ∧ (kD n (fkS ks) x s = none → R[s] = (0, 0))) ∧ Below w.heap.size w w' := by
  have hky := keys_keyd ks hG
  rw [hn] at hky
  have hD := hky.dst hx
  generalize kD n (fkS ks) x = D at *
  have hN : 2 ^ n ≤ 1024 := Nat.pow_le_pow_right (n := 2) (by decide) h2
  obtain ⟨N, hNd⟩ : ∃ N, N = 2 ^ n := ⟨_, rfl⟩
  have hC := Lib.hid (fun p c w => count_any p n c w h2)
  have hone := Lib.hid (RowOk.one hD hNd)
  rw [← hNd] at hx hN hC ⊢
  obtain ⟨p, c, rfl, hm, hr⟩ := h.rd
  rw [List.length_map, hn] at h ⊢
  replace hD := Lib.hid hD
  replace hr : Hid (∀ w', Below w.heap.size w w' → ∀ k (hk : k < ks.length), ∃ g, p = some ⟨g, 0, none⟩ ∧ g < w'.heap.size ∧ w'.cell? ⟨g, k * 2, none⟩ = some (.int .u64 (((kp ks[k]).1 : Nat) : Int)) ∧ w'.cell? ⟨g, k * 2 + 1, none⟩ = some (.int .u64 (((kp ks[k]).2 : Nat) : Int))) := Lib.hid (fun w' hb k hk => by
    have := (hr.below hb).ky (k := k) (by simpa using hk)
    simpa using this)
  have hF : Hid (∀ k (hk : k < ks.length) (x : Nat) (w : World), x < 1024 → Calls Tryd.prog 59 #[kv (kp ks[k]), .int .u64 x] w fun e w' => e = .returned (.bool (fkS ks k x)) ∧ Below w.heap.size w w') := Lib.hid (fun k hk x w hx => by
    have hkk := (keyOk_iff _ _ _).1 (goodK_at ks hG k hk)
    rw [fkS_at ks k x hk]
    exact fits_any ks[k] x w (by omega) (by rw [hkk.1]; omega))
  have hpn := Lib.hid (fun (k : Nat) (hk : k < n) => wrap_pow k (by omega : k < 20))
  have hxb := Lib.hid (fun (k : Nat) (hk : k < n) (s : Nat) (hs : s < 1024) => show bits BinOp.xor IntKind.u64 (s : Int) ((2 : Int) ^ k) = ((s ^^^ 2 ^ k : Nat) : Int) by
    have h1 : 2 ^ k < 1048576 := Nat.pow_lt_pow_right (a := 2) (by omega) (by omega : k < 20)
    rw [← pow_int, bits_xor_u64_nat s (2 ^ k) (by omega) (by omega)])
  have hxN := Lib.hid (fun (k : Nat) (hk : k < n) (s : Nat) (hs : s < N) => show s ^^^ 2 ^ k < N by rw [hNd] at hs ⊢; exact xor_lt' hs hk)
  replace hNd := Lib.hid hNd
  have hmm := @run_makeMap Tryd.prog
  go_enter Tryd.func35, Tryd.ntmps35
  go_wp2_with fail
  refine wp_scope_ix0 0 (fun k a' w' => ∃ (b1 b2 L : Nat) (u8 u9 u10 u11 u12 u13 u14 u15 u16 u17 u18 u19 u20 u21 u22 u23 u24 u25 u26 u27 u28 u29 u30 u31 u32 u33 u34 u35 u36 u37 u38 u39 u40 u41 u42 u43 u44 u45 u46 u47 u48 u49 u50 u51 u52 u53 u54 u55 u56 u57 u58 u59 u60 u61 u62 u63 : Value), a' = { tmps := #[.slice p n c, .int .u64 (x : Int), undef, undef, .slice none 0 0, .slice (some ⟨w.heap.size, 0, none⟩) N N, .map (some b1), .map (some b2), u8, u9, u10, u11, u12, u13, u14, u15, u16, u17, u18, u19, u20, u21, u22, u23, u24, u25, u26, u27, u28, u29, u30, u31, u32, u33, u34, u35, u36, u37, u38, u39, u40, u41, u42, u43, u44, u45, u46, u47, u48, u49, u50, u51, u52, u53, u54, u55, u56, u57, u58, u59, u60, u61, u62, u63], defers := [] } ∧ Hid (LvS N D w.heap.size b1 b2 L w w') ∧ k + L = N) rfl (fun pass => ?_) ?_
  · go_wp2_with fail
    refine (hC.out _ _ _).mono ?_; rintro e w1 ⟨rfl, rfl⟩
    go_wp2_with (first | (at_make; refine make_G kwE _ rfl _ _ 61 rfl Tryd.underlying61 _ _ N rfl rfl (by omega) ?_; intro w2 hown2 hb2; have hcs := fun t ht => kw_cells hown2 (by simp) t ht; have hfz := fun j => hown2.frozen (by simp) j; replace hown2 := Lib.hid hown2; replace hb2 := Lib.hid hb2) | (refine wpList_insert_own _ rfl _ _ _ 88 rfl 56 4 lawU Tryd.underlying88 (plainElem (H := Unit) Tryd.prog 4) w2.heap.size 0 (.map []) rfl (made_map w2 _ _) (by decide) _ _ (kU x) rfl rfl (keyU (s := x) (by omega)) _ [] (plainElem_bool Tryd.underlying4 true) ?_; intro w3 hm3 hg3; replace hm3 := Lib.hid hm3; replace hg3 := Lib.hid hg3))
    go_step3
    rename_i K hK
    refine hK _ _ (jump_mono (fun a w ⟨k', _, h⟩ => ⟨k', h⟩) (pass N _ _ ?_))
    refine ⟨w2.heap.size, w3.heap.size, 0, _, _, _, _, _, _, _, _, _, _, _, _, _, _, _, _, _, _, _, _, _, _, _, _, _, _, _, _, _, _, _, _, _, _, _, _, _, _, _, _, _, _, _, _, _, _, _, _, _, _, _, _, _, _, _, _, rfl, Lib.hid ?_, by omega⟩
    exact lv_first hD.out hNd.out hx hown2.out hb2.out hm3.out hg3.out hone.out
  · rintro k0 a' w' ⟨b1, b2, L, u8, u9, u10, u11, u12, u13, u14, u15, u16, u17, u18, u19, u20, u21, u22, u23, u24, u25, u26, u27, u28, u29, u30, u31, u32, u33, u34, u35, u36, u37, u38, u39, u40, u41, u42, u43, u44, u45, u46, u47, u48, u49, u50, u51, u52, u53, u54, u55, u56, u57, u58, u59, u60, u61, u62, u63, rfl, hJ, hk0⟩
    obtain ⟨D1, hm1, hks1⟩ := hJ.out.m1
    have hlt := hJ.out.lt
    go_wp2_with (first | (at_range; refine wpList_range_own _ rfl _ 88 rfl 56 4 lawU Tryd.underlying88 _ b1 _ D1 rfl hm1 ?_; intro w1 hrg1 hg1 hs1) | go_in)
    go_frame
    have hJ1 := hJ.out.rns (n := n) (fk := fkS ks) hg1 hks1 (left := fun _ => false)
    have hlt1 := hJ.out.lt1
    have hlt2 := hJ.out.lt2
    have hne := hJ.out.ne
    have hb1s := hm1.lt
    obtain ⟨_, hm2', _⟩ := hJ.out.m2
    have hb2s := hm2'.lt
    clear hm2'
    replace hJ1 := Lib.hid hJ1
    clear hJ
    go_loopw [8] (fun _ wr => ∃ (left : Lit → Bool) (cnt s0 : Nat) (D1' : DataW Unit) (T : Nat → Bool), wr.ranges Tryd.prog 56 (plainElem (H := Unit) Tryd.prog 4) b1 w'.heap.size (Maps.size D1) D1' left cnt ∧ Hid (∀ kl, Maps.has D1' kl = left kl) ∧ Hid (RnS N n (fkS ks) D w.heap.size b2 L left T s0 n w wr)) (fun _ wr => wr.rangeLeft b1 w'.heap.size)
    case atStart => exact ⟨_, _, 0, D1, _, hrg1, Lib.hid fun _ => rfl, hJ1⟩
    case round =>
      obtain ⟨left, cnt, s0, D1', T, hrg, hhas, hR⟩ := hrel
      go_wp2_with (first
        | (at_next; refine wpList_next_set _ rfl _ rfl 56 4 lawU Tryd.underlying56 Tryd.underlying4 b1 w'.heap.size _ _ _ _ rfl hrg ?_ ?_)
        | go_in)
      · intro hl0
        replace hl0 := hl0.out
        obtain ⟨D2, hm2, hk2⟩ := hR.out.m2
        by_cases hz : Maps.size D2 = 0
        · have hdone := Lib.hid (hR.out.done hD.out hl0 hm2 hk2 hz)
          go_wp2_with (first | (at_len; refine wpList_len_own _ rfl _ 88 rfl 56 4 Tryd.underlying88 (plainElem (H := Unit) Tryd.prog 4) b2 _ D2 rfl hm2 ?_; rw [hz]) | go_in)
          simp only [Exit.jump]
          obtain ⟨R, r1, r2, r3⟩ := hdone.out
          go_ret; exact ⟨_, R, rfl, r1, r2, r3, hR.out.bel⟩
        · have hup := hR.out.up hD.out hNd.out (own_tight hrg.owns) hhas.out hl0 hlt1 hne hm2 hk2 hz
          have hz1 : decide ((0 : Int) < (Maps.size D2 : Int)) = true := by rw [decide_eq_true_eq]; omega
          replace hup := Lib.hid hup
          go_wp2_with (first | (at_len; refine wpList_len_own _ rfl _ 88 rfl 56 4 Tryd.underlying88 (plainElem (H := Unit) Tryd.prog 4) b2 _ D2 rfl hm2 ?_) | go_in)
          refine wp_goto ?_
          refine ⟨rfl, k0 - 1, by omega, b2, b1, L + 1, _, _, _, _, _, _, _, _, _, _, _, _, _, _, _, _, _, _, _, _, _, _, _, _, _, _, _, _, _, _, _, _, _, _, _, _, _, _, _, _, _, _, _, _, _, _, _, _, _, _, _, _, _, _, _, _, rfl, hup, by omega⟩
      · intro z v w2 cnt2 hlx hrg2 hcl hg2 hs2 hen
        obtain ⟨s, es, hDs⟩ := hR.out.sub _ hlx
        obtain rfl : z = (s : Int) := by injection es
        have hsN : s < N := by rw [hNd.out]; exact (hD.out.lt s L hDs).1
        go_wp2_with (first
          | (at_delete; refine wpList_delete_ranges _ rfl _ _ 88 56 rfl 4 lawU Tryd.underlying88 _ b1 w'.heap.size _ _ _ _ rfl hrg2 _ _ rfl (keyU (s := s) (by omega)) ?_; intro w3 cnt3 hrg3 hle3 hturn3; go_frame)
          | go_in)
        have hrne := hrg3.ne
        rw [strike_twice] at hrg3
        have hR3 : Hid (RnS N n (fkS ks) D w.heap.size b2 L (fun z => left z && !z.sameKey (kU s)) T s 0 w w3) := Lib.hid (((hR.out.take s).kept hg2 (fun k e => by have := Option.some.inj e; omega)).kept hturn3.grown (fun k e => by have := Option.some.inj e; omega))
        have hhas3 : Hid (∀ kl, Maps.has (D1'.del (kU s)) kl = (fun z : Lit => left z && !z.sameKey (kU s)) kl) := Lib.hid (fun kl => by
          show Maps.has (D1'.del (kU s)) kl = (left kl && !kl.sameKey (kU s))
          by_cases e : kl = kU s
          · subst e; rw [has_del_same, WideAt.sameKey_self (show WideAt.IsKeyLit (kU s) from trivial)]; simp
          · rw [has_del_other e, hhas.out, sameKey_ne e]; simp)
        have hs1024 : s < 1024 := by omega
        have hle3' : cnt3 < cnt := by omega
        have hold := Lib.hid hrg.left_eq
        clear hR hhas hrg hrg2 hle3 hturn3 hcl hen
        generalize hlf : (fun z : Lit => left z && !z.sameKey (kU s)) = left3 at *
        generalize D1'.del (kU s) = D3 at *
        go_loopw [33] (fun i wi => ∃ (k : Nat) (T : Nat → Bool), k ≤ n ∧ i = .int .i64 k ∧ wi.ranges Tryd.prog 56 (plainElem (H := Unit) Tryd.prog 4) b1 w'.heap.size (Maps.size D1) D3 left3 cnt3 ∧ Hid (RnS N n (fkS ks) D w.heap.size b2 L left3 T s k w wi)) (fun i _ => n - (intOf i).toNat)
        case atStart => exact ⟨0, T, Nat.zero_le _, rfl, hrg3, hR3⟩
        case round =>
          obtain ⟨k, T', hk, rfl, hrgi, hRi⟩ := hrel
          rename World => wi
          have hbi := Lib.hid hRi.out.bel
          by_cases hltk : k < n
          · have hkx : k < ks.length := by omega
            obtain ⟨g, hpg, hgl, c0, c1⟩ := hr.out wi hbi.out k hkx
            have hFk := Lib.hid (fun w => hF.out k hkx s w hs1024)
            have hpk := hpn.out k hltk
            have hxk := hxb.out k hltk s hs1024
            have hxNk := hxN.out k hltk s hsN
            obtain ⟨q1, q2, hq⟩ : ∃ a b, kp ks[k] = (a, b) := ⟨_, _, rfl⟩
            rw [hq] at hFk c0 c1
            clear hq
            obtain ⟨w5, hw5⟩ : ∃ w5, Hid (w5 = wi.alloc (.cells #[.int .u64 (q1 : Int), .int .u64 (q2 : Int)] 90)) := ⟨_, Lib.hid rfl⟩
            have hb5 := Lib.hid (show Below wi.heap.size wi w5 by rw [hw5.out]; exact ba1 wi _)
            have hX5 := Lib.hid (show w5.heap[wi.heap.size]? = some (.cells #[.int .u64 (q1 : Int), .int .u64 (q2 : Int)] 90 (0, 0)) by rw [hw5.out]; exact hb_new wi _)
            have hx0 : w5.cell? ⟨wi.heap.size, 0, none⟩ = some (.int .u64 (q1 : Int)) := hb_cell hX5.out 0
            have hx1 : w5.cell? ⟨wi.heap.size, 1, none⟩ = some (.int .u64 (q2 : Int)) := hb_cell hX5.out 1
            have hx5 := hb_lt hX5.out
            have hR5 := Lib.hid (hRi.out.below hb5.out)
            have hrg5 := Lib.hid (ranges_below hrgi hb5.out)
            cases hf : fkS ks k s with
            | false =>
              rw [hf] at hFk
              have hS := Lib.hid (hR5.out.skip hf)
              clear hf
              subst hpg
              go_wp2_with fail
              rw [← hw5.out]
              refine wp_region_any (by kernel_rfl) ?_
              change wpAny _ _ _ _ 13 #[false, false, false, false, false, false, false, false, false, false, false, false, false] _ (World.drew _)
              refine wpAny_put (i := 1) (d := 43) (oi := _) (v := ?_) rfl rfl (by kernel_rfl) (by kernel_rfl) (by kernel_rfl) (fun _ _ _ h => h) (Or.inl ⟨by kernel_rfl, ?_⟩) ?_
              rotate_left
              · intro w; go_simp; (try with_reducible rfl)
              (try simp only [List.setIfInBounds_toArray, List.set_cons_zero, List.set_cons_succ])
              refine wpAny_ready (rs := [0]) (by kernel_rfl) (by simp) ?_
              refine AllReady.cons (o := _) rfl (fun K hK => ?_) AllReady.nil
              go_simp
              refine hK _ _ ?_; clear hK K
              (try simp only [List.setIfInBounds_toArray, List.set_cons_zero, List.set_cons_succ])
              refine wpAny_ready (rs := [2]) (by kernel_rfl) (by simp) ?_
              refine AllReady.cons (o := _) rfl (fun K hK => ?_) AllReady.nil
              go_simp
              refine (hFk.out _).mono ?_; rintro e w6 ⟨rfl, hb6⟩
              refine hK _ _ ?_; clear hK K
              (try simp only [List.setIfInBounds_toArray, List.set_cons_zero, List.set_cons_succ])
              have hS6 := Lib.hid (hS.out.drew.below hb6)
              have hrg6 := Lib.hid (ranges_below (ranges_below hrg5.out (Below.refl _ _).drew) hb6)
              clear hb6
              refine wpAny_put (i := 3) (d := 45) (oi := _) (v := ?_) rfl rfl (by kernel_rfl) (by kernel_rfl) (by kernel_rfl) (fun _ _ _ h => h) (Or.inl ⟨by kernel_rfl, ?_⟩) ?_
              rotate_left
              · intro w; go_simp; (try with_reducible rfl)
              (try simp only [List.setIfInBounds_toArray, List.set_cons_zero, List.set_cons_succ])
              refine wpAny_put (i := 4) (d := 46) (oi := _) (v := undef) rfl rfl (by kernel_rfl) (by kernel_rfl) (by kernel_rfl) (fun _ _ _ h => h) (Or.inr ⟨by kernel_rfl, rfl⟩) ?_
              (try simp only [List.setIfInBounds_toArray, List.set_cons_zero, List.set_cons_succ])
              refine wpAny_put (i := 5) (d := 47) (oi := _) (v := undef) rfl rfl (by kernel_rfl) (by kernel_rfl) (by kernel_rfl) (fun _ _ _ h => h) (Or.inr ⟨by kernel_rfl, rfl⟩) ?_
              (try simp only [List.setIfInBounds_toArray, List.set_cons_zero, List.set_cons_succ])
              refine wpAny_put (i := 6) (d := 48) (oi := _) (v := undef) rfl rfl (by kernel_rfl) (by kernel_rfl) (by kernel_rfl) (fun _ _ _ h => h) (Or.inr ⟨by kernel_rfl, rfl⟩) ?_
              (try simp only [List.setIfInBounds_toArray, List.set_cons_zero, List.set_cons_succ])
              refine wpAny_put (i := 7) (d := 49) (oi := _) (v := undef) rfl rfl (by kernel_rfl) (by kernel_rfl) (by kernel_rfl) (fun _ _ _ h => h) (Or.inr ⟨by kernel_rfl, rfl⟩) ?_
              (try simp only [List.setIfInBounds_toArray, List.set_cons_zero, List.set_cons_succ])
              refine wpAny_put (i := 8) (d := 50) (oi := _) (v := undef) rfl rfl (by kernel_rfl) (by kernel_rfl) (by kernel_rfl) (fun _ _ _ h => h) (Or.inr ⟨by kernel_rfl, rfl⟩) ?_
              (try simp only [List.setIfInBounds_toArray, List.set_cons_zero, List.set_cons_succ])
              refine wpAny_put (i := 9) (d := 51) (oi := _) (v := undef) rfl rfl (by kernel_rfl) (by kernel_rfl) (by kernel_rfl) (fun _ _ _ h => h) (Or.inr ⟨by kernel_rfl, rfl⟩) ?_
              (try simp only [List.setIfInBounds_toArray, List.set_cons_zero, List.set_cons_succ])
              refine wpAny_put (i := 10) (d := 52) (oi := _) (v := undef) rfl rfl (by kernel_rfl) (by kernel_rfl) (by kernel_rfl) (fun _ _ _ h => h) (Or.inr ⟨by kernel_rfl, rfl⟩) ?_
              (try simp only [List.setIfInBounds_toArray, List.set_cons_zero, List.set_cons_succ])
              refine wpAny_put (i := 11) (d := 53) (oi := _) (v := undef) rfl rfl (by kernel_rfl) (by kernel_rfl) (by kernel_rfl) (fun _ _ _ h => h) (Or.inr ⟨by kernel_rfl, rfl⟩) ?_
              (try simp only [List.setIfInBounds_toArray, List.set_cons_zero, List.set_cons_succ])
              refine wpAny_put (i := 12) (d := 54) (oi := _) (v := ?_) rfl rfl (by kernel_rfl) (by kernel_rfl) (by kernel_rfl) (fun _ _ _ h => h) (Or.inl ⟨by kernel_rfl, ?_⟩) ?_
              rotate_left
              · intro w; go_simp; (try with_reducible rfl)
              (try simp only [List.setIfInBounds_toArray, List.set_cons_zero, List.set_cons_succ])
              refine wpAny_done (by kernel_rfl) ?_ _
              go_wp2_with fail
              go_roundw
              case rel => exact ⟨k + 1, T', by omega, by go_num, hrg6.out, hS6⟩
              all_goals (simp [intOf] <;> omega)
            | true =>
              rw [hf] at hFk
              have hA := Lib.hid (fun (W : World) (hW : RnS N n (fkS ks) D w.heap.size b2 L left3 T' s k w W) b h1b h2b => hW.add hD.out hNd.out hN hDs hltk hf hxNk b h1b h2b)
              clear hf
              generalize s ^^^ 2 ^ k = t at hA hxk hxNk
              subst hpg
              go_wp2_with fail
              rw [← hw5.out]
              refine wp_region_any (by kernel_rfl) ?_
              change wpAny _ _ _ _ 13 #[false, false, false, false, false, false, false, false, false, false, false, false, false] _ (World.drew _)
              refine wpAny_put (i := 1) (d := 43) (oi := _) (v := ?_) rfl rfl (by kernel_rfl) (by kernel_rfl) (by kernel_rfl) (fun _ _ _ h => h) (Or.inl ⟨by kernel_rfl, ?_⟩) ?_
              rotate_left
              · intro w; go_simp; (try with_reducible rfl)
              (try simp only [List.setIfInBounds_toArray, List.set_cons_zero, List.set_cons_succ])
              refine wpAny_ready (rs := [0]) (by kernel_rfl) (by simp) ?_
              refine AllReady.cons (o := _) rfl (fun K hK => ?_) AllReady.nil
              go_simp
              refine hK _ _ ?_; clear hK K
              (try simp only [List.setIfInBounds_toArray, List.set_cons_zero, List.set_cons_succ])
              refine wpAny_ready (rs := [2]) (by kernel_rfl) (by simp) ?_
              refine AllReady.cons (o := _) rfl (fun K hK => ?_) AllReady.nil
              go_simp
              refine (hFk.out _).mono ?_; rintro e w6 ⟨rfl, hb6⟩
              refine hK _ _ ?_; clear hK K
              (try simp only [List.setIfInBounds_toArray, List.set_cons_zero, List.set_cons_succ])
              have hR6 := Lib.hid (hR5.out.drew.below hb6)
              have hrg6 := Lib.hid (ranges_below (ranges_below hrg5.out (Below.refl _ _).drew) hb6)
              clear hb6
              obtain ⟨bw, e0, e1, hb1w, hb2w⟩ := hR6.out.cells hDs hsN
              refine wpAny_put (i := 3) (d := 45) (oi := _) (v := ?_) rfl rfl (by kernel_rfl) (by kernel_rfl) (by kernel_rfl) (fun _ _ _ h => h) (Or.inl ⟨by kernel_rfl, ?_⟩) ?_
              rotate_left
              · intro w; go_simp; (try with_reducible rfl)
              (try simp only [List.setIfInBounds_toArray, List.set_cons_zero, List.set_cons_succ])
              refine wpAny_put (i := 4) (d := 46) (oi := _) (v := ?_) rfl rfl (by kernel_rfl) (by kernel_rfl) (by kernel_rfl) (fun _ _ _ h => h) (Or.inl ⟨by kernel_rfl, ?_⟩) ?_
              rotate_left
              · intro w; go_simp; (try with_reducible rfl)
              (try simp only [List.setIfInBounds_toArray, List.set_cons_zero, List.set_cons_succ])
              refine wpAny_put (i := 5) (d := 47) (oi := _) (v := ?_) rfl rfl (by kernel_rfl) (by kernel_rfl) (by kernel_rfl) (fun _ _ _ h => h) (Or.inl ⟨by kernel_rfl, ?_⟩) ?_
              rotate_left
              · intro w; go_simp; (try with_reducible rfl)
              (try simp only [List.setIfInBounds_toArray, List.set_cons_zero, List.set_cons_succ])
              refine wpAny_put (i := 6) (d := 48) (oi := _) (v := ?_) rfl rfl (by kernel_rfl) (by kernel_rfl) (by kernel_rfl) (fun _ _ _ h => h) (Or.inl ⟨by kernel_rfl, ?_⟩) ?_
              rotate_left
              · intro w; go_simp; (try with_reducible rfl)
              (try simp only [List.setIfInBounds_toArray, List.set_cons_zero, List.set_cons_succ])
              refine wpAny_put (i := 7) (d := 49) (oi := _) (v := ?_) rfl rfl (by kernel_rfl) (by kernel_rfl) (by kernel_rfl) (fun _ _ _ h => h) (Or.inl ⟨by kernel_rfl, ?_⟩) ?_
              rotate_left
              · intro w; go_simp; (try with_reducible rfl)
              (try simp only [List.setIfInBounds_toArray, List.set_cons_zero, List.set_cons_succ])
              refine wpAny_put (i := 8) (d := 50) (oi := _) (v := ?_) rfl rfl (by kernel_rfl) (by kernel_rfl) (by kernel_rfl) (fun _ _ _ h => h) (Or.inl ⟨by kernel_rfl, ?_⟩) ?_
              rotate_left
              · intro w; go_simp; (try with_reducible rfl)
              (try simp only [List.setIfInBounds_toArray, List.set_cons_zero, List.set_cons_succ])
              refine wpAny_put (i := 9) (d := 51) (oi := _) (v := ?_) rfl rfl (by kernel_rfl) (by kernel_rfl) (by kernel_rfl) (fun _ _ _ h => h) (Or.inl ⟨by kernel_rfl, ?_⟩) ?_
              rotate_left
              · intro w; go_simp; (try with_reducible rfl)
              (try simp only [List.setIfInBounds_toArray, List.set_cons_zero, List.set_cons_succ])
              refine wpAny_ready (rs := [10]) (by kernel_rfl) (by simp) ?_
              refine AllReady.cons (o := _) rfl (fun K hK => ?_) AllReady.nil
              go_simp
              refine hK _ _ ?_; clear hK K
              (try simp only [List.setIfInBounds_toArray, List.set_cons_zero, List.set_cons_succ])
              refine wpAny_ready (rs := [11]) (by kernel_rfl) (by simp) ?_
              refine AllReady.cons (o := _) rfl (fun K hK => ?_) AllReady.nil
              go_simp
              refine (hA.out _ hR6.out bw hb1w hb2w).mono ?_; rintro e w7 ⟨cc, rfl, hg7, hS0, hS1⟩
              refine hK _ _ ?_; clear hK K
              (try simp only [List.setIfInBounds_toArray, List.set_cons_zero, List.set_cons_succ])
              have hrg7 := Lib.hid (hrg6.out.kept hg7 (fun e => by have := Option.some.inj e; omega) (fun e => by have := Option.some.inj e; omega))
              refine wpAny_put (i := 12) (d := 54) (oi := _) (v := ?_) rfl rfl (by kernel_rfl) (by kernel_rfl) (by kernel_rfl) (fun _ _ _ h => h) (Or.inl ⟨by kernel_rfl, ?_⟩) ?_
              rotate_left
              · intro w; go_simp; (try with_reducible rfl)
              (try simp only [List.setIfInBounds_toArray, List.set_cons_zero, List.set_cons_succ])
              refine wpAny_done (by kernel_rfl) ?_ _
              cases cc with
              | false =>
                have hS7 := Lib.hid (hS0 rfl)
                clear hS0 hS1
                go_wp2_with fail
                go_roundw
                case rel => exact ⟨k + 1, T', by omega, by go_num, hrg7.out, hS7⟩
                all_goals (simp [intOf] <;> omega)
              | true =>
                obtain ⟨D2, hm2, hsz2, hput⟩ := hS1 rfl
                have hml : (1024 : Nat) < maxLen := by decide
                replace hput := Lib.hid hput
                clear hS0 hS1
                go_wp2_with (first | (at_mapUpdate; refine wpList_mapUpdate_own _ rfl _ _ _ 88 rfl 56 4 lawU Tryd.underlying88 (plainElem (H := Unit) Tryd.prog 4) b2 _ D2 rfl hm2 (Nat.lt_of_le_of_lt hsz2 hml) _ _ (kU t) rfl rfl (keyU (s := t) (by omega)) _ [] (plainElem_bool Tryd.underlying4 true) ?_; intro w8 hm8 hg8) | go_in)
                go_roundw
                case rel => exact ⟨k + 1, _, by omega, by go_num, hrg7.out.kept hg8 (fun e => by have := Option.some.inj e; omega) (fun e => by have := Option.some.inj e; omega), Lib.hid (hput.out w8 hm8 hg8)⟩
                all_goals (simp [intOf] <;> omega)
          · obtain rfl : k = n := by omega
            go_wp2_with fail
            refine ⟨⟨left3, cnt3, s, D3, T', hrgi, hhas3, hRi⟩, ?_⟩
            rw [hrgi.left_eq, hold.out]; exact hle3'
end Go.Proofs.YtcfeaaakfjilgabDoor
