/- How many parts there are: PartsByKeys, on both sides. -/
import Derived.Test.YtcfeaaakfjilgabFQ
import Derived.Test.YtcfeaaakfjilgabW4
namespace Go.Proofs.Ytcfeaaakfjilgab
set_option linter.unusedSimpArgs false
set_option linter.unusedVariables false
open Go Go.RowKit RM Go.Maps
/-- the keys that a round has still ahead are the states of a set -/
structure LfS (left : Lit → Bool) (P : Nat → Bool) : Prop where
  at_ : ∀ x, left (kU x) = P x
  only : ∀ kl, left kl = true → ∃ x : Nat, kl = kU x
theorem LfS.strike {left : Lit → Bool} {P : Nat → Bool} (h : LfS left P) (t : Nat) : LfS (fun z => left z && !z.sameKey (kU t)) (fun x => P x && !(x == t)) := by
  refine ⟨fun x => ?_, fun kl hk => ?_⟩
  · show (left (kU x) && !(kU x).sameKey (kU t)) = _
    rw [h.at_]
    by_cases e : x = t
    · subst e; rw [WideAt.sameKey_self (show WideAt.IsKeyLit (kU x) from trivial)]; simp
    · rw [sameKey_ne (fun e2 => e (kU_inj e2))]; simp [e]
  · simp only [Bool.and_eq_true] at hk
    exact h.only kl hk.1
theorem LfS.congr {left : Lit → Bool} {P P' : Nat → Bool} (h : LfS left P) (e : ∀ x, P x = P' x) : LfS left P' := ⟨fun x => (h.at_ x).trans (e x), h.only⟩
theorem kset_del {D : DataW Unit} {T : Nat → Bool} (h : KSet D T) (t : Nat) : KSet (D.del (kU t)) (fun x => T x && !(x == t)) := by
  refine ⟨fun x => ?_, fun kl hk => ?_⟩
  · by_cases e : x = t
    · subst e; rw [has_del_same]; simp
    · rw [has_del_other (fun e2 => e (kU_inj e2)), h.has]; simp [e]
  · by_cases e : kl = kU t
    · exact ⟨t, e⟩
    · rw [has_del_other e] at hk; exact h.only kl hk
theorem contains_take (SL : List Nat) (k x : Nat) (hk : k < SL.length) : (SL.take (k + 1)).contains x = ((SL.take k).contains x || x == SL[k]) := by
  rw [Bool.eq_iff_iff, Bool.or_eq_true, List.contains_iff_mem, List.contains_iff_mem, beq_iff_eq, List.take_succ_eq_append_getElem hk, List.mem_append, List.mem_singleton]
/-- what is left when the first k of the states of a part have been taken away -/
def pdK (B : Nat → Bool) (SL : List Nat) (k x : Nat) : Bool := B x && !(SL.take k).contains x
theorem pdK_zero (B : Nat → Bool) (SL : List Nat) (x : Nat) : pdK B SL 0 x = B x := by simp [pdK]
theorem pdK_succ (B : Nat → Bool) (SL : List Nat) (k x : Nat) (hk : k < SL.length) : (pdK B SL k x && !(x == SL[k])) = pdK B SL (k + 1) x := by
  unfold pdK; rw [contains_take SL k x hk]
  cases B x <;> cases (SL.take k).contains x <;> cases (x == SL[k]) <;> rfl
theorem Apart.len_le {N : Nat} {D : Nat → Nat → Option Nat} (hE : Eqv N D) {l : List Nat} (h : Apart N D l) : l.length ≤ N := by
  have hne : l.Nodup := h.ne.imp_of_mem (fun {a b} ha _ hr e => hr (by subst e; exact hE.refl a (h.lt a ha)))
  have := nodup_sub_len (U := List.range N) hne (fun y hy => List.mem_range.2 (h.lt y hy))
  rwa [List.length_range] at this
theorem stL_has {N n s : Nat} {fk : Nat → Nat → Bool} {D : Nat → Option Nat} {R : List (Nat × Nat)} (hD : Dst n fk s D) (hN : N = 2 ^ n) (hl : R.length = N) (hR : ∀ s (hl : s < R.length), (∀ m, D s = some m → R[s].1 = m ∧ 1 ≤ R[s].2 ∧ R[s].2 ≤ 9223372036854775808) ∧ (D s = none → R[s] = (0, 0))) (x : Nat) :
    (stL R N).contains x = (D x).isSome := by
  rw [Bool.eq_iff_iff, List.contains_iff_mem]
  unfold stL
  rw [List.mem_filter, List.mem_range, decide_eq_true_eq]
  constructor
  · rintro ⟨h1, h2⟩
    have hx : x < R.length := by omega
    rw [getD_at R x _ hx] at h2
    cases hd : D x with
    | none => rw [(hR x hx).2 hd] at h2; simp at h2
    | some m => rfl
  · intro h
    cases hd : D x with
    | none => rw [hd] at h; cases h
    | some m =>
      have h1 : x < N := by rw [hN]; exact (hD.lt x m hd).1
      have hx : x < R.length := by omega
      rw [getD_at R x _ hx]
      exact ⟨h1, by have := ((hR x hx).1 m hd).2.1; omega⟩
theorem parts_ex {n : Nat} {D : Nat → Nat → Option Nat} (hE : Eqv (2 ^ n) D) : ∃ c, Parts (2 ^ n) D c := by
  have key : ∀ k, k ≤ 2 ^ n → ∃ l, PartsTo (2 ^ n) D l k := by
    intro k
    induction k with
    | zero => intro _; exact ⟨[], Apart.nil _ _, fun i hi => by omega, Nat.zero_le _⟩
    | succ k ih =>
      intro hk
      obtain ⟨l, h⟩ := ih (by omega)
      cases hc : cov D l (gray k) with
      | true => exact ⟨l, h.skip hc⟩
      | false => exact ⟨_, h.more hE (by omega) hc⟩
  obtain ⟨l, h⟩ := key _ (Nat.le_refl _)
  exact ⟨_, h.done⟩
theorem sPK_no (v : Value) (ks : List ByteArray) (w : World) (hz : ∀ s ∈ ks, s.size ≤ maxLen) (h : RdT w v ks) (hG : goodK ks = false) :
    Calls Try.prog 8 #[v] w fun e w' => e = .returned (.tuple #[.int .i64 0, .bool false]) ∧ Below w.heap.size w w' := by
  have hA := Lib.hid (keGood_any v ks w hz h)
  rw [hG] at hA
  go_enter Try.func8, Try.ntmps8
  go_wp2_with fail
  refine hA.out.mono ?_; rintro e w' ⟨rfl, rfl⟩
  go_wp2_with fail
  go_ret2; exact ⟨rfl, Below.refl _ _⟩
theorem sPK_yes (v : Value) (ks : List ByteArray) (n : Nat) (w : World) (hz : ∀ s ∈ ks, s.size ≤ maxLen) (h : RdT w v ks) (h2 : n ≤ 10) (hn : ks.length = n) (hG : goodK ks = true) :
    Calls Try.prog 8 #[v] w fun e w' => ∃ c : Nat, Parts (2 ^ n) (kD n (fkS ks)) c ∧ e = .returned (.tuple #[.int .i64 (c : Int), .bool true]) ∧ Below w.heap.size w w' := by
  have hA := Lib.hid (keGood_any v ks w hz h)
  rw [hG] at hA
  have hP := Lib.hid (keParts_any v ks n w h h2 hn hG)
  generalize kD n (fkS ks) = D at *
  go_enter Try.func8, Try.ntmps8
  go_wp2_with fail
  refine hA.out.mono ?_; rintro e w' ⟨rfl, rfl⟩
  go_wp2_with fail
  refine hP.out.mono ?_; rintro e w' ⟨c, hc, rfl, hb⟩
  go_wp2_with fail
  go_ret2; exact ⟨c, hc, rfl, hb⟩
theorem iPK_no (v : Value) (ks : List ByteArray) (w : World) (hz : ∀ s ∈ ks, s.size ≤ maxLen) (h : RdT w v ks) (hG : goodK ks = false) :
    Calls Try.prog 10 #[v] w fun e w' => e = .returned (.tuple #[.int .i64 0, .bool false]) ∧ Below w.heap.size w w' := by
  have hA := Lib.hid (keyringOf_any v ks w hz h)
  rw [hG] at hA
  go_enter Try.func10, Try.ntmps10
  go_wp2_with fail
  refine hA.out.mono ?_; rintro e w' ⟨u, rfl, -, hb⟩
  go_wp2_with fail
  go_ret2; exact ⟨rfl, hb⟩
set_option maxRecDepth 1000000 in
set_option maxHeartbeats 4000000 in
theorem iPK_yes (v : Value) (ks : List ByteArray) (n : Nat) (w : World) (hz : ∀ s ∈ ks, s.size ≤ maxLen) (h : RdT w v ks) (hn : ks.length = n) (h1 : 1 ≤ n) (h2 : n ≤ 10) (hG : goodK ks = true) :
    Calls Try.prog 10 #[v] w fun e w' => ∃ c : Nat, Parts (2 ^ n) (kD n (fkS ks)) c ∧ e = .returned (.tuple #[.int .i64 (c : Int), .bool true]) ∧ Below w.heap.size w w' := by
  have hA := Lib.hid (keyringOf_any v ks w hz h)
  rw [hG, if_pos rfl] at hA
  have hK := keys_keyd ks hG
  rw [hn] at hK
  obtain ⟨N, hNd⟩ : ∃ N, Hid (N = 2 ^ n) := ⟨_, Lib.hid rfl⟩
  have hN : N ≤ 1024 := by rw [hNd.out]; exact Nat.pow_le_pow_right (n := 2) (by decide) h2
  have hC := Lib.hid (fun p c w => count_any p n c w h2)
  have hSe := Lib.hid (fun u B x w (ho : OwnG keyE w B u (ks.map kp)) (hx : x < N) => search_any u ks B n x w ho h1 h2 (by rw [← hNd.out]; exact hx) hn hG)
  have hSt := Lib.hid (fun u B R w ho (hl : R.length = N) => statesIn_any u B N R w ho hl hN)
  have hE := Lib.hid (show Eqv N (kD n (fkS ks)) by rw [hNd.out]; exact hK.eqv)
  have hDst := Lib.hid (fun x (hx : x < N) => hK.dst (show x < 2 ^ n by rw [← hNd.out]; exact hx))
  have hkl : Hid ((ks.map kp).length = n) := Lib.hid (by simp [hn])
  have hmm := @run_makeMap Try.prog
  rw [← hNd.out] at hC hSe ⊢
  generalize kD n (fkS ks) = D at *
  generalize ks.map kp = KL at *
  clear hK hG hz h
  go_enter Try.func10, Try.ntmps10
  go_wp2_with fail
  refine hA.out.mono ?_; rintro e w2 ⟨u, rfl, ho, hb⟩
  obtain ⟨p, c, rfl, -, -⟩ := ho.rd
  rw [hkl.out] at ho ⊢
  obtain ⟨b, hbd⟩ : ∃ b, Hid (b = w2.heap.size) := ⟨_, Lib.hid rfl⟩
  obtain ⟨wm, hwm⟩ : ∃ wm, Hid (wm = w2.alloc (.map #[] 0)) := ⟨_, Lib.hid rfl⟩
  have hm0 : wm.ownsMap Try.prog 39 (plainElem (H := Unit) Try.prog 4) b 0 (.map []) := by rw [hwm.out, hbd.out]; exact World.ownsMap_made w2 _ _ _
  have hbm := Lib.hid (show Below w2.heap.size w2 wm by rw [hwm.out]; exact ba1 w2 _)
  have hom := Lib.hid (ho.below hbm.out)
  have hub : Hid (∀ k, Value.ownBlock (.slice p n c) = some k → k < b) := Lib.hid (fun k e => by rw [hbd.out]; exact (ho.lt k e).2)
  have hwb : Hid (w.heap.size ≤ b) := Lib.hid (by rw [hbd.out]; exact hb.size)
  replace hbm := Lib.hid (bt1 hb hbm.out)
  clear hb ho
  go_wp2_with fail
  rw [← hwm.out, ← hbd.out]
  refine (hC.out _ _ _).mono ?_; rintro e w3 ⟨rfl, rfl⟩
  go_wp2_with fail
  go_loopw [22] (fun i wr => ∃ (k : Nat) (DD : DataW Unit), k ≤ N ∧ i = .int .u64 k ∧ wr.ownsMap Try.prog 39 (plainElem (H := Unit) Try.prog 4) b k DD ∧ Hid (KSet DD (fun s => decide (s < k))) ∧ Hid (wm.grownBy wr (some b))) (fun i _ => N - (intOf i).toNat)
  case atStart => exact ⟨0, .map [], Nat.zero_le _, rfl, hm0, Lib.hid (kset_zero.congr (fun s => by simp)), Lib.hid ⟨rfl, rfl, rfl, Nat.le_refl _, fun _ _ _ => rfl⟩⟩
  case round =>
    obtain ⟨k, DD, hk, rfl, hm, hks, hg⟩ := hrel
    rename World => wA
    by_cases hlt : k < N
    · have hml : k < maxLen := by unfold maxLen; omega
      have hDM : Hid (IsMap DD) := Lib.hid (by obtain ⟨es, rfl, _, _⟩ := hm.entries lawU; exact ⟨es, rfl⟩)
      go_wp2_with (first | (at_mapUpdate; refine wpList_mapUpdate_own _ rfl _ _ _ 38 rfl 39 4 lawU Try.underlying38 (plainElem (H := Unit) Try.prog 4) b _ DD rfl hm hml _ _ (kU k) rfl rfl (keyU (s := k) (by omega)) _ [] (plainElem_bool Try.underlying4 true) ?_; intro w8 hm8 hg8) | go_in)
      go_roundw
      case rel => exact ⟨k + 1, _, by omega, by go_num, hm8, Lib.hid ((kset_put hks.out hDM.out k _).congr (fun s => by rw [Bool.eq_iff_iff]; simp; omega)), Lib.hid (hg.out.trans hg8)⟩
      all_goals (simp [intOf] <;> omega)
    · obtain rfl : k = N := by omega
      have hmt := own_tight hm
      have hoA := Lib.hid (hom.out.kept hg.out (by cases hpe : Value.ownBlock (.slice p n c) with
        | none => left; rfl
        | some q => right; intro e; have := hub.out q hpe; have := Option.some.inj e; omega))
      have hbA := Lib.hid (hbm.out.grown hg.out hbm.out.size (fun q e => by have := Option.some.inj e; have := hwb.out; omega))
      have hbl := hm.lt
      clear hm hg hmm
      go_wp2_with (first | (at_range; refine wpList_range_own _ rfl _ 38 rfl 39 4 lawU Try.underlying38 _ b _ DD rfl hmt ?_; intro w1 hrg1 hg1 hs1) | go_in)
      go_frame
      have ho1 := Lib.hid (hoA.out.kept hg1 (by cases Value.ownBlock (.slice p n c) with
        | none => left; rfl
        | some q => right; simp))
      have hb1 := Lib.hid (hbA.out.grown hg1 hbA.out.size (fun k e => by cases e))
      obtain ⟨r, hr⟩ : ∃ r, Hid (r = wA.heap.size) := ⟨_, Lib.hid rfl⟩
      rw [← hr.out] at hrg1 ⊢
      have hrw : Hid (w.heap.size ≤ r) := Lib.hid (by rw [hr.out]; exact hbA.out.size)
      have hbr : Hid (b < r) := Lib.hid (by rw [hr.out]; exact hbl)
      have hr1 : Hid (r < w1.heap.size) := Lib.hid (by rw [hr.out, hs1]; omega)
      clear hmt
      go_loopw [8, 9] (fun pc _ wr => ∃ (left : Lit → Bool) (cnt : Nat) (D1 : DataW Unit) (l : List Nat), wr.ranges Try.prog 39 (plainElem (H := Unit) Try.prog 4) b r (Maps.size DD) D1 left cnt ∧ pc = .int .i64 ((l.length : Nat) : Int) ∧ Hid (Apart k D l) ∧ Hid (LfS left (fun x => decide (x < k) && !cov D l x)) ∧ Hid (KSet D1 (fun x => decide (x < k) && !cov D l x)) ∧ Hid (OwnG keyE wr w.heap.size (.slice p n c) KL) ∧ Hid (Below w.heap.size w wr) ∧ Hid (r < wr.heap.size)) (fun _ _ wr => wr.rangeLeft b r)
      case atStart =>
        refine ⟨_, _, DD, [], hrg1, rfl, Lib.hid (Apart.nil _ _), Lib.hid ⟨fun x => ?_, fun kl hh => hks.out.only kl hh⟩, Lib.hid (hks.out.congr (fun s => by simp [cov])), ho1, hb1, hr1⟩
        rw [hks.out.has]; simp [cov]
      case round =>
        obtain ⟨left, cnt, D1, l, hrg, rfl, hAp, hLf, hKs, hoo, hbb, hrs⟩ := hrel
        obtain ⟨Lc, hLc⟩ : ∃ L, Hid (l.length = L) := ⟨_, Lib.hid rfl⟩
        have hLcN : Lc ≤ k := by rw [← hLc.out]; exact hAp.out.len_le hE.out
        rw [hLc.out]
        go_wp2_with (first
          | (at_next; refine wpList_next_set _ rfl _ rfl 39 4 lawU Try.underlying39 Try.underlying4 b r _ _ _ _ rfl hrg ?_ ?_)
          | go_in)
        · intro hl0
          have hP : Hid (Parts k D Lc) := Lib.hid ⟨l, hAp.out, fun x hx => (cov_iff D l x).1 (by
            have h3 := hLf.out.at_ x
            rw [hl0.out] at h3
            have h4 : decide (x < k) = true := decide_eq_true hx
            rw [h4] at h3
            cases h5 : cov D l x with
            | true => rfl
            | false => rw [h5] at h3; cases h3), hLc.out⟩
          go_wp2_with fail
          go_ret2; exact ⟨Lc, hP.out, rfl, hbb.out⟩
        · intro z v w2 cnt2 hlx hrg2 hcl hg2 hs2 hen
          obtain ⟨s, es⟩ := hLf.out.only _ hlx
          obtain rfl : z = (s : Int) := by injection es
          have hls := hLf.out.at_ s
          rw [show left (kU s) = true from hlx] at hls
          have hsN : s < k := by
            have := hls.symm; rw [Bool.and_eq_true, decide_eq_true_eq] at this; exact this.1
          have hsc : Hid (cov D l s = false) := Lib.hid (by
            have := hls.symm; rw [Bool.and_eq_true] at this; simpa using this.2)
          have ho2 := Lib.hid (hoo.out.kept hg2 (by cases hpe : Value.ownBlock (.slice p n c) with
            | none => left; rfl
            | some q => right; intro e; have := hub.out q hpe; have := Option.some.inj e; have := hbr.out; omega))
          have hb2 := Lib.hid (hbb.out.grown hg2 hbb.out.size (fun q e => by have := Option.some.inj e; have := hrw.out; omega))
          have hrs2 : Hid (r < w2.heap.size) := Lib.hid (by rw [hs2]; exact hrs.out)
          have hold := Lib.hid hrg.left_eq
          have hLf2 := Lib.hid (hLf.out.strike s)
          have hDs := Lib.hid (hDst.out s hsN)
          clear hoo hbb hrg hls hrs
          go_wp2_with fail
          refine (hSe.out _ _ s w2 ho2.out hsN).mono ?_; rintro e w5 ⟨u5, R, rfl, ho5, hRl, hRR, hb5⟩
          have hcon := Lib.hid (fun x => stL_has hDs.out hNd.out (by rw [hRl]) hRR x)
          have hS5 := Lib.hid (hSt.out u5 _ R w5 ho5 (by rw [hRl]))
          have hrg5 := ranges_below hrg2 hb5
          have ho5k := Lib.hid (ho2.out.below hb5)
          have hr5 : Hid (r < w5.heap.size) := Lib.hid (Nat.lt_of_lt_of_le hrs2.out hb5.size)
          replace hb5 := Lib.hid (bt1 hb2.out hb5)
          clear hRR ho5 hrg2 hen
          go_wp2_with fail
          refine hS5.out.mono ?_; rintro e w7 ⟨u7, rfl, ho7, hb7⟩
          obtain ⟨SL, hSL⟩ : ∃ SL, Hid (SL = stL R k) := ⟨_, Lib.hid rfl⟩
          rw [← hSL.out] at ho7 hcon
          obtain ⟨L, hL⟩ : ∃ L, Hid (SL.length = L) := ⟨_, Lib.hid rfl⟩
          have hLN : L ≤ 1024 := by have := stL_len R k; rw [← hL.out, hSL.out]; omega
          have hSLt : Hid (∀ j (hj : j < SL.length), SL[j] < k) := Lib.hid (fun j hj => by
            have : SL[j] ∈ stL R k := by rw [← hSL.out]; exact List.getElem_mem hj
            unfold stL at this
            exact List.mem_range.1 (List.mem_filter.1 this).1)
          have hrg7 := ranges_below hrg5 hb7
          have ho7k := Lib.hid (ho5k.out.below hb7)
          have hr7 : Hid (r < w7.heap.size) := Lib.hid (Nat.lt_of_lt_of_le hr5.out hb7.size)
          have hu7 := Lib.hid (fun q e => ho7.lt q e)
          have hsz5 : Hid (b < w5.heap.size) := Lib.hid (Nat.lt_trans hbr.out hr5.out)
          replace hb7 := Lib.hid (bt1 hb5.out hb7)
          obtain ⟨p7, c7, rfl, -⟩ : ∃ p c, u7 = .slice p SL.length c ∧ True := by
            obtain ⟨p, c, rfl, _, hr⟩ := ho7.rd
            exact ⟨p, c, rfl, trivial⟩
          rw [hL.out] at ho7 hu7 ⊢
          replace ho7 := Lib.hid ho7
          clear hrg5 hS5
          go_wp2_with fail
          go_loopw [41] (fun i wi => ∃ (j : Nat) (D2 : DataW Unit) (left2 : Lit → Bool) (cnt3 : Nat), j ≤ L ∧ i = .int .i64 j ∧ wi.ranges Try.prog 39 (plainElem (H := Unit) Try.prog 4) b r (Maps.size DD) D2 left2 cnt3 ∧ cnt3 ≤ cnt2 ∧ Hid (LfS left2 (pdK (fun x => (decide (x < k) && !cov D l x) && !(x == s)) SL j)) ∧ Hid (KSet D2 (pdK (fun x => decide (x < k) && !cov D l x) SL j)) ∧ Hid (w7.grownBy wi (some b))) (fun i _ => L - (intOf i).toNat)
          case atStart => exact ⟨0, D1, _, cnt2, Nat.zero_le _, rfl, hrg7, Nat.le_refl _, Lib.hid (hLf2.out.congr (fun x => by rw [pdK_zero])), Lib.hid (hKs.out.congr (fun x => by rw [pdK_zero])), Lib.hid ⟨rfl, rfl, rfl, Nat.le_refl _, fun _ _ _ => rfl⟩⟩
          case round =>
            obtain ⟨j, D2, left2, cnt3, hj, rfl, hrgi, hle, hLf3, hKs3, hgi⟩ := hrel
            rename World => wB
            by_cases hjl : j < L
            · have hjx : j < SL.length := by rw [hL.out]; exact hjl
              have hoi := ho7.out.kept hgi.out (by cases hpe : Value.ownBlock (.slice p7 L c7) with
                | none => left; rfl
                | some q => right; intro e; have := (hu7.out q hpe).1; have := Option.some.inj e; have := hsz5.out; omega)
              obtain ⟨g7, rfl, ck⟩ : ∃ g, p7 = some ⟨g, 0, none⟩ ∧ wB.cell? ⟨g, j, none⟩ = some (.int .u64 ((SL[j] : Nat) : Int)) := by
                obtain ⟨p', c', e, _, hr⟩ := hoi.rd
                injection e with e1 e2 e3
                subst e1
                obtain ⟨g, rfl, hg, hc⟩ := hr (fun e => by rw [e] at hjx; simp at hjx)
                exact ⟨g, rfl, by have := hc j hjx 0 (by decide); simpa [uE] using this⟩
              have htN := hSLt.out j hjx
              have hLf4 := Lib.hid ((hLf3.out.strike SL[j]).congr (fun x => pdK_succ _ SL j x hjx))
              have hKs4 := Lib.hid ((kset_del hKs3.out SL[j]).congr (fun x => pdK_succ _ SL j x hjx))
              clear hoi
              generalize SL[j] = t at *
              go_wp2_with (first
                | (at_delete; refine wpList_delete_ranges _ rfl _ _ 38 39 rfl 4 lawU Try.underlying38 _ b r _ _ _ _ rfl hrgi _ _ rfl (keyU (s := t) (by omega)) ?_; intro w3 cnt4 hrg4 hle4 hturn4; go_frame)
                | go_in)
              go_roundw
              case rel => exact ⟨j + 1, _, _, cnt4, by omega, by go_num, hrg4, by omega, hLf4, hKs4, Lib.hid (hgi.out.trans hturn4.grown)⟩
              all_goals (simp [intOf] <;> omega)
            · obtain rfl : j = L := by omega
              have hss : Hid ((D s s).isSome = true) := Lib.hid (by rw [hDs.out.zero]; rfl)
              have hfull : Hid (∀ x, (SL.take j).contains x = (D s x).isSome) := Lib.hid (fun x => by rw [List.take_of_length_le (by rw [hL.out]; omega)]; exact hcon.out x)
              have hLf5 := Lib.hid (hLf3.out.congr (P' := fun x => decide (x < k) && !cov D (l ++ [s]) x) (fun x => by
                show ((decide (x < k) && !cov D l x && !(x == s)) && !((SL.take j).contains x)) = (decide (x < k) && !cov D (l ++ [s]) x)
                rw [hfull.out, cov_snoc]
                by_cases e : x = s
                · subst e; rw [hss.out]; simp
                · have : (x == s) = false := by simpa using e
                  rw [this]
                  cases decide (x < k) <;> cases cov D l x <;> cases (D s x).isSome <;> rfl))
              have hKs5 := Lib.hid (hKs3.out.congr (T' := fun x => decide (x < k) && !cov D (l ++ [s]) x) (fun x => by
                show ((decide (x < k) && !cov D l x) && !((SL.take j).contains x)) = (decide (x < k) && !cov D (l ++ [s]) x)
                rw [hfull.out, cov_snoc]
                cases decide (x < k) <;> cases cov D l x <;> cases (D s x).isSome <;> rfl))
              have hAp5 := Lib.hid (hAp.out.snoc hsN (cov_no D l s hsc.out))
              have hl5 : Hid ((l ++ [s]).length = Lc + 1) := Lib.hid (by rw [List.length_append, hLc.out]; rfl)
              have hoB := Lib.hid (ho7k.out.kept hgi.out (by cases hpe : Value.ownBlock (.slice p n c) with
                | none => left; rfl
                | some q => right; intro e; have := hub.out q hpe; have := Option.some.inj e; omega))
              have hbB := Lib.hid (hb7.out.grown hgi.out hb7.out.size (fun q e => by have := Option.some.inj e; have := hwb.out; omega))
              have hrB : Hid (r < wB.heap.size) := Lib.hid (Nat.lt_of_lt_of_le hr7.out hgi.out.size)
              go_wp2_with fail
              refine ⟨⟨left2, cnt3, D2, l ++ [s], hrgi, by rw [hl5.out]; go_num, hAp5, hLf5, hKs5, hoB, hbB, hrB⟩, ?_⟩
              rw [hrgi.left_eq, hold.out]; omega
theorem PartsByKeys_both (ks : List ByteArray) (hz : ∀ s ∈ ks, s.size ≤ maxLen) : ∃ (r0 : Int) (r1 : Bool),
    (∀ w v, RdT w v ks → Calls Try.prog 8 #[v] w fun e w' => e = .returned (.tuple #[.int .i64 r0, .bool r1]) ∧ Below w.heap.size w w') ∧
    (∀ w v, RdT w v ks → Calls Try.prog 10 #[v] w fun e w' => e = .returned (.tuple #[.int .i64 r0, .bool r1]) ∧ Below w.heap.size w w') := by
  cases hG : goodK ks with
  | false => exact ⟨0, false, fun w v h => sPK_no v ks w hz h hG, fun w v h => iPK_no v ks w hz h hG⟩
  | true =>
    obtain ⟨h1, h2⟩ := goodK_len ks hG
    have hE := (keys_keyd ks hG).eqv
    obtain ⟨c, hc⟩ := parts_ex hE
    refine ⟨(c : Int), true, fun w v h => (sPK_yes v ks _ w hz h h2 rfl hG).mono ?_, fun w v h => (iPK_yes v ks _ w hz h rfl h1 h2 hG).mono ?_⟩
    · rintro e w' ⟨c', hc', rfl, hb⟩
      rw [hc'.uniq hE hc]; exact ⟨rfl, hb⟩
    · rintro e w' ⟨c', hc', rfl, hb⟩
      rw [hc'.uniq hE hc]; exact ⟨rfl, hb⟩
end Go.Proofs.Ytcfeaaakfjilgab
