/- The first list of fewest moves by keys, on both sides: FirstKeyed. -/
import Derived.Test.YtcfeaaakfjilgabDoorFN
import Derived.Test.YtcfeaaakfjilgabDoorBarO
import Derived.Test.YtcfeaaakfjilgabDoorV19
namespace Go.Proofs.YtcfeaaakfjilgabDoor
set_option linter.unusedSimpArgs false
set_option linter.unusedVariables false
open Go Go.RowKit RM
/-- the first list, if there is one -/
def kres (ks : List ByteArray) (n : Nat) (D : Nat → Option Nat) (x : Nat) : List Int := match D x with | none => [] | some d => kway ks n D d x
theorem kres_len (ks : List ByteArray) (n x : Nat) (D : Nat → Option Nat) (b : Nat) (h : ∀ d, D x = some d → d ≤ b) : (kres ks n D x).length ≤ b := by
  unfold kres
  cases hd : D x with
  | none => exact Nat.zero_le _
  | some d => rw [kway_len]; exact h d hd
theorem iFi_no (v : Value) (ks : List ByteArray) (a b : ByteArray) (w : World) (hz : ∀ s ∈ ks, s.size ≤ maxLen) (ha : a.size ≤ maxLen) (hb9 : b.size ≤ maxLen) (h : RdT w v ks) (hT : TabOk w) (hno : (askK ks a && askK ks b) = false) :
    Calls Tryd.prog 11 #[v, .string a, .string b] w fun e w' => RetI w [] false e w' := by
  have hA := Lib.hid (twoK_no v ks a b w hz ha hb9 h hT hno)
  rw [← bz0] at hA
  go_enter Tryd.func11, Tryd.ntmps11
  go_wp2_with fail
  refine hA.out.mono ?_; rintro e w' ⟨rfl, hb⟩
  go_wp2_with fail
  go_ret2; exact ⟨_, rfl, OwnI.nil _ _, (hb.alloc hb.size _).alloc (by have := hb.size; simp; omega) _⟩
set_option maxRecDepth 100000 in
set_option maxHeartbeats 4000000 in
theorem iFi_yes (v : Value) (ks : List ByteArray) (n x y : Nat) (w : World) (hz : ∀ s ∈ ks, s.size ≤ maxLen) (h : RdT w v ks) (hT : TabOk w) (h1 : 1 ≤ n) (h2 : n ≤ 10) (hx : x < 2 ^ n) (hy : y < 2 ^ n) (hn : ks.length = n) (hG : goodK ks = true) :
    Calls Tryd.prog 11 #[v, .string (ST n x), .string (ST n y)] w fun e w' => RetI w (kres ks n (kD n (fkS ks) y) x) (kD n (fkS ks) y x).isSome e w' := by
  have hA := Lib.hid (twoK_yes v ks n x y w hz h hT h1 h2 hx hy hn hG)
  obtain ⟨N, hNd⟩ : ∃ N, Hid (N = 2 ^ n) := ⟨_, Lib.hid rfl⟩
  have hN : N ≤ 1024 := by rw [hNd.out]; exact Nat.pow_le_pow_right (n := 2) (by decide) h2
  have hxN : x < N := by rw [hNd.out]; exact hx
  have hyN : y < N := by rw [hNd.out]; exact hy
  have hK := keys_keyd ks hG
  rw [hn] at hK
  have hD := Lib.hid (hK.dst hy)
  have hSe := Lib.hid (fun u B w (ho : OwnG keyE w B u (ks.map kp)) => search_any u ks B n y w ho h1 h2 hy hn hG)
  have hNr := Lib.hid (fun u B Bf z m g c R w (hoK : OwnG keyE w B u (ks.map kp)) (hoR : OwnG kwE w Bf (.slice (some ⟨g, 0, none⟩) N c) R) hz hRl hRR hd => knearer_any u ks B n z y m N g c Bf R w hoK hoR h2 hz hy hn hG hNd.out hRl hRR hd)
  have hsp := Lib.hid (fun z m hd => nkZ_spec ks n y z m hn hG hy hd)
  have hMv := Lib.hid (fun z k w (hz : z < N) (hk : k < n) hw => moved_any n z k w (by omega) (by omega) hw)
  have hxl := Lib.hid (fun z k (hz : z < N) (hk : k < n) => show z ^^^ 2 ^ k < N by rw [hNd.out] at hz ⊢; exact xor_lt' hz hk)
  rw [← hNd.out] at hSe hNr
  replace hT := Lib.hid hT
  generalize ks.map kp = KL at *
  generalize kD n (fkS ks) y = D at *
  generalize ST n x = a at *
  generalize ST n y = b at *
  obtain ⟨Rr, hRr⟩ : ∃ r, Hid (r = kres ks n D x) := ⟨_, Lib.hid rfl⟩
  obtain ⟨Br, hBr⟩ : ∃ b, Hid (b = (D x).isSome) := ⟨_, Lib.hid rfl⟩
  rw [← hRr.out, ← hBr.out]
  clear h hz hx hy hn hG hK
  go_enter Tryd.func11, Tryd.ntmps11
  go_wp2_with fail
  refine hA.out.mono ?_; rintro e w3 ⟨u, rfl, ho, hb⟩
  obtain ⟨W, hW⟩ : ∃ W, Hid (W = (w3.alloc (barO n x)).alloc (barO n y)) := ⟨_, Lib.hid rfl⟩
  have hWb := Lib.hid (show Below w3.heap.size w3 W by rw [hW.out]; exact bt1 (ba1 w3 _) (ba1 _ _))
  have X4 := Lib.hid (show W.heap[w3.heap.size]? = some (barO n x) by rw [hW.out]; exact hb_old _ (hb_new _ _))
  have Y4 := Lib.hid (show W.heap[w3.heap.size + 1]? = some (barO n y) by rw [hW.out]; exact hb_new' _ _ _ (by simp))
  have hoW := Lib.hid (ho.below hWb.out)
  have hbW := Lib.hid (bt1 hb hWb.out)
  have y3 : W.cell? ⟨w3.heap.size + 1, 3, none⟩ = some (.int .u64 (y : Int)) := hb_cell Y4.out 3
  have lY := hb_lt Y4.out
  have hSW := Lib.hid (hSe.out u _ W hoW.out)
  clear ho hb
  go_wp2_with fail
  rw [← hW.out]
  refine hSW.out.mono ?_; rintro e w5 ⟨u5, R, rfl, ho5, hRl, hRR, hb5⟩
  have hxR : x < R.length := by rw [hRl]; exact hxN
  obtain ⟨g5, c5, rfl⟩ : ∃ g5 c5, u5 = .slice (some ⟨g5, 0, none⟩) N c5 := by
    rcases ho5.form with ⟨_, e⟩ | ⟨g, c, e, _, _, _⟩
    · rw [e] at hxR; cases hxR
    · exact ⟨g, c, by rw [e, hRl]⟩
  have X5 := Lib.hid (hb_below hb5 (hb_lt X4.out) X4.out)
  have Y5 := Lib.hid (hb_below hb5 (hb_lt Y4.out) Y4.out)
  have ho5k := Lib.hid (hoW.out.below hb5)
  have c1 : w5.cell? ⟨g5, x * 2 + 1, none⟩ = some (.int .u64 ((R[x].2 : Nat) : Int)) := ho5.cells hRl.symm x hxR 1 (by decide)
  have x3 : w5.cell? ⟨w3.heap.size, 3, none⟩ = some (.int .u64 (x : Int)) := hb_cell X5.out 3
  have lX5 := hb_lt X5.out
  have hRx := hRR x hxR
  have hNr5 := Lib.hid (fun z m wr (hbw : Below w5.heap.size w5 wr) (hz : z < N) (hd : D z = some (m + 1)) => hNr.out u _ _ z m g5 c5 R wr (ho5k.out.below hbw) (ho5.below hbw) hz hRl hRR hd)
  have hb05 := Lib.hid (bt1 hbW.out hb5)
  clear hRR ho5 hb5 y3
  cases hd : D x with
  | none =>
    rw [hRx.2 hd] at c1
    replace c1 : w5.cell? ⟨g5, x * 2 + 1, none⟩ = some (.int .u64 0) := c1
    clear hRx
    obtain rfl : Br = false := by rw [hBr.out, hd]; rfl
    obtain rfl : Rr = [] := by rw [hRr.out]; unfold kres; rw [hd]
    go_wp2_with fail
    go_ret2; exact ⟨_, rfl, OwnI.nil _ _, hb05.out⟩
  | some d0 =>
    obtain ⟨-, hw1, hw2⟩ := hRx.1 d0 hd
    generalize R[x].2 = wy at *
    have hwy : ((wy : Int) == 0) = false := by rw [beq_eq_false_iff_ne]; omega
    have hd0N : d0 < N := by rw [hNd.out]; exact (hD.out.lt x d0 hd).2
    have hL : Hid (Rr = kway ks n D d0 x) := Lib.hid (by rw [hRr.out]; unfold kres; rw [hd])
    have hLl : Hid (Rr.length = d0) := Lib.hid (by rw [hL.out, kway_len])
    obtain rfl : Br = true := by rw [hBr.out, hd]; rfl
    obtain ⟨⟨a0, a1, a2, a3⟩, _⟩ := bar_cells X5.out
    clear hRx x3
    go_wp2_with fail
    clear a0 a1 a2 a3 c1
    go_loopw [13, 14] (fun o p wr => ∃ (z g d : Nat) (pre : List Int), z < N ∧ p = .pointer (some ⟨g, 0, none⟩) ∧ w5.heap.size ≤ g ∧ D z = some d ∧ Hid (Rr = pre ++ kway ks n D d z) ∧ Hid (OwnI wr w5.heap.size o pre) ∧ Hid (wr.heap[g]? = some (barO n z)) ∧ Hid (Below w5.heap.size w5 wr)) (fun o _ _ => 4097 - lenOf o)
    case atStart => exact ⟨x, w5.heap.size, d0, [], hxN, rfl, Nat.le_refl _, hd, hL, OwnI.nil _ _, Lib.hid (alloc_at _ _), Lib.hid (ba1 _ _)⟩
    case round =>
      obtain ⟨z, g, d, pre, hzN, rfl, hg0, hdz, hpre, ho, hgz, hbw⟩ := hrel
      rename World => wr
      have hsw := hbw.out.size
      have hgl : g < wr.heap.size := lt_of_block hgz.out
      obtain ⟨⟨c0, c1, c2, c3⟩, cf⟩ := bar_cells hgz.out
      have hlo := ho.out.lenOf
      obtain ⟨⟨d0', d1, d2, d3⟩, _⟩ := bar_cells (hb_below hbw.out (hb_lt Y5.out) Y5.out)
      have lYr := lt_of_block (hb_below hbw.out (hb_lt Y5.out) Y5.out)
      by_cases hzy : z = y
      · subst hzy
        have hfin : Hid (Rr = pre) := Lib.hid (by
          rw [hD.out.zero] at hdz
          obtain rfl : d = 0 := (Option.some.inj hdz).symm
          rw [hpre.out]; simp [kway])
        go_wp2_with fail
        go_ret2
        exact ⟨_, rfl, by rw [hfin.out]; exact ho.out.mono hb05.out.size, bt1 hb05.out hbw.out⟩
      · obtain ⟨m, rfl⟩ : ∃ m, d = m + 1 := by
          cases d with
          | zero => exact absurd (hD.out.only z hdz) hzy
          | succ m => exact ⟨m, rfl⟩
        obtain ⟨k, j, hj, e1, hkn, hjk, hdk, -, -⟩ := hsp.out z m hdz
        have hnz := Lib.hid (hNr5.out z m wr hbw.out hzN hdz)
        rw [e1] at hnz
        have hMk := Lib.hid (fun w hw => hMv.out z k w hzN hkn hw)
        have hzl := hxl.out z k hzN hkn
        have hnext : Hid (Rr = (pre ++ [(k : Int)]) ++ kway ks n D m (z ^^^ 2 ^ k)) := Lib.hid (by
          rw [hpre.out]
          show pre ++ (nkZ ks n D z :: kway ks n D m (z ^^^ 2 ^ (nkZ ks n D z).toNat)) = _
          rw [e1, Int.toNat_natCast]; simp)
        have hlen0 : Hid (pre.length + 1 ≤ 4096) := Lib.hid (by
          have e := congrArg List.length hnext.out
          rw [hLl.out] at e
          simp at e; omega)
        obtain ⟨z', hz'⟩ : ∃ z', Hid (z' = z ^^^ 2 ^ k) := ⟨_, Lib.hid rfl⟩
        rw [← hz'.out] at hMk hzl hnext hdk
        have hTr := Lib.hid (hT.out.below (bt1 hb05.out hbw.out))
        clear hj hjk e1 hdz
        go_wp2_with fail
        refine hnz.out.mono ?_; rintro e w4 ⟨rfl, hb4⟩
        have hs4 := hb4.size
        have hgz4 : w4.heap[g]? = some (barO n z) := by rw [hb4.block g hgl]; exact hgz.out
        have ho4 := Lib.hid (ho.out.below hb4)
        have hbw4 := Lib.hid (hbw.out.trans (hb4.mono hsw))
        have hgz4 := Lib.hid hgz4
        have hb4 := Lib.hid hb4
        clear c0 c1 c2 c3 d0' d1 d2 d3 cf lYr
        go_wp2_with (at_builtin; refine app_int _ rfl _ _ rfl w5.heap.size _ _ rfl (ho4.out.alloc _) w4.heap.size _ rfl (by simp; rfl) (by have := hlen0.out; omega) (by simp; omega) ?_; intro v' w5' ho5 hg5; have hgz5 := grow_bar hg5 ho4.out hgz4.out; obtain ⟨⟨c0, c1, c2, c3⟩, cf⟩ := bar_cells hgz5; have hbw5 := Lib.hid (bel_own (hbw4.out.alloc hbw4.out.size _) (ho4.out.alloc _) hg5 (by have := hbw4.out.size; simp; omega)); have hgz5 := Lib.hid hgz5; have ho5 := Lib.hid ho5; have hg5 := Lib.hid hg5)
        have hT5 := Lib.hid (hT.out.below (bt1 hb05.out hbw5.out))
        refine (hMk.out _ hT5.out).mono ?_; rintro e w6 ⟨rfl, hb6⟩
        have hgl5 : g < w5'.heap.size := lt_of_block hgz5.out
        have hgz6 : w6.heap[g]? = some (barO n z) := by rw [hb6.block g hgl5]; exact hgz5.out
        clear c0 c1 c2 c3 cf
        obtain ⟨⟨c0, c1, c2, c3⟩, cf⟩ := bar_cells hgz6
        have ho6 := Lib.hid (ho5.out.below hb6)
        have hbw6 := Lib.hid (hbw5.out.trans (hb6.mono hbw5.out.size))
        have hgz6 := Lib.hid hgz6
        have hb6 := Lib.hid hb6
        have hgl6 : g < w6.heap.size := lt_of_block hgz6.out
        have hs6 := hbw6.out.size
        go_wp2_with fail
        go_roundw
        case rel =>
          have hne := ho6.out.ne_bar hgz6.out
          refine ⟨z', w6.heap.size, m, pre ++ [(k : Int)], hzl, rfl, hs6, hdk, hnext, Lib.hid ?_, Lib.hid ?_, Lib.hid ?_⟩
          · exact ((((ho6.out.setO hne).setO hne).setO hne).setO hne).alloc _
          · exact alloc_at' _ _ _ (by simp)
          · refine Below.alloc (Below.setCell (Below.setCell (Below.setCell (Below.setCell hbw6.out hg0 _) hg0 _) hg0 _) hg0 _) (by simp; omega) _
        case measure =>
          have e1 := ho5.out.lenOf
          have e2 := hlen0.out
          rw [List.length_append] at e1
          show 4097 - lenOf v' < 4097 - lenOf _
          simp at e1
          omega
end Go.Proofs.YtcfeaaakfjilgabDoor
