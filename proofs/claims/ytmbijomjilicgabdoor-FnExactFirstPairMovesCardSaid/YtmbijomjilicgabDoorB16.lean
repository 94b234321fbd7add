/- The first way by pairs: the whole of it, both ways. -/
import Derived.Test.YtmbijomjilicgabDoorB15
namespace Go.Proofs.YtmbijomjilicgabDoor
open Go Go.RowKit RM

set_option maxRecDepth 100000 in
set_option maxHeartbeats 4000000 in
theorem fpw_any (n x y : Nat) (w : World) (h2 : 2 ≤ n) (hn : n ≤ 12) (hx : x < 2 ^ n) (hy : y < 2 ^ n) (hT : TabOk w) :
    Calls Tryd.prog 31 #[(.agg #[.int .i64 ((ctz (x) : Nat) : Int), .bool (onB (x)), .int .i64 ((n : Nat) : Int), .int .u64 ((x : Nat) : Int)]), (.agg #[.int .i64 ((ctz (y) : Nat) : Int), .bool (onB (y)), .int .i64 ((n : Nat) : Int), .int .u64 ((y : Nat) : Int)])] w fun e w' => ∃ v, e = .returned v ∧ OwnI w' w.heap.size v (fway n (num y) (dd (num y) (num x)) x) ∧ Below w.heap.size w w' := by
  have hT := Lib.hid hT
  have hq : 2 ^ n ≤ 2 ^ 12 := Nat.pow_le_pow_right (by omega) hn
  obtain ⟨N, hN⟩ : ∃ N, Hid (N = 2 ^ n) := ⟨_, Lib.hid rfl⟩
  have hsy := num_lt n y hy
  have hS := Lib.hid fun w hw => sm_any n y w h2 hn hy hw
  have hNr := Lib.hid (fun z gm gw B w (hz : z < 2 ^ n) (hne : num z ≠ num y) hw ho => nearer_any n z y gm gw B w h2 hn hz hy hne hw ho)
  have hst := Lib.hid (fun z (hz : z < 2 ^ n) (hne : num z ≠ num y) => fway_step n (num y) z h2 hz hsy hne)
  have hsp := Lib.hid (fun z (hz : z < 2 ^ n) (hne : num z ≠ num y) => nrK_spec n (num y) z h2 hz hsy hne)
  have hMv := Lib.hid (fun z (k : Int) w (hz : z < 2 ^ n) (hk : pcan n z k = true) hw => pairMoved_any n z k w h2 (by omega) hz hk hw)
  have hxl := Lib.hid (fun z (k : Int) (hz : z < 2 ^ n) (hk : pcan n z k = true) => Nat.xor_lt_two_pow hz (msk_lt n k z h2 hk))
  have hD := Lib.hid (dd_le hsy (num_lt n x hx))
  rw [← hN.out] at hS hNr hst hsp hMv hxl hD
  obtain ⟨L, hL⟩ : ∃ L, Hid (L = fway n (num y) (dd (num y) (num x)) x) := ⟨_, Lib.hid rfl⟩
  have hxN := Lib.hid (show x < N by rw [hN.out]; exact hx)
  have hyN := Lib.hid (show y < N by rw [hN.out]; exact hy)
  have hN4 : N ≤ 4096 := by rw [hN.out]; omega
  rw [← hL.out]
  clear hq hsy hx hy
  go_enter Tryd.func31, Tryd.ntmps31
  go_wp2_with fail
  refine (hS.out _ ?_).mono ?_
  · repeat (first | exact hT.out | apply TabOk.alloc | apply TabOk.drew | apply TabOk.drewN)
  rintro e w1 ⟨gm, gw, rfl, ho, hb⟩
  have gx : w1.heap[w.heap.size]? = some (barO n x) := (hb.block _ (by simp; omega)).trans ((Below.heap_alloc _ _ _ (by simp)).trans (alloc_at w (barO n x)))
  have gy : w1.heap[w.heap.size + 1]? = some (barO n y) := (hb.block _ (by simp)).trans (alloc_at' _ _ _ (by simp))
  have hbb := bt (bt (ba w (barO n x)) (ba _ (barO n y))) hb
  go_upto_region 2 with fail
  obtain ⟨W, hW⟩ : ∃ W, W = w1.alloc (fndO n N gm gw) := ⟨_, rfl⟩
  have gf := alloc_at w1 (fndO n N gm gw)
  have gx2 := (Below.heap_alloc w1 (fndO n N gm gw) _ (lt_of_block gx)).trans gx
  have gy2 := (Below.heap_alloc w1 (fndO n N gm gw) _ (lt_of_block gy)).trans gy
  have hoW := ho.below (ba w1 (fndO n N gm gw))
  have hbW := bt hbb (ba w1 (fndO n N gm gw))
  rw [← hW] at gf gx2 gy2 hoW hbW
  rw [← hW]
  have hTW := Lib.hid (hT.out.below hbW)
  have lf := lt_of_block gf
  have ly := lt_of_block gy2
  obtain ⟨⟨a0, a1, a2, a3⟩, _⟩ := bar_cells gx2
  clear hW ho hb gx gy
  have hoW := Lib.hid hoW
  have hbW := Lib.hid hbW
  have gf := Lib.hid gf
  have gy2 := Lib.hid gy2
  go_wp2_with fail
  clear a0 a1 a2 a3 gx2 hbb
  go_loopw [6, 7] (fun o p wr => ∃ z g pre, z < N ∧ p = .pointer (some ⟨g, 0, none⟩) ∧ W.heap.size ≤ g ∧ Hid (L = pre ++ fway n (num y) (dd (num y) (num z)) z) ∧ Hid (OwnI wr W.heap.size o pre) ∧ Hid (wr.heap[g]? = some (barO n z)) ∧ Hid (Below W.heap.size W wr)) (fun o _ _ => 4097 - lenOf o)
  case atStart => exact ⟨x, W.heap.size, [], hxN.out, rfl, Nat.le_refl _, hL, OwnI.nil _ _, Lib.hid (alloc_at _ _), ba _ _⟩
  case round =>
    obtain ⟨z, g, pre, hzN, rfl, hg0, hpre, ho, hgz, hbw⟩ := hrel
    have hsw := hbw.out.size
    have hgl : g < wr.heap.size := lt_of_block hgz.out
    obtain ⟨⟨c0, c1, c2, c3⟩, cf⟩ := bar_cells hgz.out
    have hlo := ho.out.lenOf
    obtain ⟨⟨d0, d1, d2, d3⟩, _⟩ := bar_cells ((hbw.out.block _ ly).trans gy2.out)
    by_cases hzy : z = y
    · subst hzy
      have hfin : Hid (L = pre) := Lib.hid (by rw [hpre.out, dd_self]; simp [fway])
      go_wp2_with fail
      go_ret
      exact ⟨_, rfl, by rw [hfin.out]; exact ho.out.mono hbW.out.size, bt hbW.out hbw.out⟩
    · have hne : num z ≠ num y := fun e => hzy (num_inj e)
      have hgf2 := (hbw.out.block _ lf).trans gf.out
      obtain ⟨⟨f0, f1, f2⟩, _⟩ := fnd_cells hgf2
      have hTr := Lib.hid (hTW.out.below hbw.out)
      have hnz := Lib.hid (hNr.out z gm gw _ wr hzN hne hTr.out (hoW.out.below hbw.out))
      obtain ⟨hcan, hdec, _⟩ := hsp.out z hzN hne
      have hstz := hst.out z hzN hne
      obtain ⟨k, hk⟩ : ∃ k, Hid (k = nrK n (num y) z) := ⟨_, Lib.hid rfl⟩
      rw [← hk.out] at hnz hcan hdec hstz
      have hMk := Lib.hid (fun w hw => hMv.out z k w hzN hcan hw)
      have hzl := hxl.out z k hzN hcan
      obtain ⟨z', hz'⟩ : ∃ z', Hid (z' = z ^^^ msk k) := ⟨_, Lib.hid rfl⟩
      rw [← hz'.out] at hMk hzl hdec hstz
      have hnext : Hid (L = (pre ++ [k]) ++ fway n (num y) (dd (num y) (num z')) z') := Lib.hid (by rw [hpre.out, hstz]; simp)
      have hlen0 : Hid (pre.length + 1 ≤ 4096) := Lib.hid (by
        have e := congrArg List.length hnext.out
        have e2 := congrArg List.length hL.out
        rw [fway_len] at e2
        have := hD.out
        simp at e; omega)
      have hgf2 := Lib.hid hgf2
      have hzl := Lib.hid hzl
      clear hcan hdec hstz hne
      go_wp2_with fail
      refine hnz.out.mono ?_; rintro e w4 ⟨rfl, hb4⟩
      have hs4 := hb4.size
      have hgz4 : w4.heap[g]? = some (barO n z) := by rw [hb4.block g hgl]; exact hgz.out
      have ho4 := Lib.hid (ho.out.below hb4)
      have hbw4 := Lib.hid (hbw.out.trans (hb4.mono hsw))
      have hgz4 := Lib.hid hgz4
      have hb4 := Lib.hid hb4
      clear c0 c1 c2 c3 d0 d1 d2 d3 cf f0 f1 f2
      go_wp2_with (at_builtin; refine app_int _ rfl _ _ rfl W.heap.size _ _ rfl (ho4.out.alloc _) w4.heap.size _ rfl (by simp; rfl) (by have := hlen0.out; omega) (by simp; omega) ?_; intro v' w5 ho5 hg5; have hgz5 := grow_bar hg5 ho4.out hgz4.out; obtain ⟨⟨c0, c1, c2, c3⟩, cf⟩ := bar_cells hgz5; have hbw5 := Lib.hid (bel_own (hbw4.out.alloc hbw4.out.size _) (ho4.out.alloc _) hg5 (by have := hbw4.out.size; simp; omega)); have hgz5 := Lib.hid hgz5; have ho5 := Lib.hid ho5; have hg5 := Lib.hid hg5)
      have hT5 := Lib.hid (hTW.out.below hbw5.out)
      refine (hMk.out _ hT5.out).mono ?_; rintro e w6 ⟨rfl, hb6⟩
      have hgl5 : g < w5.heap.size := lt_of_block hgz5.out
      have hgz6 : w6.heap[g]? = some (barO n z) := by rw [hb6.block g hgl5]; exact hgz5.out
      clear c0 c1 c2 c3 cf
      obtain ⟨⟨c0, c1, c2, c3⟩, cf⟩ := bar_cells hgz6
      have ho6 := Lib.hid (ho5.out.below hb6)
      have hbw6 := Lib.hid (hbw5.out.trans (hb6.mono hbw5.out.size))
      have hgz6 := Lib.hid hgz6
      have hb6 := Lib.hid hb6
      have hgl6 : g < w6.heap.size := lt_of_block hgz6.out
      have hs6 := hbw6.out.size
      go_wp2_with fail
      go_roundw
      case rel =>
        have hne := ho6.out.ne_bar hgz6.out
        refine ⟨z', w6.heap.size, pre ++ [k], hzl.out, rfl, hs6, hnext, Lib.hid ?_, Lib.hid ?_, Lib.hid ?_⟩
        · exact ((((ho6.out.setO hne).setO hne).setO hne).setO hne).alloc _
        · exact alloc_at' _ _ _ (by simp)
        · refine Below.alloc (Below.setCell (Below.setCell (Below.setCell (Below.setCell hbw6.out hg0 _) hg0 _) hg0 _) hg0 _) (by simp; omega) _
      case measure =>
        have e1 := ho5.out.lenOf
        have e2 := hlen0.out
        rw [List.length_append] at e1
        show 4097 - lenOf v' < 4097 - lenOf _
        simp at e1
        omega
end Go.Proofs.YtmbijomjilicgabDoor
