/- Chapter 7: one move more, by the program. -/
import Derived.Test.YtfnhmacnghkgiaeDoorZE
import Derived.Deep.RegionWith
namespace Go.Proofs.YtfnhmacnghkgiaeDoor
open Go Go.RowKit RM
theorem elemInt : Tryd.prog.elem 37 = 3 := by kernel_rfl
theorem szI (w : World) : (sizeOf 3).run Tryd.prog w = .ok 1 w := by
  have := Tryd.sizeOf3 w
  exact this
theorem slice3 (W : World) (g n c l h : Nat) (h1 : l < h) (h2 : h ≤ c) (x y : Int) (hx : x = (l : Int)) (hy : y = (h : Int)) :
    (Instr.slice 37 (.slice (some ⟨g, 0, none⟩) n c) (some (.int .i64 x)) (some (.int .i64 y)) (some (.int .i64 y))).run Tryd.prog W = .ok (.slice (some ⟨g, l, none⟩) (h - l) (h - l)) W := by
  subst hx hy
  have ht : Tryd.prog.underlying 37 = some (.slice (Tryd.prog.elem 37)) := by rw [elemInt]; exact Tryd.underlying37
  rw [run_slice_lhm (ht := ht) (h0 := by omega) (h1 := by omega) (h2 := by omega) (h3 := by omega), elemInt, szI]
  have e : ¬ h = l := by omega
  simp [sliced, e, Result.andThen, Addr.add]
  omega
theorem slice3z (W : World) (g n c l : Nat) (h2 : l ≤ c) (x : Int) (hx : x = (l : Int)) :
    (Instr.slice 37 (.slice (some ⟨g, 0, none⟩) n c) (some (.int .i64 x)) (some (.int .i64 x)) (some (.int .i64 x))).run Tryd.prog W = .ok (.slice (some ⟨g, 0, none⟩) 0 0) W := by
  subst hx
  have ht : Tryd.prog.underlying 37 = some (.slice (Tryd.prog.elem 37)) := by rw [elemInt]; exact Tryd.underlying37
  rw [run_slice_lhm (ht := ht) (h0 := by omega) (h1 := by omega) (h2 := by omega) (h3 := by omega), elemInt, szI]
  simp [sliced, Result.andThen]
theorem own_cap {w : World} {B g n c : Nat} {xs : List Int} (h : OwnI w B (.slice (some ⟨g, 0, none⟩) n c) xs) (m : Nat) (hm : xs.length = m) : m ≤ c := by
  rcases h.2 with ⟨e, _⟩ | ⟨g', cap', cur, e, _, _, hnc, _⟩
  · cases e
  · have e' : c = cap' := by simp at e; exact e.2.2
    omega
set_option maxRecDepth 100000 in
set_option maxHeartbeats 4000000 in
theorem walkedOn_any (g n c B d : Nat) (f : Nat → Nat) (w : World) (hn : 2 ≤ n) (hn2 : n ≤ 4096) (he : d ≤ 2) (hf : ∀ i, f i ≤ 1099511627776) (h : OwnI w B (.slice (some ⟨g, 0, none⟩) n c) (fnR n f)) :
    Calls Tryd.prog 54 #[.slice (some ⟨g, 0, none⟩) n c, .int .i64 d] w fun e w' => ∃ v, e = .returned v ∧ OwnI w' w.heap.size v (fnR n (nxN n d f)) ∧ Below w.heap.size w w' := by
  have hC := Lib.hid (clone_any g n c B (fnR n f) w (Lib.hid (fnR_len n f)) (by omega) h)
  clear h
  obtain ⟨M, hM⟩ : ∃ M, n = M + 1 := ⟨n - 1, by omega⟩
  have hMi : (n : Int) - 1 = (M : Int) := by omega
  have hrow := Lib.hid (ef_row n d f hn)
  rw [show n - 1 = M from by omega] at hrow
  have hef := Lib.hid (ef_le n d f 1099511627776 he hf)
  have hz := Lib.hid (fnR_zero n)
  have hu0 : Hid (fnR n (fun _ => 0) = fnR n (upTo n d f 0)) := Lib.hid (fnR_congr _ _ _ fun i _ => by unfold upTo; rw [if_neg (by omega)])
  have hun : Hid (fnR n (upTo n d f n) = fnR n (nxN n d f)) := Lib.hid (fnR_congr _ _ _ fun i hi => by unfold upTo; rw [if_pos hi])
  have hus := Lib.hid (upTo_row n d f)
  have hnx : Hid (∀ i, nxN n d f i = (if 1 ≤ i then efN n d f (i - 1) else 0) + (if i + 1 < n then efN n d f (i + 1) else 0)) := Lib.hid fun i => rfl
  have hfl := Lib.hid (fnR_len n)
  have hfg := Lib.hid (fnR_get n)
  have hf0 := hf 0
  have hfM := hf M
  have hMn : M < n := by omega
  have hMp : 1 ≤ M := by omega
  replace hM := Lib.hid hM
  generalize upTo n d f = up at *
  generalize nxN n d f = nx at *
  generalize efN n d f = ef at *
  go_enter Tryd.func54, Tryd.ntmps54
  go_wp2_with fail
  refine hC.out.mono ?_; rintro e w1 ⟨v, rfl, ho, hb⟩
  obtain ⟨g1, c1, rfl, hg1, hg1l⟩ := own_some ho n (hfl.out _) (by omega)
  have hnc : n ≤ c1 := own_cap ho n (hfl.out _)
  obtain ⟨p0, q0⟩ := ho.cell (hfl.out _) 0 (by rw [hfl.out]; omega)
  obtain ⟨p1, q1⟩ := ho.cell (hfl.out _) M (by rw [hfl.out]; omega)
  rw [hfg.out] at p0 p1
  obtain ⟨ho2, hgw⟩ := ho.stored (hfl.out _) 0 ((f 0 * d : Nat) : Int)
  obtain ⟨ho3, hgw2⟩ := ho2.stored (by rw [List.length_set]; exact hfl.out _) M ((f M * d : Nat) : Int)
  rw [hrow.out] at ho3
  have hb3 := (hb.grown hgw hb.size (fun j e => by cases e; exact hg1)).grown hgw2 (by simp; exact hb.size) (fun j e => by cases e; exact hg1)
  have n1 : ¬ M = 0 := by omega
  have n2 : ¬ 0 = M := by omega
  have b0 : f 0 * d ≤ 1099511627776 * 2 := Nat.mul_le_mul hf0 he
  have b1 : f M * d ≤ 1099511627776 * 2 := Nat.mul_le_mul hfM he
  have s0 : (f 0 : Int) * (d : Int) = ((f 0 * d : Nat) : Int) := by simp
  have s1 : (f M : Int) * (d : Int) = ((f M * d : Nat) : Int) := by simp
  generalize f 0 * d = A at *
  generalize f M * d = C at *
  generalize f 0 = F0 at *
  generalize f M = FM at *
  clear ho ho2 hgw hgw2 hf
  replace ho3 := Lib.hid ho3
  replace hb3 := Lib.hid hb3
  go_wp2_with (at_make; refine make_int _ rfl _ _ rfl _ _ n rfl rfl (by omega) ?_; intro w3 hown3 hb4; rw [hz.out, hu0.out] at hown3; have ho4 := Lib.hid (ho3.out.below hb4); have hb5 := Lib.hid (bt1 hb3.out hb4); rw [show ((w1.setCell ⟨g1, 0, none⟩ (.int .i64 A)).setCell ⟨g1, M, none⟩ (.int .i64 C)).heap.size = w1.heap.size from by simp] at hown3; replace hown3 := Lib.hid hown3; clear hb4)
  have hwl := hb.size
  have hne : g1 ≠ w1.heap.size := by omega
  go_loopw [34] (fun i wr => ∃ k : Nat, k ≤ n ∧ i = .int .i64 k ∧ Hid (OwnI wr w1.heap.size (.slice (some ⟨w1.heap.size, 0, none⟩) n n) (fnR n (up k))) ∧ Hid (OwnI wr w.heap.size (.slice (some ⟨g1, 0, none⟩) n c1) (fnR n ef)) ∧ Hid (Below w.heap.size w wr)) (fun i _ => n - (intOf i).toNat)
  case atStart => exact ⟨0, Nat.zero_le _, rfl, hown3, ho4, hb5⟩
  case round =>
    obtain ⟨k, hk, rfl, hq, ho5, hb6⟩ := hrel
    generalize wr = wq at *
    by_cases hlt : k < n
    · have hnk := hnx.out k
      obtain ⟨t0, t1⟩ := hq.out.cell (hfl.out _) k (by rw [hfl.out]; exact hlt)
      rw [hfg.out] at t0
      have hsk := Lib.hid (hus.out k)
      have lnx : w1.heap.size < wq.heap.size := (hq.out.lt _ rfl).2
      have lgx : g1 < wq.heap.size := (ho5.out.lt _ rfl).2
      have nnx : ¬ w1.heap.size = wq.heap.size := by omega
      have ngx : ¬ g1 = wq.heap.size := by omega
      by_cases hk0 : k = 0
      · subst hk0
        obtain ⟨z1, _⟩ := ho5.out.cell (hfl.out _) 1 (by rw [hfl.out]; omega)
        rw [hfg.out] at z1
        have hcg : ∀ o, (wq.alloc o).cell? ⟨g1, 1, none⟩ = some (.int .i64 (ef 1)) := fun o => ((ba1 _ _).cell (p := ⟨g1, 1, none⟩) lgx).trans z1
        obtain ⟨V, hV⟩ : ∃ V, V = ef 1 := ⟨_, rfl⟩
        have hVb : V ≤ 4398046511104 := by have := hef.out 1; have := hef.out 1; omega
        have hVn : nx 0 = V := by rw [hnk, hV]; rw [if_neg (by omega), if_pos (by omega)]; simp
        obtain ⟨hq2, hgw⟩ := hq.out.stored (hfl.out _) 0 ((V : Nat) : Int)
        have hrow2 := hsk.out
        rw [hVn] at hrow2
        rw [← hrow2] at hq2
        have ho6 := own_keep ho5.out hne 0 (.int .i64 ((V : Nat) : Int))
        have hb7 := hb6.out.grown hgw hb6.out.size (fun j e => by cases e; exact hwl)
        replace hq2 := Lib.hid hq2
        replace ho6 := Lib.hid ho6
        replace hb7 := Lib.hid hb7
        clear hgw hrow2 hVn hnk
        have hS := Lib.hid fun (wx : World) (s0 : wx.cell? ⟨wq.heap.size, 0, none⟩ = some (.slice (some ⟨g1, 0, none⟩) 0 0)) (s1 : wx.cell? ⟨wq.heap.size, 1, none⟩ = some (.slice (some ⟨g1, 1, none⟩) 1 1)) (z : wx.cell? ⟨g1, 1, none⟩ = some (.int .i64 (ef 1))) => sides_any wq.heap.size g1 0 1 0 1 0 1 0 (ef 1) wx (by omega) (by omega) (by omega) (by have := hef.out 1; omega) s0 s1 (Lib.hid (fun h => by omega)) (Lib.hid (fun _ => z))
        rw [show 0 * 0 + 1 * ef 1 = V from by omega] at hS
        have mn : min (1 : Int) (M : Int) = 1 := by omega
        have mx : max (IntKind.i64.wrap (-1)) 0 = 0 := by decide
        have mx2 : max (-1 : Int) 0 = 0 := by decide
        have hs0 : ∀ W, (Instr.slice 37 (.slice (some ⟨g1, 0, none⟩) n c1) (some (.int .i64 0)) (some (.int .i64 0)) (some (.int .i64 0))).run Tryd.prog W = .ok (.slice (some ⟨g1, 0, none⟩) 0 0) W := fun W => slice3z W g1 n c1 0 (by omega) 0 rfl
        rw [show (((0 : Nat) : Int)) = 0 from rfl]
        have hsl : ∀ W, (Instr.slice 37 (.slice (some ⟨g1, 0, none⟩) n c1) (some (.int .i64 1)) (some (.int .i64 2)) (some (.int .i64 2))).run Tryd.prog W = .ok (.slice (some ⟨g1, 1, none⟩) 1 1) W := fun W => slice3 W g1 n c1 1 2 (by omega) (by omega) 1 2 rfl rfl
        replace hV := Lib.hid hV
        go_upto_region 11 with fail
        go_region_with (first | (go_at_call 62; refine (hS.out _ ?_ ?_ ?_).mono ?_; (simp [go_sem]); (simp [go_sem]); (first | exact hcg _ | (simp; exact hcg _)); rintro e w' ⟨rfl, rfl⟩))
        all_goals
          go_wp2_with fail
          exact ⟨⟨1, by omega, by go_num, Lib.hid (hq2.out.below (Below.drew (ba1 _ _))), Lib.hid (ho6.out.below (Below.drew (ba1 _ _))), Lib.hid (bt1 hb7.out (Below.drew (ba1 _ _)))⟩, by simp [intOf]; omega⟩
      · obtain ⟨kk, hkk⟩ : ∃ kk, k = kk + 1 := ⟨k - 1, by omega⟩
        have e1 : (k : Int) - 1 = (kk : Int) := by omega
        have mw : IntKind.i64.wrap (kk : Int) = (kk : Int) := by rw [IntKind.wrap_i64]; omega
        have mw2 : IntKind.i64.wrap ((k : Int) + 1) = (k : Int) + 1 := by rw [IntKind.wrap_i64]; omega
        have mx : max (kk : Int) 0 = (kk : Int) := by omega
        obtain ⟨za, _⟩ := ho5.out.cell (hfl.out _) kk (by rw [hfl.out]; omega)
        rw [hfg.out] at za
        have hca : ∀ o, (wq.alloc o).cell? ⟨g1, kk, none⟩ = some (.int .i64 (ef kk)) := fun o => ((ba1 _ _).cell (p := ⟨g1, kk, none⟩) lgx).trans za
        have hsa : ∀ W, (Instr.slice 37 (.slice (some ⟨g1, 0, none⟩) n c1) (some (.int .i64 (kk : Int))) (some (.int .i64 (k : Int))) (some (.int .i64 (k : Int)))).run Tryd.prog W = .ok (.slice (some ⟨g1, kk, none⟩) 1 1) W := fun W => by
          have := slice3 W g1 n c1 kk k (by omega) (by omega) kk k rfl rfl
          rw [show k - kk = 1 from by omega] at this; exact this
        by_cases hkM : k = M
        · have hkn : k + 1 = n := by omega
          obtain ⟨V, hV⟩ : ∃ V, V = ef kk := ⟨_, rfl⟩
          have hVb : V ≤ 4398046511104 := by have := hef.out kk; have := hef.out (k + 1); omega
          have hVn : nx k = V := by rw [hnk, hV]; rw [if_pos (by omega), if_neg (by omega), show k - 1 = kk from by omega]; simp
          obtain ⟨hq2, hgw⟩ := hq.out.stored (hfl.out _) k ((V : Nat) : Int)
          have hrow2 := hsk.out
          rw [hVn] at hrow2
          rw [← hrow2] at hq2
          have ho6 := own_keep ho5.out hne k (.int .i64 ((V : Nat) : Int))
          have hb7 := hb6.out.grown hgw hb6.out.size (fun j e => by cases e; exact hwl)
          replace hq2 := Lib.hid hq2
          replace ho6 := Lib.hid ho6
          replace hb7 := Lib.hid hb7
          clear hgw hrow2 hVn hnk
          have hS := Lib.hid fun (wx : World) (s0 : wx.cell? ⟨wq.heap.size, 0, none⟩ = some (.slice (some ⟨g1, kk, none⟩) 1 1)) (s1 : wx.cell? ⟨wq.heap.size, 1, none⟩ = some (.slice (some ⟨g1, 0, none⟩) 0 0)) (z : wx.cell? ⟨g1, kk, none⟩ = some (.int .i64 (ef kk))) => sides_any wq.heap.size g1 kk 0 1 0 1 0 (ef kk) 0 wx (by omega) (by omega) (by have := hef.out kk; omega) (by omega) s0 s1 (Lib.hid (fun _ => z)) (Lib.hid (fun h => by omega))
          rw [show 1 * ef kk + 0 * 0 = V from by omega] at hS
          have mn : min ((k : Int) + 1) (M : Int) = (k : Int) := by omega
          have hsb : ∀ W, (Instr.slice 37 (.slice (some ⟨g1, 0, none⟩) n c1) (some (.int .i64 ((k : Int) + 1))) (some (.int .i64 ((k : Int) + 1))) (some (.int .i64 ((k : Int) + 1)))).run Tryd.prog W = .ok (.slice (some ⟨g1, 0, none⟩) 0 0) W := fun W => slice3z W g1 n c1 (k + 1) (by omega) _ (by omega)
          replace hV := Lib.hid hV
          replace hkk := Lib.hid hkk
          replace hkM := Lib.hid hkM
          replace hkn := Lib.hid hkn
          go_upto_region 11 with fail
          go_region_with (first | (go_at_call 62; refine (hS.out _ ?_ ?_ ?_).mono ?_; (simp [go_sem]); (simp [go_sem]); (first | exact hca _ | (simp; exact hca _)); rintro e w' ⟨rfl, rfl⟩))
          all_goals
            go_wp2_with fail
            exact ⟨⟨k + 1, by omega, by go_num, Lib.hid (hq2.out.below (Below.drew (ba1 _ _))), Lib.hid (ho6.out.below (Below.drew (ba1 _ _))), Lib.hid (bt1 hb7.out (Below.drew (ba1 _ _)))⟩, by simp [intOf]; omega⟩
        · obtain ⟨zb, _⟩ := ho5.out.cell (hfl.out _) (k + 1) (by rw [hfl.out]; omega)
          rw [hfg.out] at zb
          have hcb : ∀ o, (wq.alloc o).cell? ⟨g1, k + 1, none⟩ = some (.int .i64 (ef (k + 1))) := fun o => ((ba1 _ _).cell (p := ⟨g1, k + 1, none⟩) lgx).trans zb
          obtain ⟨V, hV⟩ : ∃ V, V = ef kk + ef (k + 1) := ⟨_, rfl⟩
          have hVb : V ≤ 4398046511104 := by have := hef.out kk; have := hef.out (k + 1); omega
          have hVn : nx k = V := by rw [hnk, hV]; rw [if_pos (by omega), if_pos (by omega), show k - 1 = kk from by omega]
          obtain ⟨hq2, hgw⟩ := hq.out.stored (hfl.out _) k ((V : Nat) : Int)
          have hrow2 := hsk.out
          rw [hVn] at hrow2
          rw [← hrow2] at hq2
          have ho6 := own_keep ho5.out hne k (.int .i64 ((V : Nat) : Int))
          have hb7 := hb6.out.grown hgw hb6.out.size (fun j e => by cases e; exact hwl)
          replace hq2 := Lib.hid hq2
          replace ho6 := Lib.hid ho6
          replace hb7 := Lib.hid hb7
          clear hgw hrow2 hVn hnk
          have hS := Lib.hid fun (wx : World) (s0 : wx.cell? ⟨wq.heap.size, 0, none⟩ = some (.slice (some ⟨g1, kk, none⟩) 1 1)) (s1 : wx.cell? ⟨wq.heap.size, 1, none⟩ = some (.slice (some ⟨g1, k + 1, none⟩) 1 1)) (z : wx.cell? ⟨g1, kk, none⟩ = some (.int .i64 (ef kk))) (z2 : wx.cell? ⟨g1, k + 1, none⟩ = some (.int .i64 (ef (k + 1)))) => sides_any wq.heap.size g1 kk (k + 1) 1 1 1 1 (ef kk) (ef (k + 1)) wx (by omega) (by omega) (by have := hef.out kk; omega) (by have := hef.out (k + 1); omega) s0 s1 (Lib.hid (fun _ => z)) (Lib.hid (fun _ => z2))
          rw [show 1 * ef kk + 1 * ef (k + 1) = V from by omega] at hS
          have mn : min ((k : Int) + 1) (M : Int) = (k : Int) + 1 := by omega
          have hsb : ∀ W, (Instr.slice 37 (.slice (some ⟨g1, 0, none⟩) n c1) (some (.int .i64 ((k : Int) + 1))) (some (.int .i64 ((k : Int) + 1 + 1))) (some (.int .i64 ((k : Int) + 1 + 1)))).run Tryd.prog W = .ok (.slice (some ⟨g1, k + 1, none⟩) 1 1) W := fun W => by
            have := slice3 W g1 n c1 (k + 1) (k + 2) (by omega) (by omega) ((k : Int) + 1) ((k : Int) + 1 + 1) (by omega) (by omega)
            rw [show k + 2 - (k + 1) = 1 from by omega] at this; exact this
          replace hV := Lib.hid hV
          replace hkk := Lib.hid hkk
          replace hkM := Lib.hid hkM
          go_upto_region 11 with fail
          go_region_with (first | (go_at_call 62; refine (hS.out _ ?_ ?_ ?_ ?_).mono ?_; (simp [go_sem]); (simp [go_sem]); (first | exact hca _ | (simp; exact hca _)); (first | exact hcb _ | (simp; exact hcb _)); rintro e w' ⟨rfl, rfl⟩))
          all_goals
            go_wp2_with fail
            exact ⟨⟨k + 1, by omega, by go_num, Lib.hid (hq2.out.below (Below.drew (ba1 _ _))), Lib.hid (ho6.out.below (Below.drew (ba1 _ _))), Lib.hid (bt1 hb7.out (Below.drew (ba1 _ _)))⟩, by simp [intOf]; omega⟩
    · obtain rfl : k = n := by omega
      go_wp2_with fail
      go_ret
      exact ⟨_, rfl, by rw [← hun.out]; exact hq.out.mono hwl, hb6.out⟩
end Go.Proofs.YtfnhmacnghkgiaeDoor
