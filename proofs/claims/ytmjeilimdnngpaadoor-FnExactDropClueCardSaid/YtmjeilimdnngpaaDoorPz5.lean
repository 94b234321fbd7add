/- Puzzles by the model: all states that fit clues. -/
import Derived.Test.YtmjeilimdnngpaaDoorPz4
namespace Go.Proofs.YtmjeilimdnngpaaDoor
open Go Go.RowKit RM
theorem pzFits_any (n x : Nat) (k a b : Int) (w : World) (h1 : 1 ≤ n) (h7 : n ≤ 7) (hx : x < 2 ^ n) (h : cluOk n ⟨k, a, b⟩ = true) :
    Calls Tryd.prog 67 #[.agg #[.int .i64 k, .int .i64 a, .int .i64 b], .string (ST n x)] w fun e w' => e = .returned (.bool (fitZ n x ⟨k, a, b⟩)) ∧ Below w.heap.size w w' := by
  obtain ⟨w2, hw2⟩ : ∃ w2, Hid (w2 = w.alloc (.cells #[.int .i64 k, .int .i64 a, .int .i64 b] 44)) := ⟨_, Lib.hid rfl⟩
  have hb2 : Hid (Below w.heap.size w w2) := Lib.hid (by rw [hw2.out]; exact ba1 w _)
  have P2 := Lib.hid (show w2.heap[w.heap.size]? = some (.cells #[.int .i64 k, .int .i64 a, .int .i64 b] 44) by rw [hw2.out]; exact hb_new _ _)
  have f0 : w2.cell? ⟨w.heap.size, 0, none⟩ = some (.int .i64 k) := hb_cell P2.out 0
  have f1 : w2.cell? ⟨w.heap.size, 1, none⟩ = some (.int .i64 a) := hb_cell P2.out 1
  have f2 : w2.cell? ⟨w.heap.size, 2, none⟩ = some (.int .i64 b) := hb_cell P2.out 2
  by_cases hk : k = 1
  · subst hk
    have hV := Lib.hid fun w => pzValue_1 n x 0 w h7 hx
    have hF : Hid (fitZ n x ⟨1, a, b⟩ = (tellZ n x 1 0 == a)) := Lib.hid rfl
    generalize fitZ n x ⟨1, a, b⟩ = R at *
    generalize tellZ n x 1 0 = T at *
    generalize ST n x = s at *
    clear h hx
    go_enter Tryd.func67, Tryd.ntmps67
    go_wp2_with fail
    rw [← hw2.out]
    go_quiet ((go_at_call 74; exact Calls.quiet_of_same ((hV.out _).mono fun _ _ h => ⟨h.1, h.2.symm⟩)))
    go_wp2_with fail
    go_ret; exact ⟨ret_bool hF.out.symm, below_drewN hb2.out _⟩
  · have hk1 : (k == 1) = false := by simpa using hk
    have hV := Lib.hid fun w => pzValue_any n x k a w h1 h7 hx (cluOk_a n k a b h)
    have hF : Hid (fitZ n x ⟨k, a, b⟩ = (tellZ n x k a == b)) := Lib.hid (by unfold fitZ; rw [if_neg hk])
    generalize fitZ n x ⟨k, a, b⟩ = R at *
    generalize tellZ n x k a = T at *
    generalize ST n x = s at *
    clear h hx hk
    go_enter Tryd.func67, Tryd.ntmps67
    go_wp2_with fail
    rw [← hw2.out]
    go_wp2_with fail
    go_quiet ((go_at_call 74; exact Calls.quiet_of_same ((hV.out _).mono fun _ _ h => ⟨h.1, h.2.symm⟩)))
    go_wp2_with fail
    go_ret; exact ⟨ret_bool hF.out.symm, below_drewN hb2.out _⟩

/-- the solutions among the first m numbers -/
def solK (n : Nat) (cs : List Clu) (m : Nat) : List Nat := ((List.range m).map gray).filter fun x => cs.all (fitZ n x)
theorem solK_yes (n : Nat) (cs : List Clu) (m : Nat) (h : cs.all (fitZ n (gray m)) = true) : solK n cs (m + 1) = solK n cs m ++ [gray m] := by
  unfold solK
  rw [List.range_succ, List.map_append, List.filter_append]
  simp [h]
theorem solK_no (n : Nat) (cs : List Clu) (m : Nat) (h : cs.all (fitZ n (gray m)) = false) : solK n cs (m + 1) = solK n cs m := by
  unfold solK
  rw [List.range_succ, List.map_append, List.filter_append]
  simp [h]
theorem solK_len (n : Nat) (cs : List Clu) (m : Nat) : (solK n cs m).length ≤ m := by
  unfold solK
  have := List.length_filter_le (fun x => cs.all (fitZ n x)) ((List.range m).map gray)
  simpa using this
theorem solZ_K (n : Nat) (cs : List Clu) : solZ n cs = solK n cs (2 ^ n) := rfl
/-- the solutions as texts -/
def txZ (n : Nat) (xs : List Nat) : List ByteArray := xs.map (ST n)
theorem txZ_len (n : Nat) (xs : List Nat) : (txZ n xs).length = xs.length := by unfold txZ; simp
theorem txZ_snoc (n : Nat) (xs : List Nat) (y : Nat) : txZ n xs ++ [ST n y] = txZ n (xs ++ [y]) := by unfold txZ; simp
theorem all_take_no {α : Type} (p : α → Bool) (xs : List α) (k : Nat) (hk : k < xs.length) (h : (xs.take k).all p = false) : (xs.take (k + 1)).all p = false := by
  rw [List.take_succ_eq_append_getElem hk, List.all_append, h]; rfl
theorem all_take_at {α : Type} (p : α → Bool) (xs : List α) (k : Nat) (hk : k < xs.length) (h : (xs.take k).all p = true) : (xs.take (k + 1)).all p = p xs[k] := by
  rw [List.take_succ_eq_append_getElem hk, List.all_append, h]; simp
set_option maxHeartbeats 1000000 in
theorem pzAll_any (n : Nat) (p : Option Addr) (c : Nat) (cs : List Clu) (w : World) (h1 : 1 ≤ n) (h7 : n ≤ 7) (hm6 : cs.length ≤ 6) (hok : cs.all (cluOk n) = true) (hr : RG cluE w p cs) :
    Calls Tryd.prog 38 #[.int .i64 n, .slice p cs.length c] w fun e w' => ∃ v, e = .returned v ∧ OwnT w' w.heap.size v (txZ n (solZ n cs)) ∧ Below w.heap.size w w' := by
  rw [solZ_K]
  obtain ⟨m, hmc⟩ : ∃ m, m = cs.length := ⟨_, rfl⟩
  rw [← hmc] at hm6 ⊢
  have hpn := pow7 h7
  have hp1 := Nat.two_pow_pos n
  have hg20 : Hid (∀ q, q < 2 ^ n → gray q < 2 ^ n) := Lib.hid fun q hq => gray_lt n q hq
  obtain ⟨X, hX⟩ : ∃ X, X = 2 ^ n := ⟨_, rfl⟩
  have hXi : (2 : Int) ^ n = (X : Int) := by rw [hX]; simp
  rw [← hX] at hpn hp1 ⊢
  replace hX := Lib.hid hX
  replace hmc := Lib.hid hmc.symm
  replace hr := Lib.hid hr
  replace hok := Lib.hid hok
  have hw1 : IntKind.i64.wrap (X : Int) = (X : Int) := by rw [IntKind.wrap_i64]; omega
  go_enter Tryd.func38, Tryd.ntmps38
  go_wp2_with fail
  go_loopw [5, 6] (fun o i wr => ∃ q : Nat, q ≤ X ∧ i = .int .i64 q ∧ Hid (OwnT wr w.heap.size o (txZ n (solK n cs q))) ∧ Hid (Below w.heap.size w wr)) (fun _ i _ => X - (intOf i).toNat)
  case atStart => exact ⟨0, Nat.zero_le _, rfl, Lib.hid (OwnT.nil _ _), Lib.hid (Below.refl _ _)⟩
  case round =>
    obtain ⟨q, hq, rfl, ho, hb⟩ := hrel
    obtain ⟨wA, rfl⟩ : ∃ x, x = wr := ⟨_, rfl⟩
    by_cases hlt : q < X
    · have hS := Lib.hid fun w => riState_any n q w (by omega) (by omega)
      have hgq := Lib.hid (show gray q < 2 ^ n from hg20.out q (by rw [← hX.out]; exact hlt))
      have hlen := Lib.hid (show (txZ n (solK n cs q)).length ≤ 200 by rw [txZ_len]; have := solK_len n cs q; omega)
      have hyes := Lib.hid (solK_yes n cs q)
      have hnon := Lib.hid (solK_no n cs q)
      have hsn := Lib.hid (txZ_snoc n (solK n cs q) (gray q))
      generalize gray q = x at *
      generalize hss : ST n x = s at *
      replace hss := Lib.hid hss
      go_wp2_with fail
      refine (hS.out _).mono ?_; rintro e w2 ⟨rfl, qd, hqd⟩
      have hb2 := Lib.hid (show Below w.heap.size w w2 by rw [hqd]; exact below_drewN hb.out qd)
      have ho2 := Lib.hid (show OwnT w2 w.heap.size _ (txZ n (solK n cs q)) by rw [hqd]; exact ho.out.drewN qd)
      have hl2 := Lib.hid (show w.heap.size ≤ w2.heap.size from hb2.out.size)
      clear hqd
      go_wp2_with fail
      go_loopw [8, 10, 22] (fun f _ i wr => ∃ k : Nat, k ≤ m ∧ i = .int .i64 k ∧ f = .bool ((cs.take k).all (fitZ n x)) ∧ Hid (Below w2.heap.size w2 wr)) (fun _ _ i _ => m - (intOf i).toNat)
      case atStart => exact ⟨0, Nat.zero_le _, rfl, by simp, Lib.hid (Below.refl _ _)⟩
      case round =>
        obtain ⟨k, hk, rfl, rfl, hbr⟩ := hrel
        by_cases hlk : k < m
        · have hkx : k < cs.length := by rw [hmc.out]; exact hlk
          obtain ⟨g, rfl, hgl, c0, c1, c2⟩ := ((hr.out.below hb2.out).below hbr.out).clu hkx
          have hkok : cluOk n cs[k] = true := List.all_eq_true.1 hok.out _ (List.getElem_mem hkx)
          have hno := Lib.hid (all_take_no (fitZ n x) cs k hkx)
          have hat := Lib.hid (all_take_at (fitZ n x) cs k hkx)
          obtain ⟨ka, ki, kb, hke⟩ : ∃ a i b, cs[k] = ⟨a, i, b⟩ := ⟨_, _, _, rfl⟩
          rw [hke] at c0 c1 c2 hkok hat
          clear hke hkx
          have hC := Lib.hid fun w => pzFits_any n x ka ki kb w h1 h7 hgq.out hkok
          rw [hss.out] at hC
          clear hkok
          generalize (cs.take k).all (fitZ n x) = A at *
          generalize fitZ n x ⟨ka, ki, kb⟩ = F at *
          cases A with
          | false =>
            have e2 : Hid ((cs.take (k + 1)).all (fitZ n x) = false) := Lib.hid (hno.out rfl)
            go_wp2_with fail
            go_roundw
            case rel => exact ⟨k + 1, by omega, by go_num, by rw [e2.out], Lib.hid (bt1 hbr.out (ba1 _ _))⟩
            all_goals (simp [intOf] <;> omega)
          | true =>
            have e2 : Hid ((cs.take (k + 1)).all (fitZ n x) = F) := Lib.hid (hat.out rfl)
            go_wp2_with fail
            refine (hC.out _).mono ?_; rintro e w3 ⟨rfl, hb3⟩
            replace hb3 := Lib.hid (bt1 (bt1 hbr.out (ba1 _ _)) hb3)
            go_wp2_with fail
            go_roundw
            case rel => exact ⟨k + 1, by omega, by go_num, by rw [e2.out], hb3⟩
            all_goals (simp [intOf] <;> omega)
        · obtain rfl : k = m := by omega
          have htk : cs.take k = cs := List.take_of_length_le (by rw [hmc.out]; exact Nat.le_refl _)
          rw [htk]
          clear htk
          have ho3 := Lib.hid (ho2.out.below hbr.out)
          have hb3 := Lib.hid (show Below w.heap.size w wr from hb2.out.trans (hbr.out.mono hl2.out))
          generalize cs.all (fitZ n x) = A at *
          cases A with
          | false =>
            have e2 := Lib.hid (hnon.out rfl)
            go_wp2_with fail
            go_roundw
            case rel => exact ⟨q + 1, by omega, by go_num, Lib.hid (by rw [e2.out]; exact ho3.out), hb3⟩
            all_goals (simp [intOf] <;> omega)
          | true =>
            have e2 := Lib.hid (hyes.out rfl)
            go_wp2_with (at_builtin; refine app_txt _ rfl _ _ rfl w.heap.size _ _ rfl (ho3.out.below (ba1 _ _)) wr.heap.size s rfl (by simp) (by have := hlen.out; omega) (by have := hb3.out.size; simp; omega) ?_; intro v' w7 ho7 hg7; have hb7 := Lib.hid (bel_ownT ((hb3.out.alloc hb3.out.size _)) (ho3.out.below (ba1 _ _)) hg7 (by have := hb3.out.size; simp; omega)); replace ho7 := Lib.hid ho7; clear hg7)
            go_roundw
            case rel => exact ⟨q + 1, by omega, by go_num, Lib.hid (by rw [e2.out, ← hsn.out]; exact ho7.out), hb7⟩
            all_goals (simp [intOf] <;> omega)
    · obtain rfl : q = X := by omega
      go_wp2_with fail
      go_ret; exact ⟨_, rfl, ho.out, hb.out⟩

end Go.Proofs.YtmjeilimdnngpaaDoor
