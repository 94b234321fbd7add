/- Chapter 7: LikeliestAfter, both ways. -/
import Derived.Test.YtfnhmacnghkgiaeDoorZJ
import Derived.Test.YtfnhmacnghkgiaeDoorZ9
namespace Go.Proofs.YtfnhmacnghkgiaeDoor
open Go Go.RowKit RM
set_option linter.unusedVariables false
theorem sLA_no (a : ByteArray) (k : Int) (w : World) (hG : Hid (∀ w, Calls Tryd.prog 27 #[.string a, .string a, .int .i64 k] w fun e w' => e = .returned (.bool false) ∧ w = w')) :
    Calls Tryd.prog 17 #[.string a, .int .i64 k] w fun e w' => RetT w [] false e w' := by
  go_enter Tryd.func17, Tryd.ntmps17
  go_wp2_with fail
  refine (hG.out _).mono ?_; rintro e w' ⟨rfl, rfl⟩
  go_wp2_with fail
  go_ret2; exact ⟨_, rfl, OwnT.nil _ _, Below.refl _ _⟩
set_option maxRecDepth 100000 in
set_option maxHeartbeats 4000000 in
theorem sLA_yes (a : ByteArray) (n N X M B0 : Nat) (P : Int) (f : Nat → Nat) (mo : Nat → Nat) (T : Nat → List ByteArray) (w : World) (hs : Hid (a.size = n)) (hn : n ≤ 12) (hP : (2 : Int) ^ n = P) (p1 : 1 ≤ P) (p2 : P ≤ 4096) (hM0 : 0 < M) (hM : M ≤ 4096)
    (hb0 : Hid (∀ i, f i ≤ 1099511627776)) (hm0 : Hid (mo 0 = 0)) (hms : Hid (∀ k, mo (k + 1) = max (mo k) (f k))) (hmb : Hid (∀ k, mo k ≤ 1099511627776))
    (hT0 : Hid (T 0 = [])) (hTy : Hid (∀ k, f k = mo M → T (k + 1) = T k ++ [ST n (gray k)])) (hTn : Hid (∀ k, f k ≠ mo M → T (k + 1) = T k)) (hTl : Hid (∀ k, (T k).length ≤ k))
    (hG : Hid (∀ w, Calls Tryd.prog 27 #[.string a, .string a, .int .i64 N] w fun e w' => e = .returned (.bool true) ∧ w = w'))
    (hN : Hid (∀ w, Calls Tryd.prog 38 #[.string a] w fun e w' => e = .returned (.int .i64 (X : Int)) ∧ w = w'))
    (hW : Hid (∀ w, Calls Tryd.prog 35 #[.int .i64 X, .int .i64 (P - 1), .int .i64 N] w fun e w' => ∃ v, e = .returned v ∧ OwnI w' w.heap.size v (fnR M f) ∧ Below w.heap.size w w'))
    (hI : Hid (∀ w m, m < M → Calls Tryd.prog 23 #[.int .i64 n, .int .i64 m] w fun e w' => e = .returned (.string (ST n (gray m))) ∧ Below w.heap.size w w')) :
    Calls Tryd.prog 17 #[.string a, .int .i64 N] w fun e w' => RetT w (T M) true e w' := by
  have hfl := Lib.hid (fnR_len M)
  have hfg := Lib.hid (fnR_get M)
  have hsz := hs.out
  have hw1 : IntKind.i64.wrap P = P := wrap_sm _ (by omega) (by omega)
  have hw2 : IntKind.i64.wrap (P - 1) = P - 1 := wrap_sm _ (by omega) (by omega)
  go_enter Tryd.func17, Tryd.ntmps17
  go_wp2_with fail
  refine (hG.out _).mono ?_; rintro e w' ⟨rfl, rfl⟩
  go_upto_region 3 with fail
  go_cut [6] (fun t6 wx => ∃ g c, t6 = .slice (some ⟨g, 0, none⟩) M c ∧ OwnI wx w.heap.size (.slice (some ⟨g, 0, none⟩) M c) (fnR M f) ∧ Below w.heap.size w wx)
  case first =>
    go_region_with (first
      | (go_at_call 38; refine (hN.out _).mono ?_; rintro e w2 ⟨rfl, rfl⟩)
      | (go_at_call 35; refine (hW.out _).mono ?_; rintro e w2 ⟨v, rfl, ho, hb2⟩; obtain ⟨g, c, rfl, _, _⟩ := own_some ho M (hfl.out _) hM0))
    all_goals
      go_wp2_with fail
      go_meet
      exact ⟨_, _, rfl, ho, bt1 (Below.drew (Below.refl _ _)) hb2⟩
  case rest =>
    obtain ⟨g, c, rfl, ho, hbx⟩ := hcut
    replace ho := Lib.hid ho
    replace hbx := Lib.hid hbx
    go_wp2_with fail
    go_loopw [7, 28] (fun s i wr => ∃ k : Nat, k ≤ M ∧ s = .int .i64 (mo k : Nat) ∧ i = .int .i64 k ∧ wr = wc) (fun _ i _ => M - (intOf i).toNat)
    case atStart => exact ⟨0, Nat.zero_le _, by rw [hm0.out]; rfl, rfl, rfl⟩
    case round =>
      obtain ⟨k, hk, rfl, rfl, rfl⟩ := hrel
      generalize wr = wl at *
      by_cases hlt : k < M
      · obtain ⟨z0, _⟩ := ho.out.cell (hfl.out _) k (by rw [hfl.out]; exact hlt)
        rw [hfg.out] at z0
        have hst := Lib.hid (hms.out k)
        have hMo := Lib.hid fun w => l1Most_any ((mo k : Nat) : Int) ((f k : Nat) : Int) w
        go_wp2_with fail
        refine (hMo.out _).mono ?_; rintro e w' ⟨rfl, rfl⟩
        go_wp2_with fail
        go_roundw
        case rel => exact ⟨k + 1, by omega, vi (by rw [hst.out]; omega), by go_num, by first | rfl | trivial⟩
        all_goals (simp [intOf] <;> omega)
      · obtain rfl : k = M := by omega
        have hmm := hmb.out k
        go_wp2_with fail
        go_loopw [10, 38] (fun o i wr => ∃ j : Nat, j ≤ k ∧ i = .int .i64 j ∧ Hid (OwnT wr wl.heap.size o (T j)) ∧ Hid (Below wl.heap.size wl wr)) (fun _ i _ => k - (intOf i).toNat)
        case atStart => exact ⟨0, Nat.zero_le _, rfl, Lib.hid (by rw [hT0.out]; exact OwnT.nil _ _), Lib.hid (Below.refl _ _)⟩
        case round =>
          obtain ⟨j, hj, rfl, hq, hbr⟩ := hrel
          rename World => wq
          by_cases hlt2 : j < k
          · obtain ⟨z0, _⟩ := (ho.out.below hbr.out).cell (hfl.out _) j (by rw [hfl.out]; exact hlt2)
            rw [hfg.out] at z0
            have hIj := Lib.hid fun w => hI.out w j hlt2
            have hyj := Lib.hid (hTy.out j)
            have hnj := Lib.hid (hTn.out j)
            have hlj := Lib.hid (hTl.out j)
            have hbq := Lib.hid (bt1 hbx.out hbr.out)
            generalize f j = z at *
            generalize hmk : mo k = mk at *
            by_cases hz : z = mk
            · have hS := Lib.hid (hyj.out hz)
              have d3 : ((z : Int) == (mk : Int)) = true := by simp; omega
              go_wp2_with fail
              refine (hIj.out _).mono ?_; rintro e w3 ⟨rfl, hb3⟩
              have hq3 := Lib.hid (hq.out.below hb3)
              have hbr3 := Lib.hid (bt1 hbr.out hb3)
              replace hb3 := Lib.hid (bt1 hbq.out hb3)
              go_wp2_with (at_builtin; refine app_txt _ rfl _ _ rfl wl.heap.size _ _ rfl (hq3.out.below (ba1 _ _)) w3.heap.size (ST n (gray j)) rfl (by simp) (by have := hlj.out; omega) (by have := hbr3.out.size; simp; omega) ?_; intro v' w7 ho7 hg7; have hb7 := Lib.hid (bel_ownT (bt1 hbr3.out (ba1 _ _)) (hq3.out.below (ba1 _ _)) hg7 (by have := hbr3.out.size; simp; omega)); replace ho7 := Lib.hid ho7; clear hg7)
              go_roundw
              case rel => exact ⟨j + 1, by omega, by go_num, by rw [hS.out]; exact ho7, hb7⟩
              all_goals (simp [intOf] <;> omega)
            · have hS := Lib.hid (hnj.out hz)
              have d3 : ((z : Int) == (mk : Int)) = false := by simp; omega
              go_wp2_with fail
              go_roundw
              case rel => exact ⟨j + 1, by omega, by go_num, by rw [hS.out]; exact hq, hbr⟩
              all_goals (simp [intOf] <;> omega)
          · obtain rfl : j = k := by omega
            go_wp2_with fail
            go_ret2; exact ⟨_, rfl, hq.out.mono hbx.out.size, bt1 hbx.out hbr.out⟩
theorem kpR {a1 a2 N : Nat} {w a b : World} {v0 v1 v2 v3 x0 x1 : Value} (h1 : a1 < N) (h2 : a2 < N) (k : Below a.heap.size a b)
    (h : (a.cell? ⟨a1, 0, none⟩ = some v0 ∧ a.cell? ⟨a1, 1, none⟩ = some v1 ∧ a.cell? ⟨a1, 2, none⟩ = some v2 ∧ a.cell? ⟨a1, 3, none⟩ = some v3) ∧ (a.cell? ⟨a2, 0, none⟩ = some x0 ∧ a.cell? ⟨a2, 1, none⟩ = some x1) ∧ N ≤ a.heap.size ∧ Below N w a) :
    (b.cell? ⟨a1, 0, none⟩ = some v0 ∧ b.cell? ⟨a1, 1, none⟩ = some v1 ∧ b.cell? ⟨a1, 2, none⟩ = some v2 ∧ b.cell? ⟨a1, 3, none⟩ = some v3) ∧ (b.cell? ⟨a2, 0, none⟩ = some x0 ∧ b.cell? ⟨a2, 1, none⟩ = some x1) ∧ N ≤ b.heap.size ∧ Below N w b := by
  have l2 := Nat.lt_of_lt_of_le h2 h.2.2.1
  refine ⟨kp4 (Nat.lt_of_lt_of_le h1 h.2.2.1) k h.1, ⟨?_, ?_⟩, Nat.le_trans h.2.2.1 k.size, h.2.2.2.trans (k.mono h.2.2.1)⟩
  · rw [k.cell (p := ⟨a2, 0, none⟩) l2]; exact h.2.1.1
  · rw [k.cell (p := ⟨a2, 1, none⟩) l2]; exact h.2.1.2
theorem kpRE {A B C : Prop} {N : Nat} {w v : World} (h : A ∧ B ∧ C ∧ Below N w v) : Below N w v := h.2.2.2
theorem iLA_no (a : ByteArray) (k : Int) (n x y : Nat) (ok : Bool) (w : World) (hT : TabOk w)
    (hA : Hid (∀ w, TabOk w → Calls Tryd.prog 30 #[.string a, .string a] w fun e w' => e = .returned (.tuple #[(.agg #[.int .i64 ((ctz (x) : Nat) : Int), .bool (onB (x)), .int .i64 ((n : Nat) : Int), .int .u64 ((x : Nat) : Int)]), (.agg #[.int .i64 ((ctz (y) : Nat) : Int), .bool (onB (y)), .int .i64 ((n : Nat) : Int), .int .u64 ((y : Nat) : Int)]), .bool ok]) ∧ Below w.heap.size w w'))
    (hL : Hid (ok = true → ∀ w, Calls Tryd.prog 31 #[.int .i64 k] w fun e w' => e = .returned (.bool false) ∧ w = w')) :
    Calls Tryd.prog 18 #[.string a, .int .i64 k] w fun e w' => RetT w [] false e w' := by
  have hT := Lib.hid hT
  cases ok
  · go_enter Tryd.func18, Tryd.ntmps18
    go_wp2_with fail
    refine (hA.out _ hT.out).mono ?_; rintro e w1 ⟨rfl, hb⟩
    have hb := Lib.hid hb
    go_wp2_with fail
    go_ret2
    exact ⟨_, rfl, OwnT.nil _ _, bt (bt hb.out (ba _ _)) (ba _ _)⟩
  · have hL2 := Lib.hid (hL.out rfl)
    go_enter Tryd.func18, Tryd.ntmps18
    go_wp2_with fail
    refine (hA.out _ hT.out).mono ?_; rintro e w1 ⟨rfl, hb⟩
    have hb := Lib.hid hb
    go_wp2_with fail
    refine (hL2.out _).mono ?_; rintro e w' ⟨rfl, rfl⟩
    go_wp2_with fail
    go_ret2
    exact ⟨_, rfl, OwnT.nil _ _, bt (bt hb.out (ba _ _)) (ba _ _)⟩
set_option maxRecDepth 100000 in
set_option maxHeartbeats 4000000 in
theorem iLA_yes (a : ByteArray) (n x y N lo m MX K0 : Nat) (f : Nat → Nat) (P Q : Nat → Nat) (T : Nat → List ByteArray) (w : World) (hT : TabOk w) (hm0 : 0 < m) (hm : m ≤ 4096) (hlo : lo < 4096) (hlm : lo + m ≤ 4096) (hn : n ≤ 12)
    (hA : Hid (∀ w, TabOk w → Calls Tryd.prog 30 #[.string a, .string a] w fun e w' => e = .returned (.tuple #[(.agg #[.int .i64 ((ctz (x) : Nat) : Int), .bool (onB (x)), .int .i64 ((n : Nat) : Int), .int .u64 ((x : Nat) : Int)]), (.agg #[.int .i64 ((ctz (y) : Nat) : Int), .bool (onB (y)), .int .i64 ((n : Nat) : Int), .int .u64 ((y : Nat) : Int)]), .bool true]) ∧ Below w.heap.size w w'))
    (hL : Hid (∀ w, Calls Tryd.prog 31 #[.int .i64 N] w fun e w' => e = .returned (.bool true) ∧ w = w'))
    (hF : Hid (∀ w, Calls Tryd.prog 32 #[(.agg #[.int .i64 ((ctz (x) : Nat) : Int), .bool (onB (x)), .int .i64 ((n : Nat) : Int), .int .u64 ((x : Nat) : Int)]), .int .i64 N, .int .i64 2] w fun e w' => ∃ v, e = .returned (WK n N lo v) ∧ OwnI w' w.heap.size v (fnR m f) ∧ Below w.heap.size w w'))
    (hMx : Hid (∀ w B g c, OwnI w B (.slice (some ⟨g, 0, none⟩) m c) (fnR m f) → Calls Tryd.prog 40 #[.slice (some ⟨g, 0, none⟩) m c] w fun e w' => e = .returned (.int .i64 (MX : Nat)) ∧ w = w'))
    (hH : Hid (∀ w g c C, C ≤ 1099511627776 → Calls Tryd.prog 36 #[WK n N lo (.slice (some ⟨g, 0, none⟩) m c), .int .i64 (C : Nat)] w fun e w' => e = .returned (RA (P C) (Q C)) ∧ Below w.heap.size w w'))
    (hMb : MX ≤ 1099511627776) (hfb : Hid (∀ i, f i ≤ 1099511627776)) (hEq : Hid (∀ i, ([((P (f i) : Nat) : Int), ((Q (f i) : Nat) : Int)] == [((P MX : Nat) : Int), ((Q MX : Nat) : Int)]) = decide (f i = MX)))
    (hB : Hid (∀ w i, i < m → TabOk w → Calls Tryd.prog 41 #[.int .i64 n, .int .i64 ((lo : Int) + i)] w fun e w' => e = .returned (.agg #[.int .i64 ((ctz (gray (lo + i)) : Nat) : Int), .bool (onB (gray (lo + i))), .int .i64 ((n : Nat) : Int), .int .u64 ((gray (lo + i) : Nat) : Int)]) ∧ Below w.heap.size w w'))
    (hX : Hid (∀ w i, i < m → Calls Tryd.prog 25 #[(.agg #[.int .i64 ((ctz (gray (lo + i)) : Nat) : Int), .bool (onB (gray (lo + i))), .int .i64 ((n : Nat) : Int), .int .u64 ((gray (lo + i) : Nat) : Int)])] w fun e w' => e = .returned (.string (ST n (gray (lo + i)))) ∧ Below w.heap.size w w'))
    (hT0 : Hid (T 0 = [])) (hTy : Hid (∀ k, f k = MX → T (k + 1) = T k ++ [ST n (gray (lo + k))])) (hTn : Hid (∀ k, f k ≠ MX → T (k + 1) = T k)) (hTl : Hid (∀ k, (T k).length ≤ k)) :
    Calls Tryd.prog 18 #[.string a, .int .i64 N] w fun e w' => RetT w (T m) true e w' := by
  have hfl := Lib.hid (fnR_len m)
  have hfg := Lib.hid (fnR_get m)
  have hT := Lib.hid hT
  go_enter Tryd.func18, Tryd.ntmps18
  go_wp2_with fail
  refine (hA.out _ hT.out).mono ?_; rintro e w1 ⟨rfl, hb⟩
  have hT1 := Lib.hid (hT.out.below hb)
  have hb := Lib.hid hb
  go_wp2_with fail
  refine (hL.out _).mono ?_; rintro e w' ⟨rfl, rfl⟩
  go_wp2_with fail
  refine (hF.out _).mono ?_; rintro e w2 ⟨v, rfl, ho, hb2⟩
  obtain ⟨g, c, rfl, _, _⟩ := own_some ho m (hfl.out _) hm0
  have hT2 := Lib.hid (TabOk.below ((hT1.out.alloc _).alloc _) hb2)
  have hbw := Lib.hid (show Below w.heap.size w w2 from bt1 (bt1 (bt1 hb.out (ba1 _ _)) (ba1 _ _)) hb2)
  clear hb2
  unfold WK RA at *
  go_upto_region 5 with fail
  obtain ⟨W, hW⟩ : ∃ W, W = w2.alloc (wkO n N lo m c g) := ⟨_, rfl⟩
  rw [← hW]
  have hWz : W.heap.size = w2.heap.size + 1 := by rw [hW]; simp
  have hWT := Lib.hid (show TabOk W by rw [hW]; exact hT2.out.alloc _)
  have hWb := Lib.hid (show Below w.heap.size w W by rw [hW]; exact bt1 hbw.out (ba1 _ _))
  have k0 := (show W.heap[w2.heap.size]? = some (wkO n N lo m c g) by rw [hW]; exact hb_new _ _)
  obtain ⟨q0, q1, q2, q3⟩ := wk_cells k0
  have hoW := Lib.hid (show OwnI W _ _ _ by rw [hW]; exact ho.below (ba1 _ _))
  clear hW ho
  have l0 : w2.heap.size < W.heap.size := by omega
  have n0 : ¬ w2.heap.size = W.heap.size := by omega
  replace k0 := Lib.hid k0
  have hMx2 := Lib.hid fun W2 (hb : Below W.heap.size W W2) => hMx.out W2 _ g c (hoW.out.below hb)
  have hH2 := Lib.hid fun w => hH.out w g c MX hMb
  go_cut [10] (fun t10 wx => ∃ g2 : Nat, t10 = .pointer (some ⟨g2, 0, none⟩) ∧ W.heap.size ≤ g2 ∧ wx.heap[g2]? = some (.cells #[.int .i64 (P MX : Nat), .int .i64 (Q MX : Nat)] 63) ∧ Below W.heap.size W wx)
  case first =>
    go_region_with (first
      | (go_at_call 40; refine (hMx2.out _ ?_).mono ?_; (repeat (first | exact Below.refl _ _ | (refine Below.drew ?_) | (refine Below.alloc ?_ (by simp) _))); rintro e w5 ⟨rfl, rfl⟩)
      | (go_at_call 36; refine (hH2.out _).mono ?_; rintro e w5 ⟨rfl, hb5⟩; obtain ⟨hc5, hf5⟩ := bcell hb5))
    all_goals
      go_wp2_with fail
      go_meet
      have hbW : Below W.heap.size W w5 := Below.trans (by repeat (first | exact Below.refl _ _ | (refine Below.drew ?_) | (refine Below.alloc ?_ (by simp) _))) (hb5.mono (by simp))
      first
        | exact ⟨_, rfl, hbW.size, hb_new _ _, hbW.alloc hbW.size _⟩
        | (have h5 : w5.heap[w2.heap.size + 1]? = some (.cells #[.int .i64 0, .int .i64 0] 63) := (hb5.block _ (by simp; omega)).trans (hb_new' _ _ _ hWz)
           refine ⟨_, rfl, by omega, ?_, ?_⟩
           · have := hb_set (i := 1) (hb_set (i := 0) h5 (.int .i64 (P MX : Nat))) (.int .i64 (Q MX : Nat)); simpa using this
           · refine Below.setCell (Below.setCell hbW ?_ _) ?_ _ <;> (show W.heap.size ≤ w2.heap.size + 1; omega))
  case rest =>
    obtain ⟨g2, rfl, hg2, hk2, hbx⟩ := hcut
    have hcT := Lib.hid (hWT.out.below hbx)
    have hcW := Lib.hid (bt1 hWb.out hbx)
    have kc := Lib.hid ((hbx.block _ l0).trans k0.out)
    have hoc := Lib.hid (hoW.out.below hbx)
    have lc : w2.heap.size < wc.heap.size := Nat.lt_of_lt_of_le l0 hbx.size
    have lg2 : g2 < wc.heap.size := hb_lt hk2
    have ng2 : ¬ w2.heap.size = g2 := by omega
    replace hk2 := Lib.hid hk2
    obtain ⟨r0, r1, r2, r3⟩ := wk_cells kc.out
    clear q0 q1 q2 q3 hbx hMx2 hH2
    go_wp2_with fail
    go_loopw [11, 39] (fun o i wr => ∃ j : Nat, j ≤ m ∧ i = .int .i64 j ∧ Hid (OwnT wr wc.heap.size o (T j)) ∧ Hid (Below wc.heap.size wc wr)) (fun _ i _ => m - (intOf i).toNat)
    case atStart => exact ⟨0, Nat.zero_le _, rfl, Lib.hid (by rw [hT0.out]; exact OwnT.nil _ _), Lib.hid (Below.refl _ _)⟩
    case round =>
      obtain ⟨j, hj, rfl, hq, hbr⟩ := hrel
      rename World => wq
      clear r0 r1 r2 r3
      obtain ⟨r0, r1, r2, r3⟩ := wk_cells ((hbr.out.block _ lc).trans kc.out)
      have kq := (hbr.out.block _ lg2).trans hk2.out
      have s0 : wq.cell? ⟨g2, 0, none⟩ = some (.int .i64 (P MX : Nat)) := by simp [World.cell?, kq]
      have s1 : wq.cell? ⟨g2, 1, none⟩ = some (.int .i64 (Q MX : Nat)) := by simp [World.cell?, kq]
      clear kq
      by_cases hlt : j < m
      · obtain ⟨z0, _⟩ := (hoc.out.below hbr.out).cell (hfl.out _) j (by rw [hfl.out]; exact hlt)
        rw [hfg.out] at z0
        have hHj := Lib.hid fun w => hH.out w g c (f j) (hfb.out j)
        have he : ∀ w, (binOp .eql 63 (.agg #[.int .i64 (P (f j) : Nat), .int .i64 (Q (f j) : Nat)]) (.agg #[.int .i64 (P MX : Nat), .int .i64 (Q MX : Nat)])).run Tryd.prog w = .ok (.bool (decide (f j = MX))) w := fun w => by rw [eq_ra, hEq.out]
        have hg := eqg_ra
        have hyj := Lib.hid (hTy.out j)
        have hnj := Lib.hid (hTn.out j)
        have hlj := Lib.hid (hTl.out j)
        have hBj := Lib.hid fun w hw => hB.out w j hlt hw
        have hXj := Lib.hid fun w => hX.out w j hlt
        have hbq := hbr.out.size
        have lq : w2.heap.size < wq.heap.size := by omega
        have lq2 : g2 < wq.heap.size := by omega
        have hrf : Below wq.heap.size wq wq := Below.refl _ _
        have hsum : (lo : Int) + (j : Int) < 8192 ∧ 0 ≤ (lo : Int) + (j : Int) := by omega
        obtain ⟨b, hbz⟩ : ∃ b, b = decide (f j = MX) := ⟨_, rfl⟩
        rw [← hbz] at he
        replace hbz := Lib.hid hbz
        generalize P (f j) = Pz at *
        generalize Q (f j) = Qz at *
        generalize gray (lo + j) = gy at *
        go_upto_region 10 with fail
        go_cut [48] (fun t48 wx => t48 = .bool b ∧ Below wq.heap.size wq wx)
        case first =>
          go_region_held3 (fun v => (v.cell? ⟨w2.heap.size, 0, none⟩ = some (.int .i64 n) ∧ v.cell? ⟨w2.heap.size, 1, none⟩ = some (.int .i64 N) ∧ v.cell? ⟨w2.heap.size, 2, none⟩ = some (.int .i64 lo) ∧ v.cell? ⟨w2.heap.size, 3, none⟩ = some (.slice (some ⟨g, 0, none⟩) m c)) ∧ (v.cell? ⟨g2, 0, none⟩ = some (.int .i64 (P MX : Nat)) ∧ v.cell? ⟨g2, 1, none⟩ = some (.int .i64 (Q MX : Nat))) ∧ wq.heap.size ≤ v.heap.size ∧ Below wq.heap.size wq v) (first | assumption | (refine ⟨⟨?_, ?_, ?_, ?_⟩, ⟨?_, ?_⟩, ?_, ?_⟩ <;> first | assumption | (refine Below.drew ?_; assumption) | go_keep | omega))
            (first | (go_at_call 36; refine (hHj.out _).mono ?_; rintro e w' ⟨rfl, hb2⟩; have hbn := kpR lq lq2 hb2 (by assumption)))
          all_goals
            go_wp2_with fail
            go_meet
            rename_i hBf
            exact ⟨rfl, kpRE hBf⟩
        case rest =>
          obtain ⟨rfl, hb9⟩ := hcut
          rename World => wz
          have hqz := Lib.hid (hq.out.below hb9)
          have hbz2 := Lib.hid (bt1 hbr.out hb9)
          clear r0 r1 r2 r3 s0 s1 hrf he
          obtain ⟨r0, r1, r2, r3⟩ := wk_cells ((hbz2.out.block _ lc).trans kc.out)
          clear hb9
          cases b
          · have hS := Lib.hid (hnj.out (fun e => by have := hbz.out; rw [e] at this; simp at this))
            go_wp2_with fail
            go_roundw
            case rel => exact ⟨j + 1, by omega, by go_num, by rw [hS.out]; exact hqz, hbz2⟩
            all_goals (simp [intOf] <;> omega)
          · have hS := Lib.hid (hyj.out (by have := hbz.out; exact of_decide_eq_true this.symm))
            go_wp2_with fail
            refine (hBj.out _ (hcT.out.below hbz2.out)).mono ?_; rintro e w3 ⟨rfl, hb3⟩
            have hq3 := Lib.hid (hqz.out.below hb3)
            replace hb3 := Lib.hid (bt1 hbz2.out hb3)
            go_wp2_with fail
            refine (hXj.out _).mono ?_; rintro e w4 ⟨rfl, hb4⟩
            have hq4 := Lib.hid (hq3.out.below hb4)
            replace hb4 := Lib.hid (bt1 hb3.out hb4)
            go_wp2_with (at_builtin; refine app_txt _ rfl _ _ rfl wc.heap.size _ _ rfl (hq4.out.below (ba1 _ _)) w4.heap.size (ST n gy) rfl (by simp) (by have := hlj.out; omega) (by have := hb4.out.size; simp; omega) ?_; intro v' w7 ho7 hg7; have hb7 := Lib.hid (bel_ownT (bt1 hb4.out (ba1 _ _)) (hq4.out.below (ba1 _ _)) hg7 (by have := hb4.out.size; simp; omega)); replace ho7 := Lib.hid ho7; clear hg7)
            go_roundw
            case rel => exact ⟨j + 1, by omega, by go_num, by rw [hS.out]; exact ho7, hb7⟩
            all_goals (simp [intOf] <;> omega)
      · obtain rfl : j = m := by omega
        go_wp2_with fail
        go_ret2; exact ⟨_, rfl, hq.out.mono hcW.out.size, bt1 hcW.out hbr.out⟩
end Go.Proofs.YtfnhmacnghkgiaeDoor
