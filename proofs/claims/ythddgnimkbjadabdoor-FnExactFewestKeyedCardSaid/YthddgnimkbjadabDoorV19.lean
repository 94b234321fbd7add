/- The fewest moves between two states, on both sides: FewestKeyed. -/
import Derived.Test.YthddgnimkbjadabDoorV18
import Derived.Test.YthddgnimkbjadabDoorW8
import Derived.Test.YthddgnimkbjadabDoorV15
import Derived.Deep.RegionWith
import Derived.Deep.DeepCutAuto
import Derived.BigRegion
import Derived.BigQuiet
namespace Go.Proofs.YthddgnimkbjadabDoor
set_option linter.unusedSimpArgs false
set_option linter.unusedVariables false
open Go Go.RowKit RM
theorem keTwo_any (v : Value) (ks : List ByteArray) (a b : ByteArray) (w : World) (hz : ∀ s ∈ ks, s.size ≤ maxLen) (ha : a.size ≤ maxLen) (hb : b.size ≤ maxLen) (h : RdT w v ks) :
    Calls Tryd.prog 25 #[v, .string a, .string b] w fun e w' => e = .returned (.bool (askK ks a && askK ks b)) ∧ w = w' := by
  have hA := Lib.hid (keAsked_any v ks a w hz ha h)
  have hB := Lib.hid (keAsked_any v ks b w hz hb h)
  cases h1 : askK ks a with
  | false =>
    rw [h1] at hA
    go_enter Tryd.func25, Tryd.ntmps25
    go_wp2_with fail
    refine hA.out.mono ?_; rintro e w' ⟨rfl, rfl⟩
    go_wp2_with fail
    go_ret; exact ⟨rfl, rfl⟩
  | true =>
    rw [h1] at hA
    generalize askK ks b = c at *
    go_enter Tryd.func25, Tryd.ntmps25
    go_wp2_with fail
    refine hA.out.mono ?_; rintro e w' ⟨rfl, rfl⟩
    go_wp2_with fail
    refine hB.out.mono ?_; rintro e w' ⟨rfl, rfl⟩
    go_wp2_with fail
    go_ret; exact ⟨ret_bool (by simp), rfl⟩
theorem sFK_no (v : Value) (ks : List ByteArray) (a b : ByteArray) (w : World) (hz : ∀ s ∈ ks, s.size ≤ maxLen) (ha : a.size ≤ maxLen) (hb : b.size ≤ maxLen) (h : RdT w v ks) (hno : (askK ks a && askK ks b) = false) :
    Calls Tryd.prog 9 #[v, .string a, .string b] w fun e w' => e = .returned (.tuple #[.int .i64 0, .bool false]) ∧ Below w.heap.size w w' := by
  have hA := Lib.hid (keTwo_any v ks a b w hz ha hb h)
  rw [hno] at hA
  go_enter Tryd.func9, Tryd.ntmps9
  go_wp2_with fail
  refine hA.out.mono ?_; rintro e w' ⟨rfl, rfl⟩
  go_wp2_with fail
  go_ret2; exact ⟨rfl, Below.refl _ _⟩
theorem sFK_yes (v : Value) (ks : List ByteArray) (n x y : Nat) (w : World) (hz : ∀ s ∈ ks, s.size ≤ maxLen) (h : RdT w v ks) (h2 : n ≤ 10) (hx : x < 2 ^ n) (hy : y < 2 ^ n) (hn : ks.length = n) (hG : goodK ks = true) (ha : askK ks (ST n x) = true) (hb : askK ks (ST n y) = true) :
    Calls Tryd.prog 9 #[v, .string (ST n x), .string (ST n y)] w fun e w' => e = .returned (.tuple #[.int .i64 (((kD n (fkS ks) y x).getD 0 : Nat) : Int), .bool (kD n (fkS ks) y x).isSome]) ∧ Below w.heap.size w w' := by
  have hml : ∀ x, (ST n x).size ≤ maxLen := fun x => by rw [ST_size]; unfold maxLen; omega
  have hA := Lib.hid (keTwo_any v ks (ST n x) (ST n y) w hz (hml x) (hml y) h)
  rw [ha, hb] at hA
  have hF := Lib.hid (keFar_any v ks n y w h h2 hy hn hG)
  have hNu := Lib.hid (fun w => riNumber_ST n x w (by omega) hx)
  have hxN := num_lt n x hx
  obtain ⟨N, hNd⟩ : ∃ N, Hid (N = 2 ^ n) := ⟨_, Lib.hid rfl⟩
  have hgx : Hid (gray (num x) = x) := Lib.hid (gray_num x)
  rw [← hNd.out] at hF hxN
  generalize ST n x = a at *
  generalize ST n y = b at *
  generalize kD n (fkS ks) y = D at *
  generalize num x = m at *
  clear h hz hx hy hn hG ha hb hml
  go_enter Tryd.func9, Tryd.ntmps9
  go_wp2_with fail
  refine hA.out.mono ?_; rintro e w' ⟨rfl, rfl⟩
  go_wp2_with fail
  refine hF.out.mono ?_; rintro e w5 ⟨gm, gw, rfl, ho5, hb5⟩
  have c0 : w5.cell? ⟨gm, m, none⟩ = some (.int .i64 (fI (D x))) := by
    have := (ho5.cell (by simp) m (by simpa using hxN)).1
    simpa [hgx.out] using this
  replace hb5 := Lib.hid hb5
  clear ho5
  go_wp2_with fail
  refine (hNu.out _).mono ?_; rintro e w6 ⟨rfl, rfl⟩
  cases hd : D x with
  | none =>
    rw [hd] at c0
    replace c0 : w5.cell? ⟨gm, m, none⟩ = some (.int .i64 (-1)) := c0
    go_wp2_with fail
    go_ret2; exact ⟨by rw [hd]; rfl, hb5.out⟩
  | some d =>
    rw [hd] at c0
    replace c0 : w5.cell? ⟨gm, m, none⟩ = some (.int .i64 (d : Int)) := c0
    have hd0 : decide ((d : Int) < 0) = false := by simp
    go_wp2_with fail
    go_ret2; exact ⟨by rw [hd]; rfl, hb5.out⟩
set_option maxHeartbeats 1000000 in
theorem iFK_yes (v : Value) (ks : List ByteArray) (n x y : Nat) (w : World) (hz : ∀ s ∈ ks, s.size ≤ maxLen) (h : RdT w v ks) (hT : TabOk w) (h1 : 1 ≤ n) (h2 : n ≤ 10) (hx : x < 2 ^ n) (hy : y < 2 ^ n) (hn : ks.length = n) (hG : goodK ks = true) :
    Calls Tryd.prog 11 #[v, .string (ST n x), .string (ST n y)] w fun e w' => e = .returned (.tuple #[.int .i64 (((kD n (fkS ks) x y).getD 0 : Nat) : Int), .bool (kD n (fkS ks) x y).isSome]) ∧ Below w.heap.size w w' := by
  have hA := Lib.hid (twoK_yes v ks n x y w hz h hT h1 h2 hx hy hn hG)
  obtain ⟨N, hNd⟩ : ∃ N, Hid (N = 2 ^ n) := ⟨_, Lib.hid rfl⟩
  have hyN : y < N := by rw [hNd.out]; exact hy
  have hSe : Hid (∀ u B w, OwnG keyE w B u (ks.map kp) → Calls Tryd.prog 29 #[u, .int .u64 x] w fun e w' => ∃ g c mv wy : Nat, e = .returned (.slice (some ⟨g, 0, none⟩) N c) ∧ w'.cell? ⟨g, y * 2, none⟩ = some (.int .i64 (mv : Int)) ∧ w'.cell? ⟨g, y * 2 + 1, none⟩ = some (.int .u64 (wy : Int)) ∧
      Hid (mv = (kD n (fkS ks) x y).getD 0 ∧ decide (0 < wy) = (kD n (fkS ks) x y).isSome) ∧ g < w'.heap.size ∧ Below w.heap.size w w') := Lib.hid (fun u B w ho => (search_any u ks B n x w ho h1 h2 hx hn hG).mono (by
    rintro e w5 ⟨u5, R, rfl, ho5, hRl, hRR, hb5⟩
    obtain ⟨p5, c5, rfl, hc5⟩ := kw_rd (w' := w5) ho5
    have hyl : y < R.length := by rw [hRl]; exact hy
    obtain ⟨g5, rfl, c0, c1⟩ := hc5 w5 (Below.refl _ _) y hyl
    have hyR := hRR y hyl
    refine ⟨g5, c5, _, _, by rw [hRl, ← hNd.out], c0, c1, Lib.hid ?_, (ho5.lt g5 rfl).2, hb5⟩
    cases hd : kD n (fkS ks) x y with
    | none => rw [hyR.2 hd]; exact ⟨rfl, rfl⟩
    | some d => obtain ⟨e1, e2, _⟩ := hyR.1 d hd; exact ⟨e1, by simp; omega⟩))
  generalize kD n (fkS ks) x = D at *
  generalize ks.map kp = KL at *
  generalize ST n x = a at *
  generalize ST n y = b at *
  clear h hz hx hy hn hG hT
  go_enter Tryd.func11, Tryd.ntmps11
  go_wp2_with fail
  refine hA.out.mono ?_; rintro e w3 ⟨u, rfl, ho, hb⟩
  replace ho := Lib.hid ho
  replace hb := Lib.hid hb
  go_upto_region 4 with fail
  obtain ⟨W, hW⟩ : ∃ W, W = (w3.alloc (.cells #[.int .i64 ((ctz x : Nat) : Int), .bool (onB x), .int .i64 (n : Int), .int .u64 (x : Int)] 47)).alloc (.cells #[.int .i64 ((ctz y : Nat) : Int), .bool (onB y), .int .i64 (n : Int), .int .u64 (y : Int)] 47) := ⟨_, rfl⟩
  have hWb := Lib.hid (show Below w3.heap.size w3 W by rw [hW]; exact bt1 (ba1 w3 _) (ba1 _ _))
  have X4 := Lib.hid (show W.heap[w3.heap.size]? = some (.cells #[.int .i64 ((ctz x : Nat) : Int), .bool (onB x), .int .i64 (n : Int), .int .u64 (x : Int)] 47) by rw [hW]; exact hb_old _ (hb_new _ _))
  have Y4 := Lib.hid (show W.heap[w3.heap.size + 1]? = some (.cells #[.int .i64 ((ctz y : Nat) : Int), .bool (onB y), .int .i64 (n : Int), .int .u64 (y : Int)] 47) by rw [hW]; exact hb_new' _ _ _ (by simp))
  rw [← hW]
  have x3 : W.cell? ⟨w3.heap.size, 3, none⟩ = some (.int .u64 (x : Int)) := hb_cell X4.out 3
  have y3 : W.cell? ⟨w3.heap.size + 1, 3, none⟩ = some (.int .u64 (y : Int)) := hb_cell Y4.out 3
  have lX := hb_lt X4.out
  have lY := hb_lt Y4.out
  have m0 : ¬ w3.heap.size = W.heap.size := by omega
  have m1 : ¬ w3.heap.size + 1 = W.heap.size := by omega
  have hoW := Lib.hid (ho.out.below hWb.out)
  clear hW
  go_cut [12] (fun t12 wx => ∃ g mv wy : Nat, t12 = .pointer (some ⟨g, 0, none⟩) ∧ W.heap.size ≤ g ∧ wx.heap[g]? = some (.cells #[.int .i64 (mv : Int), .int .u64 (wy : Int)] 51) ∧ Hid (mv = (D y).getD 0 ∧ decide (0 < wy) = (D y).isSome) ∧ Below W.heap.size W wx)
  case first =>
    go_region_with (go_at_call 29; refine (hSe.out u w.heap.size _ ?_).mono ?_; (repeat (first | exact hoW.out | apply OwnG.alloc | exact hoW.out.below (Below.refl _ _).drew | exact (hoW.out.below (Below.refl _ _).drew).alloc _)); rintro e w' ⟨g5, c5, mv, wy, rfl, c0, c1, hfact, hg5, hb5⟩; obtain ⟨hc5, hf5⟩ := cells_keep hb5; have hz5 : W.heap.size ≤ w'.heap.size := (by have h9 := hb5.size; first | exact h9 | (simp at h9; omega)); have n1 : ¬ w3.heap.size + 1 = w'.heap.size := (by omega); have l5 : w3.heap.size + 1 < w'.heap.size := (by omega); have n2 : ¬ g5 = w'.heap.size := (by omega); have y5 : w'.cell? ⟨w3.heap.size + 1, 3, none⟩ = some (.int .u64 (y : Int)) := (by rw [hc5 _ _ (by first | exact lY | (simp; omega))]; first | exact y3 | exact hb_cell (hb_old _ Y4.out) 3); (first | (have q0 : w'.cell? ⟨W.heap.size, 0, none⟩ = some (.int .i64 0) := (by rw [hc5 _ _ (by simp)]; simp); have q1 : w'.cell? ⟨W.heap.size, 1, none⟩ = some (.int .u64 0) := (by rw [hc5 _ _ (by simp)]; simp); have qf : ∀ o, w'.frozen? ⟨W.heap.size, o, none⟩ = false := (fun o => by rw [hf5 _ _ (by simp)]; simp); have ql : W.heap.size < w'.heap.size := (by have h9 := hb5.size; simp at h9; omega)) | skip); clear hc5 hf5)
    all_goals
      go_wp2_with fail
      go_meet
      first
        | exact ⟨_, mv, wy, rfl, hz5, hb_new _ _, hfact, ((Below.refl _ _).drew.trans hb5).alloc hb5.size _⟩
        | exact ⟨_, mv, wy, rfl, Nat.le_refl _, hb_set (hb_set ((hb5.block W.heap.size (by simp)).trans (hb_new W.drew _)) _) _, hfact,
            Below.setCell (Below.setCell (((Below.refl _ _).drew.alloc (Nat.le_refl _) _).trans (hb5.mono (by simp))) (Nat.le_refl _) _) (Nat.le_refl _) _⟩
  case rest =>
    obtain ⟨g, mv, wy, rfl, hg, hX, hfact, hbx⟩ := hcut
    have b0 := hb_cell hX 0
    have b1 := hb_cell hX 1
    have lg := hb_lt hX
    simp at b0 b1
    replace hbx := Lib.hid (bt1 (bt1 hb.out hWb.out) hbx)
    have e1 := hfact.out.1
    have e2 := hfact.out.2
    replace e1 := Lib.hid e1
    replace e2 := Lib.hid e2
    clear hX
    go_wp2_with fail
    go_quiet (fail)
    go_wp2_with fail
    go_ret2; exact ⟨by rw [← e1.out, ← e2.out]; first | rfl | simp, bt1 hbx.out (below_drewN (Below.refl _ _) _)⟩
theorem iFK_no (v : Value) (ks : List ByteArray) (a b : ByteArray) (w : World) (hz : ∀ s ∈ ks, s.size ≤ maxLen) (ha : a.size ≤ maxLen) (hb9 : b.size ≤ maxLen) (h : RdT w v ks) (hT : TabOk w) (hno : (askK ks a && askK ks b) = false) :
    Calls Tryd.prog 11 #[v, .string a, .string b] w fun e w' => e = .returned (.tuple #[.int .i64 0, .bool false]) ∧ Below w.heap.size w w' := by
  have hA := Lib.hid (twoK_no v ks a b w hz ha hb9 h hT hno)
  rw [← bz0] at hA
  go_enter Tryd.func11, Tryd.ntmps11
  go_wp2_with fail
  refine hA.out.mono ?_; rintro e w' ⟨rfl, hb⟩
  go_wp2_with fail
  go_ret2; exact ⟨rfl, (hb.alloc hb.size _).alloc (by have := hb.size; simp; omega) _⟩
theorem FewestKeyed_both (ks : List ByteArray) (hz : ∀ s ∈ ks, s.size ≤ maxLen) (a b : ByteArray) (ha : a.size ≤ maxLen) (hb : b.size ≤ maxLen) : ∃ (r0 : Int) (r1 : Bool),
    (∀ w v, RdT w v ks → Calls Tryd.prog 9 #[v, .string a, .string b] w fun e w' => e = .returned (.tuple #[.int .i64 r0, .bool r1]) ∧ Below w.heap.size w w') ∧
    (∀ w v, TabOk w → RdT w v ks → Calls Tryd.prog 11 #[v, .string a, .string b] w fun e w' => e = .returned (.tuple #[.int .i64 r0, .bool r1]) ∧ Below w.heap.size w w') := by
  cases hno : askK ks a && askK ks b with
  | false => exact ⟨0, false, fun w v h => sFK_no v ks a b w hz ha hb h hno, fun w v hT h => iFK_no v ks a b w hz ha hb h hT hno⟩
  | true =>
    rw [Bool.and_eq_true] at hno
    rcases key_cases ks a with h0 | ⟨n, x, h1, h2, hx, hn, hG, rfl, hka⟩
    · rw [h0] at hno; cases hno.1
    rcases key_cases ks b with h0 | ⟨m, y, h3, h4, hy, hm, _, rfl, hkb⟩
    · rw [h0] at hno; cases hno.2
    obtain rfl : n = m := by omega
    have hK := keys_keyd ks hG
    rw [hn] at hK
    have hs := hK.sym hx hy
    refine ⟨_, _, fun w v h => sFK_yes v ks n x y w hz h h2 hx hy hn hG hka hkb, fun w v hT h => ?_⟩
    rw [← hs]
    exact iFK_yes v ks n x y w hz h hT h1 h2 hx hy hn hG
end Go.Proofs.YthddgnimkbjadabDoor
