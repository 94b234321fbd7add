/- The program's search in breadth. -/
import Derived.Test.YtmbijomjilicgabDoorB5
import Derived.Deep.DeepCutAuto
import Derived.BigRegion
import Derived.Deep.OwnRows
namespace Go.Proofs.YtmbijomjilicgabDoor
open Go Go.RowKit RM

theorem own_made {w : World} {B g N : Nat} (h : w.heap[g]? = some (.cells (madeCells #[.int .i64 0] N) 3)) (hB : B ≤ g) (hN : N ≤ 2000000) : OwnI w B (.slice (some ⟨g, 0, none⟩) N N) (List.replicate N 0) := by
  have e : vint (List.replicate N 0) = (madeCells #[.int .i64 0] N).toList := by rw [toList_madeCells_one]; simp [vint]
  have e2 : (madeCells #[Value.int .i64 0] N).size = N := by
    have := congrArg List.length e; simpa [vint] using this.symm
  unfold OwnI World.ownsRow
  rw [List.length_replicate]
  refine ⟨by simp [vint], .inr ⟨g, N, _, rfl, hB, h, Nat.le_refl _, by unfold maxLen; omega, by rw [e2]; omega, ?_⟩⟩
  rw [e, List.take_of_length_le (by rw [Array.length_toList, e2]; omega)]
theorem h3_0 (a : World) (o1 o2 o3 : Obj) (k : Nat) (hk : k = a.heap.size) : (((a.alloc o1).alloc o2).alloc o3).drew.heap[k]? = some o1 := by
  show (((a.alloc o1).alloc o2).alloc o3).heap[k]? = some o1
  rw [Below.heap_alloc _ _ _ (by simp; omega), Below.heap_alloc _ _ _ (by simp; omega)]; exact alloc_at' _ _ _ hk.symm
theorem h3_1 (a : World) (o1 o2 o3 : Obj) (k : Nat) (hk : k = a.heap.size + 1) : (((a.alloc o1).alloc o2).alloc o3).drew.heap[k]? = some o2 := by
  show (((a.alloc o1).alloc o2).alloc o3).heap[k]? = some o2
  rw [Below.heap_alloc _ _ _ (by simp; omega)]; exact alloc_at' _ _ _ (by simp; omega)
theorem h3_2 (a : World) (o1 o2 o3 : Obj) (k : Nat) (hk : k = a.heap.size + 1 + 1) : (((a.alloc o1).alloc o2).alloc o3).drew.heap[k]? = some o3 := by
  show (((a.alloc o1).alloc o2).alloc o3).heap[k]? = some o3
  exact alloc_at' _ _ _ (by simp; omega)
theorem h3_b {a w : World} {B : Nat} (h : Below B w a) (hB : B ≤ a.heap.size) (o1 o2 o3 : Obj) : Below B w (((a.alloc o1).alloc o2).alloc o3).drew :=
  (((h.alloc hB o1).alloc (by simp; omega) o2).alloc (by simp; omega) o3).drew
/-- what is found of the fewest moves, and of the ways, by the signs -/
abbrev mR (N s : Nat) (Q : List Nat) : List Int := fRow N num (fun z => (dd s z : Int)) 0 Q
abbrev wR (N : Nat) (Q : List Nat) : List Int := fRow N num (fun _ => 1) 0 Q
theorem mR_one (N s : Nat) : mR N s [s] = List.replicate N 0 := by
  apply List.ext_getElem
  · simp [fRow_len]
  · intro j h1 h2
    rw [fRow_get, List.getElem_replicate]
    split
    · rename_i h; simp at h; rw [h, dd_self]; rfl
    · rfl
theorem wR_one (N x : Nat) : (List.replicate N 0 : List Int).set x 1 = wR N [num x] := by
  rw [← fRow_nil N num (fun _ => 1) 0, fRow_set N num (fun _ => 1) 0 [] x 1 rfl (fun _ _ h => num_inj h)]; rfl
theorem mR_set (N s y : Nat) (Q : List Nat) : (mR N s Q).set y (dd s (num y) : Int) = mR N s (Q ++ [num y]) := fRow_set N num _ 0 Q y _ rfl (fun _ _ h => num_inj h)
theorem wR_set (N y : Nat) (Q : List Nat) : (wR N Q).set y 1 = wR N (Q ++ [num y]) := fRow_set N num _ 0 Q y _ rfl (fun _ _ h => num_inj h)

set_option maxRecDepth 100000 in
set_option maxHeartbeats 4000000 in
theorem search_core (n x N : Nat) (w : World) (h4 : 4 ≤ N) (hN : N ≤ 4096) (hx : x < N) (hT : TabOk w) (hPN : Hid (PN N)) (h1n : 1 ≤ n)
    (hgl : Hid (∀ z, z < N → gray z < N)) (hnl : Hid (num x < N)) (hnl2 : Hid (∀ y, y < N → num y < N))
    (hpl : Hid (∀ z, z < N → (pmL n (gray z)).length = (nb N z).length)) (hpg : Hid (∀ z j (_ : z < N) (h : j < (pmL n (gray z)).length) (h' : j < (nb N z).length), gray z ^^^ msk (pmL n (gray z))[j] = gray ((nb N z)[j])))
    (hPM : Hid (∀ z w, z < N → Calls Tryd.prog 61 #[(.agg #[.int .i64 ((ctz (z) : Nat) : Int), .bool (onB (z)), .int .i64 ((n : Nat) : Int), .int .u64 ((z : Nat) : Int)])] w fun e w' => ∃ v, e = .returned v ∧ OwnI w' (w.heap.size + 1) v (pmL n z) ∧ Below w.heap.size w w'))
    (hMv : Hid (∀ z (k : Int) w, z < N → pcan n z k = true → TabOk w → Calls Tryd.prog 58 #[(.agg #[.int .i64 ((ctz (z) : Nat) : Int), .bool (onB (z)), .int .i64 ((n : Nat) : Int), .int .u64 ((z : Nat) : Int)]), .int .i64 k] w fun e w' => e = .returned (.agg #[.int .i64 ((ctz (z ^^^ msk k) : Nat) : Int), .bool (onB (z ^^^ msk k)), .int .i64 ((n : Nat) : Int), .int .u64 ((z ^^^ msk k : Nat) : Int)]) ∧ Below w.heap.size w w'))
    (hG : Hid (∀ w, Calls Tryd.prog 47 #[.int .i64 n] w fun e w' => e = .returned (.int .i64 ((N - 1 : Nat) : Int)) ∧ w = w')) :
    Calls Tryd.prog 38 #[(.agg #[.int .i64 ((ctz (x) : Nat) : Int), .bool (onB (x)), .int .i64 ((n : Nat) : Int), .int .u64 ((x : Nat) : Int)])] w fun e w' => ∃ gm gw, e = .returned (.agg #[.int .i64 n, .slice (some ⟨gm, 0, none⟩) N N, .slice (some ⟨gw, 0, none⟩) N N]) ∧
      OwnI w' w.heap.size (.slice (some ⟨gm, 0, none⟩) N N) ((List.range N).map fun y => (dd (num x) (num y) : Int)) ∧ OwnI w' w.heap.size (.slice (some ⟨gw, 0, none⟩) N N) (List.replicate N 1) ∧ Below w.heap.size w w' := by
  have hT := Lib.hid hT
  have hmk := run_make_row' (P := Tryd.prog) 22 3 (.int .i64 0) 8 Tryd.underlying22 intInfo rfl .i64 .i64 N (by omega) (by omega)
  go_enter Tryd.func38, Tryd.ntmps38
  go_wp2_with fail
  refine (hG.out _).mono ?_; rintro e w1 ⟨rfl, rfl⟩
  have hYtmbijomjilicgabDoor : ((N - 1 : Nat) : Int) + 1 = (N : Int) := by omega
  go_upto_region 2 with fail
  obtain ⟨W, hW⟩ : ∃ W, W = (w.alloc (.cells #[.int .i64 (ctz x), .bool (onB x), .int .i64 n, .int .u64 x] 50)).alloc (.cells #[.int .i64 0, .slice none 0 0, .slice none 0 0] 61) := ⟨_, rfl⟩
  have hWs : Hid (W.heap.size = w.heap.size + 2) := Lib.hid (by rw [hW]; simp)
  have hWx : W.heap[w.heap.size]? = some (barO n x) := by rw [hW]; exact (Below.heap_alloc _ _ _ (by simp)).trans (alloc_at _ _)
  have hWr : W.heap[w.heap.size + 1]? = some (.cells #[.int .i64 0, .slice none 0 0, .slice none 0 0] 61) := by rw [hW]; exact alloc_at' _ _ _ (by simp)
  have hWb := Lib.hid (show Below w.heap.size w W by rw [hW]; exact bt (ba _ _) (ba _ _))
  have hWT := Lib.hid (show TabOk W by rw [hW]; exact (hT.out.alloc _).alloc _)
  rw [← hW]
  obtain ⟨⟨c0, c1, c2, c3⟩, _⟩ := bar_cells hWx
  clear c0 c1 c3 hW
  have hlt1 : w.heap.size < W.heap.size := by have := hWs.out; omega
  have hne1 : ¬ w.heap.size = W.heap.size := by omega
  have hne2 : ¬ w.heap.size = W.heap.size + 1 := by omega
  have hne3 : ¬ w.heap.size = W.heap.size + 1 + 1 := by omega
  have hlt2 : w.heap.size < W.heap.size + 1 := by omega
  have hWx := Lib.hid hWx
  have hWr := Lib.hid hWr
  go_cut [4] (fun t4 wx => ∃ gf gm gw, t4 = .pointer (some ⟨gf, 0, none⟩) ∧ wx.heap[gf]? = some (fndO n N gm gw) ∧ wx.heap[gm]? = some (.cells (madeCells #[.int .i64 0] N) 3) ∧ wx.heap[gw]? = some (.cells (madeCells #[.int .i64 0] N) 3) ∧ gm ≠ gw ∧ W.heap.size ≤ gm ∧ W.heap.size ≤ gw ∧ W.heap.size ≤ gf ∧ Below W.heap.size W wx)
  case first =>
    go_region
    all_goals
      go_wp2_with fail
      go_meet
      first
        | exact ⟨_, W.heap.size, W.heap.size + 1, rfl, by (first | exact h3_0 _ _ _ _ _ rfl | exact h3_1 _ _ _ _ _ rfl | exact h3_2 _ _ _ _ _ rfl), by (first | exact h3_0 _ _ _ _ _ rfl | exact h3_1 _ _ _ _ _ rfl | exact h3_2 _ _ _ _ _ rfl), by (first | exact h3_0 _ _ _ _ _ rfl | exact h3_1 _ _ _ _ _ rfl | exact h3_2 _ _ _ _ _ rfl), by omega, by omega, by omega, by omega, h3_b (Below.refl _ _) (Nat.le_refl _) _ _ _⟩
        | exact ⟨_, W.heap.size, W.heap.size + 1 + 1, rfl, by (first | exact h3_0 _ _ _ _ _ rfl | exact h3_1 _ _ _ _ _ rfl | exact h3_2 _ _ _ _ _ rfl), by (first | exact h3_0 _ _ _ _ _ rfl | exact h3_1 _ _ _ _ _ rfl | exact h3_2 _ _ _ _ _ rfl), by (first | exact h3_0 _ _ _ _ _ rfl | exact h3_1 _ _ _ _ _ rfl | exact h3_2 _ _ _ _ _ rfl), by omega, by omega, by omega, by omega, h3_b (Below.refl _ _) (Nat.le_refl _) _ _ _⟩
        | exact ⟨_, W.heap.size + 1, W.heap.size + 1 + 1, rfl, by (first | exact h3_0 _ _ _ _ _ rfl | exact h3_1 _ _ _ _ _ rfl | exact h3_2 _ _ _ _ _ rfl), by (first | exact h3_0 _ _ _ _ _ rfl | exact h3_1 _ _ _ _ _ rfl | exact h3_2 _ _ _ _ _ rfl), by (first | exact h3_0 _ _ _ _ _ rfl | exact h3_1 _ _ _ _ _ rfl | exact h3_2 _ _ _ _ _ rfl), by omega, by omega, by omega, by omega, h3_b (Below.refl _ _) (Nat.le_refl _) _ _ _⟩
        | exact ⟨_, W.heap.size + 1, W.heap.size, rfl, by (first | exact h3_0 _ _ _ _ _ rfl | exact h3_1 _ _ _ _ _ rfl | exact h3_2 _ _ _ _ _ rfl), by (first | exact h3_0 _ _ _ _ _ rfl | exact h3_1 _ _ _ _ _ rfl | exact h3_2 _ _ _ _ _ rfl), by (first | exact h3_0 _ _ _ _ _ rfl | exact h3_1 _ _ _ _ _ rfl | exact h3_2 _ _ _ _ _ rfl), by omega, by omega, by omega, by omega, h3_b (Below.refl _ _) (Nat.le_refl _) _ _ _⟩
        | exact ⟨_, W.heap.size + 1 + 1, W.heap.size, rfl, by (first | exact h3_0 _ _ _ _ _ rfl | exact h3_1 _ _ _ _ _ rfl | exact h3_2 _ _ _ _ _ rfl), by (first | exact h3_0 _ _ _ _ _ rfl | exact h3_1 _ _ _ _ _ rfl | exact h3_2 _ _ _ _ _ rfl), by (first | exact h3_0 _ _ _ _ _ rfl | exact h3_1 _ _ _ _ _ rfl | exact h3_2 _ _ _ _ _ rfl), by omega, by omega, by omega, by omega, h3_b (Below.refl _ _) (Nat.le_refl _) _ _ _⟩
        | exact ⟨_, W.heap.size + 1 + 1, W.heap.size + 1, rfl, by (first | exact h3_0 _ _ _ _ _ rfl | exact h3_1 _ _ _ _ _ rfl | exact h3_2 _ _ _ _ _ rfl), by (first | exact h3_0 _ _ _ _ _ rfl | exact h3_1 _ _ _ _ _ rfl | exact h3_2 _ _ _ _ _ rfl), by (first | exact h3_0 _ _ _ _ _ rfl | exact h3_1 _ _ _ _ _ rfl | exact h3_2 _ _ _ _ _ rfl), by omega, by omega, by omega, by omega, h3_b (Below.refl _ _) (Nat.le_refl _) _ _ _⟩
  case rest =>
    obtain ⟨gf, gm, gw, rfl, hf, hm, hw, hne, hgm, hgw, hgf, hbx⟩ := hcut
    have hsx := hbx.size
    have hWs := hWs.out
    have hgx := (hbx.block _ (by omega)).trans hWx.out
    have hTx := Lib.hid (hWT.out.below hbx)
    obtain ⟨⟨c0, c1, c2', c3⟩, _⟩ := bar_cells hgx
    obtain ⟨⟨d0, d1, d2⟩, df⟩ := fnd_cells hf
    have hgx := Lib.hid hgx
    have hM0 := Lib.hid (own_made hm hgm (by omega))
    have hW0 := own_made hw hgw (by omega)
    obtain ⟨e0, ef⟩ := hW0.cell (by simp) x (by simpa using hx)
    rw [List.getElem_replicate] at e0
    have hW0 := Lib.hid hW0
    have hf := Lib.hid hf
    clear hm hw
    have hS0 : SI W.heap.size W wc n N gf gm gw (.slice none 0 0) [] (List.replicate N 0) (List.replicate N 0) := ⟨hf.out, hM0.out, hW0.out, World.ownsRow_nil _ _ _ _, hne, hbx, hsx⟩
    have hS1 := Lib.hid (hS0.storeW (by simp) x 1)
    clear hS0
    go_upto_region 4 with fail
    obtain ⟨W3, hW3⟩ : ∃ W3, W3 = wc.setCell ⟨gw, x, none⟩ (.int .i64 1) := ⟨_, rfl⟩
    rw [← hW3] at hS1
    rw [← hW3]
    have hgx3 : W3.heap[w.heap.size]? = some (barO n x) := by rw [hW3]; exact (Below.heap_setCell _ _ _ _ (by show w.heap.size ≠ gw; omega)).trans hgx.out
    clear hW3 c0 c1 c2' c3 d0 d1 d2 df e0 ef
    obtain ⟨⟨c0, c1, c2', c3⟩, _⟩ := bar_cells hgx3
    have hS2 := hS1.out.below (ba W3 (barO n x))
    have hS3 : SI W.heap.size W (W3.alloc (barO n x)) n N gf gm gw (.slice (some ⟨W3.heap.size, 0, none⟩) 1 1) ([num x].map gray) (mR N (num x) [num x]) (wR N [num x]) := by
      rw [mR_one, ← wR_one]
      refine ⟨hS2.fnd, hS2.mv, hS2.wy, ?_, hS2.ne, hS2.bel, hS2.le⟩
      simp only [List.map_cons, List.map_nil, gray_num]
      exact own_slit W3 n x _ hS1.out.le
    have hS3 := Lib.hid hS3
    have hgr4b : Hid (w.heap.size + 1 < W.heap.size) := Lib.hid (by omega)
    clear hS1 hS2
    go_wp2_with fail
    clear c0 c1 c2' c3
    go_loopw [5, 6] (fun q i wr => ∃ (Q : List Nat) (k : Nat), i = .int .i64 k ∧ Hid (Bfs N (num x) Q k []) ∧ Hid (SI W.heap.size W wr n N gf gm gw q (Q.map gray) (mR N (num x) Q) (wR N Q))) (fun _ i _ => N - (intOf i).toNat)
    case atStart => exact ⟨[num x], 0, rfl, Lib.hid (Bfs.init hnl.out), hS3⟩
    case round =>
      obtain ⟨Q, k, rfl, hB, hS⟩ := hrel
      have hQN := hB.out.len
      have hQ0 : Q.map gray ≠ [] := by
        have := hB.out.src
        intro e; rw [List.map_eq_nil_iff] at e; rw [e] at this; simp at this
      obtain ⟨gq, cap, hqe, hgq, hgql, hqc, _⟩ := hS.out.qu.form hQ0
      rw [List.length_map] at hqe
      subst hqe
      clear hQ0
      by_cases hlt : k < Q.length
      · obtain ⟨a0, a1, a2, a3⟩ := hqc k (by simpa using hlt)
        obtain ⟨z, hz⟩ : ∃ z, Hid (z = Q[k]) := ⟨_, Lib.hid rfl⟩
        have hzN : z < N := by rw [hz.out]; exact hB.out.lt _ (List.getElem_mem hlt)
        obtain ⟨g, hgg⟩ : ∃ g, Hid (g = gray z) := ⟨_, Lib.hid rfl⟩
        rw [show (Q.map gray)[k]'(by simpa using hlt) = g from by rw [hgg.out, hz.out]; simp] at a0 a1 a3
        clear hqc
        have hgN : g < N := by rw [hgg.out]; exact hgl.out z hzN
        have hng : Hid (num g = z) := Lib.hid (by rw [hgg.out, num_gray])
        have hzQ : Hid (z ∈ Q) := Lib.hid (by rw [hz.out]; exact List.getElem_mem hlt)
        go_upto_region 9 with fail
        obtain ⟨Wa, hWa⟩ : ∃ Wa, Wa = wr.alloc (barO n g) := ⟨_, rfl⟩
        have hSa := hS.out.below (ba wr (barO n g))
        have hba := alloc_at wr (barO n g)
        rw [← hWa] at hSa hba
        rw [← hWa]
        clear hWa a0 a1 a2 a3
        obtain ⟨⟨b0, b1, b2, b3⟩, _⟩ := bar_cells hba
        obtain ⟨⟨d0, d1, d2⟩, _⟩ := fnd_cells hSa.fnd
        obtain ⟨e0, _⟩ := hSa.mv.cell (fRow_len _ _ _ _ _) g (by rw [fRow_len]; exact hgN)
        rw [fRow_get, hng.out, if_pos hzQ.out] at e0
        have hdN : dd (num x) z < N := dd_le hnl.out hzN
        obtain ⟨D, hD⟩ : ∃ D, Hid (D = dd (num x) z) := ⟨_, Lib.hid rfl⟩
        rw [← hD.out] at e0 hdN
        have hSa := Lib.hid hSa
        have hba := Lib.hid hba
        have hpm0 := Lib.hid (hPM.out g Wa hgN)
        have hqa : Hid ((Value.slice (some ⟨gq, 0, none⟩) Q.length cap).ownBlock ≠ some wr.heap.size) := Lib.hid (by intro e; have e2 : gq = wr.heap.size := Option.some.inj e; omega)
        go_wp2_with fail
        refine hpm0.out.mono ?_; rintro e w2 ⟨v, rfl, hov, hb2⟩
        have hpne : pmL n g ≠ [] := List.ne_nil_of_mem (can_pm n g 0 h1n (by rw [pcan_ring _ _ _ (by decide)]; exact canB_zero n g))
        rcases hov.form with ⟨_, e⟩ | ⟨gv, capv, rfl, hgv, hgvl, hvc, _, _⟩
        · exact absurd e hpne
        clear hpne hvc
        obtain ⟨L, hL⟩ : ∃ L, Hid (L = (pmL n g).length) := ⟨_, Lib.hid rfl⟩
        rw [← hL.out] at hov
        rw [← hL.out]
        have hLn : Hid (L = (nb N z).length) := Lib.hid (by rw [hL.out, hgg.out]; exact hpl.out z hzN)
        have hL3 : L ≤ 3 := by rw [hLn.out]; exact nb_len N z
        have hJ0 : Hid (SJ W.heap.size W w2 n N gf gm gw (.slice (some ⟨gq, 0, none⟩) Q.length cap) (Q.map gray) (mR N (num x) Q) (wR N Q) wr.heap.size g (.slice (some ⟨gv, 0, none⟩) L capv) (Wa.heap.size + 1) (pmL n g)) :=
          Lib.hid ⟨hSa.out.below hb2, (hb2.block _ (lt_of_block hba.out)).trans hba.out, hov, hqa.out, Nat.lt_succ_of_lt (hSa.out.mv.lt gm rfl).2, Nat.lt_succ_of_lt (hSa.out.wy.lt gw rfl).2⟩
        have hov := Lib.hid hov
        have hb2 := Lib.hid hb2
        clear b0 b1 b2 b3 d0 d1 d2 e0 hpm0
        go_wp2_with fail
        go_loopw [5, 50] (fun q jv wi => ∃ (Q' : List Nat) (j : Nat), jv = .int .i64 j ∧ j ≤ L ∧ Hid (Bfs N (num x) Q' k ((nb N z).take j)) ∧ Hid (Q'[k]? = some z) ∧ Hid (SJ W.heap.size W wi n N gf gm gw q (Q'.map gray) (mR N (num x) Q') (wR N Q') wr.heap.size g (.slice (some ⟨gv, 0, none⟩) L capv) (Wa.heap.size + 1) (pmL n g))) (fun _ jv _ => L - (intOf jv).toNat)
        case atStart => exact ⟨Q, 0, rfl, Nat.zero_le _, Lib.hid (by simpa using hB.out), Lib.hid (by rw [List.getElem?_eq_getElem hlt, hz.out]), hJ0⟩
        case round =>
          obtain ⟨Q', j, rfl, hj, hB', hQk, hJ⟩ := hrel
          by_cases hjl : j < L
          · have hjp : j < (pmL n g).length := by rw [← hL.out]; exact hjl
            have hjn : j < (nb N z).length := by rw [← hLn.out]; exact hjl
            obtain ⟨mk, hmk'⟩ : ∃ mk, Hid (mk = (pmL n g)[j]) := ⟨_, Lib.hid rfl⟩
            obtain ⟨t, ht⟩ : ∃ t, Hid (t = (nb N z)[j]) := ⟨_, Lib.hid rfl⟩
            obtain ⟨y, hy⟩ : ∃ y, Hid (y = gray t) := ⟨_, Lib.hid rfl⟩
            have hcan : pcan n g mk = true := pm_can n g mk (by rw [hmk'.out]; exact List.getElem_mem _)
            have hMy := Lib.hid (fun w hw => hMv.out g mk w hgN hcan hw)
            have hxy : g ^^^ msk mk = y := by
              have := hpg.out z j hzN (by rw [← hgg.out]; exact hjp) hjn
              rw [hy.out, ht.out, ← this, hmk'.out]; simp only [hgg.out]
            rw [hxy] at hMy
            have hkl : k < Q'.length := (List.getElem?_eq_some_iff.1 hQk.out).1
            have hkz : Q'[k] = z := (List.getElem?_eq_some_iff.1 hQk.out).2
            have hJeq : nb N Q'[k] = (nb N z).take j ++ t :: (nb N z).drop (j + 1) := by
              have := List.take_append_drop j (nb N z)
              rw [List.drop_eq_getElem_cons hjn, ← ht.out] at this
              rw [hkz]; exact this.symm
            have hTake : (nb N z).take (j + 1) = (nb N z).take j ++ [t] := by rw [List.take_succ_eq_append_getElem hjn, ← ht.out]
            have htN : t < N := ((mem_nb hzN hPN.out).1 (by rw [ht.out]; exact List.getElem_mem _)).1
            have hyN : y < N := by rw [hy.out]; exact hgl.out t htN
            have hnt : Hid (num y = t) := Lib.hid (by rw [hy.out, num_gray])
            have hQl := hB'.out.len
            obtain ⟨ev, _⟩ := hJ.out.vm.cell hL.out.symm j hjp
            rw [← hmk'.out] at ev
            obtain ⟨⟨b0, b1, b2, b3⟩, _⟩ := bar_cells hJ.out.bar
            have hTi := Lib.hid (hWT.out.below hJ.out.si.bel)
            have hfresh := Lib.hid (fun hd => hB'.out.fresh hPN.out hnl.out hkl hJeq hd)
            have hold := Lib.hid (fun hd => hB'.out.old hPN.out hnl.out hkl hJeq hd)
            have hkz := Lib.hid hkz
            have hJeq' := Lib.hid hJeq
            have hTake := Lib.hid hTake
            have hxy' := Lib.hid hxy
            clear hJeq hxy
            go_wp2_with fail
            refine (hMy.out _ hTi.out).mono ?_; rintro e w3 ⟨rfl, hb3⟩
            clear b0 b1 b2 b3 ev
            go_upto_region 14 with fail
            obtain ⟨Wn, hWn⟩ : ∃ Wn, Wn = w3.alloc (barO n y) := ⟨_, rfl⟩
            have hJn := (hJ.out.below hb3).below (ba w3 (barO n y))
            have hbn := alloc_at w3 (barO n y)
            rw [← hWn] at hJn hbn
            rw [← hWn]
            have hqw := hJ.out.qlt hb3.size
            have hb3 := Lib.hid hb3
            clear hWn
            obtain ⟨⟨n0, n1, n2, n3⟩, _⟩ := bar_cells hbn
            obtain ⟨⟨d0, d1, d2⟩, _⟩ := fnd_cells hJn.si.fnd
            obtain ⟨f0, _⟩ := hJn.si.wy.cell (fRow_len _ _ _ _ _) y (by rw [fRow_len]; exact hyN)
            obtain ⟨c0, cf⟩ := hJn.si.mv.cell (fRow_len _ _ _ _ _) y (by rw [fRow_len]; exact hyN)
            rw [fRow_get, hnt.out] at f0
            rw [fRow_get, hnt.out] at c0
            have hJn := Lib.hid hJn
            have hbn := Lib.hid hbn
            have hqw := Lib.hid hqw
            by_cases hd : dd (num x) t = dd (num x) z + 1
            · obtain ⟨hnew, -, hB2⟩ := hfresh.out (by rw [hkz.out]; exact hd)
              rw [if_neg hnew] at f0 c0
              have hdD : Hid (((D : Int) + 1) = (dd (num x) (num y) : Int)) := Lib.hid (by rw [hnt.out, hD.out]; omega)
              have hB2' := Lib.hid hB2
              have hnew' := Lib.hid hnew
              clear hd hB2 hnew
              go_upto_region 16 with fail
              obtain ⟨W5, hW5⟩ : ∃ W5, W5 = Wn.setCell ⟨gm, y, none⟩ (.int .i64 ((D : Int) + 1)) := ⟨_, rfl⟩
              have hJ5 := hJn.out.storeM (fRow_len _ _ _ _ _) y ((D : Int) + 1)
              have hb5 := hJn.out.keepM (fRow_len _ _ _ _ _) y ((D : Int) + 1) hbn.out
              rw [← hW5] at hJ5 hb5
              rw [← hW5]
              rw [hdD.out, mR_set, hnt.out] at hJ5
              clear hW5 n0 n1 n2 n3 d0 d1 d2 f0 c0 cf
              obtain ⟨⟨n0, n1, n2, n3⟩, _⟩ := bar_cells hb5
              have hJ5 := Lib.hid hJ5
              have hb5 := Lib.hid hb5
              have hcv : Hid (((dd (num x) t : Nat) : Int) = (D : Int) + 1) := Lib.hid (by have := hdD.out; rw [hnt.out] at this; exact this.symm)
              have hzQ' : Hid (z ∈ Q') := Lib.hid (by rw [← hkz.out]; exact List.getElem_mem _)
              have hmapq : Hid ((Q' ++ [t]).map gray = Q'.map gray ++ [y]) := Lib.hid (by rw [hy.out]; simp)
              go_wp2_with (at_builtin; refine app_bar _ rfl _ _ rfl W.heap.size _ n _ rfl ((hJ5.out.below (ba W5 (barO n y))).si.qu) W5.heap.size y rfl (alloc_at _ _) (by rw [List.length_map]; omega) (Nat.le_trans hJ5.out.si.le (by simp)) ?_; intro v' w7 ho7 hg7 hat7; have hJ7 := (hJ5.out.below (ba W5 (barO n y))).push ho7 hg7 hat7; rw [← hmapq.out] at hJ7; have hb7 : w7.heap[w3.heap.size]? = some (barO n y) := ((hg7.block _ (Nat.lt_of_lt_of_le (lt_of_block hb5.out) (by simp)) (fun e => hqw.out e.symm)).trans (Below.heap_alloc _ _ _ (lt_of_block hb5.out))).trans hb5.out; clear ho7 hg7 hat7 n0 n1 n2 n3; obtain ⟨⟨n0, n1, n2, n3⟩, _⟩ := bar_cells hb7; obtain ⟨⟨b0, b1, b2, b3⟩, _⟩ := bar_cells hJ7.bar; obtain ⟨⟨d0, d1, d2⟩, _⟩ := fnd_cells hJ7.si.fnd; obtain ⟨c0, cf⟩ := hJ7.si.mv.cell (fRow_len _ _ _ _ _) y (by rw [fRow_len]; exact hyN); obtain ⟨f0, ff⟩ := hJ7.si.wy.cell (fRow_len _ _ _ _ _) y (by rw [fRow_len]; exact hyN); obtain ⟨f1, ff1⟩ := hJ7.si.wy.cell (fRow_len _ _ _ _ _) g (by rw [fRow_len]; exact hgN); rw [fRow_get, hnt.out, if_pos (by simp), hcv.out] at c0; rw [fRow_get, hnt.out, if_neg hnew'.out] at f0; rw [fRow_get, hng.out, if_pos hzQ'.out] at f1; have hJ7' := Lib.hid hJ7; have hb7' := Lib.hid hb7; clear hJ7 hb7)
              go_region
              go_wp2_with fail
              go_roundw
              case rel =>
                refine ⟨Q' ++ [t], j + 1, by go_num, by omega, Lib.hid (by rw [hTake.out]; exact hB2'.out), Lib.hid (by rw [List.getElem?_append_left hkl]; exact hQk.out), Lib.hid ?_⟩
                have hS9 := hJ7'.out.storeW (fRow_len _ _ _ _ _) y 1
                rw [wR_set, hnt.out] at hS9
                exact hS9.below (Below.refl _ _).drew
              all_goals (simp [intOf] <;> omega)
            · obtain ⟨hmem, -, hB2⟩ := hold.out (by rw [hkz.out]; exact hd)
              rw [if_pos hmem] at f0 c0
              obtain ⟨E, hE⟩ : ∃ E, Hid (E = dd (num x) t) := ⟨_, Lib.hid rfl⟩
              rw [← hE.out] at c0
              have hne2 : ((E : Int) == (D : Int) + 1) = false := by
                rw [beq_eq_false_iff_ne]; intro e; apply hd; rw [← hE.out, ← hD.out]; omega
              have hB2' := Lib.hid hB2
              clear hd hB2 hmem
              go_wp2_with fail
              go_roundw
              case rel => exact ⟨Q', j + 1, by go_num, by omega, Lib.hid (by rw [hTake.out]; exact hB2'.out), hQk, hJn⟩
              all_goals (simp [intOf] <;> omega)
          · obtain rfl : j = L := by omega
            have hB3 : Bfs N (num x) Q' (k + 1) [] := by
              have hkl : k < Q'.length := (List.getElem?_eq_some_iff.1 hQk.out).1
              have hkz : Q'[k] = z := (List.getElem?_eq_some_iff.1 hQk.out).2
              have h1 := hB'.out
              rw [List.take_of_length_le (by rw [← hLn.out]; exact Nat.le_refl _), ← hkz] at h1
              exact Bfs.next hPN.out hnl.out hkl h1
            have hB3 := Lib.hid hB3
            go_wp2_with fail
            go_roundw
            case rel => exact ⟨Q', k + 1, by go_num, hB3, Lib.hid hJ.out.si⟩
            all_goals (simp [intOf] <;> omega)
      · have hkQ : k = Q.length := by have := hB.out.le; omega
        have hall : ∀ z, z < N → z ∈ Q := Bfs.all hnl.out (by have := hB.out; rw [hkQ] at this; exact this)
        obtain ⟨⟨d0, d1, d2⟩, _⟩ := fnd_cells hS.out.fnd
        have hres : wr.heap[w.heap.size + 1]? = some (.cells #[.int .i64 0, .slice none 0 0, .slice none 0 0] 61) := (hS.out.bel.block _ hgr4b.out).trans hWr.out
        have r0 : wr.cell? ⟨w.heap.size + 1, 0, none⟩ = some (.int .i64 0) := by simp [World.cell?, hres]
        have r1 : wr.cell? ⟨w.heap.size + 1, 1, none⟩ = some (.slice none 0 0) := by simp [World.cell?, hres]
        have r2 : wr.cell? ⟨w.heap.size + 1, 2, none⟩ = some (.slice none 0 0) := by simp [World.cell?, hres]
        have rf : ∀ o, wr.frozen? ⟨w.heap.size + 1, o, none⟩ = false := fun o => by simp [World.frozen?, hres]
        have rl := lt_of_block hres
        have hres := Lib.hid hres
        have hall := Lib.hid hall
        clear hkQ
        go_wp2_with fail
        have hgm2 := (hS.out.mv.lt gm rfl).1
        have hgw2 := (hS.out.wy.lt gw rfl).1
        have n1 : (Value.slice (some ⟨gm, 0, none⟩) N N).ownBlock ≠ some (w.heap.size + 1) := by
          intro e; have e2 : gm = w.heap.size + 1 := Option.some.inj e; have := hgr4b.out; omega
        have n2 : (Value.slice (some ⟨gw, 0, none⟩) N N).ownBlock ≠ some (w.heap.size + 1) := by
          intro e; have e2 : gw = w.heap.size + 1 := Option.some.inj e; have := hgr4b.out; omega
        have q1 : mR N (num x) Q = (List.range N).map fun y => (dd (num x) (num y) : Int) := fRow_all _ _ _ _ _ fun y hy => hall.out _ (hnl2.out y hy)
        have q2 : wR N Q = List.replicate N 1 := by
          refine (fRow_all N num (fun _ => 1) 0 Q fun y hy => hall.out _ (hnl2.out y hy)).trans ?_
          apply List.ext_getElem
          · simp
          · intro j h1 h2; simp
        have hle : w.heap.size ≤ W.heap.size := by have := hgr4b.out; omega
        refine bodyPost_ret (v := .agg #[.int .i64 n, .slice (some ⟨gm, 0, none⟩) N N, .slice (some ⟨gw, 0, none⟩) N N]) (by simp [results, Tryd.results38, go_sem, *]) rfl ⟨gm, gw, rfl, ?_, ?_, ?_⟩
        · rw [← q1]; exact (((hS.out.mv.setO n1).setO n1).setO n1).mono hle
        · rw [← q2]; exact (((hS.out.wy.setO n2).setO n2).setO n2).mono hle
        · exact Below.setCell (Below.setCell (Below.setCell (hWb.out.trans (hS.out.bel.mono hle)) (by simp) _) (by simp) _) (by simp) _
/-- how many moves lead from x to the states, by their signs -/
abbrev sdL (n x : Nat) : List Int := (List.range (2 ^ n)).map fun y => (dd (num x) (num y) : Int)
theorem search_any (n x : Nat) (w : World) (h2 : 2 ≤ n) (hn : n ≤ 12) (hx : x < 2 ^ n) (hT : TabOk w) :
    Calls Tryd.prog 38 #[(.agg #[.int .i64 ((ctz (x) : Nat) : Int), .bool (onB (x)), .int .i64 ((n : Nat) : Int), .int .u64 ((x : Nat) : Int)])] w fun e w' => ∃ gm gw, e = .returned (.agg #[.int .i64 n, .slice (some ⟨gm, 0, none⟩) (2 ^ n) (2 ^ n), .slice (some ⟨gw, 0, none⟩) (2 ^ n) (2 ^ n)]) ∧
      OwnI w' w.heap.size (.slice (some ⟨gm, 0, none⟩) (2 ^ n) (2 ^ n)) (sdL n x) ∧ OwnI w' w.heap.size (.slice (some ⟨gw, 0, none⟩) (2 ^ n) (2 ^ n)) (List.replicate (2 ^ n) 1) ∧ Below w.heap.size w w' := by
  have hp : 2 ^ 2 ≤ 2 ^ n := Nat.pow_le_pow_right (by omega) h2
  have hq : 2 ^ n ≤ 2 ^ 12 := Nat.pow_le_pow_right (by omega) hn
  refine search_core n x (2 ^ n) w (by omega) (by omega) hx hT (Lib.hid (pn_pow n h2)) (by omega) (Lib.hid fun z hz => gray_lt n z hz) (Lib.hid (num_lt n x hx)) (Lib.hid fun y hy => num_lt n y hy) (Lib.hid fun z hz => pmL_len n z h2 hz)
    (Lib.hid fun z j hz h h' => pmL_get n z j h2 hz h) (Lib.hid fun z w hz => pairMoves_any n z w (by omega) (by omega) (by omega)) (Lib.hid fun z k w hz hk hw => pairMoved_any n z k w h2 (by omega) hz hk hw) (Lib.hid fun w => greatest_any n w (by omega))
end Go.Proofs.YtmbijomjilicgabDoor
