/- The rings that can be moved: both ways. -/
import Derived.Test.YtbgdhiieeegnjaaDoorA4
import Derived.Test.YtbgdhiieeegnjaaDoorInts
import Derived.Lib.OthersKept
namespace Go.Proofs.YtbgdhiieeegnjaaDoor
open Go Go.RowKit RM

/-- the rings before k that can be moved -/
def mvL (n x k : Nat) : List Int := ((List.range k).filter fun (i : Nat) => canB n x (i : Int)).map fun (i : Nat) => (i : Int)
theorem mvL_yes (n x k : Nat) (h : canB n x (k : Int) = true) : mvL n x (k + 1) = mvL n x k ++ [(k : Int)] := by
  unfold mvL; rw [List.range_succ, List.filter_append, List.map_append]; simp [h]
theorem mvL_no (n x k : Nat) (h : canB n x (k : Int) = false) : mvL n x (k + 1) = mvL n x k := by
  unfold mvL; rw [List.range_succ, List.filter_append, List.map_append]; simp [h]
theorem mvL_len (n x k : Nat) : (mvL n x k).length ≤ k := by
  unfold mvL; rw [List.length_map]; exact Nat.le_trans (List.length_filter_le _ _) (by simp)

theorem own_cell {w w' : World} {B : Nat} {v : Value} {xs : List Int} (h : OwnI w B v xs) (hg : w.grownBy w' v.ownBlock) {b o : Nat} (hb : b < B) (hl : b < w.heap.size) : w'.cell? ⟨b, o, none⟩ = w.cell? ⟨b, o, none⟩ :=
  World.cell?_of_block (hg.block b hl (fun e => by have := (h.lt b e.symm).1; omega))

theorem CellsOf.below {w w' : World} {b n x : Nat} (h : CellsOf w b n x) (hb : Below w.heap.size w w') (hl : b < w.heap.size) : CellsOf w' b n x := by
  obtain ⟨h0, h1, h2, h3⟩ := h
  refine ⟨?_, ?_, ?_, ?_⟩
  · rw [hb.cell (p := ⟨b, 0, none⟩) hl]; exact h0
  · rw [hb.cell (p := ⟨b, 1, none⟩) hl]; exact h1
  · rw [hb.cell (p := ⟨b, 2, none⟩) hl]; exact h2
  · rw [hb.cell (p := ⟨b, 3, none⟩) hl]; exact h3
theorem CellsOf.own {w w' : World} {b n x B : Nat} {v : Value} {xs : List Int} (h : CellsOf w b n x) (ho : OwnI w B v xs) (hg : w.grownBy w' v.ownBlock) (hb : b < B) (hl : b < w.heap.size) : CellsOf w' b n x := by
  obtain ⟨h0, h1, h2, h3⟩ := h
  refine ⟨?_, ?_, ?_, ?_⟩
  · rw [own_cell ho hg hb hl]; exact h0
  · rw [own_cell ho hg hb hl]; exact h1
  · rw [own_cell ho hg hb hl]; exact h2
  · rw [own_cell ho hg hb hl]; exact h3
set_option maxRecDepth 100000 in
theorem iMoves_core (s : ByteArray) (n x : Nat) (w : World) (hn : n ≤ 20) (hT : TabOk w) (hB : Hid (∀ w, TabOk w → Calls Tryd.prog 45 #[.string s] w fun e w' => e = .returned (.tuple #[(.agg #[.int .i64 ((ctz (x) : Nat) : Int), .bool (onB (x)), .int .i64 ((n : Nat) : Int), .int .u64 ((x : Nat) : Int)]), .bool true]) ∧ Below w.heap.size w w'))
    (hC : Hid (∀ (k : Int) w, Calls Tryd.prog 53 #[(.agg #[.int .i64 ((ctz (x) : Nat) : Int), .bool (onB (x)), .int .i64 ((n : Nat) : Int), .int .u64 ((x : Nat) : Int)]), .int .i64 k] w fun e w' => e = .returned (.bool (canB n x k)) ∧ Below w.heap.size w w')) :
    Calls Tryd.prog 20 #[.string s] w fun e w' => RetI w (mvL n x n) true e w' := by
  have hT := Lib.hid hT
  go_enter Tryd.func20, Tryd.ntmps20
  go_wp2_with fail
  refine (hB.out _ hT.out).mono ?_; rintro e w1 ⟨rfl, hb⟩
  have hb0 := Lib.hid hb
  have hsz := hb.size
  clear hb
  go_wp2_with fail
  go_loopw [6, 17] (fun o i wr => ∃ k : Nat, k ≤ n ∧ i = .int .i64 k ∧ Hid (OwnI wr (w1.heap.size + 1) o (mvL n x k)) ∧ Hid (Below w.heap.size w wr) ∧ w1.heap.size + 1 ≤ wr.heap.size ∧ Hid (CellsOf wr w1.heap.size n x)) (fun _ i _ => n - (intOf i).toNat)
  case atStart => exact ⟨0, Nat.zero_le _, rfl, OwnI.nil _ _, bt hb0.out (ba _ _), by simp, by simp [Hid, CellsOf]⟩
  case round =>
    obtain ⟨k, hk, rfl, ho, hb, hs, hcs⟩ := hrel
    by_cases hlt : k < n
    · obtain ⟨c0, c1, c2, c3⟩ := hcs.out
      have hcan := Lib.hid (hC.out (k : Int))
      have hlen : Hid ((mvL n x k).length ≤ 2000000) := Lib.hid (by have := mvL_len n x k; omega)
      cases hc : canB n x (k : Int)
      · rw [hc] at hcan
        have HN := Lib.hid (mvL_no n x k hc)
        clear hc
        go_wp2_with fail
        refine (hcan.out _).mono ?_; rintro e w2 ⟨rfl, hb2⟩
        have hb2 := Lib.hid hb2
        go_wp2_with fail
        go_roundw
        case rel =>
          refine ⟨k + 1, by omega, by go_num, Lib.hid ?_, Lib.hid ?_, ?_, Lib.hid ?_⟩
          · rw [HN.out]; exact ho.out.below hb2.out
          · exact hb.out.trans (hb2.out.mono hb.out.size)
          · exact Nat.le_trans hs hb2.out.size
          · exact hcs.out.below hb2.out (by omega)
        all_goals (simp [intOf] <;> omega)
      · rw [hc] at hcan
        have HY := Lib.hid (mvL_yes n x k hc)
        clear hc
        go_wp2_with fail
        refine (hcan.out _).mono ?_; rintro e w2 ⟨rfl, hb2⟩
        have hb2 := Lib.hid hb2
        have hs2 := Nat.le_trans hs hb2.out.size
        go_wp2_with (at_builtin; refine app_int _ rfl _ _ rfl (w1.heap.size + 1) _ _ rfl ((ho.out.below hb2.out).alloc _) w2.heap.size _ rfl (by simp; rfl) hlen.out (by simp; omega) ?_; intro v' w' ho' hg')
        have ho2 := Lib.hid ho'
        have hg2 := Lib.hid hg'
        clear ho' hg'
        go_roundw
        case rel =>
          refine ⟨k + 1, by omega, by go_num, Lib.hid ?_, Lib.hid ?_, ?_, Lib.hid ?_⟩
          · rw [HY.out]; exact ho2.out
          · exact bel_own ((hb.out.trans (hb2.out.mono hb.out.size)).alloc (Nat.le_trans hb.out.size hb2.out.size) _) (((ho.out.below hb2.out).alloc _).mono (by omega)) hg2.out (by have := hb.out.size; have := hb2.out.size; simp; omega)
          · have := hg2.out.size; simp at this; omega
          · exact ((hcs.out.below hb2.out (by omega)).below (ba _ _) (by omega)).own ((ho.out.below hb2.out).alloc _) hg2.out (by omega) (by simp; omega)
        all_goals (simp [intOf] <;> omega)
    · obtain rfl : k = n := by omega
      go_wp2_with fail
      go_ret2
      exact ⟨_, rfl, ho.out.mono (by omega), hb.out⟩

theorem iMoves_no (s : ByteArray) (w : World) (hT : TabOk w) (hB : Hid (∀ w, TabOk w → Calls Tryd.prog 45 #[.string s] w fun e w' => e = .returned (.tuple #[(.agg #[.int .i64 ((ctz (0) : Nat) : Int), .bool (onB (0)), .int .i64 ((0 : Nat) : Int), .int .u64 ((0 : Nat) : Int)]), .bool false]) ∧ Below w.heap.size w w')) :
    Calls Tryd.prog 20 #[.string s] w fun e w' => RetI w [] false e w' := by
  have hT := Lib.hid hT
  go_enter Tryd.func20, Tryd.ntmps20
  go_wp2_with fail
  refine (hB.out _ hT.out).mono ?_; rintro e w1 ⟨rfl, hb⟩
  have hb0 := Lib.hid hb
  clear hb
  go_wp2_with fail
  go_ret2
  exact ⟨_, rfl, OwnI.nil _ _, bt hb0.out (ba _ _)⟩

theorem sMovesIn_core (s : ByteArray) (n x : Nat) (w : World) (hn : n ≤ 20) (hs : n = s.size) (ha : Hid (∀ k (h : k < s.size), s[k].toNat < 128))
    (hC : Hid (∀ (k : Int) w, Calls Tryd.prog 54 #[.string s, .int .i64 k] w fun e w' => e = .returned (.bool (canB n x k)) ∧ w = w')) :
    Calls Tryd.prog 52 #[.string s] w fun e w' => ∃ v, e = .returned v ∧ OwnI w' w.heap.size v (mvL n x n) ∧ Below w.heap.size w w' := by
  subst hs
  go_enter Tryd.func52, Tryd.ntmps52
  go_wp2
  go_loopw [3] (fun o wr => ∃ k : Nat, k ≤ s.size ∧ wr.heap[w.heap.size]? = some (.stringIter s k) ∧ Hid (OwnI wr (w.heap.size + 1) o (mvL s.size x k)) ∧ Hid (Below w.heap.size w wr)) (fun _ wr => s.size - wr.iterPos w.heap.size)
  case atStart => exact ⟨0, Nat.zero_le _, World.iter_heap w s 0, OwnI.nil _ _, (Below.refl _ _).alloc (Nat.le_refl _) _⟩
  case round =>
    obtain ⟨k, hk, hit, ho, hb⟩ := hrel
    have hlt0 := lt_of_block hit
    have hpos : wr.iterPos w.heap.size = k := iterPos_of hit
    by_cases hlt : k < s.size
    · have hnx : ∀ ty, (Instr.next (.pointer (some ⟨w.heap.size, 0, none⟩)) true ty).run Tryd.prog wr = .ok (.tuple #[.bool true, .int .i64 (k : Int), .int .i32 (s[k].toNat : Int)]) (wr.iterAt w.heap.size s (k + 1)) := fun ty => by
        have := Lib.run_next_any_at (P := Tryd.prog) wr w.heap.size s k ty hit hlt
        rw [decode_ascii s k hlt (ha.out k hlt)] at this; exact this
      have hit2 := Lib.iterAt_heap wr w.heap.size s k (k + 1) hit
      have hb2 := Lib.hid (Lib.below_iterAt hb.out (k := w.heap.size) (Nat.le_refl _) s (k + 1))
      have ho2 : Hid (OwnI (wr.iterAt w.heap.size s (k + 1)) (w.heap.size + 1) _ (mvL s.size x k)) := Lib.hid (ownsRow_iterAt ho.out (k := w.heap.size) (by omega) s (k + 1))
      obtain ⟨W1, hW1⟩ : ∃ W1, W1 = wr.iterAt w.heap.size s (k + 1) := ⟨_, rfl⟩
      rw [← hW1] at hnx hit2 hb2 ho2
      have hpos2 : W1.iterPos w.heap.size = k + 1 := iterPos_of hit2
      have hsz1 := hb2.out.size
      have hbk := lt_of_block hit2
      clear hW1 hit ho hb
      have hcan := Lib.hid (hC.out (k : Int))
      have hlen : Hid ((mvL s.size x k).length ≤ 2000000) := Lib.hid (by have := mvL_len s.size x k; omega)
      cases hc : canB s.size x (k : Int)
      · rw [hc] at hcan
        have HN := Lib.hid (mvL_no s.size x k hc)
        clear hc
        go_wp2_with fail
        refine (hcan.out _).mono ?_; rintro e w' ⟨rfl, rfl⟩
        go_wp2_with fail
        go_roundw
        case rel => exact ⟨k + 1, by omega, hit2, Lib.hid (by rw [HN.out]; exact ho2.out), hb2⟩
        case measure => rw [hpos, hpos2]; omega
      · rw [hc] at hcan
        have HY := Lib.hid (mvL_yes s.size x k hc)
        clear hc
        go_wp2_with fail
        refine (hcan.out _).mono ?_; rintro e w' ⟨rfl, rfl⟩
        go_wp2_with (at_builtin; refine app_int _ rfl _ _ rfl (w.heap.size + 1) _ _ rfl (ho2.out.alloc _) W1.heap.size _ rfl (by simp; rfl) hlen.out (by simp; omega) ?_; intro v' w' ho' hg')
        have ho3 := Lib.hid ho'
        have hg3 := Lib.hid hg'
        clear ho' hg'
        have hit3 : w'.heap[w.heap.size]? = some (.stringIter s (k + 1)) := by
          rw [hg3.out.block w.heap.size (by simp; omega) (fun e => by have := ((ho2.out.alloc (.cells #[Value.int .i64 (k : Int)] 3)).lt _ e.symm).1; omega), Below.heap_alloc _ _ _ hbk]; exact hit2
        have hpos3 : w'.iterPos w.heap.size = k + 1 := iterPos_of hit3
        go_roundw
        case rel =>
          refine ⟨k + 1, by omega, hit3, Lib.hid (by rw [HY.out]; exact ho3.out), Lib.hid ?_⟩
          exact bel_own (hb2.out.alloc hsz1 _) ((ho2.out.alloc _).mono (by omega)) hg3.out (by simp; omega)
        case measure => rw [hpos, hpos3]; omega
    · obtain rfl : k = s.size := by omega
      have hnx : ∀ ty, (Instr.next (.pointer (some ⟨w.heap.size, 0, none⟩)) true ty).run Tryd.prog wr = .ok (.tuple #[.bool false]) wr := fun ty => Lib.run_next_end_at (P := Tryd.prog) wr w.heap.size s _ ty hit hlt
      go_wp2_with fail
      go_ret
      exact ⟨_, rfl, ho.out.mono (by omega), hb.out⟩

theorem sMoves_core (s : ByteArray) (xs : List Int) (w : World) (hG : Hid (∀ w, Calls Tryd.prog 43 #[.string s] w fun e w' => e = .returned (.bool true) ∧ w = w'))
    (hM : Hid (∀ w, Calls Tryd.prog 52 #[.string s] w fun e w' => ∃ v, e = .returned v ∧ OwnI w' w.heap.size v xs ∧ Below w.heap.size w w')) :
    Calls Tryd.prog 19 #[.string s] w fun e w' => RetI w xs true e w' := by
  go_enter Tryd.func19, Tryd.ntmps19
  go_wp2_with fail
  refine (hG.out _).mono ?_; rintro e w1 ⟨rfl, rfl⟩
  go_wp2_with fail
  refine (hM.out _).mono ?_; rintro e w1 ⟨v, rfl, ho, hb⟩
  have ho := Lib.hid ho
  have hb := Lib.hid hb
  go_wp2_with fail
  go_ret2
  exact ⟨_, rfl, ho.out, hb.out⟩

theorem sMoves_bad (s : ByteArray) (w : World) (hs : s.size ≤ maxLen) (h : goodB s.data.toList = false) :
    Calls Tryd.prog 19 #[.string s] w fun e w' => RetI w [] false e w' := by
  have hG := Lib.hid fun w => by
    have := riGood_any s w hs
    rw [h] at this; exact this
  clear h
  go_enter Tryd.func19, Tryd.ntmps19
  go_wp2_with fail
  refine (hG.out _).mono ?_; rintro e w1 ⟨rfl, rfl⟩
  go_wp2_with fail
  go_ret2
  exact ⟨_, rfl, OwnI.nil _ _, Below.refl _ _⟩

theorem ST_ascii (n x k : Nat) (h : k < (ST n x).size) : (ST n x)[k].toNat < 128 := by rw [ST_get]; split <;> decide
theorem sMoves_ST (n x : Nat) (w : World) (h1 : 1 ≤ n) (hn : n ≤ 20) (_ : x < 2 ^ n) :
    Calls Tryd.prog 19 #[.string (ST n x)] w fun e w' => RetI w (mvL n x n) true e w' :=
  sMoves_core _ _ w (Lib.hid fun w => by
    have := riGood_any (ST n x) w (by rw [ST_size]; unfold maxLen; omega)
    rw [good_ST n x h1 hn] at this; exact this) (Lib.hid fun w => sMovesIn_core _ n x w hn (ST_size n x).symm (Lib.hid fun k h => ST_ascii n x k h) (Lib.hid fun k w => riCan_ST n x k w h1 hn))

theorem iMoves_ST (n x : Nat) (w : World) (h1 : 1 ≤ n) (hn : n ≤ 20) (hx : x < 2 ^ n) (hT : TabOk w) :
    Calls Tryd.prog 20 #[.string (ST n x)] w fun e w' => RetI w (mvL n x n) true e w' :=
  iMoves_core _ n x w hn hT (Lib.hid fun w hw => barOf_ST n x w h1 hn hx hw) (Lib.hid fun k w => canMove_any n x k w h1 hn)

theorem iMoves_bad (s : ByteArray) (w : World) (hs : s.size ≤ maxLen) (h : goodB s.data.toList = false) (hT : TabOk w) :
    Calls Tryd.prog 20 #[.string s] w fun e w' => RetI w [] false e w' :=
  iMoves_no s w hT (Lib.hid fun w _ => by have := barOf_bad s w hs h; rw [bz] at this; exact this)

theorem TabOk.grown {w w' : World} {B : Nat} {v : Value} {xs : List Int} (h : TabOk w) (ho : OwnI w B v xs) (hg : w.grownBy w' v.ownBlock) (hB : 1 < B) : TabOk w' := fun j hj => by
  rw [own_cell ho hg hB h.lt]; exact h j hj
end Go.Proofs.YtbgdhiieeegnjaaDoor
