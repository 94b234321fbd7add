/- The rings that can be moved: both ways. -/
import Derived.Test.YtmbijomjilicgabDoorA4
import Derived.Test.YtmbijomjilicgabDoorInts
import Derived.Lib.OthersKept
namespace Go.Proofs.YtmbijomjilicgabDoor
open Go Go.RowKit RM

/-- the rings before k that can be moved -/
def mvL (n x k : Nat) : List Int := ((List.range k).filter fun (i : Nat) => canB n x (i : Int)).map fun (i : Nat) => (i : Int)
theorem mvL_yes (n x k : Nat) (h : canB n x (k : Int) = true) : mvL n x (k + 1) = mvL n x k ++ [(k : Int)] := by
  unfold mvL; rw [List.range_succ, List.filter_append, List.map_append]; simp [h]
theorem mvL_no (n x k : Nat) (h : canB n x (k : Int) = false) : mvL n x (k + 1) = mvL n x k := by
  unfold mvL; rw [List.range_succ, List.filter_append, List.map_append]; simp [h]
theorem mvL_len (n x k : Nat) : (mvL n x k).length ≤ k := by
  unfold mvL; rw [List.length_map]; exact Nat.le_trans (List.length_filter_le _ _) (by simp)

theorem own_cell {w w' : World} {B : Nat} {v : Value} {xs : List Int} (h : OwnI w B v xs) (hg : w.grownBy w' v.ownBlock) {b o : Nat} (hb : b < B) (hl : b < w.heap.size) : w'.cell? ⟨b, o, none⟩ = w.cell? ⟨b, o, none⟩ :=
  World.cell?_of_block (hg.block b hl (fun e => by have := (h.lt b e.symm).1; omega))

theorem CellsOf.below {w w' : World} {b n x : Nat} (h : CellsOf w b n x) (hb : Below w.heap.size w w') (hl : b < w.heap.size) : CellsOf w' b n x := by
  obtain ⟨h0, h1, h2, h3⟩ := h
  refine ⟨?_, ?_, ?_, ?_⟩
  · rw [hb.cell (p := ⟨b, 0, none⟩) hl]; exact h0
  · rw [hb.cell (p := ⟨b, 1, none⟩) hl]; exact h1
  · rw [hb.cell (p := ⟨b, 2, none⟩) hl]; exact h2
  · rw [hb.cell (p := ⟨b, 3, none⟩) hl]; exact h3
theorem CellsOf.own {w w' : World} {b n x B : Nat} {v : Value} {xs : List Int} (h : CellsOf w b n x) (ho : OwnI w B v xs) (hg : w.grownBy w' v.ownBlock) (hb : b < B) (hl : b < w.heap.size) : CellsOf w' b n x := by
  obtain ⟨h0, h1, h2, h3⟩ := h
  refine ⟨?_, ?_, ?_, ?_⟩
  · rw [own_cell ho hg hb hl]; exact h0
  · rw [own_cell ho hg hb hl]; exact h1
  · rw [own_cell ho hg hb hl]; exact h2
  · rw [own_cell ho hg hb hl]; exact h3


theorem sMovesIn_core (s : ByteArray) (n x : Nat) (w : World) (hn : n ≤ 20) (hs : n = s.size) (ha : Hid (∀ k (h : k < s.size), s[k].toNat < 128))
    (hC : Hid (∀ (k : Int) w, Calls Tryd.prog 77 #[.string s, .int .i64 k] w fun e w' => e = .returned (.bool (canB n x k)) ∧ w = w')) :
    Calls Tryd.prog 64 #[.string s] w fun e w' => ∃ v, e = .returned v ∧ OwnI w' w.heap.size v (mvL n x n) ∧ Below w.heap.size w w' := by
  subst hs
  go_enter Tryd.func64, Tryd.ntmps64
  go_wp2
  go_loopw [3] (fun o wr => ∃ k : Nat, k ≤ s.size ∧ wr.heap[w.heap.size]? = some (.stringIter s k) ∧ Hid (OwnI wr (w.heap.size + 1) o (mvL s.size x k)) ∧ Hid (Below w.heap.size w wr)) (fun _ wr => s.size - wr.iterPos w.heap.size)
  case atStart => exact ⟨0, Nat.zero_le _, World.iter_heap w s 0, OwnI.nil _ _, (Below.refl _ _).alloc (Nat.le_refl _) _⟩
  case round =>
    obtain ⟨k, hk, hit, ho, hb⟩ := hrel
    have hlt0 := lt_of_block hit
    have hpos : wr.iterPos w.heap.size = k := iterPos_of hit
    by_cases hlt : k < s.size
    · have hnx : ∀ ty, (Instr.next (.pointer (some ⟨w.heap.size, 0, none⟩)) true ty).run Tryd.prog wr = .ok (.tuple #[.bool true, .int .i64 (k : Int), .int .i32 (s[k].toNat : Int)]) (wr.iterAt w.heap.size s (k + 1)) := fun ty => by
        have := Lib.run_next_any_at (P := Tryd.prog) wr w.heap.size s k ty hit hlt
        rw [decode_ascii s k hlt (ha.out k hlt)] at this; exact this
      have hit2 := Lib.iterAt_heap wr w.heap.size s k (k + 1) hit
      have hb2 := Lib.hid (Lib.below_iterAt hb.out (k := w.heap.size) (Nat.le_refl _) s (k + 1))
      have ho2 : Hid (OwnI (wr.iterAt w.heap.size s (k + 1)) (w.heap.size + 1) _ (mvL s.size x k)) := Lib.hid (ownsRow_iterAt ho.out (k := w.heap.size) (by omega) s (k + 1))
      obtain ⟨W1, hW1⟩ : ∃ W1, W1 = wr.iterAt w.heap.size s (k + 1) := ⟨_, rfl⟩
      rw [← hW1] at hnx hit2 hb2 ho2
      have hpos2 : W1.iterPos w.heap.size = k + 1 := iterPos_of hit2
      have hsz1 := hb2.out.size
      have hbk := lt_of_block hit2
      clear hW1 hit ho hb
      have hcan := Lib.hid (hC.out (k : Int))
      have hlen : Hid ((mvL s.size x k).length ≤ 2000000) := Lib.hid (by have := mvL_len s.size x k; omega)
      cases hc : canB s.size x (k : Int)
      · rw [hc] at hcan
        have HN := Lib.hid (mvL_no s.size x k hc)
        clear hc
        go_wp2_with fail
        refine (hcan.out _).mono ?_; rintro e w' ⟨rfl, rfl⟩
        go_wp2_with fail
        go_roundw
        case rel => exact ⟨k + 1, by omega, hit2, Lib.hid (by rw [HN.out]; exact ho2.out), hb2⟩
        case measure => rw [hpos, hpos2]; omega
      · rw [hc] at hcan
        have HY := Lib.hid (mvL_yes s.size x k hc)
        clear hc
        go_wp2_with fail
        refine (hcan.out _).mono ?_; rintro e w' ⟨rfl, rfl⟩
        go_wp2_with (at_builtin; refine app_int _ rfl _ _ rfl (w.heap.size + 1) _ _ rfl (ho2.out.alloc _) W1.heap.size _ rfl (by simp; rfl) hlen.out (by simp; omega) ?_; intro v' w' ho' hg')
        have ho3 := Lib.hid ho'
        have hg3 := Lib.hid hg'
        clear ho' hg'
        have hit3 : w'.heap[w.heap.size]? = some (.stringIter s (k + 1)) := by
          rw [hg3.out.block w.heap.size (by simp; omega) (fun e => by have := ((ho2.out.alloc (.cells #[Value.int .i64 (k : Int)] 3)).lt _ e.symm).1; omega), Below.heap_alloc _ _ _ hbk]; exact hit2
        have hpos3 : w'.iterPos w.heap.size = k + 1 := iterPos_of hit3
        go_roundw
        case rel =>
          refine ⟨k + 1, by omega, hit3, Lib.hid (by rw [HY.out]; exact ho3.out), Lib.hid ?_⟩
          exact bel_own (hb2.out.alloc hsz1 _) ((ho2.out.alloc _).mono (by omega)) hg3.out (by simp; omega)
        case measure => rw [hpos, hpos3]; omega
    · obtain rfl : k = s.size := by omega
      have hnx : ∀ ty, (Instr.next (.pointer (some ⟨w.heap.size, 0, none⟩)) true ty).run Tryd.prog wr = .ok (.tuple #[.bool false]) wr := fun ty => Lib.run_next_end_at (P := Tryd.prog) wr w.heap.size s _ ty hit hlt
      go_wp2_with fail
      go_ret
      exact ⟨_, rfl, ho.out.mono (by omega), hb.out⟩



theorem ST_ascii (n x k : Nat) (h : k < (ST n x).size) : (ST n x)[k].toNat < 128 := by rw [ST_get]; split <;> decide



theorem TabOk.grown {w w' : World} {B : Nat} {v : Value} {xs : List Int} (h : TabOk w) (ho : OwnI w B v xs) (hg : w.grownBy w' v.ownBlock) (hB : 1 < B) : TabOk w' := fun j hj => by
  rw [own_cell ho hg hB h.lt]; exact h j hj
end Go.Proofs.YtmbijomjilicgabDoor
