/- What a search keeps from round to round. -/
import Derived.Test.YtcfeaaakfjilgaaSE
import Derived.Test.YtcfeaaakfjilgaaMB1
namespace Go.Proofs.Ytcfeaaakfjilgaa
set_option linter.unusedSimpArgs false
set_option linter.unusedVariables false
open Go Go.RowKit RM Go.Maps Go.WideMaps
theorem OwnG.off {α : Type} {E : Elt α} {w w' : World} {B : Nat} {v : Value} {xs : List α} (h : OwnG E w B v xs) (hk : ∀ k, v.ownBlock = some k → w'.heap[k]? = w.heap[k]?) : OwnG E w' B v xs := by
  refine ⟨h.1, ?_⟩
  rcases h.2 with hn | ⟨g, cap, cur, rfl, hb, hgg, rest⟩
  · exact .inl hn
  · refine .inr ⟨g, cap, cur, rfl, hb, ?_, rest⟩
    rw [hk g rfl]
    exact hgg
theorem drop_snoc {α : Type} (q : List α) (t : α) (n : Nat) (h : n ≤ q.length) : (q ++ [t]).drop n = q.drop n ++ [t] := by rw [List.drop_append_of_le_length h]
theorem add_none {S : Type} [DecidableEq S] {M n w : Nat} {st : Sr S} {t : S} (h : st.far t = none) : (st.add M n w t).q = st.q ++ [t] := by unfold Sr.add; rw [h]
theorem add_some {S : Type} [DecidableEq S] {M n w m : Nat} {st : Sr S} {t : S} (h : st.far t = some m) : (st.add M n w t).q = st.q := by
  rcases Sr.add_q (M := M) (n := n) (w := w) (st := st) (t := t) with ⟨h0, -⟩ | ⟨m, -, h1, -⟩
  · rw [h] at h0; cases h0
  · exact h1
theorem mv_eq {ps : List Nat} {bs : List Blk} {d : List Nat} (hd : isSt ps d) {m : Nat × Bool} (hm : m ∈ slS ps bs d) : ∃ x : Nat, ((pl d m.1 : Nat) : Int) + byI m.2 = (x : Int) ∧ d.set m.1 x = mvS d m.1 m.2 := by
  obtain ⟨b, up⟩ := m
  obtain ⟨h1, h2⟩ := mem_sl.1 hm
  unfold canS at h2
  rw [Bool.and_eq_true] at h2
  have h2 := h2.1
  unfold mvS pl byI
  generalize d.getD b 0 = x at *
  cases up
  · simp at h2
    exact ⟨x - 1, by simp; omega, by simp⟩
  · exact ⟨x + 1, by simp, by simp⟩
theorem own_plc (w : World) (d : List Nat) : OwnG plcE (w.alloc (.cells #[.int .i64 ((pl (d) 0 : Nat) : Int), .int .i64 ((pl (d) 1 : Nat) : Int), .int .i64 ((pl (d) 2 : Nat) : Int), .int .i64 ((pl (d) 3 : Nat) : Int), .int .i64 ((pl (d) 4 : Nat) : Int), .int .i64 ((pl (d) 5 : Nat) : Int)] 68)) w.heap.size (.slice (some ⟨w.heap.size, 0, none⟩) 1 1) [d] :=
  ⟨rfl, .inr ⟨_, 1, #[.int .i64 ((pl (d) 0 : Nat) : Int), .int .i64 ((pl (d) 1 : Nat) : Int), .int .i64 ((pl (d) 2 : Nat) : Int), .int .i64 ((pl (d) 3 : Nat) : Int), .int .i64 ((pl (d) 4 : Nat) : Int), .int .i64 ((pl (d) 5 : Nat) : Int)], rfl, Nat.le_refl _, hb_new _ _, Nat.le_refl _, by decide, rfl, rfl⟩⟩
/-- the search in memory, since a world -/
structure Se (ps : List Nat) (b1 b2 b3 S T : Nat) (st : Sr (List Nat)) (wa w : World) : Prop where
  mid : Mid S T wa w
  mp : SrM ps b1 b2 st w
  hd : w.heap[b3]? = some (.cells #[.map (some b1), .map (some b2)] 73)
  l1 : S ≤ b1 ∧ b1 < T
  l2 : S ≤ b2 ∧ b2 < T
  l3 : S ≤ b3 ∧ b3 < T
  n12 : b1 ≠ b2
  n31 : b3 ≠ b1
  n32 : b3 ≠ b2
  le : T ≤ wa.heap.size
section
variable {ps : List Nat} {b1 b2 b3 S T : Nat} {st st' : Sr (List Nat)} {wa w w' : World}
theorem Se.le' (h : Se ps b1 b2 b3 S T st wa w) : T ≤ w.heap.size := Nat.le_trans h.le h.mid.size
theorem Se.grown (h : Se ps b1 b2 b3 S T st wa w) {row : Option Nat} (hg : w.grownBy w' row) (hr : ∀ k, row = some k → wa.heap.size ≤ k) : Se ps b1 b2 b3 S T st wa w' := by
  have hlT := h.le
  have q : ∀ k, k < T → some k ≠ row := fun k hk e => by have := hr k e.symm; omega
  refine ⟨⟨hg.os.trans h.mid.os, hg.tape.trans h.mid.tape, hg.output.trans h.mid.output, Nat.le_trans h.mid.size hg.size, fun k hk hm => ?_⟩, h.mp.grown hg (q _ h.l1.2) (q _ h.l2.2), ?_, h.l1, h.l2, h.l3, h.n12, h.n31, h.n32, h.le⟩
  · rw [hg.block k (Nat.lt_of_lt_of_le hk h.mid.size) (fun e => by have := hr k e.symm; omega)]
    exact h.mid.block k hk hm
  · rw [hg.block b3 (Nat.lt_of_lt_of_le h.l3.2 h.le') (q _ h.l3.2)]
    exact h.hd
theorem Se.below (h : Se ps b1 b2 b3 S T st wa w) (hb : Below w.heap.size w w') : Se ps b1 b2 b3 S T st wa w' := h.grown (grown_any hb none) (fun k e => by cases e)
theorem K2.mid {h1 : S ≤ b1 ∧ b1 < T} {h2 : S ≤ b2 ∧ b2 < T} (hk : K2 b1 b2 w w') : Mid S T w w' := ⟨hk.os, hk.tape, hk.output, hk.size, fun k hl hm => hk.block k hl (by omega) (by omega)⟩
theorem Se.add (h : Se ps b1 b2 b3 S T st wa w) (hk : K2 b1 b2 w w') (hm : SrM ps b1 b2 st' w') : Se ps b1 b2 b3 S T st' wa w' :=
  ⟨h.mid.trans (K2.mid (h1 := h.l1) (h2 := h.l2) hk), hm, by rw [hk.block b3 (Nat.lt_of_lt_of_le h.l3.2 h.le') h.n31 h.n32]; exact h.hd, h.l1, h.l2, h.l3, h.n12, h.n31, h.n32, h.le⟩
theorem Se.base (h : Se ps b1 b2 b3 S T st wa w) : Se ps b1 b2 b3 S T st w w := ⟨Mid.refl _ _ _, h.mp, h.hd, h.l1, h.l2, h.l3, h.n12, h.n31, h.n32, h.le'⟩
theorem Se.trans {st1 : Sr (List Nat)} (h : Se ps b1 b2 b3 S T st1 wa w) (k : Se ps b1 b2 b3 S T st w w') : Se ps b1 b2 b3 S T st wa w' := ⟨h.mid.trans k.mid, k.mp, k.hd, h.l1, h.l2, h.l3, h.n12, h.n31, h.n32, h.le⟩
theorem Se.low (h : Se ps b1 b2 b3 S T st wa w) : Below S wa w := h.mid.below (by have := h.l1; have := h.le; omega)
theorem OwnG.k2 {α : Type} {E : Elt α} {B : Nat} {v : Value} {xs : List α} (h : OwnG E w B v xs) (hs : Se ps b1 b2 b3 S T st wa w) (hk : K2 b1 b2 w w') (hB : T ≤ B) : OwnG E w' B v xs := h.mid (K2.mid (h1 := hs.l1) (h2 := hs.l2) hk) hB
theorem addW_M (M : Nat) (hM : M = 1000000000000001) (bs : List Blk) (t : List Nat) (sl wy : Nat) (hG : GB ps bs) (ht : t ∈ allU ps bs) (hS : SB M (allU ps bs) st) (hm : Se ps b1 b2 b3 S T st wa w) (hsl : sl ≤ 100000) (hwy : wy ≤ M) :
    Calls Try.prog 79 #[.agg #[.map (some b1), .map (some b2)], (.agg #[.int .i64 ((pl (t) 0 : Nat) : Int), .int .i64 ((pl (t) 1 : Nat) : Int), .int .i64 ((pl (t) 2 : Nat) : Int), .int .i64 ((pl (t) 3 : Nat) : Int), .int .i64 ((pl (t) 4 : Nat) : Int), .int .i64 ((pl (t) 5 : Nat) : Int)]), .int .i64 sl, .int .i64 wy] w fun e w' => e = .returned (.bool (st.far t).isNone) ∧ Se ps b1 b2 b3 S T (st.add M sl wy t) wa w' ∧ K2 b1 b2 w w' := by
  subst hM
  refine (addW_any ps bs t b1 b2 sl wy st w hG ht hS hm.mp hm.n12 hsl hwy).mono ?_
  rintro e w' ⟨rfl, h1, h2⟩
  exact ⟨rfl, hm.add h2 h1, h2⟩
theorem Se.look (h : Se ps b1 b2 b3 S T st wa w) {bs : List Blk} (hG : GB ps bs) {d : List Nat} (hd : isSt ps d) {n : Nat} (hf : st.far d = some n) : (Instr.lookup 71 (.map (some b2)) (.agg #[.int .i64 ((pl (d) 0 : Nat) : Int), .int .i64 ((pl (d) 1 : Nat) : Int), .int .i64 ((pl (d) 2 : Nat) : Int), .int .i64 ((pl (d) 3 : Nat) : Int), .int .i64 ((pl (d) 4 : Nat) : Int), .int .i64 ((pl (d) 5 : Nat) : Int)]) false).run Try.prog w = .ok (.int .i64 ((st.way d : Nat) : Int)) w := by
  obtain ⟨D, h1, h2⟩ := h.mp.two
  rw [lkI hG hd h1 h2, wy_some hf]; rfl
theorem se_first {bs : List Blk} (hG : GB ps bs) {d : List Nat} (hd : isSt ps d) (h1 : w.heap[b1]? = some (mOne d 0)) (h2 : w.heap[b2]? = some (mOne d 1)) (h3 : w.heap[b3]? = some (.cells #[.map (some b1), .map (some b2)] 73)) (n12 : b1 ≠ b2) (g1 : S ≤ b1) (g2 : S ≤ b2) (g3 : S ≤ b3) : Se ps b1 b2 b3 S w.heap.size (Sr.one d) w w := by
  refine ⟨Mid.refl _ _ _, ⟨?_, ?_⟩, h3, ⟨g1, hb_lt h1⟩, ⟨g2, hb_lt h2⟩, ⟨g3, hb_lt h3⟩, n12, (fun e => by rw [e, h1] at h3; cases h3), (fun e => by rw [e, h2] at h3; cases h3), Nat.le_refl _⟩
  · exact mapOne hG hd 0 (by omega) h1
  · obtain ⟨D, q1, q2⟩ := mapOne hG hd 1 (by omega) h2
    refine ⟨D, q1, q2.congr fun u => ?_⟩
    unfold wyF Sr.one
    by_cases e : u = d
    · subst e; simp
    · simp only [if_neg e]
end
end Go.Proofs.Ytcfeaaakfjilgaa
