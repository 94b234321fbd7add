/- A rule of a box, by the program. -/
import Derived.Test.YtjlecipeoaohiaaX9
namespace Go.Proofs.Ytjlecipeoaohiaa
open Go Go.RowKit RM
/-- a box in memory and a text of its rules -/
abbrev X1 (f g k B : Nat) (P S : Int) (u : Value) (r : ByteArray) (W w : World) : Prop :=
  (w.cell? ⟨f, 0, none⟩ = some (.int .i64 P) ∧ w.cell? ⟨f, 1, none⟩ = some (.int .i64 S) ∧ w.cell? ⟨f, 2, none⟩ = some u) ∧
  w.cell? ⟨g, k, none⟩ = some (.string r) ∧ f < w.heap.size ∧ g < w.heap.size ∧ Below B W w
theorem keepX1 {f g k B : Nat} {P S : Int} {u : Value} {r : ByteArray} {W a b : World} (hB : B ≤ a.heap.size) (kk : Below a.heap.size a b) (h : X1 f g k B P S u r W a) : X1 f g k B P S u r W b := by
  obtain ⟨⟨a0, a1, a2⟩, b0, hx, hf, hb⟩ := h
  have e : ∀ g o, g < a.heap.size → b.cell? ⟨g, o, none⟩ = a.cell? ⟨g, o, none⟩ := fun g o hg => kk.cell (p := ⟨g, o, none⟩) hg
  exact ⟨⟨by rw [e _ _ hx]; exact a0, by rw [e _ _ hx]; exact a1, by rw [e _ _ hx]; exact a2⟩, by rw [e _ _ hf]; exact b0, Nat.lt_of_lt_of_le hx kk.size, Nat.lt_of_lt_of_le hf kk.size, hb.trans (kk.mono hB)⟩
theorem keepX1F {f g k B : Nat} {P S : Int} {u : Value} {r : ByteArray} {W w : World} (h : X1 f g k B P S u r W w) : Below B W w := h.2.2.2.2
theorem keepX1l {f g k : Nat} {P S : Int} {u : Value} {r : ByteArray} {W w : World} (h : X1 f g k W.heap.size P S u r W w) : W.heap.size ≤ w.heap.size := h.2.2.2.2.size
set_option maxRecDepth 100000 in
theorem rule_any (p s i j : Nat) (rs : List ByteArray) (v : Value) (w : World) (h3 : 2 ≤ s) (h4 : s ≤ 5) (hp : p ≤ 6) (hi : i < p) (hj : j + 1 < s) (hlen : rs.length = p * (s - 1)) (h : RdX w v p s rs) :
    Calls Try.prog 77 #[v, .int .i64 i, .int .i64 j] w fun e w' => e = .returned (.string (rs.getD (i * (s - 1) + j) ⟨#[]⟩)) ∧ Below w.heap.size w w' := by
  have hix := idx_lt hi hj
  have h24 := mul24 (p := p) (s := s) hp h4
  obtain ⟨u, rfl, pp, c, rfl, hmx, hr⟩ := h
  have hkx : i * (s - 1) + j < rs.length := by omega
  rw [getD_at rs _ _ hkx]
  have hR := Lib.hid (fun w u => ruleIx_any p s i j u w h3 h4 hp hi hj)
  obtain ⟨g, rfl, hgl, hc⟩ := hr.tx hkx
  have hgr : Hid (rs.length ≤ 24) := Lib.hid (by omega)
  generalize rs[i * (s - 1) + j] = r at *
  obtain ⟨n, hn⟩ : ∃ n, rs.length = n := ⟨_, rfl⟩
  have hkn : i * (s - 1) + j < n := by omega
  have hn24 : n ≤ 24 := by rw [← hn]; exact hgr.out
  rw [hn]
  clear hr hix hlen hkx hgr hmx
  generalize i * (s - 1) + j = k at *
  have hk0 : (0 : Int) ≤ (k : Int) := by omega
  have hk1 : (k : Int) < (n : Int) := by omega
  have hk2 : ¬ (k : Int) < 0 := by omega
  obtain ⟨w1, hw1⟩ : ∃ w1, Hid (w1 = w.alloc (boxO p s (.slice (some ⟨g, 0, none⟩) n c))) := ⟨_, Lib.hid rfl⟩
  have hb1 : Hid (Below w.heap.size w w1) := Lib.hid (by rw [hw1.out]; exact ba1 w _)
  have F1 := Lib.hid (show w1.heap[w.heap.size]? = some (boxO p s (.slice (some ⟨g, 0, none⟩) n c)) by rw [hw1.out]; exact hb_new _ _)
  have f0 : w1.cell? ⟨w.heap.size, 0, none⟩ = some (.int .i64 p) := hb_cell F1.out 0
  have f1 : w1.cell? ⟨w.heap.size, 1, none⟩ = some (.int .i64 s) := hb_cell F1.out 1
  have f2 : w1.cell? ⟨w.heap.size, 2, none⟩ = some (.slice (some ⟨g, 0, none⟩) n c) := hb_cell F1.out 2
  have l1 := hb_lt F1.out
  have hc1 : w1.cell? ⟨g, k, none⟩ = some (.string r) := by rw [hb1.out.cell (p := ⟨g, k, none⟩) hgl]; exact hc
  have hg1 : g < w1.heap.size := by omega
  clear hc hn
  go_enter Try.func77, Try.ntmps77
  go_upto_region 1 with fail
  rw [← hw1.out]
  have hrf : X1 w.heap.size g k w1.heap.size p s (.slice (some ⟨g, 0, none⟩) n c) r w1 w1 := ⟨⟨f0, f1, f2⟩, hc1, l1, hg1, Below.refl _ _⟩
  go_region_held3 (fun v => X1 w.heap.size g k w1.heap.size p s (.slice (some ⟨g, 0, none⟩) n c) r w1 v) ((first | assumption | (refine ⟨⟨?_, ?_, ?_⟩, ?_, ?_, ?_, ?_⟩ <;> first | assumption | go_keep | omega | exact (Below.refl _ _).drew)))
    (first | (go_at_call 47; with_reducible refine (hR.out _ _).mono ?_; rintro e w' ⟨rfl, hb9⟩; have hbn := keepX1 (keepX1l (by assumption)) hb9 (by assumption)))
  all_goals
    have hfin := keepX1F (by assumption)
    go_wp2_with fail
    go_ret; exact ⟨rfl, bt1 hb1.out hfin⟩
end Go.Proofs.Ytjlecipeoaohiaa
