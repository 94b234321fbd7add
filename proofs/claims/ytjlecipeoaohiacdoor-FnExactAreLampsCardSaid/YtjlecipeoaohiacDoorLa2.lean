/- Lamps of a law: copied, measured; lamps that came in; what a law keeps behind its calls. -/
import Derived.Test.YtjlecipeoaohiacDoorLa1
namespace Go.Proofs.YtjlecipeoaohiacDoor
open Go Go.RowKit RM
open Go.ChangeShapes Go.WideShapes
/-- a value that reads as lamps -/
def RdY (w : World) (v : Value) (rs : List ByteArray) : Prop := ∃ u, v = .agg #[u] ∧ RdT w u rs
theorem RdY.below {w w' : World} {v : Value} {rs : List ByteArray} (h : RdY w v rs) (hb : Below w.heap.size w w') : RdY w' v rs := by
  obtain ⟨u, rfl, hu⟩ := h; exact ⟨u, rfl, hu.below hb⟩
theorem OwnY.rd {w : World} {B : Nat} {v : Value} {rs : List ByteArray} (h : OwnY w B v rs) : RdY w v rs := by
  obtain ⟨u, rfl, hu⟩ := h; exact ⟨u, rfl, (ownT_G hu).rd⟩
/-- the object that holds a law's lamps -/
abbrev lampL (u : Value) : Obj := .cells #[u] 24
theorem toLamps_any (a : Option Addr) (n c : Nat) (rs : List ByteArray) (w : World) (hn : n ≤ 1048576) (hx : rs.length = n) (hA : ArgT w a rs) :
    Calls Tryd.prog 13 #[.agg #[.slice a n c]] w fun e w' => ∃ v, e = .returned (.agg #[v]) ∧ OwnT w' w.heap.size v rs ∧ Below w.heap.size w w' := by
  replace hA := Lib.hid hA
  replace hx := Lib.hid hx
  obtain ⟨w2, hw2⟩ : ∃ w2, Hid (w2 = ((w.alloc (lampL (.slice a n c))).alloc (lampO (.slice none 0 0))).alloc (lampO (.slice none 0 0))) := ⟨_, Lib.hid rfl⟩
  have hb2 : Hid (Below w.heap.size w w2) := Lib.hid (by rw [hw2.out]; exact ((ba1 w _).alloc (by simp) _).alloc (by simp; omega) _)
  have F := Lib.hid (show w2.heap[w.heap.size]? = some (lampL (.slice a n c)) by rw [hw2.out]; exact hb_old _ (hb_old _ (hb_new _ _)))
  have R := Lib.hid (show w2.heap[w.heap.size + 1]? = some (lampO (.slice none 0 0)) by rw [hw2.out]; exact hb_old _ (hb_new' _ _ _ (by simp)))
  have O := Lib.hid (show w2.heap[w.heap.size + 1 + 1]? = some (lampO (.slice none 0 0)) by rw [hw2.out]; exact hb_new' _ _ _ (by simp))
  have hl2 : w.heap.size + 1 + 1 < w2.heap.size := hb_lt O.out
  have HI := Lib.hid (fun w' (hb : Below w.heap.size w w') => toStringS_any a n c rs w' hn hx.out (hA.out.below hb))
  go_enter Tryd.func13, Tryd.ntmps13
  go_wp2_with fail
  rw [← hw2.out]
  refine (HI.out _ hb2.out).mono ?_; rintro e w3 ⟨pv, rfl, ho3, hb3⟩
  obtain ⟨p3, c3, rfl⟩ : ∃ p c, pv = .slice p n c := by
    obtain ⟨p, c, e, _⟩ := (ownT_G ho3).rd
    exact ⟨p, c, by rw [e, hx.out]⟩
  replace ho3 := Lib.hid ho3
  replace hb3 := Lib.hid hb3
  have R3 := Lib.hid (hb_below hb3.out (by omega) R.out)
  have O3 := Lib.hid (hb_below hb3.out (by omega) O.out)
  have o0 : w3.cell? ⟨w.heap.size + 1 + 1, 0, none⟩ = some (.slice none 0 0) := hb_cell O3.out 0
  have r0 : w3.cell? ⟨w.heap.size + 1, 0, none⟩ = some (.slice none 0 0) := hb_cell R3.out 0
  have z0 := hb_frozen O3.out
  have z1 := hb_frozen R3.out
  have hl3 : w.heap.size + 1 + 1 < w3.heap.size := hb_lt O3.out
  have hl4 : w.heap.size + 1 < w3.heap.size := by omega
  have hm1 : ¬ w.heap.size + 1 + 1 = w.heap.size + 1 := by omega
  go_wp2_with fail
  refine bodyPost_ret (v := .agg #[.slice p3 n c3]) ?_ rfl ⟨_, rfl, ?_, ?_⟩
  · simp [results, Tryd.results13, go_sem, hl3, hl4, r0, hm1]
  · have k : ∀ (W : World) (a : Addr) (u : Value), OwnT W w2.heap.size (.slice p3 n c3) rs → a.block < w2.heap.size → OwnT (W.setCell a u) w2.heap.size (.slice p3 n c3) rs := fun W a u h ha => ownsRow_setCell_below h ha u
    refine OwnT.mono ?_ hb2.out.size
    repeat (first | (with_reducible exact ho3.out) | (with_reducible refine k _ _ _ ?_ ?_; rotate_left; (first | (show w.heap.size + 1 + 1 < _; omega) | (show w.heap.size + 1 < _; omega))))
  · have h0 := bt1 hb2.out hb3.out
    repeat (first | (with_reducible exact h0) | (with_reducible refine Below.setCell ?_ ?_ _; rotate_left; (first | (show w.heap.size ≤ w.heap.size + 1 + 1; omega) | (show w.heap.size ≤ w.heap.size + 1; omega))))
theorem szLamps_any (a : Option Addr) (n c : Nat) (rs : List ByteArray) (w : World) (hn : n ≤ maxLen) (hx : rs.length = n) (hs : ∀ s ∈ rs, s.size ≤ maxLen) (hA : ArgT w a rs) :
    Calls Tryd.prog 11 #[.agg #[.slice a n c], .int .i64 1048576] w fun e w' => ∃ r : Int, e = .returned (.int .i64 r) ∧ Below w.heap.size w w' ∧ (0 ≤ r → n ≤ 1048576) := by
  have HZ := Lib.hid (szStringS_any a n c rs (w.alloc (lampL (.slice a n c))) hn hx hs (hA.below (ba1 w _)))
  clear hs hx hA
  go_enter Tryd.func11, Tryd.ntmps11
  go_wp2_with fail
  refine HZ.out.mono ?_; rintro e w3 ⟨r, rfl, rfl, hr⟩
  by_cases hneg : r < 0
  · go_wp2_with fail
    go_ret; exact ⟨-1, rfl, ba1 w _, fun h => by omega⟩
  · replace hr := Lib.hid hr
    go_wp2_with fail
    go_ret; exact ⟨r, rfl, ba1 w _, hr.out⟩
/-- two values of lamps in memory, a law's and a program's -/
abbrev Y2 (x f B : Nat) (u v : Value) (W w : World) : Prop := w.cell? ⟨x, 0, none⟩ = some u ∧ w.cell? ⟨f, 0, none⟩ = some v ∧ x < w.heap.size ∧ f < w.heap.size ∧ Below B W w
theorem keepL {x f B : Nat} {u v : Value} {W a b : World} (hB : B ≤ a.heap.size) (k : Below a.heap.size a b) (h : Y2 x f B u v W a) : Y2 x f B u v W b := by
  obtain ⟨a0, b0, hx, hf, hb⟩ := h
  have e : ∀ g o, g < a.heap.size → b.cell? ⟨g, o, none⟩ = a.cell? ⟨g, o, none⟩ := fun g o hg => k.cell (p := ⟨g, o, none⟩) hg
  exact ⟨by rw [e _ _ hx]; exact a0, by rw [e _ _ hf]; exact b0, Nat.lt_of_lt_of_le hx k.size, Nat.lt_of_lt_of_le hf k.size, hb.trans (k.mono hB)⟩
theorem keepLF {x f B : Nat} {u v : Value} {W w : World} (h : Y2 x f B u v W w) : Below B W w := h.2.2.2.2
theorem keepLl {x f : Nat} {u v : Value} {W w : World} (h : Y2 x f W.heap.size u v W w) : W.heap.size ≤ w.heap.size := h.2.2.2.2.size
section
variable {H : Type} {enc : TypeId × Value → H} {W : World} {base : Nat} {sp : Nat → Bool} {held : Bool}
theorem open_texts_core {fuel : Nat} {cs : List Value} {x : DataW H × List MemPlace} (h : DataW.trod enc Tryd.prog W 0 (fun _ => true) held fuel 22 cs = some x) :
    ∃ a n c ss, cs = [.slice a n c] ∧ n ≤ maxLen ∧ ss.length = n ∧ ArgT W a ss ∧ ∀ s ∈ ss, s.size ≤ maxLen := by
  rcases open_strings Tryd.underlying22 Tryd.underlying9 (by kernel_rfl) h with ⟨rfl, _⟩ | ⟨x, l, c', zs, rfl, _, hl, hm, hz, _, hcell, hwz⟩
  · exact ⟨none, 0, 0, [], rfl, Nat.zero_le _, rfl, .inl rfl, fun s hs => by cases hs⟩
  · have hz' : zs.length = c' := by simpa using hz
    refine ⟨some x, l, c', zs.take l, rfl, by omega, by rw [List.length_take]; omega, ?_, fun s hs => hwz s (List.mem_of_mem_take hs)⟩
    by_cases h0 : 0 < zs.length
    · obtain ⟨b, off, rfl, hc2⟩ := strs_at hcell h0
      right
      refine ⟨b, off, rfl, block_lt (hc2 0 h0), fun i hi => ?_⟩
      have hi2 : i < zs.length := by rw [List.length_take] at hi; omega
      rw [hc2 i hi2]
      simp [List.getD, List.getElem?_eq_getElem hi2]
    · left
      have : zs = [] := List.length_eq_zero_iff.1 (by omega)
      rw [this]; simp
theorem one_cell_array {α : Type} {cs : Array α} (h : cs.size = 1) : ∃ c0, cs = #[c0] := by
  obtain ⟨l⟩ := cs
  match l, h with
  | [c0], _ => exact ⟨c0, rfl⟩
set_option maxRecDepth 100000 in
theorem open_lamps {r : Reach} {b0 : Nat} {v : Value} {d : DataW H} {p : List MemPlace} (hv : Value.okWide Tryd.prog W r b0 24 v) (h : DataW.Trod enc Tryd.prog W 0 (fun _ => true) held 24 v d p) :
    ∃ a n c ss, v = .agg #[.slice a n c] ∧ n ≤ maxLen ∧ ss.length = n ∧ ArgT W a ss ∧ ∀ s ∈ ss, s.size ≤ maxLen := by
  obtain ⟨cs, rfl, hsz⟩ := okWide_struct Tryd.underlying24 hv
  obtain ⟨c0, rfl⟩ := one_cell_array (hsz.trans (by kernel_rfl))
  obtain ⟨fuel, hf⟩ := h
  obtain ⟨xs, n, _, -, hl, hlen, hf⟩ := DataW.trod_struct Tryd.underlying24 hf
  match xs, hlen with
  | [y0], _ =>
    have h0 := hf 0 _ rfl
    have hc : Tryd.prog.cellsOf 22 = 1 := by kernel_rfl
    have h1 : DataW.trod enc Tryd.prog W 0 (fun _ => true) held n 22 [c0] = some y0 := by simpa [Value.cells, hc] using h0
    obtain ⟨a, m, c, ss, q2, hn, hlm, hA, hs⟩ := open_texts_core h1
    simp at q2
    subst q2
    exact ⟨a, m, c, ss, rfl, hn, hlm, hA, hs⟩
end
end Go.Proofs.YtjlecipeoaohiacDoor
