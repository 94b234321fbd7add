/- Boxes of a law: copied, measured, compared, marked, held; a box that came in. -/
import Derived.Test.YtjlecipeoaohiaaX6
import Derived.Lib.SmallJoins
namespace Go.Proofs.Ytjlecipeoaohiaa
open Go Go.RowKit RM
open Go.ChangeShapes Go.WideShapes
/-- the value v is a box whose rules lie in memory of its own, from block B on -/
def OwnX (w : World) (B : Nat) (v : Value) (P S : Int) (rs : List ByteArray) : Prop := ∃ u, v = .agg #[.int .i64 P, .int .i64 S, u] ∧ OwnT w B u rs
def ruV : Value → Value
  | .agg a => a.getD 2 (.bool false)
  | _ => .bool false
theorem OwnX.below {w w' : World} {B : Nat} {v : Value} {P S : Int} {rs : List ByteArray} (h : OwnX w B v P S rs) (hb : Below w.heap.size w w') : OwnX w' B v P S rs := by
  obtain ⟨u, rfl, hu⟩ := h; exact ⟨u, rfl, hu.below hb⟩
theorem OwnX.rd {w : World} {B : Nat} {v : Value} {P S : Int} {rs : List ByteArray} (h : OwnX w B v P S rs) : RdX w v P S rs := by
  obtain ⟨u, rfl, hu⟩ := h; exact ⟨u, rfl, (ownT_G hu).rd⟩
/-- the object that holds a law's box -/
abbrev boxL (P S : Int) (u : Value) : Obj := .cells #[.int .i64 P, .int .i64 S, u] 30
/-- a call hands back a box in memory of its own, and whether it succeeds -/
def RetX (w : World) (P S : Int) (rs : List ByteArray) (ok : Bool) (e : Ending) (w' : World) : Prop := ∃ v, e = .returned (.tuple #[.agg #[.int .i64 P, .int .i64 S, v], .bool ok]) ∧ OwnT w' w.heap.size v rs ∧ Below w.heap.size w w'
theorem toBox_any (P S : Int) (a : Option Addr) (n c : Nat) (rs : List ByteArray) (w : World) (hn : n ≤ 1048576) (hx : rs.length = n) (hA : ArgT w a rs) :
    Calls Try.prog 20 #[.agg #[.int .i64 P, .int .i64 S, .slice a n c]] w fun e w' => ∃ v, e = .returned (.agg #[.int .i64 P, .int .i64 S, v]) ∧ OwnT w' w.heap.size v rs ∧ Below w.heap.size w w' := by
  replace hA := Lib.hid hA
  replace hx := Lib.hid hx
  obtain ⟨w2, hw2⟩ : ∃ w2, Hid (w2 = ((w.alloc (boxL P S (.slice a n c))).alloc (boxO 0 0 (.slice none 0 0))).alloc (boxO P S (.slice none 0 0))) := ⟨_, Lib.hid rfl⟩
  have hb2 : Hid (Below w.heap.size w w2) := Lib.hid (by rw [hw2.out]; exact ((ba1 w _).alloc (by simp) _).alloc (by simp; omega) _)
  have F := Lib.hid (show w2.heap[w.heap.size]? = some (boxL P S (.slice a n c)) by rw [hw2.out]; exact hb_old _ (hb_old _ (hb_new _ _)))
  have R := Lib.hid (show w2.heap[w.heap.size + 1]? = some (boxO 0 0 (.slice none 0 0)) by rw [hw2.out]; exact hb_old _ (hb_new' _ _ _ (by simp)))
  have O := Lib.hid (show w2.heap[w.heap.size + 1 + 1]? = some (boxO P S (.slice none 0 0)) by rw [hw2.out]; exact hb_new' _ _ _ (by simp))
  have hl2 : w.heap.size + 1 + 1 < w2.heap.size := hb_lt O.out
  have HI := Lib.hid (fun w' (hb : Below w.heap.size w w') => toStringS_any a n c rs w' hn hx.out (hA.out.below hb))
  go_enter Try.func20, Try.ntmps20
  go_wp2_with fail
  rw [← hw2.out]
  refine (HI.out _ hb2.out).mono ?_; rintro e w3 ⟨pv, rfl, ho3, hb3⟩
  obtain ⟨p3, c3, rfl⟩ : ∃ p c, pv = .slice p n c := by
    obtain ⟨p, c, e, _⟩ := (ownT_G ho3).rd
    exact ⟨p, c, by rw [e, hx.out]⟩
  replace ho3 := Lib.hid ho3
  replace hb3 := Lib.hid hb3
  have R3 := Lib.hid (hb_below hb3.out (by omega) R.out)
  have O3 := Lib.hid (hb_below hb3.out (by omega) O.out)
  have o0 : w3.cell? ⟨w.heap.size + 1 + 1, 0, none⟩ = some (.int .i64 P) := hb_cell O3.out 0
  have o1 : w3.cell? ⟨w.heap.size + 1 + 1, 1, none⟩ = some (.int .i64 S) := hb_cell O3.out 1
  have o2 : w3.cell? ⟨w.heap.size + 1 + 1, 2, none⟩ = some (.slice none 0 0) := hb_cell O3.out 2
  have r0 : w3.cell? ⟨w.heap.size + 1, 0, none⟩ = some (.int .i64 0) := hb_cell R3.out 0
  have r1 : w3.cell? ⟨w.heap.size + 1, 1, none⟩ = some (.int .i64 0) := hb_cell R3.out 1
  have r2 : w3.cell? ⟨w.heap.size + 1, 2, none⟩ = some (.slice none 0 0) := hb_cell R3.out 2
  have z0 := hb_frozen O3.out
  have z1 := hb_frozen R3.out
  have hl3 : w.heap.size + 1 + 1 < w3.heap.size := hb_lt O3.out
  have hl4 : w.heap.size + 1 < w3.heap.size := by omega
  have hm1 : ¬ w.heap.size + 1 + 1 = w.heap.size + 1 := by omega
  go_wp2_with fail
  refine bodyPost_ret (v := .agg #[.int .i64 P, .int .i64 S, .slice p3 n c3]) ?_ rfl ⟨_, rfl, ?_, ?_⟩
  · simp [results, Try.results20, go_sem, hl3, hl4, r0, r1, r2, hm1]
  · have k : ∀ (W : World) (a : Addr) (u : Value), OwnT W w2.heap.size (.slice p3 n c3) rs → a.block < w2.heap.size → OwnT (W.setCell a u) w2.heap.size (.slice p3 n c3) rs := fun W a u h ha => ownsRow_setCell_below h ha u
    refine OwnT.mono ?_ hb2.out.size
    repeat (first | (with_reducible exact ho3.out) | (with_reducible refine k _ _ _ ?_ ?_; rotate_left; (first | (show w.heap.size + 1 + 1 < _; omega) | (show w.heap.size + 1 < _; omega))))
  · have h0 := bt1 hb2.out hb3.out
    repeat (first | (with_reducible exact h0) | (with_reducible refine Below.setCell ?_ ?_ _; rotate_left; (first | (show w.heap.size ≤ w.heap.size + 1 + 1; omega) | (show w.heap.size ≤ w.heap.size + 1; omega))))
theorem szBox_any (P S : Int) (a : Option Addr) (n c : Nat) (rs : List ByteArray) (w : World) (hn : n ≤ maxLen) (hx : rs.length = n) (hs : ∀ s ∈ rs, s.size ≤ maxLen) (hA : ArgT w a rs) :
    Calls Try.prog 18 #[.agg #[.int .i64 P, .int .i64 S, .slice a n c], .int .i64 1048576] w fun e w' => ∃ r : Int, e = .returned (.int .i64 r) ∧ Below w.heap.size w w' ∧ (0 ≤ r → n ≤ 1048576) := by
  have HZ := Lib.hid (szStringS_any a n c rs (w.alloc (boxL P S (.slice a n c))) hn hx hs (hA.below (ba1 w _)))
  clear hs hx hA
  go_enter Try.func18, Try.ntmps18
  go_wp2_with fail
  refine HZ.out.mono ?_; rintro e w3 ⟨r, rfl, rfl, hr⟩
  by_cases hneg : r < 0
  · go_wp2_with fail
    go_ret; exact ⟨-1, rfl, ba1 w _, fun h => by omega⟩
  · replace hr := Lib.hid hr
    go_wp2_with fail
    go_ret; exact ⟨r, rfl, ba1 w _, hr.out⟩
theorem eqBox_same (v v' : Value) (P S : Int) (rs : List ByteArray) (A B : Nat) (w : World) (h : OwnX w A v P S rs) (h' : OwnX w B v' P S rs) :
    Calls Try.prog 15 #[v, v'] w fun e w' => e = .returned (.bool true) ∧ Below w.heap.size w w' := by
  obtain ⟨u, rfl, h1⟩ := h
  obtain ⟨u', rfl, h2⟩ := h'
  have eP : (P != P) = false := by simp
  have eS : (S != S) = false := by simp
  obtain ⟨w2, hw2⟩ : ∃ w2, Hid (w2 = (w.alloc (boxO P S u)).alloc (boxO P S u')) := ⟨_, Lib.hid rfl⟩
  have hb2 : Hid (Below w.heap.size w w2) := Lib.hid (by rw [hw2.out]; exact (ba1 w _).alloc (by simp) _)
  have HQ := Lib.hid (eqStringS_same u u' rs A B w2 (h1.below hb2.out) (h2.below hb2.out))
  clear h1 h2
  go_enter Try.func15, Try.ntmps15
  go_wp2_with fail
  rw [← hw2.out]
  refine HQ.out.mono ?_; rintro e w3 ⟨rfl, q, rfl⟩
  go_wp2_with fail
  go_ret; exact ⟨rfl, below_drewN hb2.out q⟩
theorem markBox_any (P S : Int) (u : Value) (rs : List ByteArray) (B : Nat) (w : World) (hn : rs.length ≤ 2000000) (h : OwnT w B u rs) :
    Calls Try.prog 16 #[.agg #[.int .i64 P, .int .i64 S, u], .int .i64 1] w fun e w' => e = .returned (.int .i64 (1 + (rs.length : Int))) ∧ OwnT w' B u (marksT rs.length) ∧ w.grownBy w' u.ownBlock := by
  have HM := Lib.hid (markStringS_any u rs B (w.alloc (boxO P S u)) hn (h.alloc _))
  clear h
  go_enter Try.func16, Try.ntmps16
  go_wp2_with fail
  refine HM.out.mono ?_; rintro e w3 ⟨rfl, ho, hg⟩
  go_wp2_with fail
  go_ret; exact ⟨rfl, ho, Lib.grownBy_trans (grown_any (ba1 w _) _) hg⟩
theorem heldBox_any (P S : Int) (u : Value) (n B : Nat) (w : World) (hn : n ≤ 2000000) (h : OwnT w B u (marksT n)) :
    Calls Try.prog 17 #[.agg #[.int .i64 P, .int .i64 S, u], .int .i64 1] w fun e w' => e = .returned (.int .i64 (1 + (n : Int))) ∧ Below w.heap.size w w' := by
  have HM := Lib.hid (heldStringS_any u n B (w.alloc (boxO P S u)) hn (h.alloc _))
  have hneg : ¬ 1 + (n : Int) < 0 := by omega
  clear h
  go_enter Try.func17, Try.ntmps17
  go_wp2_with fail
  refine HM.out.mono ?_; rintro e w3 ⟨rfl, hb⟩
  go_wp2_with fail
  go_ret; exact ⟨rfl, bt1 (ba1 w _) hb⟩
section
variable {H : Type} {enc : TypeId × Value → H} {W : World} {base : Nat} {sp : Nat → Bool} {held : Bool}
theorem open_texts_core {fuel : Nat} {cs : List Value} {x : DataW H × List MemPlace} (h : DataW.trod enc Try.prog W 0 (fun _ => true) held fuel 22 cs = some x) :
    ∃ a n c ss, cs = [.slice a n c] ∧ n ≤ maxLen ∧ ss.length = n ∧ ArgT W a ss ∧ ∀ s ∈ ss, s.size ≤ maxLen := by
  rcases open_strings Try.underlying22 Try.underlying9 (by kernel_rfl) h with ⟨rfl, _⟩ | ⟨x, l, c', zs, rfl, _, hl, hm, hz, _, hcell, hwz⟩
  · exact ⟨none, 0, 0, [], rfl, Nat.zero_le _, rfl, .inl rfl, fun s hs => by cases hs⟩
  · have hz' : zs.length = c' := by simpa using hz
    refine ⟨some x, l, c', zs.take l, rfl, by omega, by rw [List.length_take]; omega, ?_, fun s hs => hwz s (List.mem_of_mem_take hs)⟩
    by_cases h0 : 0 < zs.length
    · obtain ⟨b, off, rfl, hc2⟩ := strs_at hcell h0
      right
      refine ⟨b, off, rfl, block_lt (hc2 0 h0), fun i hi => ?_⟩
      have hi2 : i < zs.length := by rw [List.length_take] at hi; omega
      rw [hc2 i hi2]
      simp [List.getD, List.getElem?_eq_getElem hi2]
    · left
      have : zs = [] := List.length_eq_zero_iff.1 (by omega)
      rw [this]; simp
set_option maxRecDepth 100000 in
theorem open_box {r : Reach} {b0 : Nat} {v : Value} {d : DataW H} {p : List MemPlace} (hv : Value.okWide Try.prog W r b0 30 v) (h : DataW.Trod enc Try.prog W 0 (fun _ => true) held 30 v d p) :
    ∃ P S a n c ss, v = .agg #[.int .i64 P, .int .i64 S, .slice a n c] ∧ (Lit.int .i64 P).wf = true ∧ (Lit.int .i64 S).wf = true ∧ n ≤ maxLen ∧ ss.length = n ∧ ArgT W a ss ∧ ∀ s ∈ ss, s.size ≤ maxLen := by
  obtain ⟨c0, c1, c2, y0, y1, y2, k, rfl, _, _, h0, h1, h2⟩ := Go.Joins.open_agg3 Try.underlying30 (by kernel_rfl) (by kernel_rfl) hv h
  obtain ⟨n0, q0, _, w0⟩ := DataW.trod_int Try.underlying3 h0
  obtain ⟨n1, q1, _, w1⟩ := DataW.trod_int Try.underlying3 h1
  obtain ⟨a, n, c, ss, q2, hn, hl, hA, hs⟩ := open_texts_core h2
  simp at q0 q1 q2
  subst q0 q1 q2
  exact ⟨n0, n1, a, n, c, ss, rfl, w0, w1, hn, hl, hA, hs⟩
end
end Go.Proofs.Ytjlecipeoaohiaa
