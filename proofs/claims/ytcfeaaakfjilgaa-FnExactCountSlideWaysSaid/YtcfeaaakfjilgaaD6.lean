/- Bolts, blocks and slides that came in: what a walk is told of them. -/
import Derived.Test.YtcfeaaakfjilgaaD5
import Derived.Lib.SmallJoins
namespace Go.Proofs.Ytcfeaaakfjilgaa
open Go Go.RowKit RM
open Go.ChangeShapes Go.WideShapes
section
variable {H : Type} {enc : TypeId × Value → H} {W : World} {base : Nat} {sp : Nat → Bool} {held : Bool}
theorem add_off (b off i : Nat) : (⟨b, off, none⟩ : Addr).add i = ⟨b, off + i, none⟩ := by unfold Addr.add; split <;> simp_all

set_option maxRecDepth 100000 in
theorem open_blks {fuel : Nat} {cs : List Value} {x : DataW H × List MemPlace} (h : DataW.trod enc Try.prog W 0 (fun _ => true) held fuel 23 cs = some x) :
    ∃ a m c bs, cs = [.slice a m c] ∧ m ≤ maxLen ∧ bs.length = m ∧ ArgK W a bs := by
  rcases Go.Deep.open_slice Try.underlying23 h with ⟨rfl, _⟩ | ⟨a, len, cap, m, n, D, Pl, rfl, hb, hl, hm, hmm, hx, hel⟩
  · exact ⟨none, 0, 0, [], rfl, Nat.zero_le _, rfl, .inl rfl⟩
  · have hmc : m = cap := by simpa using hmm
    have key : ∀ i, i < len → ∃ k : Blk, W.cell? ((a.add (i * 4)).add 0) = some (.int .i64 k.a) ∧ W.cell? ((a.add (i * 4)).add 1) = some (.int .i64 k.i) ∧ W.cell? ((a.add (i * 4)).add 2) = some (.int .i64 k.b) ∧ W.cell? ((a.add (i * 4)).add 3) = some (.int .i64 k.j) := by
      intro i hi
      obtain ⟨cs', h1, h2⟩ := hel i (by omega)
      have e4 : Try.prog.cellsOf 48 = 4 := by kernel_rfl
      have e1 : Try.prog.cellsOf 3 = 1 := by kernel_rfl
      rw [e4] at h1
      obtain ⟨_, hlen, hc⟩ := World.cells?_some h1
      obtain ⟨y0, y1, y2, y3, n', _, _, t0, t1, t2, t3⟩ := Go.Joins.trod_struct4 Try.underlying48 h2
      match cs', hlen with
      | [v0, v1, v2, v3], _ =>
        simp only [e1] at t0 t1 t2 t3
        obtain ⟨n0, q0, _, _⟩ := DataW.trod_int Try.underlying3 t0
        obtain ⟨n1, q1, _, _⟩ := DataW.trod_int Try.underlying3 t1
        obtain ⟨n2, q2, _, _⟩ := DataW.trod_int Try.underlying3 t2
        obtain ⟨n3, q3, _, _⟩ := DataW.trod_int Try.underlying3 t3
        simp at q0 q1 q2 q3
        subst q0 q1 q2 q3
        exact ⟨⟨n0, n1, n2, n3⟩, hc 0 (by omega), hc 1 (by omega), hc 2 (by omega), hc 3 (by omega)⟩
    obtain ⟨f, hf⟩ := Go.Deep.choose_lt (α := Option Blk) (p := fun i k => ∃ q, k = some q ∧ W.cell? ((a.add (i * 4)).add 0) = some (.int .i64 q.a) ∧ W.cell? ((a.add (i * 4)).add 1) = some (.int .i64 q.i) ∧ W.cell? ((a.add (i * 4)).add 2) = some (.int .i64 q.b) ∧ W.cell? ((a.add (i * 4)).add 3) = some (.int .i64 q.j)) (fun i hi => by
      obtain ⟨k, hk⟩ := key i hi
      exact ⟨some k, k, rfl, hk⟩)
    refine ⟨some a, len, cap, (List.range len).map (fun i => (f i).getD ⟨0, 0, 0, 0⟩), rfl, by omega, by simp, ?_⟩
    by_cases h0 : len = 0
    · left; subst h0; rfl
    · right
      obtain ⟨b, off, spot⟩ := a
      have hspot : spot = none := by
        obtain ⟨q, _, h0, _⟩ := hf 0 (by omega)
        simpa [Addr.add] using World.cell?_spot h0
      subst hspot
      refine ⟨b, off, rfl, ?_, fun i hi => ?_⟩
      · obtain ⟨q, _, h0, _⟩ := hf 0 (by omega)
        simp only [add_off] at h0
        exact block_lt h0
      · have hi' : i < len := by simpa using hi
        obtain ⟨q, hq, h0, h1, h2, h3⟩ := hf i hi'
        simp only [add_off] at h0 h1 h2 h3
        simp only [List.getElem_map, List.getElem_range, hq, Option.getD_some]
        exact ⟨h0, h1, h2, h3⟩

set_option maxRecDepth 100000 in
theorem open_bolts {r : Reach} {b0 : Nat} {v : Value} {d : DataW H} {p : List MemPlace} (hv : Value.okWide Try.prog W r b0 25 v) (h : DataW.Trod enc Try.prog W 0 (fun _ => true) held 25 v d p) :
    ∃ a1 n c a2 m c2 ps bs, v = .agg #[.slice a1 n c, .slice a2 m c2] ∧ n ≤ maxLen ∧ m ≤ maxLen ∧ ps.length = n ∧ bs.length = m ∧ ArgI W a1 ps ∧ ArgK W a2 bs := by
  obtain ⟨c0, c1, y0, y1, k, rfl, _, _, h0, h1⟩ := Go.Joins.open_agg2 Try.underlying25 (by kernel_rfl) (by kernel_rfl) hv h
  obtain ⟨a2, m, c2, bs, e2, hm, hbl, hK⟩ := open_blks h1
  have e2' : c1 = .slice a2 m c2 := by simpa using e2
  subst e2'
  rcases open_ints Try.underlying22 Try.underlying3 (by kernel_rfl) h0 with ⟨hcs, _⟩ | ⟨x, l, c, zs, hcs, _, hl, hmx, hz, _, hcell, hwz⟩
  · have e : c0 = .slice none 0 0 := by simpa using hcs
    subst e
    exact ⟨none, 0, 0, a2, m, c2, [], bs, rfl, Nat.zero_le _, hm, rfl, hbl, .inl rfl, hK⟩
  · have e : c0 = .slice (some x) l c := by simpa using hcs
    subst e
    have hR : IsRow .i64 W (some x) l c zs := .inr ⟨_, rfl, hl, hmx, by simpa using hz, hcell, hwz⟩
    obtain ⟨g1, g2, _⟩ := hR.arg
    exact ⟨some x, l, c, a2, m, c2, zs.take l, bs, rfl, by omega, hm, g2, hbl, g1, hK⟩
end
end Go.Proofs.Ytcfeaaakfjilgaa
