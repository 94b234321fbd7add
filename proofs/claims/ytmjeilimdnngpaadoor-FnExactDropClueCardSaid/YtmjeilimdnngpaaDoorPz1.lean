/- Clues and puzzles of a law: rows of clues, copied, measured, compared, marked, held; puzzles that came in. -/
import Derived.Test.YtmjeilimdnngpaaDoorV0
import Derived.Deep.RegionHeld3
import Derived.BigRegion
import Derived.Lib.SmallJoins
namespace Go.Proofs.YtmjeilimdnngpaaDoor
open Go Go.RowKit RM
open Go.ChangeShapes Go.WideShapes
structure Clu where
  k : Int
  a : Int
  b : Int

/-- clues as elements of a row -/
def cluE : Elt Clu where
  e := 44
  n := 3
  bytes := 24
  z := .agg #[.int .i64 0, .int .i64 0, .int .i64 0]
  d := ⟨0, 0, 0⟩
  cells c := [.int .i64 c.k, .int .i64 c.a, .int .i64 c.b]
  len _ := rfl
  one x u hu := by simp at hu; rcases hu with rfl | rfl | rfl <;> rfl
  pos := by decide
  zs := rfl
  info := by kernel_rfl
  small := by decide
abbrev cluV (c : Clu) : Value := .agg #[.int .i64 c.k, .int .i64 c.a, .int .i64 c.b]
theorem clu_cells {w : World} {g : Nat} {cs : List Clu} (h : ∀ k (hk : k < cs.length) o, o < cluE.n → w.cell? ⟨g, k * cluE.n + o, none⟩ = (cluE.cells cs[k])[o]?) (k : Nat) (hk : k < cs.length) :
    w.cell? ⟨g, k * 3, none⟩ = some (.int .i64 cs[k].k) ∧ w.cell? ⟨g, k * 3 + 1, none⟩ = some (.int .i64 cs[k].a) ∧ w.cell? ⟨g, k * 3 + 2, none⟩ = some (.int .i64 cs[k].b) :=
  ⟨h k hk 0 (by decide), h k hk 1 (by decide), h k hk 2 (by decide)⟩
theorem RG.clu {w : World} {p : Option Addr} {cs : List Clu} (h : RG cluE w p cs) {k : Nat} (hk : k < cs.length) : ∃ g, p = some ⟨g, 0, none⟩ ∧ g < w.heap.size ∧
    w.cell? ⟨g, k * 3, none⟩ = some (.int .i64 cs[k].k) ∧ w.cell? ⟨g, k * 3 + 1, none⟩ = some (.int .i64 cs[k].a) ∧ w.cell? ⟨g, k * 3 + 2, none⟩ = some (.int .i64 cs[k].b) := by
  obtain ⟨g, rfl, hl, hc⟩ := h (fun e => by rw [e] at hk; simp at hk)
  exact ⟨g, rfl, hl, clu_cells hc k hk⟩
/-- the clues that came in -/
def ArgC (w : World) (a : Option Addr) (cs : List Clu) : Prop :=
  cs = [] ∨ ∃ b off, a = some ⟨b, off, none⟩ ∧ b < w.heap.size ∧ ∀ i (h : i < cs.length), w.cell? ⟨b, off + i * 3, none⟩ = some (.int .i64 cs[i].k) ∧ w.cell? ⟨b, off + i * 3 + 1, none⟩ = some (.int .i64 cs[i].a) ∧ w.cell? ⟨b, off + i * 3 + 2, none⟩ = some (.int .i64 cs[i].b)
theorem ArgC.below {w w' : World} {a : Option Addr} {cs : List Clu} (h : ArgC w a cs) (hb : Below w.heap.size w w') : ArgC w' a cs := by
  rcases h with h | ⟨b, off, e, hl, hc⟩
  · exact .inl h
  · refine .inr ⟨b, off, e, Nat.lt_of_lt_of_le hl hb.size, fun i hi => ?_⟩
    obtain ⟨h0, h1, h2⟩ := hc i hi
    exact ⟨by rw [hb.cell (p := ⟨b, off + i * 3, none⟩) hl]; exact h0, by rw [hb.cell (p := ⟨b, off + i * 3 + 1, none⟩) hl]; exact h1, by rw [hb.cell (p := ⟨b, off + i * 3 + 2, none⟩) hl]; exact h2⟩
/-- a clue stored whole -/
theorem OwnG.cluStored {w : World} {B g n cap : Nat} {xs : List Clu} (h : OwnG cluE w B (.slice (some ⟨g, 0, none⟩) n cap) xs) (hn : n = xs.length) (k : Nat) (hk : k < xs.length) (a i b : Int) :
    OwnG cluE (((w.setCell ⟨g, k * 3, none⟩ (.int .i64 a)).setCell ⟨g, k * 3 + 1, none⟩ (.int .i64 i)).setCell ⟨g, k * 3 + 2, none⟩ (.int .i64 b)) B (.slice (some ⟨g, 0, none⟩) n cap) (xs.set k ⟨a, i, b⟩) ∧
    w.grownBy (((w.setCell ⟨g, k * 3, none⟩ (.int .i64 a)).setCell ⟨g, k * 3 + 1, none⟩ (.int .i64 i)).setCell ⟨g, k * 3 + 2, none⟩ (.int .i64 b)) (some g) := by
  obtain ⟨y, hy⟩ : ∃ y, y = xs[k] := ⟨_, rfl⟩
  obtain ⟨s0, g0⟩ := h.stored hn k hk 0 (by decide) (.int .i64 a) ⟨a, y.a, y.b⟩ (by rw [← hy]; rfl)
  obtain ⟨s1, g1⟩ := s0.stored (by simpa using hn) k (by simpa using hk) 1 (by decide) (.int .i64 i) ⟨a, i, y.b⟩ (by simp [List.getElem_set_self]; rfl)
  rw [List.set_set] at s1
  obtain ⟨s2, g2⟩ := s1.stored (by simpa using hn) k (by simpa using hk) 2 (by decide) (.int .i64 b) ⟨a, i, b⟩ (by simp [List.getElem_set_self]; rfl)
  rw [List.set_set] at s2
  exact ⟨s2, (g0.trans g1).trans g2⟩
theorem toClue_any (a i b : Int) (w : World) :
    Calls Tryd.prog 24 #[.agg #[.int .i64 a, .int .i64 i, .int .i64 b]] w fun e w' => e = .returned (.agg #[.int .i64 a, .int .i64 i, .int .i64 b]) ∧ Below w.heap.size w w' := by
  go_enter Tryd.func24, Tryd.ntmps24
  go_wp2_with fail
  refine bodyPost_ret (v := .agg #[.int .i64 a, .int .i64 i, .int .i64 b]) ?_ rfl ⟨rfl, ?_⟩
  · simp [results, Tryd.results24, go_sem]
  · exact ((ba1 w _).alloc (by simp) _).alloc (by simp; omega) _

theorem toClueS_any (a : Option Addr) (n cap : Nat) (cs : List Clu) (w : World) (hn : n ≤ 1048576) (hx : cs.length = n) (h : ArgC w a cs) :
    Calls Tryd.prog 40 #[.slice a n cap] w fun e w' => ∃ v, e = .returned v ∧ OwnG cluE w' w.heap.size v cs ∧ Below w.heap.size w w' := by
  have h := Lib.hid h
  have hx := Lib.hid hx
  go_enter Tryd.func40, Tryd.ntmps40
  go_wp2_with (at_make; refine make_G cluE _ rfl _ _ 29 rfl Tryd.underlying29 _ _ n rfl rfl (by omega) ?_; intro w1 hown1 hb1)
  have hown1 := Lib.hid hown1
  have hb1 := Lib.hid hb1
  go_loopw [4] (fun i wr => ∃ k : Nat, k ≤ n ∧ i = .int .i64 k ∧ Hid (OwnG cluE wr w.heap.size (.slice (some ⟨w.heap.size, 0, none⟩) n n) (cs.take k ++ List.replicate (n - k) ⟨0, 0, 0⟩)) ∧ Hid (Below w.heap.size w wr)) (fun i _ => n - (intOf i).toNat)
  case atStart => exact ⟨0, Nat.zero_le _, rfl, Lib.hid (by rw [List.take_zero, List.nil_append, Nat.sub_zero]; exact hown1.out), hb1⟩
  case round =>
    obtain ⟨k, hk, rfl, ho, hb⟩ := hrel
    clear hown1 hb1
    by_cases hlt : k < n
    · have hkx : k < cs.length := by rw [hx.out]; exact hlt
      obtain ⟨b, off, rfl, hl, hc⟩ : ∃ b off, a = some ⟨b, off, none⟩ ∧ b < w.heap.size ∧ Hid (∀ i (h : i < cs.length), w.cell? ⟨b, off + i * 3, none⟩ = some (.int .i64 cs[i].k) ∧ w.cell? ⟨b, off + i * 3 + 1, none⟩ = some (.int .i64 cs[i].a) ∧ w.cell? ⟨b, off + i * 3 + 2, none⟩ = some (.int .i64 cs[i].b)) := by
        rcases h.out with e | e
        · rw [e] at hkx; simp at hkx
        · exact e
      have hlk : Hid ((cs.take k ++ List.replicate (n - k) (⟨0, 0, 0⟩ : Clu)).length = n) := Lib.hid (by simp [hx.out]; omega)
      have hsp : Hid (List.replicate (n - k) (⟨0, 0, 0⟩ : Clu) = ⟨0, 0, 0⟩ :: List.replicate (n - (k + 1)) ⟨0, 0, 0⟩) := Lib.hid (by
        rw [show n - k = (n - (k + 1)) + 1 from by omega]; rfl)
      have hmt : Hid (cs.take (k + 1) = cs.take k ++ [cs[k]]) := Lib.hid (List.take_succ_eq_append_getElem hkx)
      have htl : Hid ((cs.take k).length = k) := Lib.hid (by rw [List.length_take]; omega)
      obtain ⟨c0, c1, c2⟩ := hc.out k hkx
      rw [← hb.out.cell (p := ⟨b, off + k * 3, none⟩) hl] at c0
      rw [← hb.out.cell (p := ⟨b, off + k * 3 + 1, none⟩) hl] at c1
      rw [← hb.out.cell (p := ⟨b, off + k * 3 + 2, none⟩) hl] at c2
      obtain ⟨ka, ki, kb, hke⟩ : ∃ a i b, cs[k] = ⟨a, i, b⟩ := ⟨_, _, _, rfl⟩
      rw [hke] at c0 c1 c2 hmt
      clear hke
      have hgl := (ho.out.lt _ rfl).2
      go_wp2_with fail
      refine (toClue_any ka ki kb wr).mono ?_; rintro e w2 ⟨rfl, hb2⟩
      have ho2 := Lib.hid (ho.out.below hb2)
      have hst := Lib.hid (ho2.out.cluStored hlk.out.symm k (by rw [hlk.out]; exact hlt) ka ki kb)
      have hbW := Lib.hid (bt2 hb.out hb2 hb.out.size)
      obtain ⟨d0, d1, d2⟩ := clu_cells (fun k' hk' o ho' => ho2.out.cells hlk.out.symm k' hk' o ho') k (by rw [hlk.out]; exact hlt)
      have hfz := fun j => ho2.out.frozen hlk.out.symm j
      generalize (cs.take k ++ List.replicate (n - k) (⟨0, 0, 0⟩ : Clu))[k]'(by rw [hlk.out]; exact hlt) = y at d0 d1 d2
      go_wp2_with fail
      go_roundw
      case rel =>
        refine ⟨k + 1, by omega, by go_num, Lib.hid ?_, Lib.hid ?_⟩
        · have h3 := hst.out.1
          rw [hsp.out, List.set_append_right _ _ (by rw [htl.out]; exact Nat.le_refl _), htl.out, Nat.sub_self, List.set_cons_zero] at h3
          rw [hmt.out, List.append_assoc]; exact h3
        · exact hbW.out.grown hst.out.2 hbW.out.size (fun j e => by cases e; exact Nat.le_refl _)
      all_goals (simp [intOf] <;> omega)
    · obtain rfl : k = n := by omega
      have ho2 := ho.out
      rw [List.take_of_length_le (by rw [hx.out]; omega)] at ho2
      simp only [Nat.sub_self, List.replicate_zero, List.append_nil] at ho2
      have ho2 := Lib.hid ho2
      go_wp2_with fail
      go_ret
      exact ⟨_, rfl, ho2.out, hb.out⟩

/-- the objects that hold a law's puzzle and the program's -/
abbrev puzL (R : Int) (u : Value) : Obj := .cells #[.int .i64 R, u] 24
abbrev puzO (R : Int) (u : Value) : Obj := .cells #[.int .i64 R, u] 31
/-- the value v is a puzzle whose clues lie in memory of its own, from block B on -/
def OwnZ (w : World) (B : Nat) (v : Value) (R : Int) (cs : List Clu) : Prop := ∃ u, v = .agg #[.int .i64 R, u] ∧ OwnG cluE w B u cs
/-- the value v reads as a puzzle -/
def RdZ (w : World) (v : Value) (R : Int) (cs : List Clu) : Prop := ∃ u, v = .agg #[.int .i64 R, u] ∧ RdG cluE w u cs
theorem OwnZ.below {w w' : World} {B : Nat} {v : Value} {R : Int} {cs : List Clu} (h : OwnZ w B v R cs) (hb : Below w.heap.size w w') : OwnZ w' B v R cs := by
  obtain ⟨u, rfl, hu⟩ := h; exact ⟨u, rfl, hu.below hb⟩
theorem OwnZ.rd {w : World} {B : Nat} {v : Value} {R : Int} {cs : List Clu} (h : OwnZ w B v R cs) : RdZ w v R cs := by
  obtain ⟨u, rfl, hu⟩ := h; exact ⟨u, rfl, hu.rd⟩
theorem RdZ.below {w w' : World} {v : Value} {R : Int} {cs : List Clu} (h : RdZ w v R cs) (hb : Below w.heap.size w w') : RdZ w' v R cs := by
  obtain ⟨u, rfl, hu⟩ := h; exact ⟨u, rfl, hu.below hb⟩
theorem OwnZ.mk {w : World} {B : Nat} {u : Value} {R : Int} {cs : List Clu} (h : OwnG cluE w B u cs) : OwnZ w B (.agg #[.int .i64 R, u]) R cs := ⟨u, rfl, h⟩
/-- a call hands back a puzzle in memory of its own, and whether it succeeds -/
def RetZ (w : World) (R : Int) (cs : List Clu) (ok : Bool) (e : Ending) (w' : World) : Prop := ∃ v, e = .returned (.tuple #[.agg #[.int .i64 R, v], .bool ok]) ∧ OwnG cluE w' w.heap.size v cs ∧ Below w.heap.size w w'
theorem OwnG.sl {α : Type} {E : Elt α} {w : World} {B : Nat} {v : Value} {xs : List α} (h : OwnG E w B v xs) : ∃ pv cv, v = .slice pv xs.length cv := by
  obtain ⟨p, c, e, _⟩ := h.rd
  exact ⟨p, c, e⟩
theorem toPuzzle_any (R : Int) (a : Option Addr) (n c : Nat) (cs : List Clu) (w : World) (hn : n ≤ 1048576) (hx : cs.length = n) (hA : ArgC w a cs) :
    Calls Tryd.prog 13 #[.agg #[.int .i64 R, .slice a n c]] w fun e w' => ∃ v, e = .returned (.agg #[.int .i64 R, v]) ∧ OwnG cluE w' w.heap.size v cs ∧ Below w.heap.size w w' := by
  replace hA := Lib.hid hA
  replace hx := Lib.hid hx
  obtain ⟨w2, hw2⟩ : ∃ w2, Hid (w2 = ((w.alloc (puzL R (.slice a n c))).alloc (puzO 0 (.slice none 0 0))).alloc (puzO R (.slice none 0 0))) := ⟨_, Lib.hid rfl⟩
  have hb2 : Hid (Below w.heap.size w w2) := Lib.hid (by rw [hw2.out]; exact ((ba1 w _).alloc (by simp) _).alloc (by simp; omega) _)
  have F := Lib.hid (show w2.heap[w.heap.size]? = some (puzL R (.slice a n c)) by rw [hw2.out]; exact hb_old _ (hb_old _ (hb_new _ _)))
  have RR := Lib.hid (show w2.heap[w.heap.size + 1]? = some (puzO 0 (.slice none 0 0)) by rw [hw2.out]; exact hb_old _ (hb_new' _ _ _ (by simp)))
  have O := Lib.hid (show w2.heap[w.heap.size + 1 + 1]? = some (puzO R (.slice none 0 0)) by rw [hw2.out]; exact hb_new' _ _ _ (by simp))
  have hl2 : w.heap.size + 1 + 1 < w2.heap.size := hb_lt O.out
  have HI := Lib.hid (fun w' (hb : Below w.heap.size w w') => toClueS_any a n c cs w' hn hx.out (hA.out.below hb))
  go_enter Tryd.func13, Tryd.ntmps13
  go_wp2_with fail
  rw [← hw2.out]
  refine (HI.out _ hb2.out).mono ?_; rintro e w3 ⟨pv, rfl, ho3, hb3⟩
  obtain ⟨p3, c3, rfl⟩ : ∃ p c, pv = .slice p n c := by
    obtain ⟨p, c, e⟩ := ho3.sl
    exact ⟨p, c, by rw [e, hx.out]⟩
  replace ho3 := Lib.hid ho3
  replace hb3 := Lib.hid hb3
  have R3 := Lib.hid (hb_below hb3.out (by omega) RR.out)
  have O3 := Lib.hid (hb_below hb3.out (by omega) O.out)
  have o0 : w3.cell? ⟨w.heap.size + 1 + 1, 0, none⟩ = some (.int .i64 R) := hb_cell O3.out 0
  have o1 : w3.cell? ⟨w.heap.size + 1 + 1, 1, none⟩ = some (.slice none 0 0) := hb_cell O3.out 1
  have r0 : w3.cell? ⟨w.heap.size + 1, 0, none⟩ = some (.int .i64 0) := hb_cell R3.out 0
  have r1 : w3.cell? ⟨w.heap.size + 1, 1, none⟩ = some (.slice none 0 0) := hb_cell R3.out 1
  have z0 := hb_frozen O3.out
  have z1 := hb_frozen R3.out
  have hl3 : w.heap.size + 1 + 1 < w3.heap.size := hb_lt O3.out
  have hl4 : w.heap.size + 1 < w3.heap.size := by omega
  have hm1 : ¬ w.heap.size + 1 + 1 = w.heap.size + 1 := by omega
  go_wp2_with fail
  refine bodyPost_ret (v := .agg #[.int .i64 R, .slice p3 n c3]) ?_ rfl ⟨_, rfl, ?_, ?_⟩
  · simp [results, Tryd.results13, go_sem, hl3, hl4, r0, r1, hm1]
  · have k : ∀ (W : World) (a : Addr) (u : Value), OwnG cluE W w2.heap.size (.slice p3 n c3) cs → a.block < w2.heap.size → OwnG cluE (W.setCell a u) w2.heap.size (.slice p3 n c3) cs := fun W a u h ha => ownsRow_setCell_below h ha u
    refine OwnG.mono ?_ hb2.out.size
    repeat (first | (with_reducible exact ho3.out) | (with_reducible refine k _ _ _ ?_ ?_; rotate_left; (first | (show w.heap.size + 1 + 1 < _; omega) | (show w.heap.size + 1 < _; omega))))
  · have h0 := bt1 hb2.out hb3.out
    repeat (first | (with_reducible exact h0) | (with_reducible refine Below.setCell ?_ ?_ _; rotate_left; (first | (show w.heap.size ≤ w.heap.size + 1 + 1; omega) | (show w.heap.size ≤ w.heap.size + 1; omega))))

theorem szC_any (a : Option Addr) (n c : Nat) (l : Int) (w : World) (hn : n ≤ maxLen) (h0 : 0 ≤ l) (hl : l ≤ 1048576) :
    Calls Tryd.prog 36 #[.slice a n c, .int .i64 l] w fun e w' => e = .returned (.int .i64 (if l < (n : Int) then -1 else l - n)) ∧ w = w' := by
  unfold maxLen at hn
  by_cases h : l < (n : Int)
  · rw [if_pos h]
    have h2 : l - (n : Int) < 0 := by omega
    go_enter Tryd.func36, Tryd.ntmps36
    go_wp2_with fail
    go_ret; exact ⟨rfl, rfl⟩
  · rw [if_neg h]
    go_enter Tryd.func36, Tryd.ntmps36
    go_wp2_with fail
    go_ret; exact ⟨rfl, rfl⟩

theorem szPuzzle_any (R : Int) (a : Option Addr) (n c : Nat) (cs : List Clu) (w : World) (hn : n ≤ maxLen) (_hx : cs.length = n) (_hA : ArgC w a cs) :
    Calls Tryd.prog 11 #[.agg #[.int .i64 R, .slice a n c], .int .i64 1048576] w fun e w' => ∃ r : Int, e = .returned (.int .i64 r) ∧ Below w.heap.size w w' ∧ (0 ≤ r → n ≤ 1048576) := by
  have HZ := Lib.hid fun w => szC_any a n c 1048576 w hn (by omega) (by omega)
  clear _hx _hA
  by_cases h : (1048576 : Int) < (n : Int)
  · rw [if_pos h] at HZ
    go_enter Tryd.func11, Tryd.ntmps11
    go_wp2_with fail
    refine (HZ.out _).mono ?_; rintro e w3 ⟨rfl, rfl⟩
    go_wp2_with fail
    go_ret; exact ⟨-1, rfl, ba1 w _, fun h => by omega⟩
  · rw [if_neg h] at HZ
    have hneg : ¬ (1048576 : Int) - (n : Int) < 0 := by omega
    go_enter Tryd.func11, Tryd.ntmps11
    go_wp2_with fail
    refine (HZ.out _).mono ?_; rintro e w3 ⟨rfl, rfl⟩
    go_wp2_with fail
    go_ret; exact ⟨_, rfl, ba1 w _, fun _ => by omega⟩

theorem eqClue_same (a i b : Int) (w : World) :
    Calls Tryd.prog 71 #[.agg #[.int .i64 a, .int .i64 i, .int .i64 b], .agg #[.int .i64 a, .int .i64 i, .int .i64 b]] w fun e w' => e = .returned (.bool true) ∧ Below w.heap.size w w' := by
  have na : (a != a) = false := by simp
  have ni : (i != i) = false := by simp
  have nb : (b != b) = false := by simp
  go_enter Tryd.func71, Tryd.ntmps71
  go_wp2_with fail
  go_ret; exact ⟨rfl, (ba1 w _).alloc (by simp) _⟩

theorem keepC {W a b : World} {g g' k : Nat} {v0 v1 v2 u0 u1 u2 : Value} (hb : Below a.heap.size a b)
    (h : (a.cell? ⟨g, k * 3, none⟩ = some v0 ∧ a.cell? ⟨g, k * 3 + 1, none⟩ = some v1 ∧ a.cell? ⟨g, k * 3 + 2, none⟩ = some v2) ∧ (a.cell? ⟨g', k * 3, none⟩ = some u0 ∧ a.cell? ⟨g', k * 3 + 1, none⟩ = some u1 ∧ a.cell? ⟨g', k * 3 + 2, none⟩ = some u2) ∧ g < a.heap.size ∧ g' < a.heap.size ∧ Below W.heap.size W a) :
    (b.cell? ⟨g, k * 3, none⟩ = some v0 ∧ b.cell? ⟨g, k * 3 + 1, none⟩ = some v1 ∧ b.cell? ⟨g, k * 3 + 2, none⟩ = some v2) ∧ (b.cell? ⟨g', k * 3, none⟩ = some u0 ∧ b.cell? ⟨g', k * 3 + 1, none⟩ = some u1 ∧ b.cell? ⟨g', k * 3 + 2, none⟩ = some u2) ∧ g < b.heap.size ∧ g' < b.heap.size ∧ Below W.heap.size W b := by
  obtain ⟨⟨h0, h1, h2⟩, ⟨h4, h5, h6⟩, l1, l2, hB⟩ := h
  have c : ∀ o, b.cell? ⟨g, o, none⟩ = a.cell? ⟨g, o, none⟩ := fun o => hb.cell (p := ⟨g, o, none⟩) l1
  have c' : ∀ o, b.cell? ⟨g', o, none⟩ = a.cell? ⟨g', o, none⟩ := fun o => hb.cell (p := ⟨g', o, none⟩) l2
  exact ⟨⟨by rw [c]; exact h0, by rw [c]; exact h1, by rw [c]; exact h2⟩, ⟨by rw [c']; exact h4, by rw [c']; exact h5, by rw [c']; exact h6⟩, Nat.lt_of_lt_of_le l1 hb.size, Nat.lt_of_lt_of_le l2 hb.size, bt1 hB hb⟩
theorem keepCF {W a : World} {g g' k : Nat} {v0 v1 v2 u0 u1 u2 : Value}
    (h : (a.cell? ⟨g, k * 3, none⟩ = some v0 ∧ a.cell? ⟨g, k * 3 + 1, none⟩ = some v1 ∧ a.cell? ⟨g, k * 3 + 2, none⟩ = some v2) ∧ (a.cell? ⟨g', k * 3, none⟩ = some u0 ∧ a.cell? ⟨g', k * 3 + 1, none⟩ = some u1 ∧ a.cell? ⟨g', k * 3 + 2, none⟩ = some u2) ∧ g < a.heap.size ∧ g' < a.heap.size ∧ Below W.heap.size W a) : Below W.heap.size W a := h.2.2.2.2
theorem eqClueS_any (p p' : Option Addr) (n c c' : Nat) (cs : List Clu) (w : World) (hn : cs.length = n) (hm : n ≤ maxLen) (h : RG cluE w p cs) (h' : RG cluE w p' cs) :
    Calls Tryd.prog 44 #[.slice p n c, .slice p' n c'] w fun e w' => e = .returned (.bool true) ∧ Below w.heap.size w w' := by
  replace h := Lib.hid h
  replace h' := Lib.hid h'
  replace hn := Lib.hid hn
  unfold maxLen at hm
  have hne : ((n : Int) != (n : Int)) = false := by simp
  go_enter Tryd.func44, Tryd.ntmps44
  go_wp2_with fail
  go_loopw [5] (fun i wr => ∃ k : Nat, k ≤ n ∧ i = .int .i64 k ∧ Hid (Below w.heap.size w wr)) (fun i _ => n - (intOf i).toNat)
  case atStart => exact ⟨0, Nat.zero_le _, rfl, Lib.hid (Below.refl _ _)⟩
  case round =>
    obtain ⟨k, hk, rfl, hb⟩ := hrel
    by_cases hlt : k < n
    · have hkx : k < cs.length := by rw [hn.out]; exact hlt
      obtain ⟨g, rfl, hgl, e0, e1, e2⟩ := (h.out.below hb.out).clu hkx
      obtain ⟨g', rfl, hgl', e0', e1', e2'⟩ := (h'.out.below hb.out).clu hkx
      obtain ⟨ka, ki, kb, hke⟩ : ∃ a i b, cs[k] = ⟨a, i, b⟩ := ⟨_, _, _, rfl⟩
      rw [hke] at e0 e1 e2 e0' e1' e2'
      clear hke hkx
      have HE := Lib.hid fun w => eqClue_same ka ki kb w
      go_wp2_with fail
      go_region_held3 (fun v => (v.cell? ⟨g, k * 3, none⟩ = some (.int .i64 ka) ∧ v.cell? ⟨g, k * 3 + 1, none⟩ = some (.int .i64 ki) ∧ v.cell? ⟨g, k * 3 + 2, none⟩ = some (.int .i64 kb)) ∧ (v.cell? ⟨g', k * 3, none⟩ = some (.int .i64 ka) ∧ v.cell? ⟨g', k * 3 + 1, none⟩ = some (.int .i64 ki) ∧ v.cell? ⟨g', k * 3 + 2, none⟩ = some (.int .i64 kb)) ∧ g < v.heap.size ∧ g' < v.heap.size ∧ Below wr.heap.size wr v) ((first | assumption | (refine ⟨⟨?_, ?_, ?_⟩, ⟨?_, ?_, ?_⟩, ?_, ?_, ?_⟩ <;> first | assumption | go_keep | omega | exact (Below.refl _ _).drew)))
        (first | (go_at_call 71; refine (HE.out _).mono ?_; rintro e w' ⟨rfl, hb2⟩; have hbn := keepC hb2 (by assumption)))
      all_goals
        have hfin := keepCF (by assumption)
        go_wp2_with fail
        go_roundw
        case rel => exact ⟨k + 1, by omega, by go_num, Lib.hid (bt1 hb.out hfin)⟩
        all_goals (simp [intOf] <;> omega)
    · go_wp2_with fail
      go_ret; exact ⟨rfl, hb.out⟩

theorem eqClueS_same (v v' : Value) (cs : List Clu) (A B : Nat) (w : World) (h : OwnG cluE w A v cs) (h' : OwnG cluE w B v' cs) :
    Calls Tryd.prog 44 #[v, v'] w fun e w' => e = .returned (.bool true) ∧ Below w.heap.size w w' := by
  obtain ⟨p, c, rfl, hm, r1⟩ := h.rd
  obtain ⟨p', c', rfl, hm', r2⟩ := h'.rd
  exact eqClueS_any p p' _ c c' cs w rfl hm r1 r2

theorem eqPuzzle_same (v v' : Value) (R : Int) (cs : List Clu) (A B : Nat) (w : World) (h : OwnZ w A v R cs) (h' : OwnZ w B v' R cs) :
    Calls Tryd.prog 16 #[v, v'] w fun e w' => e = .returned (.bool true) ∧ Below w.heap.size w w' := by
  obtain ⟨u, rfl, h1⟩ := h
  obtain ⟨u', rfl, h2⟩ := h'
  have eR : (R != R) = false := by simp
  obtain ⟨w2, hw2⟩ : ∃ w2, Hid (w2 = (w.alloc (puzO R u)).alloc (puzO R u')) := ⟨_, Lib.hid rfl⟩
  have hb2 : Hid (Below w.heap.size w w2) := Lib.hid (by rw [hw2.out]; exact (ba1 w _).alloc (by simp) _)
  have HQ := Lib.hid (eqClueS_same u u' cs A B w2 (h1.below hb2.out) (h2.below hb2.out))
  clear h1 h2
  go_enter Tryd.func16, Tryd.ntmps16
  go_wp2_with fail
  rw [← hw2.out]
  refine HQ.out.mono ?_; rintro e w3 ⟨rfl, hb3⟩
  replace hb3 := Lib.hid (bt1 hb2.out hb3)
  go_wp2_with fail
  go_ret; exact ⟨rfl, hb3.out⟩

def mkC (s : Int) (i : Nat) : Clu := ⟨s + 3 * (i : Int), s + 3 * (i : Int) + 1, s + 3 * (i : Int) + 1 + 1⟩
def marksC (s : Int) (n : Nat) : List Clu := (List.range n).map (mkC s)
theorem marksC_len (s : Int) (n : Nat) : (marksC s n).length = n := by simp [marksC]
theorem marksC_step (s : Int) (cs : List Clu) (k : Nat) (hk : k < cs.length) : (marksC s k ++ cs.drop k).set k (mkC s k) = marksC s (k + 1) ++ cs.drop (k + 1) := by
  have hd : cs.drop k = cs[k] :: cs.drop (k + 1) := List.drop_eq_getElem_cons _
  rw [hd, List.set_append_right _ _ (by rw [marksC_len]; exact Nat.le_refl _), marksC_len, Nat.sub_self, List.set_cons_zero]
  unfold marksC
  rw [List.range_succ, List.map_append, List.append_assoc]; rfl
set_option maxHeartbeats 1000000 in
theorem markClueS_some (g n cap B : Nat) (s : Int) (cs : List Clu) (w : World) (hx : cs.length = n) (hn : n ≤ 2000000) (hs0 : 0 ≤ s) (hs1 : s ≤ 3000000) (hw : OwnG cluE w B (.slice (some ⟨g, 0, none⟩) n cap) cs) :
    Calls Tryd.prog 45 #[.slice (some ⟨g, 0, none⟩) n cap, .int .i64 s] w fun e w' => e = .returned (.int .i64 (s + 3 * (n : Int))) ∧ OwnG cluE w' B (.slice (some ⟨g, 0, none⟩) n cap) (marksC s n) ∧ w.grownBy w' (some g) := by
  replace hw := Lib.hid hw
  replace hx := Lib.hid hx
  go_enter Tryd.func45, Tryd.ntmps45
  go_wp2_with fail
  go_loopw [1, 5] (fun m i wr => ∃ k : Nat, k ≤ n ∧ i = .int .i64 k ∧ m = .int .i64 (s + 3 * (k : Int)) ∧ Hid (OwnG cluE wr B (.slice (some ⟨g, 0, none⟩) n cap) (marksC s k ++ cs.drop k)) ∧ Hid (w.grownBy wr (some g))) (fun _ i _ => n - (intOf i).toNat)
  case atStart => exact ⟨0, by omega, rfl, by simp, Lib.hid (by simpa [marksC] using hw.out), Lib.hid (World.grownBy.refl _ _)⟩
  case round =>
    obtain ⟨k, hk, rfl, rfl, ho, hg⟩ := hrel
    by_cases hlt : k < n
    · have hlen : Hid ((marksC s k ++ cs.drop k).length = n) := Lib.hid (by rw [List.length_append, marksC_len, List.length_drop, hx.out]; omega)
      have hst := Lib.hid (ho.out.cluStored hlen.out.symm k (by rw [hlen.out]; exact hlt) (s + 3 * (k : Int)) (s + 3 * (k : Int) + 1) (s + 3 * (k : Int) + 1 + 1))
      have hsp := Lib.hid (marksC_step s cs k (by rw [hx.out]; exact hlt))
      obtain ⟨d0, d1, d2⟩ := clu_cells (fun k' hk' o ho' => ho.out.cells hlen.out.symm k' hk' o ho') k (by rw [hlen.out]; exact hlt)
      have hfz := fun j => ho.out.frozen hlen.out.symm j
      have hgl := (ho.out.lt _ rfl).2
      generalize (marksC s k ++ cs.drop k)[k]'(by rw [hlen.out]; exact hlt) = y at d0 d1 d2
      have e1 : IntKind.i64.wrap (s + 3 * (k : Int) + 1) = s + 3 * (k : Int) + 1 := by rw [IntKind.wrap_i64]; omega
      have e2 : IntKind.i64.wrap (s + 3 * (k : Int) + 1 + 1) = s + 3 * (k : Int) + 1 + 1 := by rw [IntKind.wrap_i64]; omega
      have e3 : IntKind.i64.wrap (s + 3 * (k : Int) + 1 + 1 + 1) = s + 3 * (k : Int) + 1 + 1 + 1 := by rw [IntKind.wrap_i64]; omega
      go_wp2_with fail
      go_roundw
      case rel => exact ⟨k + 1, by omega, by go_num, by congr 1; omega, by rw [← hsp.out]; exact Lib.hid hst.out.1, Lib.hid (hg.out.trans hst.out.2)⟩
      all_goals (simp [intOf] <;> omega)
    · obtain rfl : k = n := by omega
      have ho2 := ho.out
      rw [List.drop_eq_nil_of_le (by rw [hx.out]; exact Nat.le_refl _), List.append_nil] at ho2
      replace ho2 := Lib.hid ho2
      go_wp2_with fail
      go_ret; exact ⟨rfl, ho2.out, hg.out⟩

theorem markClueS_nil (p : Option Addr) (cap : Nat) (s : Int) (w : World) :
    Calls Tryd.prog 45 #[.slice p 0 cap, .int .i64 s] w fun e w' => e = .returned (.int .i64 s) ∧ w = w' := by
  go_enter Tryd.func45, Tryd.ntmps45
  go_wp2_with fail
  go_loop [1, 5] (fun m i => i = .int .i64 0 ∧ m = .int .i64 s) (fun _ _ => 0)
  case atStart => exact ⟨rfl, rfl⟩
  case round =>
    obtain ⟨rfl, rfl⟩ := hrel
    go_wp2_with fail
    go_ret; exact ⟨rfl, rfl⟩

theorem markClueS_any (v : Value) (B : Nat) (s : Int) (cs : List Clu) (w : World) (hn : cs.length ≤ 2000000) (hs0 : 0 ≤ s) (hs1 : s ≤ 3000000) (h : OwnG cluE w B v cs) :
    Calls Tryd.prog 45 #[v, .int .i64 s] w fun e w' => e = .returned (.int .i64 (s + 3 * (cs.length : Int))) ∧ OwnG cluE w' B v (marksC s cs.length) ∧ w.grownBy w' v.ownBlock := by
  rcases h.form with ⟨rfl, rfl⟩ | ⟨g, cap, rfl, _, _, _⟩
  · refine (markClueS_nil none 0 s w).mono fun e w' ⟨he, hw⟩ => ⟨by rw [he]; simp, ?_, ?_⟩
    · rw [← hw]; exact h
    · rw [← hw]; exact World.grownBy.refl _ _
  · exact markClueS_some g cs.length cap B s cs w rfl hn hs0 hs1 h

theorem heldClueS_some (p : Option Addr) (n cap : Nat) (s : Int) (w : World) (hn : n ≤ 2000000) (hs0 : 0 ≤ s) (hs1 : s ≤ 3000000) (hr : RG cluE w p (marksC s n)) :
    Calls Tryd.prog 47 #[.slice p n cap, .int .i64 s] w fun e w' => e = .returned (.int .i64 (s + 3 * (n : Int))) ∧ Below w.heap.size w w' := by
  replace hr := Lib.hid hr
  go_enter Tryd.func47, Tryd.ntmps47
  go_wp2_with fail
  go_loopw [1, 5] (fun m i wr => ∃ k : Nat, k ≤ n ∧ i = .int .i64 k ∧ m = .int .i64 (s + 3 * (k : Int)) ∧ Hid (Below w.heap.size w wr)) (fun _ i _ => n - (intOf i).toNat)
  case atStart => exact ⟨0, by omega, rfl, by simp, Lib.hid (Below.refl _ _)⟩
  case round =>
    obtain ⟨k, hk, rfl, rfl, hb⟩ := hrel
    by_cases hlt : k < n
    · have hkx : k < (marksC s n).length := by rw [marksC_len]; exact hlt
      obtain ⟨g, rfl, hgl, c0, c1, c2⟩ := (hr.out.below hb.out).clu hkx
      have hke : (marksC s n)[k] = mkC s k := by simp [marksC]
      rw [hke] at c0 c1 c2
      have d0 : wr.cell? ⟨g, k * 3, none⟩ = some (.int .i64 (s + 3 * (k : Int))) := c0
      have d1 : wr.cell? ⟨g, k * 3 + 1, none⟩ = some (.int .i64 (s + 3 * (k : Int) + 1)) := c1
      have d2 : wr.cell? ⟨g, k * 3 + 2, none⟩ = some (.int .i64 (s + 3 * (k : Int) + 1 + 1)) := c2
      clear c0 c1 c2 hke
      have e1 : IntKind.i64.wrap (s + 3 * (k : Int) + 1) = s + 3 * (k : Int) + 1 := by rw [IntKind.wrap_i64]; omega
      have e2 : IntKind.i64.wrap (s + 3 * (k : Int) + 1 + 1) = s + 3 * (k : Int) + 1 + 1 := by rw [IntKind.wrap_i64]; omega
      have e3 : IntKind.i64.wrap (s + 3 * (k : Int) + 1 + 1 + 1) = s + 3 * (k : Int) + 1 + 1 + 1 := by rw [IntKind.wrap_i64]; omega
      go_wp2_with fail
      go_roundw
      case rel => exact ⟨k + 1, by omega, by go_num, by congr 1; omega, hb⟩
      all_goals (simp [intOf] <;> omega)
    · obtain rfl : k = n := by omega
      go_wp2_with fail
      go_ret; exact ⟨rfl, hb.out⟩

theorem markPuzzle_any (R : Int) (u : Value) (cs : List Clu) (B : Nat) (w : World) (hn : cs.length ≤ 2000000) (h : OwnG cluE w B u cs) :
    Calls Tryd.prog 17 #[.agg #[.int .i64 R, u], .int .i64 1] w fun e w' => e = .returned (.int .i64 (1 + 3 * (cs.length : Int))) ∧ OwnG cluE w' B u (marksC 1 cs.length) ∧ w.grownBy w' u.ownBlock := by
  have HM := Lib.hid (markClueS_any u B 1 cs (w.alloc (puzO R u)) hn (by omega) (by omega) (h.alloc _))
  clear h
  go_enter Tryd.func17, Tryd.ntmps17
  go_wp2_with fail
  refine HM.out.mono ?_; rintro e w3 ⟨rfl, ho, hg⟩
  replace ho := Lib.hid ho
  replace hg := Lib.hid hg
  go_wp2_with fail
  go_ret; exact ⟨rfl, ho.out, Lib.grownBy_trans (grown_any (ba1 w _) _) hg.out⟩

theorem heldPuzzle_any (R : Int) (u : Value) (n B : Nat) (w : World) (hn : n ≤ 2000000) (h : OwnG cluE w B u (marksC 1 n)) :
    Calls Tryd.prog 22 #[.agg #[.int .i64 R, u], .int .i64 1] w fun e w' => e = .returned (.int .i64 (1 + 3 * (n : Int))) ∧ Below w.heap.size w w' := by
  obtain ⟨p, c, e, -, hr⟩ := (h.alloc (puzO R u)).rd
  rw [marksC_len] at e
  subst e
  have HM := Lib.hid (heldClueS_some p n c 1 (w.alloc (puzO R (.slice p n c))) hn (by omega) (by omega) hr)
  have hneg : ¬ 1 + 3 * (n : Int) < 0 := by omega
  clear h hr
  go_enter Tryd.func22, Tryd.ntmps22
  go_wp2_with fail
  refine HM.out.mono ?_; rintro e w3 ⟨rfl, hb⟩
  replace hb := Lib.hid (bt1 (ba1 w _) hb)
  go_wp2_with fail
  go_ret; exact ⟨rfl, hb.out⟩

/-- two puzzles in memory, a law's and a program's -/
abbrev Z2 (x f B : Nat) (R : Int) (u v : Value) (W w : World) : Prop :=
  (w.cell? ⟨x, 0, none⟩ = some (.int .i64 R) ∧ w.cell? ⟨x, 1, none⟩ = some u) ∧
  (w.cell? ⟨f, 0, none⟩ = some (.int .i64 R) ∧ w.cell? ⟨f, 1, none⟩ = some v) ∧ x < w.heap.size ∧ f < w.heap.size ∧ Below B W w
theorem keepZ {x f B : Nat} {R : Int} {u v : Value} {W a b : World} (hB : B ≤ a.heap.size) (k : Below a.heap.size a b) (h : Z2 x f B R u v W a) : Z2 x f B R u v W b := by
  obtain ⟨⟨a0, a1⟩, ⟨b0, b1⟩, hx, hf, hb⟩ := h
  have e : ∀ g o, g < a.heap.size → b.cell? ⟨g, o, none⟩ = a.cell? ⟨g, o, none⟩ := fun g o hg => k.cell (p := ⟨g, o, none⟩) hg
  exact ⟨⟨by rw [e _ _ hx]; exact a0, by rw [e _ _ hx]; exact a1⟩, ⟨by rw [e _ _ hf]; exact b0, by rw [e _ _ hf]; exact b1⟩, Nat.lt_of_lt_of_le hx k.size, Nat.lt_of_lt_of_le hf k.size, hb.trans (k.mono hB)⟩
theorem keepZF {x f B : Nat} {R : Int} {u v : Value} {W w : World} (h : Z2 x f B R u v W w) : Below B W w := h.2.2.2.2
theorem keepZl {x f : Nat} {R : Int} {u v : Value} {W w : World} (h : Z2 x f W.heap.size R u v W w) : W.heap.size ≤ w.heap.size := h.2.2.2.2.size
theorem ne_rows {u v : Value} {A B C D : Nat} (hu : ∀ k, u.ownBlock = some k → A ≤ k ∧ k < B) (hv : ∀ k, v.ownBlock = some k → C ≤ k ∧ k < D) (h : B ≤ C ∨ D ≤ A) : u.ownBlock = none ∨ u.ownBlock ≠ v.ownBlock := by
  cases e : u.ownBlock with
  | none => left; rfl
  | some a =>
    right
    intro e2
    have h1 := hu a e
    have h2 := hv a e2.symm
    omega
section
variable {H : Type} {enc : TypeId × Value → H} {W : World} {base : Nat} {sp : Nat → Bool} {held : Bool}
theorem add_off (b off i : Nat) : (⟨b, off, none⟩ : Addr).add i = ⟨b, off + i, none⟩ := by unfold Addr.add; split <;> simp_all
set_option maxRecDepth 100000 in
theorem open_clues {fuel : Nat} {cs : List Value} {x : DataW H × List MemPlace} (h : DataW.trod enc Tryd.prog W 0 (fun _ => true) held fuel 22 cs = some x) :
    ∃ a m c bs, cs = [.slice a m c] ∧ m ≤ maxLen ∧ bs.length = m ∧ ArgC W a bs := by
  rcases Go.Deep.open_slice Tryd.underlying22 h with ⟨rfl, _⟩ | ⟨a, len, cap, m, n, D, Pl, rfl, hb, hl, hm, hmm, hx, hel⟩
  · exact ⟨none, 0, 0, [], rfl, Nat.zero_le _, rfl, .inl rfl⟩
  · have hmc : m = cap := by simpa using hmm
    have key : ∀ i, i < len → ∃ k : Clu, W.cell? ((a.add (i * 3)).add 0) = some (.int .i64 k.k) ∧ W.cell? ((a.add (i * 3)).add 1) = some (.int .i64 k.a) ∧ W.cell? ((a.add (i * 3)).add 2) = some (.int .i64 k.b) := by
      intro i hi
      obtain ⟨cs', h1, h2⟩ := hel i (by omega)
      have e3 : Tryd.prog.cellsOf 42 = 3 := by kernel_rfl
      have e1 : Tryd.prog.cellsOf 3 = 1 := by kernel_rfl
      rw [e3] at h1
      obtain ⟨_, hlen, hc⟩ := World.cells?_some h1
      obtain ⟨y0, y1, y2, n', _, _, t0, t1, t2⟩ := Go.Deep.trod_struct3 Tryd.underlying42 h2
      match cs', hlen with
      | [v0, v1, v2], _ =>
        simp only [e1] at t0 t1 t2
        obtain ⟨n0, q0, _, _⟩ := DataW.trod_int Tryd.underlying3 t0
        obtain ⟨n1, q1, _, _⟩ := DataW.trod_int Tryd.underlying3 t1
        obtain ⟨n2, q2, _, _⟩ := DataW.trod_int Tryd.underlying3 t2
        simp at q0 q1 q2
        subst q0 q1 q2
        exact ⟨⟨n0, n1, n2⟩, hc 0 (by omega), hc 1 (by omega), hc 2 (by omega)⟩
    obtain ⟨f, hf⟩ := Go.Deep.choose_lt (α := Option Clu) (p := fun i k => ∃ q, k = some q ∧ W.cell? ((a.add (i * 3)).add 0) = some (.int .i64 q.k) ∧ W.cell? ((a.add (i * 3)).add 1) = some (.int .i64 q.a) ∧ W.cell? ((a.add (i * 3)).add 2) = some (.int .i64 q.b)) (fun i hi => by
      obtain ⟨k, hk⟩ := key i hi
      exact ⟨some k, k, rfl, hk⟩)
    refine ⟨some a, len, cap, (List.range len).map (fun i => (f i).getD ⟨0, 0, 0⟩), rfl, by omega, by simp, ?_⟩
    by_cases h0 : len = 0
    · left; subst h0; rfl
    · right
      obtain ⟨b, off, spot⟩ := a
      have hspot : spot = none := by
        obtain ⟨q, _, h0, _⟩ := hf 0 (by omega)
        simpa [Addr.add] using World.cell?_spot h0
      subst hspot
      refine ⟨b, off, rfl, ?_, fun i hi => ?_⟩
      · obtain ⟨q, _, h0, _⟩ := hf 0 (by omega)
        simp only [add_off] at h0
        exact block_lt h0
      · have hi' : i < len := by simpa using hi
        obtain ⟨q, hq, h0, h1, h2⟩ := hf i hi'
        simp only [add_off] at h0 h1 h2
        simp only [List.getElem_map, List.getElem_range, hq, Option.getD_some]
        exact ⟨h0, h1, h2⟩
set_option maxRecDepth 100000 in
theorem open_puzzle {r : Reach} {b0 : Nat} {v : Value} {d : DataW H} {p : List MemPlace} (hv : Value.okWide Tryd.prog W r b0 24 v) (h : DataW.Trod enc Tryd.prog W 0 (fun _ => true) held 24 v d p) :
    ∃ R a n c cs, v = .agg #[.int .i64 R, .slice a n c] ∧ (Lit.int .i64 R).wf = true ∧ n ≤ maxLen ∧ cs.length = n ∧ ArgC W a cs := by
  obtain ⟨c0, c1, y0, y1, k, rfl, _, _, h0, h1⟩ := Go.Joins.open_agg2 Tryd.underlying24 (by kernel_rfl) (by kernel_rfl) hv h
  obtain ⟨a2, m, c2, bs, e2, hm, hbl, hK⟩ := open_clues h1
  obtain ⟨n0, q0, _, w0⟩ := DataW.trod_int Tryd.underlying3 h0
  simp at q0 e2
  subst q0 e2
  exact ⟨n0, a2, m, c2, bs, rfl, w0, hm, hbl, hK⟩
set_option maxRecDepth 100000 in
theorem open_clue {r : Reach} {b0 : Nat} {v : Value} {d : DataW H} {p : List MemPlace} (hv : Value.okWide Tryd.prog W r b0 42 v) (h : DataW.Trod enc Tryd.prog W 0 (fun _ => true) held 42 v d p) :
    ∃ x y z, v = .agg #[.int .i64 x, .int .i64 y, .int .i64 z] := by
  obtain ⟨c0, c1, c2, y0, y1, y2, k, rfl, _, _, h0, h1, h2⟩ := Go.Joins.open_agg3 Tryd.underlying42 (by kernel_rfl) (by kernel_rfl) hv h
  obtain ⟨n0, q0, _, w0⟩ := DataW.trod_int Tryd.underlying3 h0
  obtain ⟨n1, q1, _, w1⟩ := DataW.trod_int Tryd.underlying3 h1
  obtain ⟨n2, q2, _, w2⟩ := DataW.trod_int Tryd.underlying3 h2
  simp at q0 q1 q2
  subst q0 q1 q2
  exact ⟨n0, n1, n2, rfl⟩
end
end Go.Proofs.YtmjeilimdnngpaaDoor
