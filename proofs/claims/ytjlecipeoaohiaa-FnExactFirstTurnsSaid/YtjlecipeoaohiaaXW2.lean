/- The program's search by turns: its walk. -/
import Derived.Test.YtjlecipeoaohiaaXW
import Derived.Test.YtjlecipeoaohiaaXX
namespace Go.Proofs.Ytjlecipeoaohiaa
set_option linter.unusedSimpArgs false
set_option linter.unusedVariables false
open Go Go.RowKit RM Go.Maps Go.WideMaps Go.ChangeMaps
theorem sbX1 (W : World) (E M : Obj) : setBlock (World.alloc W E) W.heap.size M = World.alloc W M := by
  unfold setBlock World.alloc
  congr 1
  apply Array.ext_getElem?
  intro i
  simp only [Array.getElem?_setIfInBounds, Array.getElem?_push, Array.size_push]
  (repeat' split) <;> first | rfl | omega
/-- a map in memory, and what it holds -/
structure MM {α : Type} (K : KS α) (b : Nat) (f : α → Option Nat) (w : World) : Prop where
  ex : ∃ D, MapI K w b D ∧ MI K D f
theorem MM.kept {α : Type} {K : KS α} {b : Nat} {f : α → Option Nat} {w w' : World} {row : Option Nat} (h : MM K b f w) (hg : w.grownBy w' row) (hne : some b ≠ row) : MM K b f w' := by
  obtain ⟨D, h1, h2⟩ := h.ex
  exact ⟨D, h1.kept hg hne, h2⟩
theorem MM.below {α : Type} {K : KS α} {b : Nat} {f : α → Option Nat} {w w' : World} (h : MM K b f w) (hb : Below w.heap.size w w') : MM K b f w' := h.kept (grown_any hb none) (by simp)
theorem MM.lt {α : Type} {K : KS α} {b : Nat} {f : α → Option Nat} {w : World} (h : MM K b f w) : b < w.heap.size := by
  obtain ⟨D, h1, -⟩ := h.ex; exact h1.lt
theorem own_bs (w : World) (f : Nat → Int) (B : Nat) (hB : B ≤ w.heap.size) : OwnG bsE (w.alloc (.cells (bsC f) 64)) B (.slice (some ⟨w.heap.size, 0, none⟩) 1 1) [f] :=
  ⟨rfl, .inr ⟨_, 1, bsC f, rfl, hB, hb_new _ _, Nat.le_refl _, by decide, rfl, rfl⟩⟩
/-- the cells of a state in such a row -/
theorem bs_first {w : World} {B : Nat} {g off n cap : Nat} {f : Nat → Int} {xs : List (Nat → Int)} (h : OwnO bsE w B (.slice (some ⟨g, off, none⟩) n cap) (f :: xs)) :
    w.cell? ⟨g, off, none⟩ = some (.int .i64 (f 0)) ∧ w.cell? ⟨g, off + 1, none⟩ = some (.int .i64 (f 1)) ∧ w.cell? ⟨g, off + 2, none⟩ = some (.int .i64 (f 2)) ∧ w.cell? ⟨g, off + 3, none⟩ = some (.int .i64 (f 3)) ∧ w.cell? ⟨g, off + 4, none⟩ = some (.int .i64 (f 4)) ∧ w.cell? ⟨g, off + 5, none⟩ = some (.int .i64 (f 5)) := by
  have hc := fun o (ho : o < 6) => h.cells 0 (by simp) o ho
  have e : ∀ o, off + (0 * bsE.n + o) = off + o := fun o => by omega
  simp only [e, List.getElem_cons_zero] at hc
  exact ⟨hc 0 (by omega), hc 1 (by omega), hc 2 (by omega), hc 3 (by omega), hc 4 (by omega), hc 5 (by omega)⟩
theorem ownO_ne_kind {α β : Type} {E : Elt α} {F : Elt β} {w : World} {B C : Nat} {v u : Value} {xs : List α} {ys : List β} (h : OwnG E w B v xs) (k : OwnO F w C u ys) (hef : E.e ≠ F.e) : v.ownBlock = none ∨ v.ownBlock ≠ u.ownBlock := by
  rcases h.2 with ⟨rfl, _⟩ | ⟨g, cap, cur, rfl, _, hh, _⟩
  · left; rfl
  · right
    obtain ⟨g', off', cap', cur', rfl, _, hh', _⟩ := k
    intro e
    obtain rfl : g = g' := Option.some.inj e
    rw [hh] at hh'
    simp at hh'
    exact hef hh'.2
/-- what a round of the search loads: the box, and a state in a row -/
abbrev X9 (f g o B : Nat) (P S : Int) (u : Value) (a : Nat → Int) (W w : World) : Prop :=
  (w.cell? ⟨f, 0, none⟩ = some (.int .i64 P) ∧ w.cell? ⟨f, 1, none⟩ = some (.int .i64 S) ∧ w.cell? ⟨f, 2, none⟩ = some u) ∧
  (w.cell? ⟨g, o, none⟩ = some (.int .i64 (a 0)) ∧ w.cell? ⟨g, o + 1, none⟩ = some (.int .i64 (a 1)) ∧ w.cell? ⟨g, o + 2, none⟩ = some (.int .i64 (a 2)) ∧ w.cell? ⟨g, o + 3, none⟩ = some (.int .i64 (a 3)) ∧ w.cell? ⟨g, o + 4, none⟩ = some (.int .i64 (a 4)) ∧ w.cell? ⟨g, o + 5, none⟩ = some (.int .i64 (a 5))) ∧
  f < w.heap.size ∧ g < w.heap.size ∧ Below B W w
theorem keep9 {f g o : Nat} {P S : Int} {u : Value} {p : Nat → Int} {W a b : World} (kk : Below a.heap.size a b) (hx : X9 f g o W.heap.size P S u p W a) : X9 f g o W.heap.size P S u p W b := by
  obtain ⟨⟨a0, a1, a2⟩, ⟨b0, b1, b2, b3, b4, b5⟩, hf, hg, hb⟩ := hx
  have e : ∀ g o, g < a.heap.size → b.cell? ⟨g, o, none⟩ = a.cell? ⟨g, o, none⟩ := fun g o hg => kk.cell (p := ⟨g, o, none⟩) hg
  have hs := kk.size
  exact ⟨⟨by rw [e _ _ hf]; exact a0, by rw [e _ _ hf]; exact a1, by rw [e _ _ hf]; exact a2⟩,
    ⟨by rw [e _ _ hg]; exact b0, by rw [e _ _ hg]; exact b1, by rw [e _ _ hg]; exact b2, by rw [e _ _ hg]; exact b3, by rw [e _ _ hg]; exact b4, by rw [e _ _ hg]; exact b5⟩, by omega, by omega, bt1 hb kk⟩
theorem keep9B {f g o : Nat} {P S : Int} {u : Value} {p : Nat → Int} {W w : World} (h : X9 f g o W.heap.size P S u p W w) : Below W.heap.size W w := h.2.2.2.2
theorem slice1_bs (w : World) (g off n c : Nat) (hn : 1 ≤ n) (hc : n ≤ c) : (Instr.slice 119 (.slice (some ⟨g, off, none⟩) n c) (some (.int .i64 1)) none none).run Try.prog w = .ok (.slice (some ⟨g, if c = 1 then off else off + bsE.n, none⟩) (n - 1) (c - 1)) w := by
  have h1 : (1 : Int) ≤ (n : Int) := by omega
  by_cases e : c = 1
  · rw [if_pos e]
    simp [go_sem, h1, sliced, e]
  · rw [if_neg e]
    have e2 : ¬ c ≤ 1 := by omega
    simp [go_sem, h1, sliced, e, e2]
    rfl
theorem app_bs (w : World) {ops : Array Oper} {rest : List Oper} {o : Oper} {a : Act} {Q : Exit → Act → World → Prop} (hgd : o.guard = none) (s x : Operand)
    (ho : o.op = .call { callee := .builtin .append, args := #[s, x], argTypes := #[119, 119] })
    (B : Nat) (v : Value) (xs : List (Nat → Int)) (hs : a.eval s = v) (hown : OwnO bsE w B v xs) (g : Nat) (f : Nat → Int) (hx : a.eval x = .slice (some ⟨g, 0, none⟩) 1 1)
    (hcell : w.heap[g]? = some (.cells (bsC f) 64)) (hlen : xs.length ≤ 1000000) (hB : B ≤ w.heap.size)
    (h : ∀ v' w', OwnO bsE w' B v' (xs ++ [f]) → w.grownBy w' v.ownBlock → (v'.ownBlock = v.ownBlock ∨ v'.ownBlock = some w.heap.size) → wpList Try.prog ops Q rest (a.put o.dst v') w') : wpList Try.prog ops Q (o :: rest) a w := by
  refine app_O w hgd s x 119 ho Try.underlying119 B v xs hs hown g f hx (fun o u hu => ?_) hlen hB h
  have ho : o < 6 := by
    apply Nat.lt_of_not_le
    intro hle
    rw [List.getElem?_eq_none (by rw [bsE.len]; exact hle)] at hu
    cases hu
  rw [hb_cell hcell]
  match o, ho with
  | 0, _ => exact hu
  | 1, _ => exact hu
  | 2, _ => exact hu
  | 3, _ => exact hu
  | 4, _ => exact hu
  | 5, _ => exact hu
set_option maxHeartbeats 8000000 in
set_option maxRecDepth 1000000 in
theorem searchT_any (v : Value) (p s : Nat) (rs : List ByteArray) (d : List Nat) (M : Nat) (w : World) (hG : GX p s rs) (hsp : s ^ p ≤ 1000) (hd : stOk p s d) (hM1 : 1 ≤ M) (h : RdX w v p s rs) :
    Calls Try.prog 65 #[v, bsV (dF d)] w fun e w' => ∃ b1, e = .returned (.map (some b1)) ∧ MM hG.ks b1 (fin M (nbX p s rs) (allX p s) d).far w' ∧ w.heap.size ≤ b1 ∧ Below w.heap.size w w' := by
  have hTn := Lib.hid (fun w' (hb : Below w.heap.size w w') t (ht : stOk p s t) => turns_any v p s rs t w' hG ht (h.below hb))
  obtain ⟨uv, rfl, -⟩ := h
  have h6 := hG.p6
  have h5 := hG.s5
  have h2 := hG.s2
  have hU := Lib.hid hG.univ
  have hdU : d ∈ allX p s := (mem_X (by omega)).2 hd
  have hUl : (allX p s).length ≤ 1000 := by rw [X_len]; exact hsp
  have hStO := Lib.hid (fun t (ht : t ∈ allX p s) => (mem_X (show 1 ≤ s by omega)).1 ht)
  have hd0 := Lib.hid hd
  have hi1 := fun W : World => (mins_run (K := hG.ks) humX (W.alloc (.map #[] 0)) W.heap.size d 0 hd (hb_new _ _)).trans (by rw [sbX1])
  have hone := Lib.hid (fun W b h => mapOneI (K := hG.ks) humX (d := d) hd (W := W) (b := b) 0 (by omega) h)
  replace hsp := Lib.hid hsp
  clear hd
  have hmm := @run_makeMap Try.prog
  obtain ⟨a, hda⟩ : ∃ a, Hid (a = dF d) := ⟨_, Lib.hid rfl⟩
  replace hi1 : ∀ W : World, (Instr.mapUpdate 77 (.map (some W.heap.size)) (bsV a) (.int .i64 0)).run Try.prog (W.alloc (.map #[] 0)) = .ok () (W.alloc (mOneI (bsV a) 0)) := by rw [hda.out]; exact hi1
  rw [← hda.out]
  obtain ⟨w1, hw1⟩ : ∃ w1, Hid (w1 = (w.alloc (boxO p s uv)).alloc (bsO a)) := ⟨_, Lib.hid rfl⟩
  have hb1 : Hid (Below w.heap.size w w1) := Lib.hid (by rw [hw1.out]; exact (ba1 w _).alloc (by simp) _)
  have F1 := Lib.hid (show w1.heap[w.heap.size]? = some (boxO p s uv) by rw [hw1.out]; exact hb_old _ (hb_new _ _))
  have G1 := Lib.hid (show w1.heap[w.heap.size + 1]? = some (bsO a) by rw [hw1.out]; exact hb_new' _ _ _ (by simp))
  have l2 := hb_lt G1.out
  have g0 : w1.cell? ⟨w.heap.size + 1, 0, none⟩ = some (.int .i64 (a 0)) := hb_cell G1.out 0
  have g1 : w1.cell? ⟨w.heap.size + 1, 1, none⟩ = some (.int .i64 (a 1)) := hb_cell G1.out 1
  have g2 : w1.cell? ⟨w.heap.size + 1, 2, none⟩ = some (.int .i64 (a 2)) := hb_cell G1.out 2
  have g3 : w1.cell? ⟨w.heap.size + 1, 3, none⟩ = some (.int .i64 (a 3)) := hb_cell G1.out 3
  have g4 : w1.cell? ⟨w.heap.size + 1, 4, none⟩ = some (.int .i64 (a 4)) := hb_cell G1.out 4
  have g5 : w1.cell? ⟨w.heap.size + 1, 5, none⟩ = some (.int .i64 (a 5)) := hb_cell G1.out 5
  go_enter Try.func65, Try.ntmps65
  go_upto_region 1 with fail
  rw [← hw1.out]
  go_upto_region 2 with fail
  clear hmm hi1
  obtain ⟨w2, hw2⟩ : ∃ w2, Hid (w2 = w1.alloc (mOneI (bsV a) 0)) := ⟨_, Lib.hid rfl⟩
  have hb2 := Lib.hid (show Below w1.heap.size w1 w2 by rw [hw2.out]; exact ba1 w1 _)
  have hmm2 := Lib.hid (show MM hG.ks w1.heap.size (run M (nbX p s rs) d 0).far w2 from ⟨hone.out w2 w1.heap.size (by rw [hw2.out, hda.out]; exact hb_new _ _)⟩)
  have G2 := Lib.hid (hb_below hb2.out l2 G1.out)
  clear g0 g1 g2 g3 g4 g5
  have g0 : w2.cell? ⟨w.heap.size + 1, 0, none⟩ = some (.int .i64 (a 0)) := hb_cell G2.out 0
  have g1 : w2.cell? ⟨w.heap.size + 1, 1, none⟩ = some (.int .i64 (a 1)) := hb_cell G2.out 1
  have g2 : w2.cell? ⟨w.heap.size + 1, 2, none⟩ = some (.int .i64 (a 2)) := hb_cell G2.out 2
  have g3 : w2.cell? ⟨w.heap.size + 1, 3, none⟩ = some (.int .i64 (a 3)) := hb_cell G2.out 3
  have g4 : w2.cell? ⟨w.heap.size + 1, 4, none⟩ = some (.int .i64 (a 4)) := hb_cell G2.out 4
  have g5 : w2.cell? ⟨w.heap.size + 1, 5, none⟩ = some (.int .i64 (a 5)) := hb_cell G2.out 5
  have l2' := hb_lt G2.out
  have hs2 := Lib.hid (show w2.heap.size = w1.heap.size + 1 by rw [hw2.out]; simp)
  rw [← hw2.out]
  obtain ⟨S, hS⟩ : ∃ S, Hid (S = w1.heap.size) := ⟨_, Lib.hid rfl⟩
  obtain ⟨w3, hw3⟩ : ∃ w3, Hid (w3 = w2.alloc (bsO a)) := ⟨_, Lib.hid rfl⟩
  have hb3 := Lib.hid (show Below S w1 w3 by rw [hw3.out, hS.out]; exact hb2.out.alloc (by have := hs2.out; omega) _)
  have hmm3 := Lib.hid (show MM hG.ks S (run M (nbX p s rs) d 0).far w3 by rw [hw3.out, hS.out]; exact hmm2.out.below (ba1 w2 _))
  have ho3 := Lib.hid (show OwnO bsE w3 (S + 1) (.slice (some ⟨w2.heap.size, 0, none⟩) 1 1) (((run M (nbX p s rs) d 0).q.drop 0).map dF) by
    rw [hw3.out, hS.out]
    have e : ((run M (nbX p s rs) d 0).q.drop 0).map dF = [a] := by rw [hda.out]; rfl
    rw [e]; exact OwnO.of (own_bs w2 a _ (by have := hs2.out; omega)) (by simp))
  have hsz3 := Lib.hid (show S + 1 ≤ w3.heap.size by rw [hw3.out, hS.out]; have := hs2.out; simp; omega)
  have hwS : w.heap.size + 1 < S := by rw [hS.out]; exact l2
  have hbS := Lib.hid (show Below w.heap.size w w1 from hb1.out)
  have F1' := Lib.hid (show w.heap.size < S by omega)
  rw [← hS.out]
  go_wp2_with fail
  rw [← hw3.out]
  clear g0 g1 g2 g3 g4 g5 hmm2 G2 hb2 l2' hs2
  go_loopg [6] 1001 (fun gk qv wr => ∃ (k n c : Nat) (pp : Option Addr), gk + k = 1001 ∧ qv = .slice pp n c ∧ Hid (n = ((run M (nbX p s rs) d k).q.drop k).length) ∧ Hid ((run M (nbX p s rs) d k).q.drop k ≠ [] → OwnO bsE wr (S + 1) qv (((run M (nbX p s rs) d k).q.drop k).map dF)) ∧ Hid (MM hG.ks S (run M (nbX p s rs) d k).far wr) ∧ Hid (Below S w1 wr) ∧ Hid (S + 1 ≤ wr.heap.size))
  case atStart => exact ⟨0, 1, 1, _, rfl, rfl, Lib.hid rfl, Lib.hid (fun _ => ho3.out), hmm3, hb3, hsz3⟩
  case round =>
    obtain ⟨k, n, c, pp, hgk, rfl, hn, hq, hm, hbr, hsr⟩ := hrel
    generalize wr = wo at *
    have hbw := Lib.hid (show Below w.heap.size w wo from hbS.out.trans (hbr.out.mono (by omega)))
    have hQN : (run M (nbX p s rs) d k).q.length ≤ 1000 := Nat.le_trans (hU.out.len hdU M k) hUl
    by_cases h0 : n = 0
    · subst h0
      have hend : (run M (nbX p s rs) d k).q[k]? = none := List.getElem?_eq_none (by have := hn.out; rw [List.length_drop] at this; omega)
      have hfin := hU.out.fin_at hdU hend
      rw [hfin] at hm
      replace hfin := Lib.hid hfin
      replace hend := Lib.hid hend
      go_wp2_with fail
      go_ret
      exact ⟨S, rfl, hm.out, by omega, hbw.out⟩
    · obtain ⟨z, hz⟩ : ∃ z, (run M (nbX p s rs) d k).q[k]? = some z := by
        have h9 : k < (run M (nbX p s rs) d k).q.length := by have := hn.out; rw [List.length_drop] at this; omega
        exact ⟨_, List.getElem?_eq_getElem h9⟩
      have hdr : (run M (nbX p s rs) d k).q.drop k = z :: (run M (nbX p s rs) d k).q.drop (k + 1) := by
        obtain ⟨h9, e⟩ := List.getElem?_eq_some_iff.1 hz
        rw [List.drop_eq_getElem_cons h9, e]
      have hne : (run M (nbX p s rs) d k).q.drop k ≠ [] := by rw [hdr]; simp
      have hq1 := hq.out hne
      rw [hdr, List.map_cons] at hq1
      obtain ⟨g, off, cap, e9, hgB, hgl, hnc, hcm⟩ := hq1.form
      have e10 : (dF z :: ((run M (nbX p s rs) d k).q.drop (k + 1)).map dF).length = n := by rw [hn.out, hdr]; simp
      rw [e10] at e9 hnc
      injection e9 with e9a e9b e9c
      subst e9a e9c
      clear e9b
      have hq2 := Lib.hid hq1
      have hzU := Lib.hid (hU.out.sub hdU M k z (List.mem_of_getElem? hz))
      have hzS := Lib.hid (hStO.out z hzU.out)
      have hz' := Lib.hid hz
      obtain ⟨D, hD⟩ : ∃ D, Hid (D = (run M (nbX p s rs) d k).dst z) := ⟨_, Lib.hid rfl⟩
      have hDf : Hid ((run M (nbX p s rs) d k).far z = some D) := Lib.hid (by rw [hD.out]; exact (run_ok M (nbX p s rs) d k).dst (List.mem_of_getElem? hz))
      have hDk : D ≤ k := by rw [hD.out]; exact dst_le k k z hz
      have hk0 : k < 1001 := by have := (List.getElem?_eq_some_iff.1 hz).1; omega
      have hD9 : D ≤ 1001 := by omega
      obtain ⟨fz, hfz⟩ : ∃ fz, Hid (fz = dF z) := ⟨_, Lib.hid rfl⟩
      rw [← hfz.out] at hq1 hq2
      obtain ⟨c0, c1, c2, c3, c4, c5⟩ := bs_first hq1
      have Fo := Lib.hid (hb_below hbr.out F1' F1.out)
      have f0 : wo.cell? ⟨w.heap.size, 0, none⟩ = some (.int .i64 p) := hb_cell Fo.out 0
      have f1 : wo.cell? ⟨w.heap.size, 1, none⟩ = some (.int .i64 s) := hb_cell Fo.out 1
      have f2 : wo.cell? ⟨w.heap.size, 2, none⟩ = some uv := hb_cell Fo.out 2
      have lf := hb_lt Fo.out
      have hn0 : 0 < n := by omega
      have hTz := Lib.hid (fun W hb => hTn.out W (bt1 hbw.out hb) z hzS.out)
      rw [← hfz.out] at hTz
      replace hn := Lib.hid hn.out
      clear hq1 hdr hne hz h0 e10
      have hSS : X9 w.heap.size g off wo.heap.size p s uv fz wo wo := ⟨⟨f0, f1, f2⟩, ⟨c0, c1, c2, c3, c4, c5⟩, lf, hgl, Below.refl _ _⟩
      go_wp2_with fail
      go_region_held3 (fun v => X9 w.heap.size g off wo.heap.size p s uv fz wo v) ((first | assumption | (refine ⟨⟨?_, ?_, ?_⟩, ⟨?_, ?_, ?_, ?_, ?_, ?_⟩, ?_, ?_, ?_⟩ <;> first | assumption | go_keep | omega | exact (Below.refl _ _).drew)))
        (first | (go_at_call 57; refine (hTz.out _ ?_).mono ?_; (exact keep9B (by assumption)); rintro e w' ⟨u, rfl, hu, hb11⟩; have hu2 := Lib.hid (hu.mono (C := wo.heap.size) (keep9B (W := wo) (by assumption)).size); have hbn2 := keep9 hb11 (by assumption); obtain ⟨pu, cu, hue⟩ : ∃ p9 c, u = .slice p9 ((tK s rs z (2 * p)).map (tnW z)).length c := (by obtain ⟨p9, c, e, h⟩ := hu2.out.rd; exact ⟨p9, c, e⟩); subst hue))
      rename World => w7
      have hb7 := Lib.hid (keep9B hbn2)
      have hm7 := Lib.hid (hm.out.below hb7.out)
      have hq7 := Lib.hid (hq2.out.below hb7.out)
      have hbr7 := Lib.hid (bt2 hbr.out hb7.out (by have := hsr.out; omega))
      have hs7 := Lib.hid (show S + 1 ≤ w7.heap.size from Nat.le_trans hsr.out hb7.out.size)
      have hsr' := hsr.out
      have hnu9 := tK_len s rs z (2 * p)
      rw [List.length_map] at hu2
      obtain ⟨nu, hnu⟩ : ∃ nu, (tK s rs z (2 * p)).length = nu := ⟨_, rfl⟩
      rw [hnu] at hu2 hnu9 ⊢
      replace hnu := Lib.hid hnu
      have hn7 : Hid (OwnO bsE w7 (S + 1) (.slice (some ⟨g, off, none⟩) n c) (((half M (nbX p s rs) d (D + 1) k z 0).q.drop k).map dF)) := Lib.hid (by
        have e : (half M (nbX p s rs) d (D + 1) k z 0).q.drop k = z :: (run M (nbX p s rs) d k).q.drop (k + 1) := by
          rw [half_zero]
          obtain ⟨h9, e⟩ := List.getElem?_eq_some_iff.1 hz'.out
          rw [List.drop_eq_getElem_cons h9, e]
        rw [e, List.map_cons, ← hfz.out]; exact hq7.out)
      clear hbn2 hu hb11 hSS f0 f1 f2 c0 c1 c2 c3 c4 c5 hq7 hq2 Fo
      go_wp2_with fail
      go_loopw [6, 27] (fun qv i wr => ∃ (j n9 c9 off9 g9 : Nat), j ≤ nu ∧ i = .int .i64 j ∧ qv = .slice (some ⟨g9, off9, none⟩) n9 c9 ∧ Hid (OwnO bsE wr (S + 1) qv (((half M (nbX p s rs) d (D + 1) k z j).q.drop k).map dF)) ∧ Hid (MM hG.ks S (half M (nbX p s rs) d (D + 1) k z j).far wr) ∧ Hid (OwnG tnE wr wo.heap.size (.slice pu nu cu) ((tK s rs z (2 * p)).map (tnW z))) ∧ Hid (Below S w1 wr) ∧ Hid (S + 1 ≤ wr.heap.size)) (fun _ i _ => nu - (intOf i).toNat)
      case atStart => exact ⟨0, n, c, off, g, Nat.zero_le _, rfl, rfl, hn7, hm7, hu2, hbr7, hs7⟩
      case round =>
        obtain ⟨j, n9, c9, off9, g9, hj, rfl, rfl, hqj, hmj, huj, hbj, hsj⟩ := hrel
        generalize wr = wq at *
        have hgk := (half_ext (M := M) (nb := nbX p s rs) (s0 := d) (n := D + 1) (k := k) (s := z) j).get hz'.out
        by_cases hlj : j < nu
        · have hjm : j < (tK s rs z (2 * p)).length := by rw [hnu.out]; exact hlj
          have hjv : j < ((tK s rs z (2 * p)).map (tnW z)).length := by rw [List.length_map]; exact hjm
          have hmem := List.getElem_mem hjm
          have hnbj : (nbX p s rs z)[j]? = some (tuD z (tK s rs z (2 * p))[j].1 (tK s rs z (2 * p))[j].2) := by unfold nbX; rw [List.getElem?_map, List.getElem?_eq_getElem hjm]; rfl
          obtain ⟨gu, rfl, hgul, hcell⟩ := huj.out.rg (fun e => by rw [e] at hjv; cases hjv)
          have hcx := fun o ho => hcell j hjv o ho
          rw [List.getElem_map] at hcx
          clear hcell
          generalize (tK s rs z (2 * p))[j] = m at *
          obtain ⟨mk, mu⟩ := m
          obtain ⟨hmb, hcan⟩ := (tK_mem' s rs z mk mu _).1 hmem
          dsimp only at hnbj
          have hnxU := Lib.hid (hU.out.cl z hzU.out _ (List.mem_of_getElem? hnbj))
          have hnxS := Lib.hid (hStO.out _ hnxU.out)
          have hstep := Lib.hid (half_succ (M := M) (n := D + 1) (k := k) (s0 := d) z j _ hnbj)
          have hfat := Lib.hid ((half_ext (M := M) (nb := nbX p s rs) (s0 := d) (n := D + 1) (k := k) (s := z) j).far z _ hDf.out)
          have hSB := Lib.hid (half_sb (M := M) (n := D + 1) (k := k) hM1 hU.out hdU hzU.out j)
          have hQ2 := Lib.hid (show (half M (nbX p s rs) d (D + 1) k z j).q.length ≤ 1000 from Nat.le_trans (nodup_sub_len hSB.out.nd hSB.out.sub) hUl)
          have htn : tnW z (mk, mu) = ((mk : Int), byX mu, dF (tuD z mk mu)) := rfl
          rw [htn] at hcx
          generalize tuD z mk mu = nx at *
          obtain ⟨f2, hf2⟩ : ∃ x, Hid (x = dF nx) := ⟨_, Lib.hid rfl⟩
          rw [← hf2.out] at hcx
          obtain ⟨y2, hy2⟩ : ∃ x : Int, Hid (x = byX mu) := ⟨_, Lib.hid rfl⟩
          rw [← hy2.out] at hcx
          have c0 : wq.cell? ⟨gu, j * 8, none⟩ = some (.int .i64 mk) := hcx 0 (show 0 < 8 by omega)
          have c1 : wq.cell? ⟨gu, j * 8 + 1, none⟩ = some (.int .i64 y2) := hcx 1 (show 1 < 8 by omega)
          have c2 : wq.cell? ⟨gu, j * 8 + 2, none⟩ = some (.int .i64 (f2 0)) := hcx 2 (show 2 < 8 by omega)
          have c3 : wq.cell? ⟨gu, j * 8 + 3, none⟩ = some (.int .i64 (f2 1)) := hcx 3 (show 3 < 8 by omega)
          have c4 : wq.cell? ⟨gu, j * 8 + 4, none⟩ = some (.int .i64 (f2 2)) := hcx 4 (show 4 < 8 by omega)
          have c5 : wq.cell? ⟨gu, j * 8 + 5, none⟩ = some (.int .i64 (f2 3)) := hcx 5 (show 5 < 8 by omega)
          have c6 : wq.cell? ⟨gu, j * 8 + 6, none⟩ = some (.int .i64 (f2 4)) := hcx 6 (show 6 < 8 by omega)
          have c7 : wq.cell? ⟨gu, j * 8 + 7, none⟩ = some (.int .i64 (f2 5)) := hcx 7 (show 7 < 8 by omega)
          clear hcx htn
          obtain ⟨w8, hw8⟩ : ∃ x, Hid (x = wq.alloc (.cells (tnC mk y2 f2) 70)) := ⟨_, Lib.hid rfl⟩
          have hb8 := Lib.hid (show Below wq.heap.size wq w8 by rw [hw8.out]; exact ba1 wq _)
          have M8 := Lib.hid (show w8.heap[wq.heap.size]? = some (.cells (tnC mk y2 f2) 70) by rw [hw8.out]; exact hb_new _ _)
          have hq8 := Lib.hid (hqj.out.below hb8.out)
          have hm8 := Lib.hid (hmj.out.below hb8.out)
          have hu8 := Lib.hid (huj.out.below hb8.out)
          have hbr8 := Lib.hid (bt2 hbj.out hb8.out (by have := hsj.out; omega))
          have hs8 := Lib.hid (show S + 1 ≤ w8.heap.size from Nat.le_trans hsj.out hb8.out.size)
          obtain ⟨Dm, hDm1, hDm2⟩ := hm8.out.ex
          have hlk : (Instr.lookup 77 (.map (some S)) (bsV f2) true).run Try.prog w8 = .ok (.tuple #[.int .i64 ((((half M (nbX p s rs) d (D + 1) k z j).far nx).getD 0 : Nat) : Int), .bool ((half M (nbX p s rs) d (D + 1) k z j).far nx).isSome]) w8 := by rw [hf2.out]; exact mlkO (K := hG.ks) humX hnxS.out hDm1 hDm2
          have s2 : w8.cell? ⟨wq.heap.size, 2, none⟩ = some (.int .i64 (f2 0)) := hb_cell M8.out 2
          have s3 : w8.cell? ⟨wq.heap.size, 3, none⟩ = some (.int .i64 (f2 1)) := hb_cell M8.out 3
          have s4 : w8.cell? ⟨wq.heap.size, 4, none⟩ = some (.int .i64 (f2 2)) := hb_cell M8.out 4
          have s5 : w8.cell? ⟨wq.heap.size, 5, none⟩ = some (.int .i64 (f2 3)) := hb_cell M8.out 5
          have s6 : w8.cell? ⟨wq.heap.size, 6, none⟩ = some (.int .i64 (f2 4)) := hb_cell M8.out 6
          have s7 : w8.cell? ⟨wq.heap.size, 7, none⟩ = some (.int .i64 (f2 5)) := hb_cell M8.out 7
          clear hnbj hmem hDm1 hDm2
          go_upto_region 8 with fail
          rw [← hw8.out]
          clear c0 c1 c2 c3 c4 c5 c6 c7
          cases hf : (half M (nbX p s rs) d (D + 1) k z j).far nx with
          | some E =>
            rw [hf] at hlk
            have hq : (half M (nbX p s rs) d (D + 1) k z (j + 1)).q = (half M (nbX p s rs) d (D + 1) k z j).q := by rw [hstep.out]; exact (add_some hf).1
            have hfar : (half M (nbX p s rs) d (D + 1) k z (j + 1)).far = (half M (nbX p s rs) d (D + 1) k z j).far := by rw [hstep.out]; exact (add_some hf).2
            rw [← hq] at hq8
            rw [← hfar] at hm8
            clear hq hfar hf
            go_wp2_with fail
            go_roundw
            case rel => exact ⟨j + 1, n9, c9, off9, g9, by omega, by go_num, rfl, hq8, hm8, hu8, hbr8, hs8⟩
            all_goals (simp [intOf] <;> omega)
          | none =>
            rw [hf] at hlk
            have hgf := hgk
            have hdr2 : Hid (∃ xs, ((half M (nbX p s rs) d (D + 1) k z j).q.drop k).map dF = fz :: xs) := Lib.hid (by
              obtain ⟨h9, e⟩ := List.getElem?_eq_some_iff.1 hgk
              exact ⟨_, by rw [List.drop_eq_getElem_cons h9, e, List.map_cons, hfz.out]⟩)
            obtain ⟨xs9, hxs9⟩ := hdr2.out
            have hq8x := hq8.out
            rw [hxs9] at hq8x
            obtain ⟨e0, e1, e2, e3, e4, e5⟩ := bs_first hq8x
            have hg9 : g9 < w8.heap.size := (hq8.out.lt g9 rfl).2
            have hn9e := (show n9 = (((half M (nbX p s rs) d (D + 1) k z j).q.drop k).map dF).length by obtain ⟨g', off', cap', ee, _⟩ := hq8.out.form; injection ee)
            have hn90 : 0 < n9 := by rw [hn9e, hxs9]; simp
            clear hq8x hxs9 hgf hdr2
            replace hn9e := Lib.hid hn9e
            obtain ⟨Dm, hDm1, hDm2⟩ := hm8.out.ex
            have hDmd : MapI hG.ks w8.drew S Dm := hDm1.drew
            have hlk2 : (Instr.lookup 77 (.map (some S)) (bsV fz) false).run Try.prog w8.drew = .ok (.int .i64 (D : Int)) w8.drew := by
              have h9 := mlkI (K := hG.ks) humX hzS.out hDmd hDm2
              rw [hfat.out] at h9
              rw [hfz.out]; exact h9
            have hsz9 : Maps.size Dm ≤ 100000 := by
              have h9 := hDm2.size hDm1 (half M (nbX p s rs) d (D + 1) k z j).q hSB.out.nd hSB.out.mem (fun t ht => hStO.out t (hSB.out.sub t ht))
              rw [h9]; have := hQ2.out; omega
            obtain ⟨w9, hup0, Dm2, hDn1, hDn2, hg9w⟩ := mupI (K := hG.ks) humX hnxS.out hDmd hDm2 hsz9 (D + 1) (by omega)
            have hup : (Instr.mapUpdate 77 (.map (some S)) (bsV f2) (.int .i64 ((D : Int) + 1))).run Try.prog w8.drew = .ok () w9 := by
              have e : ((D + 1 : Nat) : Int) = (D : Int) + 1 := by omega
              rw [hf2.out, ← e]; exact hup0
            have ew : IntKind.i64.wrap ((D : Int) + 1) = (D : Int) + 1 := by rw [IntKind.wrap_i64]; omega
            have ew2 : wrap64 ((D : Int) + 1) = (D : Int) + 1 := by unfold wrap64; omega
            have hm9 := Lib.hid (show MM hG.ks S (half M (nbX p s rs) d (D + 1) k z (j + 1)).far w9 from ⟨Dm2, hDn1, by rw [hstep.out, add_far _ _ _ _ _ hf]; exact hDn2⟩)
            clear hDm1 hDm2 hDmd hup0 hDn1 hDn2 hsz9
            replace hg9w := Lib.hid hg9w
            go_upto_region 10 with fail
            go_wp2_with fail
            go_region
            have hSj := hsj.out
            have hS8 := hs8.out
            have hz8 : w8.heap.size = wq.heap.size + 1 := by rw [hw8.out]; simp
            have hqB := (hq8.out.lt g9 rfl).1
            have huB := (huj.out.lt gu rfl).1
            have hq9 := Lib.hid ((hq8.out.below (Below.refl _ _).drew).kept hg9w.out (by intro e; have e9 : g9 = S := Option.some.inj e; omega))
            have hu9 := Lib.hid ((hu8.out.below (Below.refl _ _).drew).kept hg9w.out (.inr (by intro e; have e9 : gu = S := Option.some.inj e; omega)))
            have M9 := Lib.hid ((hg9w.out.block wq.heap.size (hb_lt M8.out) (by intro e; have := Option.some.inj e; omega)).trans M8.out)
            have hbr9 := Lib.hid (hbr8.out.drew.grown hg9w.out (show S ≤ w8.heap.size by omega) (fun k e => by have := Option.some.inj e; omega))
            have hs9 := Lib.hid (show S + 1 ≤ w9.heap.size from Nat.le_trans hs8.out hg9w.out.size)
            have hS9 := hs9.out
            have hqe : Hid (((half M (nbX p s rs) d (D + 1) k z (j + 1)).q.drop k).map dF = ((half M (nbX p s rs) d (D + 1) k z j).q.drop k).map dF ++ [f2]) := Lib.hid (by
              have h9 := (List.getElem?_eq_some_iff.1 hgk).1
              rw [hstep.out, add_none hf, drop_snoc _ _ _ (by omega), List.map_append, hf2.out]; rfl)
            have hlq : Hid ((((half M (nbX p s rs) d (D + 1) k z j).q.drop k).map dF).length ≤ 1000000) := Lib.hid (by rw [List.length_map, List.length_drop]; have := hQ2.out; omega)
            have t2 : w9.cell? ⟨wq.heap.size, 2, none⟩ = some (.int .i64 (f2 0)) := hb_cell M9.out 2
            have t3 : w9.cell? ⟨wq.heap.size, 3, none⟩ = some (.int .i64 (f2 1)) := hb_cell M9.out 3
            have t4 : w9.cell? ⟨wq.heap.size, 4, none⟩ = some (.int .i64 (f2 2)) := hb_cell M9.out 4
            have t5 : w9.cell? ⟨wq.heap.size, 5, none⟩ = some (.int .i64 (f2 3)) := hb_cell M9.out 5
            have t6 : w9.cell? ⟨wq.heap.size, 6, none⟩ = some (.int .i64 (f2 4)) := hb_cell M9.out 6
            have t7 : w9.cell? ⟨wq.heap.size, 7, none⟩ = some (.int .i64 (f2 5)) := hb_cell M9.out 7
            have hq10 := Lib.hid (hq9.out.alloc (bsO f2))
            clear hgk hf hz8 s2 s3 s4 s5 s6 s7 e0 e1 e2 e3 e4 e5 hlk hlk2 hup
            go_wp2_with (at_builtin; refine app_bs _ rfl _ _ rfl (S + 1) _ _ rfl hq10.out w9.heap.size f2 rfl (hb_new _ _) hlq.out (Nat.le_trans hs9.out (by simp)) ?_; intro v' w12 ho12 hg12 hat12; replace ho12 := Lib.hid ho12; replace hg12 := Lib.hid hg12; clear hat12)
            obtain ⟨g12, off12, c12, hv12, -⟩ := ho12.out.form
            have hq12 := Lib.hid (show OwnO bsE w12 (S + 1) v' (((half M (nbX p s rs) d (D + 1) k z (j + 1)).q.drop k).map dF) by rw [hqe.out]; exact ho12.out)
            have hm12 := Lib.hid ((hm9.out.below (ba1 w9 (bsO f2))).kept hg12.out (by intro e; have h1 := (hq10.out.lt _ e.symm).1; omega))
            have hu12 := Lib.hid ((hu9.out.alloc (bsO f2)).kept hg12.out (ownO_ne_kind (hu9.out.alloc (bsO f2)) hq10.out (by decide)))
            have hbr12 := Lib.hid ((hbr9.out.alloc (show S ≤ w9.heap.size by omega) (bsO f2)).grown hg12.out (Nat.le_trans (show S ≤ w9.heap.size by omega) (by simp)) (fun k e => by have h1 := (hq10.out.lt k e).1; omega))
            have hs12 := Lib.hid (show S + 1 ≤ w12.heap.size from Nat.le_trans (Nat.le_trans hs9.out (by simp)) hg12.out.size)
            subst hv12
            go_roundw
            case rel => exact ⟨j + 1, _, c12, off12, g12, by omega, by go_num, rfl, hq12, hm12, hu12, hbr12, hs12⟩
            all_goals (simp [intOf] <;> omega)
        · have hje : nu ≤ j := by omega
          have hall : half M (nbX p s rs) d (D + 1) k z j = run M (nbX p s rs) d (k + 1) := half_all hz'.out (by rw [hD.out]) j (by have := hnu.out; unfold nbX; rw [List.length_map]; omega)
          rw [hall] at hqj hmj hgk
          clear hall
          replace hje := Lib.hid hje
          have hdr3 : (run M (nbX p s rs) d (k + 1)).q.drop k = z :: (run M (nbX p s rs) d (k + 1)).q.drop (k + 1) := by
            obtain ⟨h9, e⟩ := List.getElem?_eq_some_iff.1 hgk
            rw [List.drop_eq_getElem_cons h9, e]
          rw [hdr3, List.map_cons] at hqj
          have htl := Lib.hid (hqj.out.tail)
          have hlen3 := (show n9 = (dF z :: ((run M (nbX p s rs) d (k + 1)).q.drop (k + 1)).map dF).length by obtain ⟨g', off', cap', ee, _⟩ := hqj.out.form; injection ee)
          have hcap3 : n9 ≤ c9 := by
            obtain ⟨g', off', cap', ee, _, _, h9, _⟩ := hqj.out.form
            injection ee with e1 e2 e3
            omega
          have hn93 : 1 ≤ n9 := by rw [hlen3]; simp
          have hlen4 : Hid (n9 - 1 = ((run M (nbX p s rs) d (k + 1)).q.drop (k + 1)).length) := Lib.hid (by rw [hlen3]; simp)
          have hsl := slice1_bs wq g9 off9 n9 c9 hn93 hcap3
          have h1n : (1 : Int) ≤ (n9 : Int) := by omega
          obtain ⟨off1, hoff1⟩ : ∃ x, Hid (x = if c9 = 1 then off9 else off9 + bsE.n) := ⟨_, Lib.hid rfl⟩
          rw [← hoff1.out] at htl hsl
          clear hgk hdr3 hlen3
          go_wp2_with fail
          go_roundg (gk - 1)
          case rel => exact ⟨k + 1, n9 - 1, c9 - 1, _, by omega, rfl, hlen4, Lib.hid (fun _ => htl.out), hmj, hbj, hsj⟩
          all_goals omega
end Go.Proofs.Ytjlecipeoaohiaa
