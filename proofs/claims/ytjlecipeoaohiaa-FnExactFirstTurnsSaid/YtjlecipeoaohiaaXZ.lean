/- The model's search by turns: how far each state is. -/
import Derived.Test.YtjlecipeoaohiaaXY
import Derived.Test.YtjlecipeoaohiaaBase0
import Derived.Test.YtjlecipeoaohiaaRR2
import Derived.Test.YtjlecipeoaohiaaX8
import Derived.Deep.OwnRows
import Derived.Deep.RegionHeld3
import Derived.BigRegion
import Derived.BigQuiet
namespace Go.Proofs.Ytjlecipeoaohiaa
set_option linter.unusedSimpArgs false
set_option linter.unusedVariables false
open Go Go.RowKit RM
def fX : Option Nat → Int | none => -1 | some d => (d : Int)
/-- how far each state is, by its number -/
def mX (p s : Nat) (f : List Nat → Option Nat) : List Int := (List.range (s ^ p)).map fun y => fX (f (gX s p y))
theorem mX_len (p s : Nat) (f : List Nat → Option Nat) : (mX p s f).length = s ^ p := by simp [mX]
theorem mX_get {p s : Nat} {t : List Nat} (ht : stOk p s t) (f : List Nat → Option Nat) (h : nX s t < (mX p s f).length) : (mX p s f)[nX s t] = fX (f t) := by
  simp [mX, gX_st ht]
theorem mX_set {p s : Nat} {t : List Nat} (hs : 1 ≤ s) (ht : stOk p s t) (f g : List Nat → Option Nat) (d : Nat) (h : g t = some d) (ho : ∀ u, u ≠ t → g u = f u) : (mX p s f).set (nX s t) (d : Int) = mX p s g := by
  apply List.ext_getElem
  · simp [mX]
  · intro i h1 h2
    rw [List.getElem_set]
    rw [mX_len] at h2
    split
    · rename_i e; subst e
      simp only [mX, List.getElem_map, List.getElem_range]
      rw [gX_st ht, h]; rfl
    · rename_i e
      simp only [mX, List.getElem_map, List.getElem_range]
      rw [ho _ (fun e2 => e (by rw [← e2]; exact (nX_gX hs _ _ h2)))]
theorem mX_none (p s : Nat) : (List.replicate (s ^ p) (-1) : List Int) = mX p s (fun _ => none) := by
  apply List.ext_getElem
  · simp [mX]
  · intro i h1 h2; simp [mX, fX]
theorem mX_one {p s : Nat} {t : List Nat} (hs : 1 ≤ s) (ht : stOk p s t) : (List.replicate (s ^ p) (-1) : List Int).set (nX s t) 0 = mX p s (Sr.one t).far := by
  rw [mX_none]
  exact mX_set hs ht _ _ 0 (by simp [Sr.one]) (fun u hu => by simp [Sr.one, hu])
theorem OwnSS.keptT {w w' : World} {B C : Nat} {v u : Value} {xss : List (List Int)} {ys : List ByteArray} (h : OwnSS w B v xss) (hu : OwnT w C u ys) (hg : w.grownBy w' u.ownBlock) : OwnSS w' B v xss := by
  obtain ⟨ps, e, h⟩ := h
  exact ⟨ps, e, ⟨h.row.kept hg (own_ne_kind h.row hu (by decide)), fun q hq => (h.inn q hq).kept hg (own_ne_kind (h.inn q hq) hu (by decide)), h.apart⟩⟩
theorem OwnSS.keptLow {w w' : World} {B g : Nat} {v : Value} {xss : List (List Int)} (h : OwnSS w B v xss) (hg : w.grownBy w' (some g)) (hl : g < B) : OwnSS w' B v xss := by
  obtain ⟨ps, e, h⟩ := h
  exact ⟨ps, e, ⟨h.row.grown hg hl, fun q hq => (h.inn q hq).grown hg hl, h.apart⟩⟩
theorem OwnSS.at {w : World} {B : Nat} {p : Option Addr} {n c : Nat} {xss : List (List Int)} (h : OwnSS w B (.slice p n c) xss) {k : Nat} (hk : k < xss.length) {x y : Int} (hx : xss[k] = [x, y]) : ∃ g gi c2, p = some ⟨g, 0, none⟩ ∧ g < w.heap.size ∧ gi < w.heap.size ∧ w.cell? ⟨g, k, none⟩ = some (.slice (some ⟨gi, 0, none⟩) 2 c2) ∧ w.cell? ⟨gi, 0, none⟩ = some (.int .i64 x) ∧ w.cell? ⟨gi, 1, none⟩ = some (.int .i64 y) := by
  obtain ⟨p', c', e, _, hr⟩ := h.rd
  obtain ⟨g, a, m, c2, e2, hg, h1, h2, h3⟩ := hr w (Below.refl _ _) k hk
  simp at e
  rw [hx] at h2 h3
  rcases h2.form with ⟨_, e3⟩ | ⟨gi, cap, e3, _, hl, hc, _⟩
  · cases e3
  · simp at e3
    obtain ⟨rfl, rfl, rfl⟩ := e3
    exact ⟨g, gi, c2, by rw [e.1, e2], hg, hl, h1, hc 0 (by simp), hc 1 (by simp)⟩
theorem own_litX (w : World) (s : ByteArray) (B : Nat) (hB : B ≤ w.heap.size) : OwnT (w.alloc (.cells #[.string s] 9)) B (.slice (some ⟨w.heap.size, 0, none⟩) 1 1) [s] :=
  ⟨rfl, .inr ⟨_, 1, #[.string s], rfl, hB, hb_new _ _, Nat.le_refl _, by decide, rfl, rfl⟩⟩
theorem own_mkX {w : World} {B g N : Nat} (h : w.heap[g]? = some (.cells (madeCells #[.int .i64 0] N) 3)) (hB : B ≤ g) (hN : N ≤ 2000000) : OwnI w B (.slice (some ⟨g, 0, none⟩) N N) (List.replicate N 0) := by
  have e : vint (List.replicate N 0) = (madeCells #[.int .i64 0] N).toList := by rw [toList_madeCells_one]; simp [vint]
  have e2 : (madeCells #[Value.int .i64 0] N).size = N := by
    have := congrArg List.length e; simpa [vint] using this.symm
  unfold OwnI World.ownsRow
  rw [List.length_replicate]
  refine ⟨by simp [vint], .inr ⟨g, N, _, rfl, hB, h, Nat.le_refl _, by unfold maxLen; omega, by rw [e2]; omega, ?_⟩⟩
  rw [e, List.take_of_length_le (by rw [Array.length_toList, e2]; omega)]
/-- what the search holds in memory -/
structure TFX (B : Nat) (w0 w : World) (N gm : Nat) (q : Value) (Q : List ByteArray) (M : List Int) : Prop where
  mv : OwnI w B (.slice (some ⟨gm, 0, none⟩) N N) M
  qu : OwnT w B q Q
  bel : Below B w0 w
  le : B ≤ w.heap.size
structure TGX (B : Nat) (w0 w : World) (N gm : Nat) (q : Value) (Q : List ByteArray) (M : List Int) (v : Value) (Bv : Nat) (ms : List (List Int)) : Prop where
  tf : TFX B w0 w N gm q Q M
  sl : OwnSS w Bv v ms
  hm : gm < Bv
section
variable {B : Nat} {w0 w w' : World} {N gm : Nat} {q q' : Value} {Q : List ByteArray} {M : List Int} {v : Value} {Bv : Nat} {ms : List (List Int)}
theorem TFX.below (h : TFX B w0 w N gm q Q M) (hb : Below w.heap.size w w') : TFX B w0 w' N gm q Q M :=
  ⟨h.mv.below hb, h.qu.below hb, h.bel.trans (hb.mono h.le), Nat.le_trans h.le hb.size⟩
theorem TFX.store (h : TFX B w0 w N gm q Q M) (hM : M.length = N) (k : Nat) (y : Int) : TFX B w0 (w.setCell ⟨gm, k, none⟩ (.int .i64 y)) N gm q Q (M.set k y) := by
  obtain ⟨hs, hg⟩ := h.mv.stored hM k y
  have hm := (h.mv.lt gm rfl)
  exact ⟨hs, h.qu.kept hg (own_ne_kind h.qu h.mv (by decide)), h.bel.setCell hm.1 _, by simpa using h.le⟩
theorem TFX.push {z : ByteArray} (h : TFX B w0 w N gm q Q M) (hq : OwnT w' B q' (Q ++ [z])) (hg : w.grownBy w' q.ownBlock) : TFX B w0 w' N gm q' (Q ++ [z]) M :=
  ⟨h.mv.kept hg (own_ne_kind h.mv h.qu (by decide)), hq, h.bel.grown hg h.le fun k e => (h.qu.lt k e).1, Nat.le_trans h.le hg.size⟩
theorem TGX.below (h : TGX B w0 w N gm q Q M v Bv ms) (hb : Below w.heap.size w w') : TGX B w0 w' N gm q Q M v Bv ms := ⟨h.tf.below hb, h.sl.below hb, h.hm⟩
theorem TGX.store (h : TGX B w0 w N gm q Q M v Bv ms) (hM : M.length = N) (k : Nat) (y : Int) : TGX B w0 (w.setCell ⟨gm, k, none⟩ (.int .i64 y)) N gm q Q (M.set k y) v Bv ms :=
  ⟨h.tf.store hM k y, h.sl.keptLow (grown_set w gm k _) h.hm, h.hm⟩
theorem TGX.push {z : ByteArray} (h : TGX B w0 w N gm q Q M v Bv ms) (hq : OwnT w' B q' (Q ++ [z])) (hg : w.grownBy w' q.ownBlock) : TGX B w0 w' N gm q' (Q ++ [z]) M v Bv ms :=
  ⟨h.tf.push hq hg, h.sl.keptT h.tf.qu hg, h.hm⟩
end
/-- what a region of the search loads: the box, and three cells -/
abbrev X6 (x g3 o3 g4 o4 g5 o5 B : Nat) (P S : Int) (u v3 v4 v5 : Value) (W w : World) : Prop :=
  (w.cell? ⟨x, 0, none⟩ = some (.int .i64 P) ∧ w.cell? ⟨x, 1, none⟩ = some (.int .i64 S) ∧ w.cell? ⟨x, 2, none⟩ = some u ∧ w.cell? ⟨g3, o3, none⟩ = some v3 ∧ w.cell? ⟨g4, o4, none⟩ = some v4 ∧ w.cell? ⟨g5, o5, none⟩ = some v5) ∧ (x < w.heap.size ∧ g3 < w.heap.size ∧ g4 < w.heap.size ∧ g5 < w.heap.size) ∧ Below B W w
theorem keep6 {x g3 o3 g4 o4 g5 o5 : Nat} {P S : Int} {u v3 v4 v5 : Value} {W a b : World} (hb : Below a.heap.size a b) (h : X6 x g3 o3 g4 o4 g5 o5 W.heap.size P S u v3 v4 v5 W a) : X6 x g3 o3 g4 o4 g5 o5 W.heap.size P S u v3 v4 v5 W b := by
  obtain ⟨⟨h0, h1, h2, h3, h4, h5⟩, ⟨l1, l2, l3, l4⟩, hB⟩ := h
  have hz := hb.size
  exact ⟨⟨by rw [hb.cell (p := ⟨x, 0, none⟩) l1]; exact h0, by rw [hb.cell (p := ⟨x, 1, none⟩) l1]; exact h1, by rw [hb.cell (p := ⟨x, 2, none⟩) l1]; exact h2, by rw [hb.cell (p := ⟨g3, o3, none⟩) l2]; exact h3, by rw [hb.cell (p := ⟨g4, o4, none⟩) l3]; exact h4, by rw [hb.cell (p := ⟨g5, o5, none⟩) l4]; exact h5⟩, ⟨by omega, by omega, by omega, by omega⟩, bt1 hB hb⟩
theorem keep6B {x g3 o3 g4 o4 g5 o5 : Nat} {P S : Int} {u v3 v4 v5 : Value} {W a : World} (h : X6 x g3 o3 g4 o4 g5 o5 W.heap.size P S u v3 v4 v5 W a) : Below W.heap.size W a := h.2.2
set_option maxRecDepth 100000 in
set_option maxHeartbeats 4000000 in
theorem bxFar_any (M : Nat) (v : Value) (p s : Nat) (rs : List ByteArray) (d : List Nat) (w : World) (hG : GX p s rs) (hsp : s ^ p ≤ 1000) (h : RdX w v p s rs) (hd0 : stOk p s d) (hM1 : 1 ≤ M) :
    Calls Try.prog 66 #[v, .string (tS d)] w fun e w' => ∃ gm, e = .returned (.tuple #[.slice (some ⟨gm, 0, none⟩) (s ^ p) (s ^ p), .int .i64 (((fin M (nbX p s rs) (allX p s) d).q.length : Nat) : Int)]) ∧
      OwnI w' w.heap.size (.slice (some ⟨gm, 0, none⟩) (s ^ p) (s ^ p)) (mX p s (fin M (nbX p s rs) (allX p s) d).far) ∧ Below w.heap.size w w' := by
  have h0 := Lib.hid h
  obtain ⟨uv, rfl, -⟩ := h
  have hd := Lib.hid hd0
  have h6 := hG.p6
  have h5 := hG.s5
  have h2 := hG.s2
  have hU := Lib.hid hG.univ
  have hdU : d ∈ allX p s := (mem_X (by omega)).2 hd0
  have hUl : (allX p s).length ≤ 1000 := by rw [X_len]; exact hsp
  have hCnt := Lib.hid (fun w => bxCount_any p s w h6 h5)
  have hNum := Lib.hid (fun w' t (ht : stOk p s t) => bxNumber_any p s uv t w' h6 h2 h5 ht)
  have hTns := Lib.hid (fun w' hb t (ht : stOk p s t) => bxTurns_any _ p s rs t w' hG (h0.out.below hb) ht)
  have hTrn := Lib.hid (fun w' hb t k up (ht : stOk p s t) (hk : k < p) => bxTurn_any _ p s rs t k up w' hG (h0.out.below hb) ht hk)
  have hN9 := hsp
  have hNp : 1 ≤ s ^ p := Nat.pow_pos (by omega)
  have hnd := nX_st hd0
  have hone := Lib.hid (mX_one (show 1 ≤ s by omega) hd0)
  have hsetS := Lib.hid (fun t (ht : stOk p s t) f g D h ho => mX_set (t := t) (show 1 ≤ s by omega) ht f g D h ho)
  have hgetS := Lib.hid (fun t (ht : stOk p s t) f h => mX_get (t := t) ht f h)
  have hlenS := Lib.hid (fun f => mX_len p s f)
  have hltS := Lib.hid (fun t (ht : stOk p s t) => nX_st (d := t) ht)
  have hStO := Lib.hid (fun t (ht : t ∈ allX p s) => (mem_X (show 1 ≤ s by omega)).1 ht)
  clear hd0 hsp
  obtain ⟨N, hN⟩ : ∃ N, s ^ p = N := ⟨_, rfl⟩
  rw [hN] at hCnt hN9 hNp hnd hone hlenS hltS ⊢
  replace hN := Lib.hid hN
  have hmk := run_make_row' (P := Try.prog) 54 3 (.int .i64 0) 8 Try.underlying54 intInfo rfl .i64 .i64 N (by omega) (by omega)
  obtain ⟨w2, hw2⟩ : ∃ w2, Hid (w2 = w.alloc (boxO p s uv)) := ⟨_, Lib.hid rfl⟩
  have hb2 : Hid (Below w.heap.size w w2) := Lib.hid (by rw [hw2.out]; exact ba1 w _)
  have F := Lib.hid (show w2.heap[w.heap.size]? = some (boxO p s uv) by rw [hw2.out]; exact hb_new _ _)
  have hl2 : w.heap.size < w2.heap.size := hb_lt F.out
  have f0 : w2.cell? ⟨w.heap.size, 0, none⟩ = some (.int .i64 p) := hb_cell F.out 0
  have f1 : w2.cell? ⟨w.heap.size, 1, none⟩ = some (.int .i64 s) := hb_cell F.out 1
  go_enter Try.func66, Try.ntmps66
  go_upto_region 1 with fail
  rw [← hw2.out]
  go_wp2_with fail
  refine (hCnt.out w2).mono ?_; rintro e w3 ⟨rfl, rfl⟩
  clear f0 f1
  obtain ⟨w4, hw4⟩ : ∃ w4, Hid (w4 = w2.alloc (.cells (madeCells #[.int .i64 0] N) 3)) := ⟨_, Lib.hid rfl⟩
  have hT0 := Lib.hid (show TFX w2.heap.size w2 w4 N w2.heap.size (.slice none 0 0) [] (List.replicate N 0) by
    rw [hw4.out]; exact ⟨own_mkX (hb_new _ _) (Nat.le_refl _) (by omega), OwnT.nil _ _, ba1 w2 _, by simp⟩)
  go_wp2_with fail
  rw [← hw4.out]
  obtain ⟨gm, hgm⟩ : ∃ gm, gm = w2.heap.size := ⟨_, rfl⟩
  rw [← hgm] at hT0 ⊢
  have hgm9 : w.heap.size < gm := by omega
  replace hgm := Lib.hid hgm
  go_loopw [7, 24] (fun _ i wr => ∃ k : Nat, k ≤ N ∧ i = .int .i64 k ∧ Hid (TFX gm w2 wr N gm (.slice none 0 0) [] (List.replicate k (-1) ++ List.replicate (N - k) 0))) (fun _ i _ => N - (intOf i).toNat)
  case atStart => exact ⟨0, Nat.zero_le _, rfl, Lib.hid (by simpa using hT0.out)⟩
  case round =>
    obtain ⟨k, hk, rfl, hS⟩ := hrel
    by_cases hltk : k < N
    · have hlk : Hid ((List.replicate k (-1 : Int) ++ List.replicate (N - k) 0).length = N) := Lib.hid (by simp; omega)
      obtain ⟨c0, cf⟩ := hS.out.mv.cell hlk.out k (by rw [hlk.out]; exact hltk)
      obtain ⟨y, hy⟩ : ∃ y, Hid (y = (List.replicate k (-1 : Int) ++ List.replicate (N - k) 0)[k]'(by rw [hlk.out]; exact hltk)) := ⟨_, Lib.hid rfl⟩
      rw [← hy.out] at c0
      go_wp2_with fail
      go_roundw
      case rel =>
        refine ⟨k + 1, by omega, by go_num, Lib.hid ?_⟩
        have h9 := hS.out.store hlk.out k (-1)
        have e : (List.replicate k (-1 : Int) ++ List.replicate (N - k) 0).set k (-1) = List.replicate (k + 1) (-1) ++ List.replicate (N - (k + 1)) 0 := by
          rw [List.set_append_right _ _ (by simp), List.length_replicate, Nat.sub_self, show N - k = (N - (k + 1)) + 1 from by omega, List.replicate_succ, List.set_cons_zero, List.replicate_succ', List.append_assoc]; rfl
        rw [e] at h9; exact h9
      all_goals (simp [intOf] <;> omega)
    · obtain rfl : N = k := by omega
      have hS1 := hS.out
      rw [Nat.sub_self, List.replicate_zero, List.append_nil] at hS1
      replace hS1 := Lib.hid hS1
      clear hS
      have Fr := Lib.hid (hb_below (show Below w2.heap.size w2 wr by rw [← hgm.out]; exact hS1.out.bel) hl2 F.out)
      have f0 : wr.cell? ⟨w.heap.size, 0, none⟩ = some (.int .i64 p) := hb_cell Fr.out 0
      have f1 : wr.cell? ⟨w.heap.size, 1, none⟩ = some (.int .i64 s) := hb_cell Fr.out 1
      have f2 : wr.cell? ⟨w.heap.size, 2, none⟩ = some uv := hb_cell Fr.out 2
      have hbr := Lib.hid (show Below w.heap.size w wr from bt1 hb2.out (show Below w2.heap.size w2 wr by rw [← hgm.out]; exact hS1.out.bel))
      go_wp2_with fail
      refine (hNum.out wr d hd.out).mono ?_; rintro e w5 ⟨rfl, hb5⟩
      have hS2 := Lib.hid (hS1.out.below hb5)
      obtain ⟨c0, cf⟩ := hS2.out.mv.cell (by simp) (nX s d) (by simpa using hnd)
      rw [List.getElem_replicate] at c0
      clear hb5 hbr Fr f0 f1 f2
      obtain ⟨w6, hw6⟩ : ∃ w6, Hid (w6 = w5.setCell ⟨gm, nX s d, none⟩ (.int .i64 0)) := ⟨_, Lib.hid rfl⟩
      have hS3 := hS2.out.store (by simp) (nX s d) 0
      rw [← hw6.out, hone.out] at hS3
      obtain ⟨w7, hw7⟩ : ∃ w7, Hid (w7 = w6.alloc (.cells #[.string (tS d)] 9)) := ⟨_, Lib.hid rfl⟩
      have hS4 := hS3.below (ba1 w6 (.cells #[.string (tS d)] 9))
      have hS5 := Lib.hid (show TFX gm w2 w7 N gm (.slice (some ⟨w6.heap.size, 0, none⟩) 1 1) ((run M (nbX p s rs) d 0).q.map tS) (mX p s (run M (nbX p s rs) d 0).far) by
        rw [hw7.out]; exact ⟨hS4.mv, own_litX w6 (tS d) _ hS3.le, hS4.bel, hS4.le⟩)
      clear hS3 hS4 hS1 hS2
      go_upto_region 8 with fail
      rw [← hw6.out]
      go_wp2_with fail
      rw [← hw7.out]
      clear c0 cf
      go_loopw [8, 9] (fun q i wr => ∃ k : Nat, i = .int .i64 k ∧ k ≤ (run M (nbX p s rs) d k).q.length ∧ Hid (TFX gm w2 wr N gm q ((run M (nbX p s rs) d k).q.map tS) (mX p s (run M (nbX p s rs) d k).far))) (fun _ i _ => 1001 - (intOf i).toNat)
      case atStart => exact ⟨0, rfl, Nat.zero_le _, hS5⟩
      case round =>
        obtain ⟨k, rfl, hkq, hS⟩ := hrel
        generalize wr = wo at *
        have hQN : (run M (nbX p s rs) d k).q.length ≤ 1000 := Nat.le_trans (hU.out.len hdU M k) hUl
        have hbo := Lib.hid (show Below w2.heap.size w2 wo by rw [← hgm.out]; exact hS.out.bel)
        have Fo := Lib.hid (hb_below hbo.out hl2 F.out)
        have hbw := Lib.hid (bt1 hb2.out hbo.out)
        rcases hS.out.qu.form with ⟨_, e⟩ | ⟨gq, cap, hqe, hgq, hgql, hqc, _, _⟩
        · exfalso
          have h1 := (run_ok M (nbX p s rs) d k).mem d
          rw [List.map_eq_nil_iff] at e; rw [e] at h1
          have := h1.2 (by rw [(run_ok M (nbX p s rs) d k).zero]; simp)
          cases this
        rw [List.length_map] at hqe
        subst hqe
        obtain ⟨l0, hl0⟩ : ∃ l, Hid (l = (run M (nbX p s rs) d k).q.length) := ⟨_, Lib.hid rfl⟩
        rw [← hl0.out] at hkq hQN ⊢
        have hS := Lib.hid (show TFX gm w2 wo N gm (.slice (some ⟨gq, 0, none⟩) l0 cap) ((run M (nbX p s rs) d k).q.map tS) (mX p s (run M (nbX p s rs) d k).far) by rw [hl0.out]; exact hS.out)
        by_cases hkl : k < l0
        · have hklq : k < (run M (nbX p s rs) d k).q.length := by rw [← hl0.out]; exact hkl
          have a0 := hqc k (by simpa using hklq)
          obtain ⟨z, hz⟩ : ∃ z, Hid (z = (run M (nbX p s rs) d k).q[k]) := ⟨_, Lib.hid rfl⟩
          have hat : Hid ((run M (nbX p s rs) d k).q[k]? = some z) := Lib.hid (by rw [hz.out]; exact List.getElem?_eq_getElem hklq)
          have hzU := Lib.hid (hU.out.sub hdU M k z (List.mem_of_getElem? hat.out))
          have hzS := Lib.hid (hStO.out z hzU.out)
          rw [show ((run M (nbX p s rs) d k).q.map tS)[k]'(by simpa using hklq) = tS z from by rw [hz.out]; simp] at a0
          clear hqc
          obtain ⟨D, hD⟩ : ∃ D, Hid (D = (run M (nbX p s rs) d k).dst z) := ⟨_, Lib.hid rfl⟩
          have hDf : Hid ((run M (nbX p s rs) d k).far z = some D) := Lib.hid (by rw [hD.out]; exact (run_ok M (nbX p s rs) d k).dst (List.mem_of_getElem? hat.out))
          have hDk : D ≤ k := by rw [hD.out]; exact dst_le k k z hat.out
          have hzn : nX s z < N := hltS.out z hzS.out
          obtain ⟨c0, cf⟩ := hS.out.mv.cell (hlenS.out _) (nX s z) (by rw [hlenS.out]; exact hzn)
          rw [hgetS.out z hzS.out, hDf.out] at c0
          have c0 : wo.cell? ⟨gm, nX s z, none⟩ = some (.int .i64 (D : Int)) := c0
          have f0 : wo.cell? ⟨w.heap.size, 0, none⟩ = some (.int .i64 p) := hb_cell Fo.out 0
          have f1 : wo.cell? ⟨w.heap.size, 1, none⟩ = some (.int .i64 s) := hb_cell Fo.out 1
          have f2 : wo.cell? ⟨w.heap.size, 2, none⟩ = some uv := hb_cell Fo.out 2
          have lx : w.heap.size < wo.heap.size := hb_lt Fo.out
          have lgm : gm < wo.heap.size := (hS.out.mv.lt gm rfl).2
          have hSS : X6 w.heap.size gq k gm (nX s z) gm (nX s z) wo.heap.size p s uv (.string (tS z)) (.int .i64 (D : Int)) (.int .i64 (D : Int)) wo wo := ⟨⟨f0, f1, f2, a0, c0, c0⟩, ⟨lx, hgql, lgm, lgm⟩, Below.refl _ _⟩
          have hNz := Lib.hid (fun W => hNum.out W z hzS.out)
          generalize hnz : nX s z = nz at *
          generalize hsz : tS z = sz at *
          go_wp2_with fail
          go_region_held3 (fun v => X6 w.heap.size gq k gm nz gm nz wo.heap.size p s uv (.string sz) (.int .i64 (D : Int)) (.int .i64 (D : Int)) wo v) ((first | assumption | (refine ⟨⟨?_, ?_, ?_, ?_, ?_, ?_⟩, ⟨?_, ?_, ?_, ?_⟩, ?_⟩ <;> first | assumption | go_keep | omega | exact (Below.refl _ _).drew)))
            (first | (go_at_call 67; refine (hNz.out _).mono ?_; rintro e w' ⟨rfl, hb9⟩; have hbn := keep6 hb9 (by assumption)))
          have hSz := Lib.hid (fun W hb => hTns.out W (bt1 hbw.out hb) z hzS.out)
          rw [hsz] at hSz
          obtain ⟨⟨f0b, f1b, f2b, a0b, c0b, -⟩, ⟨lxb, lqb, lgb, -⟩, hb10⟩ := id hbn
          clear hSS f0 f1 f2 a0 c0
          go_wp2_with fail
          go_region_held3 (fun v => X6 w.heap.size gq k gm nz gm nz wo.heap.size p s uv (.string sz) (.int .i64 (D : Int)) (.int .i64 (D : Int)) wo v) ((first | assumption | (refine ⟨⟨?_, ?_, ?_, ?_, ?_, ?_⟩, ⟨?_, ?_, ?_, ?_⟩, ?_⟩ <;> first | assumption | go_keep | omega | exact hb10.drew)))
            (first | (go_at_call 54; refine (hSz.out _ ?_).mono ?_; (exact keep6B (by assumption)); rintro e w' ⟨u, rfl, hu, hb11⟩; have hu2 := Lib.hid (hu.mono (C := wo.heap.size) (keep6B (W := wo) (by assumption)).size); have hbn2 := keep6 hb11 (by assumption); obtain ⟨pu, cu, hue⟩ : ∃ p9 c, u = .slice p9 ((tK s rs z (2 * p)).map tnI).length c := (by obtain ⟨p9, c, e, h⟩ := hu2.out.rd; exact ⟨p9, c, e⟩); subst hue))
          have hb12 := Lib.hid (keep6B hbn2)
          have hG0 := Lib.hid (show TGX gm w2 _ N gm (.slice (some ⟨gq, 0, none⟩) l0 cap) ((run M (nbX p s rs) d k).q.map tS) (mX p s (run M (nbX p s rs) d k).far) (.slice pu ((tK s rs z (2 * p)).map tnI).length cu) wo.heap.size ((tK s rs z (2 * p)).map tnI) from ⟨hS.out.below hb12.out, hu2.out, lgm⟩)
          have hms9 : ((tK s rs z (2 * p)).map tnI).length ≤ 1000 := by rw [List.length_map]; have := tK_len s rs z (2 * p); omega
          rw [List.length_map] at hG0 hms9
          obtain ⟨nu, hnu⟩ : ∃ nu, (tK s rs z (2 * p)).length = nu := ⟨_, rfl⟩
          rw [List.length_map] at *
          rw [hnu] at hG0 hms9 ⊢
          replace hnu := Lib.hid hnu
          clear hbn hbn2 hu hu2 hb9 hb11 f0b f1b f2b a0b c0b lxb lqb lgb hb10 hb12
          go_wp2_with fail
          go_loopw [8, 60] (fun q i wr => ∃ j : Nat, j ≤ nu ∧ i = .int .i64 j ∧ Hid (TGX gm w2 wr N gm q ((half M (nbX p s rs) d (D + 1) k z j).q.map tS) (mX p s (half M (nbX p s rs) d (D + 1) k z j).far) (.slice pu nu cu) wo.heap.size ((tK s rs z (2 * p)).map tnI))) (fun _ i _ => nu - (intOf i).toNat)
          case atStart => exact ⟨0, Nat.zero_le _, rfl, hG0⟩
          case round =>
            obtain ⟨j, hj, rfl, hT⟩ := hrel
            generalize wr = wi at *
            by_cases hlj : j < nu
            · have hjm : j < (tK s rs z (2 * p)).length := by rw [hnu.out]; exact hlj
              have hjv : j < ((tK s rs z (2 * p)).map tnI).length := by rw [List.length_map]; exact hjm
              have hmem := List.getElem_mem hjm
              have hnbj : (nbX p s rs z)[j]? = some (tuD z (tK s rs z (2 * p))[j].1 (tK s rs z (2 * p))[j].2) := by unfold nbX; rw [List.getElem?_map, List.getElem?_eq_getElem hjm]; rfl
              have htj : ((tK s rs z (2 * p)).map tnI)[j] = [((tK s rs z (2 * p))[j].1 : Int), byX (tK s rs z (2 * p))[j].2] := by rw [List.getElem_map]; rfl
              obtain ⟨gu, gi, c2, rfl, hgu, hgi, s0, s1, s2⟩ := hT.out.sl.at hjv htj
              generalize (tK s rs z (2 * p))[j] = m at *
              obtain ⟨mb, mu⟩ := m
              dsimp only at hnbj s1 s2
              obtain ⟨hmb, hcan⟩ := (tK_mem' s rs z mb mu _).1 hmem
              have hmbp : mb < p := by omega
              have hnxU := Lib.hid (hU.out.cl z hzU.out _ (List.mem_of_getElem? hnbj))
              have hnxS := Lib.hid (hStO.out _ hnxU.out)
              have hstep := Lib.hid (half_succ (M := M) (n := D + 1) (k := k) (s0 := d) z j _ hnbj)
              have hbi := Lib.hid (show Below w2.heap.size w2 wi by rw [← hgm.out]; exact hT.out.tf.bel)
              have hbiw := Lib.hid (bt1 hb2.out hbi.out)
              have Fi := Lib.hid (hb_below hbi.out hl2 F.out)
              have hgk := (half_ext (M := M) (nb := nbX p s rs) (s0 := d) (n := D + 1) (k := k) (s := z) j).get hat.out
              have hQ2 : (half M (nbX p s rs) d (D + 1) k z j).q.length ≤ 1000 := Nat.le_trans (nodup_sub_len (half_sb (M := M) (n := D + 1) (k := k) hM1 hU.out hdU hzU.out j).nd (half_sb (M := M) (n := D + 1) (k := k) hM1 hU.out hdU hzU.out j).sub) hUl
              have hPt := Lib.hid (fun W hb => hTrn.out W hb z mb mu hzS.out hmbp)
              rw [hcan, if_pos rfl, hsz] at hPt
              have hNx := Lib.hid (fun W => hNum.out W _ hnxS.out)
              have hnt := hltS.out _ hnxS.out
              rcases hT.out.tf.qu.form with ⟨_, e⟩ | ⟨gq2, cap2, hqe, hgq2, hgql2, hqc, _, _⟩
              · exfalso
                rw [List.map_eq_nil_iff] at e
                rw [e] at hgk; cases hgk
              rw [List.length_map] at hqe
              subst hqe
              obtain ⟨hkl2, hke⟩ := List.getElem?_eq_some_iff.1 hgk
              have a0 := hqc k (by simpa using hkl2)
              rw [show ((half M (nbX p s rs) d (D + 1) k z j).q.map tS)[k]'(by simpa using hkl2) = sz from by rw [← hsz]; simp [hke]] at a0
              obtain ⟨lq, hlq⟩ : ∃ l, Hid (l = (half M (nbX p s rs) d (D + 1) k z j).q.length) := ⟨_, Lib.hid rfl⟩
              replace hT := Lib.hid (show TGX gm w2 wi N gm (.slice (some ⟨gq2, 0, none⟩) lq cap2) ((half M (nbX p s rs) d (D + 1) k z j).q.map tS) (mX p s (half M (nbX p s rs) d (D + 1) k z j).far) (.slice (some ⟨gu, 0, none⟩) nu cu) wo.heap.size ((tK s rs z (2 * p)).map tnI) by rw [hlq.out]; exact hT.out)
              rw [← hlq.out] at hkl2 hQ2 ⊢
              have f0 : wi.cell? ⟨w.heap.size, 0, none⟩ = some (.int .i64 p) := hb_cell Fi.out 0
              have f1 : wi.cell? ⟨w.heap.size, 1, none⟩ = some (.int .i64 s) := hb_cell Fi.out 1
              have f2 : wi.cell? ⟨w.heap.size, 2, none⟩ = some uv := hb_cell Fi.out 2
              have l1 := hb_lt Fi.out
              have hSS : X6 w.heap.size gq2 k gi 0 gi 1 wi.heap.size p s uv (.string sz) (.int .i64 (mb : Int)) (.int .i64 (byX mu)) wi wi := ⟨⟨f0, f1, f2, a0, s1, s2⟩, ⟨l1, hgql2, hgi, hgi⟩, Below.refl _ _⟩
              have hPt8 := Lib.hid (fun W hb => hPt.out W (bt1 hbiw.out hb))
              clear hqc hgk hke hnbj hmem hPt htj
              generalize tuD z mb mu = nx at *
              obtain ⟨Y, hY⟩ : ∃ Y, Hid (Y = byX mu) := ⟨_, Lib.hid rfl⟩
              rw [← hY.out] at hPt8 hSS s2
              go_upto_region 16 with fail
              go_region_held3 (fun v => X6 w.heap.size gq2 k gi 0 gi 1 wi.heap.size p s uv (.string sz) (.int .i64 (mb : Int)) (.int .i64 Y) wi v) ((first | assumption | (refine ⟨⟨?_, ?_, ?_, ?_, ?_, ?_⟩, ⟨?_, ?_, ?_, ?_⟩, ?_⟩ <;> first | assumption | go_keep | omega | exact (Below.refl _ _).drew)))
                (first | (go_at_call 68; refine (hPt8.out _ ?_).mono ?_; (exact keep6B (by assumption)); rintro e w' ⟨rfl, hb9⟩; have hbn := keep6 hb9 (by assumption)))
              obtain ⟨⟨g0, g1, g2, -, -, -⟩, -, hb10⟩ := id hbn
              clear f0 f1 f2 s0 s1 s2 a0 hSS hb9
              replace hb10 := Lib.hid hb10
              replace hbn := Lib.hid hbn
              go_wp2_with fail
              refine (hNx.out _).mono ?_; rintro e w10 ⟨rfl, hb11⟩
              have hT10 := Lib.hid ((hT.out.below hb10.out).below hb11)
              clear g0 g1 g2 hb11
              have hlz := hlenS.out (half M (nbX p s rs) d (D + 1) k z j).far
              obtain ⟨c0, cf⟩ := hT10.out.tf.mv.cell hlz (nX s nx) (by rw [hlz]; exact hnt)
              rw [hgetS.out nx hnxS.out] at c0
              have hset := Lib.hid (fun g D' h ho => hsetS.out nx hnxS.out (half M (nbX p s rs) d (D + 1) k z j).far g D' h ho)
              have hD9 : D ≤ 1000 := by omega
              generalize hntv : nX s nx = nt at *
              cases hf : (half M (nbX p s rs) d (D + 1) k z j).far nx with
              | some E =>
                rw [hf] at c0
                have c0 : w10.cell? ⟨gm, nt, none⟩ = some (.int .i64 (E : Int)) := c0
                have hE0 : decide ((E : Int) < 0) = false := by rw [decide_eq_false]; omega
                have hq : (half M (nbX p s rs) d (D + 1) k z (j + 1)).q = (half M (nbX p s rs) d (D + 1) k z j).q := by rw [hstep.out]; exact (add_some hf).1
                have hfar : (half M (nbX p s rs) d (D + 1) k z (j + 1)).far = (half M (nbX p s rs) d (D + 1) k z j).far := by rw [hstep.out]; exact (add_some hf).2
                rw [← hq, ← hfar] at hT10
                clear hq hfar hf
                go_wp2_with fail
                go_roundw
                case rel => exact ⟨j + 1, by omega, by go_num, hT10⟩
                all_goals (simp [intOf] <;> omega)
              | none =>
                rw [hf] at c0
                have c0 : w10.cell? ⟨gm, nt, none⟩ = some (.int .i64 (-1)) := c0
                have hq : Hid ((half M (nbX p s rs) d (D + 1) k z (j + 1)).q.map tS = (half M (nbX p s rs) d (D + 1) k z j).q.map tS ++ [tS nx]) := Lib.hid (by rw [hstep.out, add_none hf]; simp)
                have hfar : Hid ((mX p s (half M (nbX p s rs) d (D + 1) k z j).far).set nt ((D : Int) + 1) = mX p s (half M (nbX p s rs) d (D + 1) k z (j + 1)).far) := Lib.hid (by
                  have h1 := hset.out (half M (nbX p s rs) d (D + 1) k z (j + 1)).far (D + 1) (by rw [hstep.out]; unfold Sr.add; rw [hf]; simp) (fun u hu => by rw [hstep.out]; unfold Sr.add; rw [hf]; simp [hu])
                  rw [← h1]; congr 1)
                clear hf
                obtain ⟨w11, hw11⟩ : ∃ w11, Hid (w11 = w10.setCell ⟨gm, nt, none⟩ (.int .i64 ((D : Int) + 1))) := ⟨_, Lib.hid rfl⟩
                have hT11 := hT10.out.store hlz nt ((D : Int) + 1)
                rw [← hw11.out, hfar.out] at hT11
                replace hT11 := Lib.hid hT11
                go_upto_region 20 with fail
                rw [← hw11.out]
                clear c0 cf
                go_wp2_with (at_builtin; refine app_txt _ rfl _ _ rfl gm _ _ rfl ((hT11.out.below (ba1 w11 (.cells #[.string (tS nx)] 9))).tf.qu) w11.heap.size (tS nx) rfl (by simp) (by have := hlq.out; rw [List.length_map]; omega) (Nat.le_trans hT11.out.tf.le (by simp)) ?_; intro v' w12 ho12 hg12; have hT12 := (hT11.out.below (ba1 w11 (.cells #[.string (tS nx)] 9))).push ho12 hg12; rw [← hq.out] at hT12; clear ho12 hg12; have hT12 := Lib.hid hT12)
                go_roundw
                case rel => exact ⟨j + 1, by omega, by go_num, hT12⟩
                all_goals (simp [intOf] <;> omega)
            · have hje : nu ≤ j := by omega
              have hall : half M (nbX p s rs) d (D + 1) k z j = run M (nbX p s rs) d (k + 1) := half_all hat.out (by rw [hD.out]) j (by have := hnu.out; unfold nbX; rw [List.length_map]; omega)
              rw [hall] at hT
              clear hall
              replace hje := Lib.hid hje
              have hlen1 := (ext_step M (nbX p s rs) d k).q.length_le
              have hkq1 : k + 1 ≤ (run M (nbX p s rs) d (k + 1)).q.length := by have := hl0.out; omega
              replace hkq1 := Lib.hid hkq1
              go_wp2_with fail
              go_roundw
              case rel => exact ⟨k + 1, by go_num, hkq1.out, Lib.hid hT.out.tf⟩
              all_goals (simp [intOf] <;> omega)
        · have hend : (run M (nbX p s rs) d k).q[k]? = none := List.getElem?_eq_none (by have := hl0.out; omega)
          have hfin := hU.out.fin_at hdU hend
          rw [hfin] at hS hl0
          replace hfin := Lib.hid hfin
          replace hend := Lib.hid hend
          go_wp2_with fail
          go_ret2
          exact ⟨gm, by rw [hl0.out]; rfl, hS.out.mv.mono (C := w.heap.size) (Nat.le_of_lt hgm9), hbw.out⟩
end Go.Proofs.Ytjlecipeoaohiaa
