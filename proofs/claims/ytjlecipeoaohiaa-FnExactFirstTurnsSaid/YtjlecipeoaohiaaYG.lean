/- The first turn that leads nearer: mathematics, and the program's look. -/
import Derived.Test.YtjlecipeoaohiaaYF
import Derived.Test.YtjlecipeoaohiaaYC
namespace Go.Proofs.Ytjlecipeoaohiaa
set_option linter.unusedSimpArgs false
set_option linter.unusedVariables false
open Go Go.RowKit RM Go.Maps Go.WideMaps Go.ChangeMaps
/-- how far a neighbour is -/
theorem univ_next {S : Type} [DecidableEq S] {nb : S → List S} {U : List S} (h : Univ nb U) {s0 : S} (h0 : s0 ∈ U) {M : Nat} {a t : S} {d : Nat} (ha : (fin M nb U s0).far a = some (d + 1)) (ht : t ∈ nb a) :
    ∃ x, (fin M nb U s0).far t = some x ∧ d ≤ x := by
  have hF := h.fin_ok M s0
  have hda : (fin M nb U s0).dst a = d + 1 := by unfold Sr.dst; rw [ha]; rfl
  have haF : a ∈ (fin M nb U s0).q := (hF.mem a).2 (by rw [ha]; simp)
  obtain ⟨i, hi⟩ := List.getElem?_of_mem haF
  have hil := (List.getElem?_eq_some_iff.1 hi).1
  have hiU := h.len h0 M U.length
  have h1 := hF.cl i a (by unfold fin at hil; omega) hi t ht
  obtain ⟨i', hi'⟩ := List.getElem?_of_mem h1.1
  have hil' := (List.getElem?_eq_some_iff.1 hi').1
  have h2 := (hF.cl i' t (by unfold fin at hil'; omega) hi' a (h.sym a (h.sub h0 M _ a haF) t ht)).2
  exact ⟨_, hF.dst h1.1, by omega⟩
/-- a turn leads nearer -/
def nrT (F : List Nat → Option Nat) (d : List Nat) (m : Nat × Bool) : Bool := decide ((F (tuD d m.1 m.2)).getD 0 < (F d).getD 0)
def nkT (s : Nat) (rs : List ByteArray) (p : Nat) (F : List Nat → Option Nat) (d : List Nat) : Nat × Bool := ((tK s rs d (2 * p)).find? (nrT F d)).getD (0, true)
theorem nkT_spec {p s : Nat} {rs : List ByteArray} (hG : GX p s rs) {e d : List Nat} (he : stOk p s e) (hd : stOk p s d) {m : Nat} (hm : (fin 1 (nbX p s rs) (allX p s) e).far d = some (m + 1)) :
    ∃ (j : Nat) (hj : j < (tK s rs d (2 * p)).length), (tK s rs d (2 * p))[j] = nkT s rs p (fin 1 (nbX p s rs) (allX p s) e).far d ∧ (fin 1 (nbX p s rs) (allX p s) e).far (tuD d (tK s rs d (2 * p))[j].1 (tK s rs d (2 * p))[j].2) = some m ∧ nrT (fin 1 (nbX p s rs) (allX p s) e).far d (tK s rs d (2 * p))[j] = true ∧
      (∀ i (h : i < (tK s rs d (2 * p)).length), i < j → nrT (fin 1 (nbX p s rs) (allX p s) e).far d (tK s rs d (2 * p))[i] = false) ∧
      ∀ i (h : i < (tK s rs d (2 * p)).length), ∃ x, (fin 1 (nbX p s rs) (allX p s) e).far (tuD d (tK s rs d (2 * p))[i].1 (tK s rs d (2 * p))[i].2) = some x ∧ m ≤ x := by
  have hU := hG.univ
  have h1 : 1 ≤ s := by have := hG.s2; omega
  have heU := (mem_X h1).2 he
  have hmem : ∀ q ∈ tK s rs d (2 * p), tuD d q.1 q.2 ∈ nbX p s rs d := fun q hq => List.mem_map.2 ⟨q, hq, rfl⟩
  have hnx : ∀ q ∈ tK s rs d (2 * p), ∃ x, (fin 1 (nbX p s rs) (allX p s) e).far (tuD d q.1 q.2) = some x ∧ m ≤ x := fun q hq => univ_next hU heU hm (hmem q hq)
  obtain ⟨u, hu, hfu⟩ := hU.nearer heU hm
  obtain ⟨q0, hq0, rfl⟩ := List.mem_map.1 hu
  have hp0 : nrT (fin 1 (nbX p s rs) (allX p s) e).far d q0 = true := by
    unfold nrT; rw [hfu, hm]; exact decide_eq_true (Nat.lt_succ_self m)
  have hex : ∃ z, (tK s rs d (2 * p)).find? (nrT (fin 1 (nbX p s rs) (allX p s) e).far d) = some z := by
    cases h : (tK s rs d (2 * p)).find? (nrT (fin 1 (nbX p s rs) (allX p s) e).far d) with
    | some z => exact ⟨z, rfl⟩
    | none => exact absurd hp0 (List.find?_eq_none.1 h _ hq0)
  obtain ⟨z, hz⟩ := hex
  obtain ⟨hP, j, hj, hjz, hlt⟩ := List.find?_eq_some_iff_getElem.1 hz
  refine ⟨j, hj, by unfold nkT; rw [hz]; exact hjz, ?_, by rw [hjz]; exact hP, fun i hi hij => by simpa using hlt i hij, fun i hi => hnx _ (List.getElem_mem hi)⟩
  obtain ⟨x, hx, hmx⟩ := hnx _ (List.getElem_mem hj)
  rw [hx]
  rw [hjz] at hx
  unfold nrT at hP
  rw [hx, hm] at hP
  have := of_decide_eq_true hP
  simp at this
  congr 1; omega
theorem tK_ok {p s : Nat} {rs : List ByteArray} {d : List Nat} (hd : stOk p s d) {q : Nat × Bool} (hq : q ∈ tK s rs d (2 * p)) : q.1 < p ∧ stOk p s (tuD d q.1 q.2) := by
  obtain ⟨k, up⟩ := q
  have h := (tK_mem' s rs d k up (2 * p)).1 hq
  have hk : k < p := by have := h.1; cases up <;> simp at this <;> omega
  exact ⟨hk, tuD_ok hd hk (tuB_v h.2)⟩
set_option maxRecDepth 100000 in
theorem tcloser_any {p s : Nat} {rs : List ByteArray} (hG : GX p s rs) (F : List Nat → Option Nat) (b1 bm ba : Nat) (d t : List Nat) (k y : Int) (w : World) (hd : stOk p s d) (ht : stOk p s t) (hm : MM hG.ks b1 F w)
    (hf : w.cell? ⟨bm, 0, none⟩ = some (.map (some b1))) (ha : ∀ o, o < 6 → w.cell? ⟨ba, o, none⟩ = some (.int .i64 (dF d o))) :
    Calls Try.prog 101 #[.agg (tnC k y (dF t)), .pointer (some ⟨bm, 0, none⟩), .pointer (some ⟨ba, 0, none⟩)] w fun e w' => e = .returned (.bool (decide ((F t).getD 0 < (F d).getD 0))) ∧ Below w.heap.size w w' := by
  obtain ⟨w1, hw1⟩ : ∃ w1, Hid (w1 = w.alloc (tnO k y (dF t))) := ⟨_, Lib.hid rfl⟩
  have hb1 : Hid (Below w.heap.size w w1) := Lib.hid (by rw [hw1.out]; exact ba1 w _)
  have F1 := Lib.hid (show w1.heap[w.heap.size]? = some (tnO k y (dF t)) by rw [hw1.out]; exact hb_new _ _)
  have hm1 := hm.below hb1.out
  obtain ⟨D, hD, hI⟩ := hm1.ex
  have e1 : ∀ g o u, w.cell? ⟨g, o, none⟩ = some u → w1.cell? ⟨g, o, none⟩ = some u := fun g o u hu => by rw [hb1.out.cell (p := ⟨g, o, none⟩) (World.block_lt_of_cell? _ _ hu)]; exact hu
  have c0 := e1 _ _ _ hf
  have a0 := e1 _ _ _ (ha 0 (by omega))
  have a1 := e1 _ _ _ (ha 1 (by omega))
  have a2 := e1 _ _ _ (ha 2 (by omega))
  have a3 := e1 _ _ _ (ha 3 (by omega))
  have a4 := e1 _ _ _ (ha 4 (by omega))
  have a5 := e1 _ _ _ (ha 5 (by omega))
  have t0 : w1.cell? ⟨w.heap.size, 2, none⟩ = some (.int .i64 (dF t 0)) := hb_cell F1.out 2
  have t1 : w1.cell? ⟨w.heap.size, 3, none⟩ = some (.int .i64 (dF t 1)) := hb_cell F1.out 3
  have t2 : w1.cell? ⟨w.heap.size, 4, none⟩ = some (.int .i64 (dF t 2)) := hb_cell F1.out 4
  have t3 : w1.cell? ⟨w.heap.size, 5, none⟩ = some (.int .i64 (dF t 3)) := hb_cell F1.out 5
  have t4 : w1.cell? ⟨w.heap.size, 6, none⟩ = some (.int .i64 (dF t 4)) := hb_cell F1.out 6
  have t5 : w1.cell? ⟨w.heap.size, 7, none⟩ = some (.int .i64 (dF t 5)) := hb_cell F1.out 7
  have hlt := mlkI (K := hG.ks) humX ht hD.drew hI
  have hld := mlkI (K := hG.ks) humX hd hD.drew hI
  have hlt : (Instr.lookup 77 (.map (some b1)) (bsV (dF t)) false).run Try.prog w1.drew = .ok (.int .i64 (((F t).getD 0 : Nat) : Int)) w1.drew := hlt
  have hld : (Instr.lookup 77 (.map (some b1)) (bsV (dF d)) false).run Try.prog w1.drew = .ok (.int .i64 (((F d).getD 0 : Nat) : Int)) w1.drew := hld
  have hdd : decide ((((F t).getD 0 : Nat) : Int) < (((F d).getD 0 : Nat) : Int)) = decide ((F t).getD 0 < (F d).getD 0) := by rw [decide_eq_decide]; omega
  clear hI hD hm1 hm ha e1 hf
  generalize dF t = ft at *
  generalize dF d = fd at *
  generalize (F t).getD 0 = X at *
  generalize (F d).getD 0 = Y at *
  clear hd ht
  go_enter Try.func101, Try.ntmps101
  go_upto_region 1 with fail
  rw [← hw1.out]
  go_region
  go_wp2_with fail
  go_ret; exact ⟨by first | rfl | rw [hdd], by first | exact hb1.out | exact hb1.out.drew | exact below_drewN hb1.out _⟩
end Go.Proofs.Ytjlecipeoaohiaa
