/- Sets of states in maps; the search by keys, by the program. -/
import Derived.Test.YtcfeaaakfjilgabDoorW2
import Derived.Test.YtcfeaaakfjilgabDoorW0
import Derived.Maps.RangeWalk
import Derived.Maps.OwnSet
import Derived.Maps.OwnOps
import Derived.WalkMore
import Derived.ScopeJumps
namespace Go.Proofs.YtcfeaaakfjilgabDoor
set_option linter.unusedSimpArgs false
set_option linter.unusedVariables false
open Go Go.RowKit RM Go.Maps
theorem lawU : Keyed Tryd.prog 56 := int_keyed Tryd.underlying56
/-- block b is a map that reads as D -/
abbrev MapIs (w : World) (b : Nat) (D : DataW Unit) : Prop := w.ownsMap Tryd.prog 56 (plainElem (H := Unit) Tryd.prog 4) b (Maps.size D) D
theorem own_tight {w : World} {b n : Nat} {D : DataW Unit} (h : w.ownsMap Tryd.prog 56 (plainElem (H := Unit) Tryd.prog 4) b n D) : MapIs w b D := by
  obtain ⟨es, clock, hb, F, hs, hD⟩ := h
  exact ⟨es, clock, hb, F, by rw [hD, size_eq, length_read]; exact Nat.le_refl _, hD⟩
abbrev kU (s : Nat) : Lit := .int .u64 (s : Int)
theorem keyU {s : Nat} (hs : s < 18446744073709551616) : keyOf Tryd.prog 56 (.int .u64 (s : Int)) = some (kU s) := keyOf_int_mk Tryd.underlying56 (by
  show (decide (IntKind.u64.min ≤ (s : Int)) && decide ((s : Int) ≤ IntKind.u64.max)) = true
  rw [Bool.and_eq_true, decide_eq_true_eq, decide_eq_true_eq]
  show (0 : Int) ≤ (s : Int) ∧ (s : Int) ≤ 18446744073709551615
  omega)
/-- the keys of a map are the states of a set -/
structure KSet (D : DataW Unit) (T : Nat → Bool) : Prop where
  has : ∀ s, Maps.has D (kU s) = T s
  only : ∀ kl, Maps.has D kl = true → ∃ s : Nat, kl = kU s
theorem count_any (p : Option Addr) (n c : Nat) (w : World) (hn : n ≤ 10) : Calls Tryd.prog 58 #[.slice p n c] w fun e w' => e = .returned (.int .u64 ((2 ^ n : Nat) : Int)) ∧ w = w' := by
  have hp := wrap_pow n (by omega)
  have hc := pow_int n
  go_enter Tryd.func58, Tryd.ntmps58
  go_wp2_with fail
  go_ret; exact ⟨by rw [hc]; rfl, rfl⟩
theorem wpList_insert_own {H : Type} {P : Program} (w : World) {ops : Array Oper} {rest : List Oper} {o : Oper} {a : Act} {Q : Exit → Act → World → Prop}
    (hg : o.guard = none) (m x v : Operand) (t : TypeId) (hop : o.op = Op.insert t m x v)
    (k e : TypeId) (K : Keyed P k) (ht : P.underlying t = some (.map k e)) (R : Value → Option (DataW H × List MemPlace)) (b n : Nat) (D : DataW H)
    (hm : a.eval m = .map (some b)) (hown : w.ownsMap P k R b n D) (hn : n < maxLen) (key val : Value) (kl : Lit) (hx : a.eval x = key) (hv : a.eval v = val) (hkey : keyOf P k key = some kl)
    (d : DataW H) (ps : List MemPlace) (hval : R val = some (d, ps))
    (hK : ∀ w', w'.ownsMap P k R b (n + 1) (D.put kl d) → w.grownBy w' (some b) → wpList P ops Q rest (a.put o.dst undef) w') :
    wpList P ops Q (o :: rest) a w := by
  refine wpList_plain hg fun K' hK' => ?_
  obtain ⟨w', hrun, r1, r2⟩ := hown.update K ht hn hkey hval
  unfold Oper.wp
  simp [execOp, hop, hm, hx, hv, hrun, Result.andThen]
  exact hK' _ _ (hK w' r1 r2)
/-- what holds at the label: the states of one level are the keys of a map, those of the next level of none -/
structure LvS (N : Nat) (D : Nat → Option Nat) (g b1 b2 L : Nat) (w w' : World) : Prop where
  lt : L < N
  m1 : ∃ D1, MapIs w' b1 D1 ∧ KSet D1 (fun s => decide (D s = some L))
  m2 : ∃ D2, MapIs w' b2 D2 ∧ ∀ kl, Maps.has D2 kl = false
  row : ∃ R, OwnG kwE w' g (.slice (some ⟨g, 0, none⟩) N N) R ∧ RowOk N D L (fun _ => false) R
  bel : Below g w w'
  lt1 : g < b1
  lt2 : g < b2
  ne : b1 ≠ b2
theorem ownsMap_kept {w w' : World} {b n : Nat} {D : DataW Unit} {row : Option Nat} (h : w.ownsMap Tryd.prog 56 (plainElem (H := Unit) Tryd.prog 4) b n D) (hg : w.grownBy w' row) (hne : some b ≠ row) : w'.ownsMap Tryd.prog 56 (plainElem (H := Unit) Tryd.prog 4) b n D := by
  obtain ⟨es, clock, hb, rest⟩ := h
  exact ⟨es, clock, (hg.block b (Array.getElem?_eq_some_iff.1 hb).1 (fun e => hne e)).trans hb, rest⟩
theorem kU_inj {s t : Nat} (h : kU s = kU t) : s = t := by
  have h1 : (s : Int) = (t : Int) := by injection h
  omega
theorem kset_zero : KSet (.map []) (fun _ => false) := ⟨fun _ => rfl, fun kl h => by cases h⟩
theorem kset_put {D : DataW Unit} {T : Nat → Bool} (h : KSet D T) (hD : IsMap D) (t : Nat) (d : DataW Unit) : KSet (D.put (kU t) d) (fun s => T s || s == t) := by
  refine ⟨fun s => ?_, fun kl hh => ?_⟩
  · by_cases e : s = t
    · subst e; rw [has_put_same hD (show WideAt.IsKeyLit (kU s) from trivial)]; simp
    · rw [has_put_other (fun e2 => e (kU_inj e2)), h.has]; simp [e]
  · by_cases e : kl = kU t
    · exact ⟨t, e⟩
    · rw [has_put_other e] at hh; exact h.only kl hh
theorem KSet.congr {D : DataW Unit} {T T' : Nat → Bool} (h : KSet D T) (hT : ∀ s, T s = T' s) : KSet D T' := ⟨fun s => (h.has s).trans (hT s), h.only⟩
theorem has_of_size {w : World} {b n : Nat} {D : DataW Unit} (h : w.ownsMap Tryd.prog 56 (plainElem (H := Unit) Tryd.prog 4) b n D) (h0 : Maps.size D ≠ 0) : ∃ kl, Maps.has D kl = true := by
  obtain ⟨es, rfl, _, hk⟩ := h.entries lawU
  cases es with
  | nil => exact absurd rfl h0
  | cons p es =>
    refine ⟨p.1, ?_⟩
    rw [has_eq]
    simp only [List.any_cons, Bool.or_eq_true]
    left
    exact WideAt.sameKey_self (hk p (List.mem_cons_self ..))
/-- what holds in the round over the states of a level: those that are not left are done, and of s the rings below i -/
structure RnS (N n : Nat) (fk : Nat → Nat → Bool) (D : Nat → Option Nat) (g b2 L : Nat) (left : Lit → Bool) (T : Nat → Bool) (s i : Nat) (w wr : World) : Prop where
  sub : ∀ kl, left kl = true → ∃ s, kl = kU s ∧ D s = some L
  m2 : ∃ D2, MapIs wr b2 D2 ∧ KSet D2 T
  row : ∃ R, OwnG kwE wr g (.slice (some ⟨g, 0, none⟩) N N) R ∧ RowOk N D L T R
  cov : ∀ s', D s' = some L → left (kU s') = false → ∀ k, k < n → (s' = s → k < i) → fk k s' = true → D (s' ^^^ 2 ^ k) = some (L + 1) → T (s' ^^^ 2 ^ k) = true
  bel : Below g w wr
  lt : g < b2
section
variable {N n g b2 L x s i : Nat} {fk : Nat → Nat → Bool} {D : Nat → Option Nat} {left : Lit → Bool} {T : Nat → Bool} {w wr : World}
theorem RnS.all (h : RnS N n fk D g b2 L left T s n w wr) (hD : Dst n fk x D) (hl : ∀ kl, left kl = false) : ∀ s, T s = true ↔ D s = some (L + 1) := by
  obtain ⟨R, _, hR⟩ := h.row
  refine fun t => ⟨hR.next t, fun e => ?_⟩
  obtain ⟨k, hk, hf, hd⟩ := hD.prev t L e
  have := h.cov _ hd (hl _) k hk (fun _ => hk) hf (by rw [xor_twice]; exact e)
  rwa [xor_twice] at this
theorem RnS.size (h : RnS N n fk D g b2 L left T s i w wr) : g < wr.heap.size := by
  obtain ⟨R, hR, _⟩ := h.row
  exact (hR.lt g rfl).2
theorem RnS.size2 (h : RnS N n fk D g b2 L left T s i w wr) : b2 < wr.heap.size := by
  obtain ⟨D2, h2, _⟩ := h.m2
  exact h2.lt
theorem RnS.kept {wr' : World} {row : Option Nat} (h : RnS N n fk D g b2 L left T s i w wr) (hg : wr.grownBy wr' row) (h1 : ∀ k, row = some k → g < k ∧ k ≠ b2) : RnS N n fk D g b2 L left T s i w wr' := by
  refine ⟨h.sub, ?_, ?_, h.cov, h.bel.grown hg (Nat.le_of_lt h.size) (fun k e => Nat.le_of_lt (h1 k e).1), h.lt⟩
  · obtain ⟨D2, h2, h3⟩ := h.m2
    exact ⟨D2, h2.kept hg (fun e => (h1 b2 e.symm).2 rfl), h3⟩
  · obtain ⟨R, h2, h3⟩ := h.row
    refine ⟨R, h2.kept hg (.inr fun e => ?_), h3⟩
    have := (h1 g e.symm).1; omega
theorem RnS.below {wr' : World} (h : RnS N n fk D g b2 L left T s i w wr) (hb : Below wr.heap.size wr wr') : RnS N n fk D g b2 L left T s i w wr' := h.kept (grown_any hb none) fun k e => by cases e
theorem RnS.drew (h : RnS N n fk D g b2 L left T s i w wr) : RnS N n fk D g b2 L left T s i w wr.drew := h.below (Below.refl _ _).drew
theorem RnS.drewN (h : RnS N n fk D g b2 L left T s i w wr) (q : Nat) : RnS N n fk D g b2 L left T s i w (wr.drewN q) := h.below (below_drewN (Below.refl _ _) q)
theorem RnS.skip (h : RnS N n fk D g b2 L left T s i w wr) (hf : fk i s = false) : RnS N n fk D g b2 L left T s (i + 1) w wr := by
  refine ⟨h.sub, h.m2, h.row, fun s' h1 h2 k hk h3 h4 h5 => ?_, h.bel, h.lt⟩
  refine h.cov s' h1 h2 k hk (fun e => ?_) h4 h5
  subst e
  have := h3 rfl
  apply Nat.lt_of_le_of_ne (by omega)
  intro e; subst e; rw [hf] at h4; cases h4
/-- one state is taken -/
theorem RnS.take (h : RnS N n fk D g b2 L left T s n w wr) (t : Nat) : RnS N n fk D g b2 L (fun z => left z && !z.sameKey (kU t)) T t 0 w wr := by
  refine ⟨fun kl hk => ?_, h.m2, h.row, fun s' h1 h2 k hk h3 h4 h5 => ?_, h.bel, h.lt⟩
  · simp only [Bool.and_eq_true] at hk
    exact h.sub kl hk.1
  · by_cases e : s' = t
    · exact absurd (h3 e) (by omega)
    · have h6 : left (kU s') = false := by
        rw [sameKey_ne (fun e2 => e (kU_inj e2))] at h2
        simpa using h2
      exact h.cov s' h1 h6 k hk (fun _ => hk) h4 h5
theorem RnS.cells (h : RnS N n fk D g b2 L left T s i w wr) (hs : D s = some L) (hsN : s < N) : ∃ b : Nat, wr.cell? ⟨g, s * 2, none⟩ = some (.int .i64 L) ∧ wr.cell? ⟨g, s * 2 + 1, none⟩ = some (.int .u64 b) ∧ 1 ≤ b ∧ b ≤ 9223372036854775808 := by
  obtain ⟨R, h2, h3⟩ := h.row
  have hl : s < R.length := by rw [h3.len]; exact hsN
  obtain ⟨c0, c1⟩ := kw_cells h2 h3.len s hl
  obtain ⟨y1, y2, y3⟩ := h3.yes s hl (.inl ⟨L, Nat.le_refl _, hs⟩)
  rw [hs] at y1
  rw [y1] at c0
  exact ⟨R[s].2, c0, c1, y2, y3⟩
theorem RnS.map_small (h : RnS N n fk D g b2 L left T s i w wr) (hD : Dst n fk x D) (hN : N = 2 ^ n) (hN2 : N ≤ 1024) {D2 : DataW Unit} (h2 : MapIs wr b2 D2) (h3 : KSet D2 T) : Maps.size D2 ≤ 1024 ∧ IsMap D2 := by
  obtain ⟨es, rfl, hp, hk⟩ := h2.entries lawU
  obtain ⟨R, _, hR⟩ := h.row
  refine ⟨?_, ⟨es, rfl⟩⟩
  have hex : ∀ p ∈ es, ∃ s : Nat, p.1 = kU s ∧ s < N := fun p hp => by
    have h4 : Maps.has (.map es) p.1 = true := by
      rw [has_eq, List.any_eq_true]
      exact ⟨p, hp, WideAt.sameKey_self (hk p hp)⟩
    obtain ⟨s, e⟩ := h3.only p.1 h4
    refine ⟨s, e, ?_⟩
    rw [e, h3.has] at h4
    rw [hN]; exact (hD.lt s _ (hR.next s h4)).1
  let f : Lit × DataW Unit → Nat := fun p => match p.1 with | .int _ z => z.toNat | _ => 0
  have hf : ∀ p ∈ es, ∀ s : Nat, p.1 = kU s → f p = s := fun p _ s e => by
    show (match p.1 with | .int _ z => z.toNat | _ => 0) = s
    rw [e]; exact Int.toNat_natCast s
  have hnd : (es.map f).Nodup := by
    rw [List.nodup_iff_pairwise_ne, List.pairwise_map]
    refine hp.imp_of_mem fun {p q} hpm hqm hne e => ?_
    obtain ⟨s, es1, _⟩ := hex p hpm
    obtain ⟨t, et1, _⟩ := hex q hqm
    rw [hf p hpm s es1, hf q hqm t et1] at e
    exact hne (by rw [es1, et1, e])
  have := nodup_sub_len (U := List.range N) hnd fun y hy => by
    obtain ⟨p, hpm, rfl⟩ := List.mem_map.1 hy
    obtain ⟨s, e, hs⟩ := hex p hpm
    rw [hf p hpm s e]; exact List.mem_range.2 hs
  rw [List.length_map, List.length_range] at this
  show es.length ≤ 1024
  omega
/-- the first round over a level -/
theorem LvS.rns {b1 : Nat} {w' w1 : World} {left : Lit → Bool} (h : LvS N D g b1 b2 L w w') (hg : w'.grownBy w1 none) {D1 : DataW Unit} (hk : KSet D1 (fun s => decide (D s = some L))) : RnS N n fk D g b2 L (Maps.has D1) (fun _ => false) 0 n w w1 := by
  obtain ⟨D2, h2, h3⟩ := h.m2
  obtain ⟨R, h4, h5⟩ := h.row
  refine ⟨fun kl hh => ?_, ⟨D2, h2.kept hg (by simp), ⟨fun s => h3 _, fun kl hh => by rw [h3] at hh; cases hh⟩⟩, ⟨R, h4.kept hg (.inr (by simp [Value.ownBlock])), h5⟩, fun s' h6 h7 k _ _ _ _ => ?_, h.bel.grown hg ?_ (fun k e => by cases e), h.lt2⟩
  · obtain ⟨s, e⟩ := hk.only kl hh
    refine ⟨s, e, ?_⟩
    rw [e, hk.has] at hh
    exact of_decide_eq_true hh
  · rw [hk.has] at h7
    exact absurd h6 (of_decide_eq_false h7)
  · exact Nat.le_of_lt (h4.lt g rfl).2
/-- the next level -/
theorem RnS.up {b1 : Nat} {D1 D2 : DataW Unit} (h : RnS N n fk D g b2 L left T s n w wr) (hD : Dst n fk x D) (hN : N = 2 ^ n) (h1 : MapIs wr b1 D1) (hl : ∀ kl, Maps.has D1 kl = left kl) (hl0 : ∀ kl, left kl = false) (hg1 : g < b1) (hne : b1 ≠ b2)
    (h2 : MapIs wr b2 D2) (hk2 : KSet D2 T) (hs : Maps.size D2 ≠ 0) : LvS N D g b2 b1 (L + 1) w wr := by
  have hall := h.all hD hl0
  obtain ⟨R, h4, h5⟩ := h.row
  obtain ⟨kl, hkl⟩ := has_of_size h2 hs
  obtain ⟨t, e⟩ := hk2.only kl hkl
  rw [e, hk2.has] at hkl
  have := (hD.lt t _ ((hall t).1 hkl)).2
  exact ⟨by rw [hN]; exact this, ⟨D2, h2, hk2.congr fun s => by rw [Bool.eq_iff_iff, decide_eq_true_eq]; exact hall s⟩, ⟨D1, h1, fun kl => by rw [hl, hl0]⟩, ⟨R, h4, h5.up hall⟩, h.bel, h.lt, hg1, hne.symm⟩
/-- no next level -/
theorem RnS.done {D2 : DataW Unit} (h : RnS N n fk D g b2 L left T s n w wr) (hD : Dst n fk x D) (hl0 : ∀ kl, left kl = false) (h2 : MapIs wr b2 D2) (hk2 : KSet D2 T) (hs : Maps.size D2 = 0) :
    ∃ R, OwnG kwE wr g (.slice (some ⟨g, 0, none⟩) N N) R ∧ R.length = N ∧ (∀ s (hl : s < R.length), (∀ m, D s = some m → R[s].1 = m ∧ 1 ≤ R[s].2 ∧ R[s].2 ≤ 9223372036854775808) ∧ (D s = none → R[s] = (0, 0))) := by
  have hall := h.all hD hl0
  obtain ⟨R, h4, h5⟩ := h.row
  have hT : ∀ s, T s = false := fun s => by
    rw [← hk2.has]
    obtain ⟨es, rfl, _, _⟩ := h2.entries lawU
    cases es with
    | nil => rfl
    | cons p es => cases hs
  exact ⟨R, h4, h5.len, h5.done hD (fun s e => by have := (hall s).2 e; rw [hT] at this; cases this) hT⟩
theorem lv_first {w2 w3 : World} {dv : DataW Unit} (hD : Dst n fk x D) (hN : N = 2 ^ n) (hx : x < N) (h2 : OwnG kwE w2 w.heap.size (.slice (some ⟨w.heap.size, 0, none⟩) N N) (List.replicate N kwE.d)) (hb : Below w.heap.size w w2)
    (h3 : w3.ownsMap Tryd.prog 56 (plainElem (H := Unit) Tryd.prog 4) w2.heap.size (0 + 1) ((DataW.map []).put (kU x) dv)) (hg : ((w2.setCell ⟨w.heap.size, x * 2 + 1, none⟩ (.int .u64 1)).alloc (.map #[] 0)).grownBy w3 (some w2.heap.size))
    (hr : RowOk N D 0 (fun _ => false) ((List.replicate N (0, 0)).set x (0, 1))) : LvS N D w.heap.size w2.heap.size w3.heap.size 0 w (w3.alloc (.map #[] 0)) := by
  have hl : w.heap.size < w2.heap.size := (h2.lt _ rfl).2
  have hsz := h3.lt
  have hone : (1 : Nat) ≤ 2 ^ n := Nat.one_le_two_pow
  have hks : KSet ((DataW.map []).put (kU x) dv) (fun s => decide (D s = some 0)) := (kset_put kset_zero Maps.isMap_empty x dv).congr fun s => by
    show (false || s == x) = decide (D s = some 0)
    rw [Bool.eq_iff_iff]
    simp only [Bool.false_or, beq_iff_eq, decide_eq_true_eq]
    exact ⟨fun e => by subst e; exact hD.zero, hD.only s⟩
  obtain ⟨s1, g1⟩ := kw_st1 h2 (by simp) x (by simpa using hx) 1
  have e1 : (List.replicate N kwE.d).set x (((List.replicate N kwE.d)[x]'(by simpa using hx)).1, 1) = (List.replicate N (0, 0)).set x (0, 1) := by simp [kwE]
  have hb2 : Below w.heap.size w (w2.setCell ⟨w.heap.size, x * 2 + 1, none⟩ (.int .u64 1)) := hb.grown g1 hb.size (fun k e => Nat.le_of_eq (Option.some.inj e))
  refine ⟨Nat.lt_of_lt_of_le Nat.zero_lt_one (by rw [hN]; exact hone), ⟨_, own_tight (h3.alloc _), hks⟩, ⟨.map [], own_tight (World.ownsMap_made w3 _ _ _), fun _ => rfl⟩, ⟨_, ((s1.alloc _).kept hg (.inr fun e => ?_)).alloc _, by rw [e1]; exact hr⟩, ?_, hl, Nat.lt_trans hl hsz, Nat.ne_of_lt hsz⟩
  · have e2 : w.heap.size = w2.heap.size := Option.some.inj e
    omega
  · refine ((hb2.alloc hb2.size _).grown hg ?_ (fun k e => ?_)).alloc ?_ _
    · have := hb.size; simp; omega
    · have e2 : w2.heap.size = k := Option.some.inj e
      omega
    · omega
/-- ways over a state of the level to one behind it -/
theorem RnS.add (h : RnS N n fk D g b2 L left T s i w wr) (hD : Dst n fk x D) (hN : N = 2 ^ n) (hN2 : N ≤ 1024) (hs : D s = some L) (hi : i < n) (hf : fk i s = true) (ht : s ^^^ 2 ^ i < N) (b : Nat) (hb1 : 1 ≤ b) (hb2 : b ≤ 9223372036854775808) :
    Calls Tryd.prog 60 #[.pointer (some ⟨g, (s ^^^ 2 ^ i) * 2, none⟩), .agg #[.int .i64 L, .int .u64 b]] wr fun e w' => ∃ c, e = .returned (.bool c) ∧ wr.grownBy w' (some g) ∧ (c = false → RnS N n fk D g b2 L left T s (i + 1) w w') ∧
      (c = true → ∃ D2, MapIs w' b2 D2 ∧ Maps.size D2 ≤ 1024 ∧ ∀ w'', w''.ownsMap Tryd.prog 56 (plainElem (H := Unit) Tryd.prog 4) b2 (Maps.size D2 + 1) (D2.put (kU (s ^^^ 2 ^ i)) (.lit (.bool true))) → w'.grownBy w'' (some b2) → RnS N n fk D g b2 L left (fun z => T z || z == s ^^^ 2 ^ i) s (i + 1) w w'') := by
  obtain ⟨R, h2, h3⟩ := h.row
  have htR : s ^^^ 2 ^ i < R.length := by rw [h3.len]; exact ht
  have hL : L ≤ 2000 := by have := (hD.lt s L hs).2; omega
  have hltg := h.lt
  have hne : some b2 ≠ some g := fun e => by have := Option.some.inj e; omega
  have cov : ∀ T' : Nat → Bool, (∀ z, T z = true → T' z = true) → (D (s ^^^ 2 ^ i) = some (L + 1) → T' (s ^^^ 2 ^ i) = true) → ∀ s', D s' = some L → left (kU s') = false → ∀ k, k < n → (s' = s → k < i + 1) → fk k s' = true → D (s' ^^^ 2 ^ k) = some (L + 1) → T' (s' ^^^ 2 ^ k) = true := fun T' m1 m2 s' h4 h5 k hk h6 h7 h8 => by
    by_cases e : s' = s ∧ k = i
    · obtain ⟨rfl, rfl⟩ := e; exact m2 h8
    · refine m1 _ (h.cov s' h4 h5 k hk (fun e2 => ?_) h7 h8)
      have := h6 e2
      have : k ≠ i := fun e3 => e ⟨e2, e3⟩
      omega
  obtain ⟨D2, hm2, hk2⟩ := h.m2
  have hsm := h.map_small hD hN hN2 hm2 hk2
  have bel : ∀ w', wr.grownBy w' (some g) → Below g w w' := fun w' hg => h.bel.grown hg (Nat.le_of_lt h.size) (fun k e => by have := Option.some.inj e; omega)
  by_cases h0 : R[s ^^^ 2 ^ i].2 = 0
  · obtain ⟨n1, n2⟩ := h3.new hD hs hi hf htR h0 b hb1 hb2
    refine (addW_new g N N g (s ^^^ 2 ^ i) L b R wr h2 h3.len htR hL hb1 hb2 h0).mono ?_
    rintro e w' ⟨rfl, ho, hg⟩
    refine ⟨true, rfl, hg, (fun e => by cases e), fun _ => ⟨D2, hm2.kept hg hne, hsm.1, fun w'' h8 h9 => ⟨h.sub, ⟨_, own_tight h8, kset_put hk2 hsm.2 _ _⟩, ⟨_, ho.kept h9 (.inr fun e => hne e.symm), n2⟩, ?_, (bel w' hg).grown h9 (Nat.le_trans (Nat.le_of_lt h.size) hg.size) (fun k e => by have := Option.some.inj e; omega), hltg⟩⟩⟩
    exact cov (fun z => T z || z == s ^^^ 2 ^ i) (fun z hz => by show (T z || _) = true; rw [hz]; rfl) (fun _ => by show (T _ || _) = true; simp)
  · obtain ⟨o1, o2, o3, o4⟩ := h3.old hD hs hi hf htR h0 b
    have hT : D (s ^^^ 2 ^ i) = some (L + 1) → T (s ^^^ 2 ^ i) = true := fun e => by
      rcases o4 with o4 | ⟨m, hm, e2⟩
      · exact o4
      · rw [e] at e2; have := Option.some.inj e2; omega
    by_cases h1 : R[s ^^^ 2 ^ i].1 = L + 1
    · refine (addW_same g N N g (s ^^^ 2 ^ i) L b R wr h2 h3.len htR hL hb1 hb2 o1 o2 h1).mono ?_
      rintro e w' ⟨rfl, ho, hg⟩
      exact ⟨false, rfl, hg, fun _ => ⟨h.sub, ⟨D2, hm2.kept hg hne, hk2⟩, ⟨_, ho, (o3 h1).2⟩, cov _ (fun _ hz => hz) hT, bel w' hg, hltg⟩, fun e => by cases e⟩
    · refine (addW_near g N N g (s ^^^ 2 ^ i) L b R wr h2 h3.len htR hL o1 h1).mono ?_
      rintro e w' ⟨rfl, ho, hg⟩
      exact ⟨false, rfl, hg, fun _ => ⟨h.sub, ⟨D2, hm2.kept hg hne, hk2⟩, ⟨_, ho, h3⟩, cov _ (fun _ hz => hz) hT, bel w' hg, hltg⟩, fun e => by cases e⟩
end
theorem boolElem_inv {v : Value} {y : DataW Unit × List MemPlace} (h : plainElem (H := Unit) Tryd.prog 4 v = some y) : ∃ c, v = .bool c := by
  cases v <;> simp [plainElem, Tryd.underlying4] at h
  exact ⟨_, rfl⟩
theorem made_map (w : World) (a : Addr) (v : Value) : ((w.setCell a v).alloc (.map #[] 0)).ownsMap Tryd.prog 56 (plainElem (H := Unit) Tryd.prog 4) w.heap.size 0 (.map []) := by
  have h := World.ownsMap_made (w.setCell a v) Tryd.prog 56 (plainElem (H := Unit) Tryd.prog 4)
  have e : (w.setCell a v).heap.size = w.heap.size := by simp
  rwa [e] at h
theorem wpList_next_set {P : Program} (w : World) {ops : Array Oper} {rest : List Oper} {o : Oper} {a : Act} {Q : Exit → Act → World → Prop}
    (hg : o.guard = none) (it : Operand) (hop : o.op = Op.next it false) (k e : TypeId) (K : Keyed P k) (hk : P.underlying k = some (.int .u64)) (he : P.underlying e = some .bool)
    (b r n : Nat) (D : DataW Unit) (left : Lit → Bool) (cnt : Nat) (hit : a.eval it = .pointer (some ⟨r, 0, none⟩)) (h : w.ranges P k (plainElem P e) b r n D left cnt)
    (hDone : Hid (∀ kl, left kl = false) → wpList P ops Q rest (a.put o.dst (.tuple #[.bool false])) w)
    (hMore : ∀ (x : Int) (v : Value) (w' : World) (cnt' : Nat), left (.int .u64 x) = true → w'.ranges P k (plainElem P e) b r n D (fun z => left z && !z.sameKey (.int .u64 x)) cnt' → cnt' < cnt →
      w.grownBy w' (some r) → w'.heap.size = w.heap.size → (Instr.entry (.pointer (some ⟨r, 0, none⟩))).run P w' = .ok (.tuple #[.int .u64 x, v]) w' → wpList P ops Q rest (a.put o.dst (.tuple #[.bool true, .int .u64 x, v])) w') :
    wpList P ops Q (o :: rest) a w :=
  wpList_next_ranges w hg it hop k K (plainElem P e) (Value.int .u64) (fun v : Value => v) (fun key kl hkey => by obtain ⟨x, rfl, _⟩ := Maps.keyOf_int_inv hk hkey; exact ⟨x, rfl⟩) (fun v y hv => ⟨v, rfl⟩)
    b r n D left cnt hit h (fun _ h2 => hDone (Lib.hid h2)) (fun x c kl y w' cnt' hkey hlk hv hat hrg hlt hgr hsz hen => by
      obtain ⟨x', ex, rfl, hwx⟩ := Maps.keyOf_int_inv hk hkey
      cases ex
      exact hMore x c w' cnt' hlk hrg hlt hgr hsz hen)
end Go.Proofs.YtcfeaaakfjilgabDoor
