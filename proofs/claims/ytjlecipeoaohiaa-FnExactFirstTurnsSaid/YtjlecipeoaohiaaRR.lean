/- Rows of rows of integers of the call's own: made, compared, marked, held. -/
import Derived.Test.YtjlecipeoaohiaaBase0
import Derived.BigQuiet
import Derived.Deep.QuietTactic
--@file T:[][]int
namespace Go.Proofs.Ytjlecipeoaohiaa
set_option linter.unusedSimpArgs false
set_option linter.unusedVariables false
open Go Go.RowKit RM
/-- slices as elements of a row -/
abbrev Sl := Option Addr × Nat × Nat
abbrev Sl.v (s : Sl) : Value := .slice s.1 s.2.1 s.2.2
def slcE : Elt Sl where
  e := 54
  n := 1
  bytes := 24
  z := .slice none 0 0
  d := (none, 0, 0)
  cells s := [Sl.v s]
  len _ := rfl
  one x u hu := by simp at hu; subst hu; rfl
  pos := by decide
  zs := rfl
  info := by kernel_rfl
  small := by decide
/-- what lies where -/
structure OwnRR (w : World) (B : Nat) (v : Value) (ps : List (Sl × List Int)) : Prop where
  row : OwnG slcE w B v (ps.map (·.1))
  inn : ∀ q ∈ ps, OwnI w B (Sl.v q.1) q.2
  apart : ps.Pairwise fun a b => (Sl.v a.1).ownBlock = none ∨ (Sl.v a.1).ownBlock ≠ (Sl.v b.1).ownBlock
/-- the value v owns the rows xss, in memory from block B on -/
def OwnSS (w : World) (B : Nat) (v : Value) (xss : List (List Int)) : Prop := ∃ ps, ps.map (·.2) = xss ∧ OwnRR w B v ps
theorem OwnRR.nil (w : World) (B : Nat) : OwnRR w B (.slice none 0 0) [] := ⟨OwnG.nil _ _, (fun q h => by cases h), List.Pairwise.nil⟩
theorem OwnSS.nil (w : World) (B : Nat) : OwnSS w B (.slice none 0 0) [] := ⟨[], rfl, OwnRR.nil _ _⟩
theorem OwnRR.below {w w' : World} {B : Nat} {v : Value} {ps : List (Sl × List Int)} (h : OwnRR w B v ps) (hb : Below w.heap.size w w') : OwnRR w' B v ps :=
  ⟨h.row.below hb, fun q hq => (h.inn q hq).below hb, h.apart⟩
theorem OwnSS.below {w w' : World} {B : Nat} {v : Value} {xss : List (List Int)} (h : OwnSS w B v xss) (hb : Below w.heap.size w w') : OwnSS w' B v xss := by
  obtain ⟨ps, e, h⟩ := h; exact ⟨ps, e, h.below hb⟩
theorem OwnRR.mono {w : World} {B C : Nat} {v : Value} {ps : List (Sl × List Int)} (h : OwnRR w B v ps) (hc : C ≤ B) : OwnRR w C v ps := ⟨h.row.mono hc, fun q hq => (h.inn q hq).mono hc, h.apart⟩
theorem OwnSS.mono {w : World} {B C : Nat} {v : Value} {xss : List (List Int)} (h : OwnSS w B v xss) (hc : C ≤ B) : OwnSS w C v xss := by
  obtain ⟨ps, e, h⟩ := h; exact ⟨ps, e, h.mono hc⟩
theorem OwnSS.drewN {w : World} {B : Nat} {v : Value} {xss : List (List Int)} (h : OwnSS w B v xss) (q : Nat) : OwnSS (w.drewN q) B v xss := h.below (below_drewN (Below.refl _ _) q)
theorem OwnSS.alloc {w : World} {B : Nat} {v : Value} {xss : List (List Int)} (h : OwnSS w B v xss) (o : Obj) : OwnSS (w.alloc o) B v xss := h.below ((Below.refl _ _).alloc (Nat.le_refl _) o)
/-- how it reads: the outer row, and each inner one -/
theorem OwnSS.rd {w : World} {B : Nat} {v : Value} {xss : List (List Int)} (h : OwnSS w B v xss) : ∃ p c, v = .slice p xss.length c ∧ xss.length ≤ maxLen ∧ ∀ w', Below w.heap.size w w' → ∀ k (hk : k < xss.length), ∃ g a m c2, p = some ⟨g, 0, none⟩ ∧ g < w.heap.size ∧ w'.cell? ⟨g, k, none⟩ = some (.slice a m c2) ∧ OwnI w' B (.slice a m c2) xss[k] ∧ m = xss[k].length := by
  obtain ⟨ps, rfl, h⟩ := h
  obtain ⟨p, c, rfl, hm, hr⟩ := h.row.rd
  have hl9 : (ps.map (·.1)).length = (ps.map (·.2)).length := by rw [List.length_map, List.length_map]
  refine ⟨p, c, by rw [hl9], by rw [← hl9]; exact hm, fun w' hb k hk => ?_⟩
  have hk' : k < ps.length := by rw [List.length_map] at hk; exact hk
  obtain ⟨g, rfl, hl, hc⟩ := hr (fun e => by rw [List.map_eq_nil_iff] at e; rw [e] at hk; cases hk)
  have h1 := hc k (by rw [hl9]; exact hk) 0 (by decide)
  rw [List.getElem_map] at h1
  have h2 := (h.inn ps[k] (List.getElem_mem hk')).below hb
  rw [List.getElem_map]
  refine ⟨g, ps[k].1.1, ps[k].1.2.1, ps[k].1.2.2, rfl, hl, ?_, h2, ?_⟩
  · rw [hb.cell (p := ⟨g, k, none⟩) hl]
    have e : k * slcE.n + 0 = k := by show k * 1 + 0 = k; omega
    rw [e] at h1; exact h1
  · rcases h2.form with ⟨e, e2⟩ | ⟨g', cap, e, _⟩
    · have := congrArg (fun v => match v with | Value.slice _ n _ => n | _ => 0) e
      rw [e2]; exact this
    · exact congrArg (fun v => match v with | Value.slice _ n _ => n | _ => 0) e
theorem OwnSS.lt {w : World} {B : Nat} {v : Value} {xss : List (List Int)} (h : OwnSS w B v xss) : ∀ k, v.ownBlock = some k → B ≤ k ∧ k < w.heap.size := by
  obtain ⟨ps, _, h⟩ := h; exact h.row.lt
theorem slc_ne {w : World} {B C : Nat} {v u : Value} {xs : List Sl} {ys : List Int} (h : OwnG slcE w B v xs) (k : OwnI w C u ys) : v.ownBlock = none ∨ v.ownBlock ≠ u.ownBlock := own_ne_kind h k (by decide)
theorem slc_ne' {w : World} {B C : Nat} {v u : Value} {xs : List Sl} {ys : List Int} (h : OwnG slcE w B v xs) (k : OwnI w C u ys) : u.ownBlock = none ∨ u.ownBlock ≠ v.ownBlock := own_ne_kind k h (by decide)
/-- a row that was made behind -/
theorem behind_ne {u : Value} {S : Nat} {y : Value} (hu : ∀ k, u.ownBlock = some k → k < S) (hy : ∀ k, y.ownBlock = some k → S ≤ k) : u.ownBlock = none ∨ u.ownBlock ≠ y.ownBlock := by
  cases e : u.ownBlock with
  | none => left; rfl
  | some a =>
    right; intro e2
    have := hu a e
    have := hy a e2.symm
    omega
/-- 'append(list, xs)': xs a row of the call's own that lies behind all of the list's -/
theorem app_ss (w : World) {ops : Array Oper} {rest : List Oper} {o : Oper} {a : Act} {Q : Exit → Act → World → Prop} (hgd : o.guard = none) (s x : Operand)
    (ho : o.op = .call { callee := .builtin .append, args := #[s, x], argTypes := #[32, 32] })
    (B : Nat) (v : Value) (xss : List (List Int)) (hs : a.eval s = v) (w0 : World) (hown0 : OwnSS w0 B v xss) (hb0 : Below w0.heap.size w0 w) (g : Nat) (y : Sl) (ys : List Int) (hx : a.eval x = .slice (some ⟨g, 0, none⟩) 1 1)
    (hcell : w.heap[g]? = some (.cells #[Sl.v y] 54)) (hy : OwnI w B (Sl.v y) ys) (hyn : ∀ k, (Sl.v y).ownBlock = some k → w0.heap.size ≤ k) (hlen : xss.length ≤ 1000000) (hB : B ≤ w.heap.size)
    (h : ∀ v' w', OwnSS w' B v' (xss ++ [ys]) → w.grownBy w' v.ownBlock → (v'.ownBlock = v.ownBlock ∨ v'.ownBlock = some w.heap.size) → wpList Try.prog ops Q rest (a.put o.dst v') w') : wpList Try.prog ops Q (o :: rest) a w := by
  obtain ⟨ps, rfl, hr0⟩ := hown0
  have hr := hr0.below hb0
  rw [List.length_map] at hlen
  refine app_G w hgd s x 32 ho Try.underlying32 B v (ps.map (·.1)) hs hr.row g y hx (fun o u hu => ?_) (by rw [List.length_map]; exact hlen) hB ?_
  · rw [hb_cell hcell]
    match o with
    | 0 => exact hu
    | o + 1 => simp [slcE] at hu
  · intro v' w' h1 h2 h3
    refine h v' w' ⟨ps ++ [(y, ys)], by simp, ⟨by simpa using h1, fun q hq => ?_, ?_⟩⟩ h2 h3
    · rcases List.mem_append.1 hq with hq | hq
      · exact (hr.inn q hq).kept h2 (slc_ne' hr.row (hr.inn q hq))
      · simp at hq; subst hq
        exact hy.kept h2 (slc_ne' hr.row hy)
    · rw [List.pairwise_append]
      refine ⟨hr.apart, by simp, fun p hp q hq => ?_⟩
      simp at hq; subst hq
      exact behind_ne (fun k e => ((hr0.inn p hp).lt k e).2) hyn
/-- all blocks of such a row lie between -/
theorem OwnRR.inLt {w : World} {B : Nat} {v : Value} {ps : List (Sl × List Int)} (h : OwnRR w B v ps) : ∀ q ∈ ps, ∀ k, (Sl.v q.1).ownBlock = some k → B ≤ k ∧ k < w.heap.size := fun q hq k e => (h.inn q hq).lt k e
theorem eqIntSS_same (va vb : Value) (xss : List (List Int)) (A B : Nat) (w : World) (ha : OwnSS w A va xss) (hb : OwnSS w B vb xss) :
    Calls Try.prog 22 #[va, vb] w fun e w' => e = .returned (.bool true) ∧ ∃ q, w' = w.drewN q := by
  obtain ⟨pa, ca, rfl, hm, hra⟩ := ha.rd
  obtain ⟨pb, cb, rfl, -, hrb⟩ := hb.rd
  have hq := Lib.hid (fun w' (hbw : Below w.heap.size w w') k (hk : k < xss.length) => hra w' hbw k hk)
  have hr := Lib.hid (fun w' (hbw : Below w.heap.size w w') k (hk : k < xss.length) => hrb w' hbw k hk)
  clear ha hb hra hrb
  obtain ⟨n, hn⟩ : ∃ n, Hid (n = xss.length) := ⟨_, Lib.hid rfl⟩
  have hn9 : n ≤ maxLen := by rw [hn.out]; exact hm
  rw [← hn.out]
  unfold maxLen at hn9
  clear hm
  have hne : ((n : Int) != (n : Int)) = false := by simp
  go_enter Try.func22, Try.ntmps22
  go_wp2_with fail
  go_loopw [5] (fun i wr => ∃ k q : Nat, k ≤ n ∧ i = .int .i64 k ∧ Hid (wr = w.drewN q)) (fun i _ => n - (intOf i).toNat)
  case atStart => exact ⟨0, 0, Nat.zero_le _, rfl, Lib.hid rfl⟩
  case round =>
    obtain ⟨k, q, hk, rfl, hwr⟩ := hrel
    rename World => wA
    have hbA := Lib.hid (show Below w.heap.size w wA by rw [hwr.out]; exact below_drewN (Below.refl _ _) q)
    by_cases hlt : k < n
    · have hkx : k < xss.length := by rw [← hn.out]; exact hlt
      obtain ⟨ga, a1, m1, c1, rfl, hga, h1, ho1, -⟩ := hq.out wA hbA.out k hkx
      obtain ⟨gb, a2, m2, c2, rfl, hgb, h2, ho2, -⟩ := hr.out wA hbA.out k hkx
      generalize xss[k] = xs at *
      have hE := Lib.hid (fun j => eqIntS_same (.slice a1 m1 c1) (.slice a2 m2 c2) xs A B (wA.drewN j) (ho1.drewN j) (ho2.drewN j))
      clear ho1 ho2
      go_wp2_with fail
      go_quiet ((go_at_call 59; refine Calls.quiet_of (hE.out _)))
      go_wp2_with fail
      go_roundw
      case rel => exact ⟨k + 1, q + nq, by omega, by go_num, Lib.hid (by rw [hwr.out]; exact drewN_drewN _ _ _)⟩
      all_goals (simp [intOf] <;> omega)
    · obtain rfl : k = n := by omega
      go_wp2_with fail
      go_ret; exact ⟨rfl, q, hwr.out⟩
end Go.Proofs.Ytjlecipeoaohiaa
