/- Clues without one, cut, joined: the model's and the program's; puzzles with capacity. -/
import Derived.Test.YtmjeilimdnngpaaDoorPzJ
import Derived.Laws.AppendOwnNone
import Derived.Deep.RegionLaw
import Derived.Deep.RegionWith
import Derived.Lib.AppendZeros
namespace Go.Proofs.YtmjeilimdnngpaaDoor
open Go Go.RowKit RM
/-- the value v reads as a puzzle whose clues have room -/
def RdK (w : World) (v : Value) (R : Int) (cs : List Clu) : Prop := ∃ p c, v = .agg #[.int .i64 R, .slice p cs.length c] ∧ cs.length ≤ maxLen ∧ cs.length ≤ c ∧ RG cluE w p cs ∧ ((p = none ∧ c = 0) ∨ ∃ g, p = some ⟨g, 0, none⟩)
theorem RdK.below {w w' : World} {v : Value} {R : Int} {cs : List Clu} (h : RdK w v R cs) (hb : Below w.heap.size w w') : RdK w' v R cs := by
  obtain ⟨p, c, rfl, h1, h2, h3, h4⟩ := h; exact ⟨p, c, rfl, h1, h2, h3.below hb, h4⟩
theorem RdK.rd {w : World} {v : Value} {R : Int} {cs : List Clu} (h : RdK w v R cs) : RdZ w v R cs := by
  obtain ⟨p, c, rfl, h1, _, h3, _⟩ := h; exact ⟨_, rfl, p, c, rfl, h1, h3⟩
theorem OwnG.rdc {α : Type} {E : Elt α} {w : World} {B : Nat} {v : Value} {xs : List α} (h : OwnG E w B v xs) : ∃ p c, v = .slice p xs.length c ∧ xs.length ≤ maxLen ∧ xs.length ≤ c ∧ RG E w p xs ∧ ((p = none ∧ c = 0) ∨ ∃ g, p = some ⟨g, 0, none⟩) := by
  obtain ⟨p, c, e, hm, hr⟩ := h.rd
  rcases h.2 with ⟨e1, e2⟩ | ⟨g', cap', cur, e1, _, _, hnc, _⟩
  · rw [e] at e1
    simp at e1
    exact ⟨p, c, e, hm, by rw [e2]; exact Nat.zero_le _, hr, .inl ⟨e1.1, e1.2.2⟩⟩
  · rw [e] at e1
    simp at e1
    exact ⟨p, c, e, hm, by omega, hr, .inr ⟨g', e1.1⟩⟩
theorem OwnZ.rdk {w : World} {B : Nat} {v : Value} {R : Int} {cs : List Clu} (h : OwnZ w B v R cs) : RdK w v R cs := by
  obtain ⟨u, rfl, hu⟩ := h
  obtain ⟨p, c, rfl, h1, h2, h3, h4⟩ := hu.rdc
  exact ⟨p, c, rfl, h1, h2, h3, h4⟩
/-- clues without one -/
def lessC (cs : List Clu) (k : Nat) : List Clu := cs.take k ++ cs.drop (k + 1)
theorem lessC_len (cs : List Clu) (k : Nat) (hk : k < cs.length) : (lessC cs k).length = cs.length - 1 := by
  unfold lessC; simp; omega
theorem own_emptyG {α : Type} (E : Elt α) (w : World) : OwnG E (w.alloc (.cells #[] E.e)) w.heap.size (.slice (some ⟨w.heap.size, 0, none⟩) 0 0) [] :=
  ⟨by simp [Elt.flat], .inr ⟨_, 0, _, rfl, Nat.le_refl _, hb_new _ _, Nat.le_refl _, by decide, by simp, by simp [Elt.flat]⟩⟩
/-- 'append(s, x...)' as a step of a region that draws -/
theorem step_appG {α : Type} {E : Elt α} {ops : Array Oper} {o : Oper} {a : Act} {w : World} {K : Act → World → Prop} {Q : Exit → Act → World → Prop} {E0 : Prop}
    (hgd : o.guard = none) (s x : Operand) (t : TypeId) (ho : o.op = .call { callee := .builtin .append, args := #[s, x], argTypes := #[t, t] }) (ht : Tryd.prog.underlying t = some (.slice E.e))
    (B : Nat) (v : Value) (xs : List α) (hs : a.eval s = v) (hown : OwnG E w B v xs) (g off m c : Nat) (ys : List α) (hx : a.eval x = .slice (some ⟨g, off, none⟩) m c) (hm : ys.length = m)
    (hcell : ∀ k (hk : k < ys.length) o, o < E.n → w.cell? ⟨g, off + (k * E.n + o), none⟩ = (E.cells ys[k])[o]?) (hlen : xs.length + m ≤ 1000000) (hB : B ≤ w.heap.size)
    (h : ∀ v' w', OwnG E w' B v' (xs ++ ys) → w.grownBy w' v.ownBlock → K (a.put o.dst v') w') :
    if Region.wanted o (yielded ops a.tmps) = true then Oper.wp Tryd.prog o a w K Q else E0 := by
  have hw : Region.wanted o (yielded ops a.tmps) = true := by simp [Region.wanted, hgd]
  rw [if_pos hw]
  subst hm
  obtain ⟨i0, hi, hz0, hz1, hz2⟩ := info_parts E.info
  have hzs : E.z.cells.size = E.n := by rw [← E.len E.d, ← E.zs]; simp
  refine wp_append_own w s x t ho B E.e i0 E.z E.n E.bytes ht hi hz0 hz1 hz2 hzs E.pos v xs.length (E.flat xs) hs hown ⟨g, off, none⟩ ys.length c (E.flat ys) hx (E.flat_len ys) ?_ ?_ (by unfold maxLen; omega) ?_ hB ?_
  · intro j u hj
    have e2 : (⟨g, off, none⟩ : Addr).add j = ⟨g, off + j, none⟩ := by unfold Addr.add; split <;> simp_all
    rw [e2]
    have hp := E.pos
    have hjl : j < ys.length * E.n := by
      have := (List.getElem?_eq_some_iff.1 hj).1
      rwa [E.flat_len] at this
    have hk : j / E.n < ys.length := Nat.div_lt_of_lt_mul (by rw [Nat.mul_comm]; exact hjl)
    have hmo := Nat.mod_lt j hp
    have e3 : j / E.n * E.n + j % E.n = j := by rw [Nat.mul_comm]; exact Nat.div_add_mod j E.n
    have h1 := E.flat_get ys (j / E.n) hk (j % E.n) hmo
    have h2 := hcell (j / E.n) hk (j % E.n) hmo
    rw [e3] at h1 h2
    rw [h2, ← h1]; exact hj
  · intro u hu
    unfold Elt.flat at hu
    obtain ⟨y, _, hy⟩ := List.mem_flatMap.1 hu
    exact E.one y u hy
  · have := E.small
    calc (xs.length + ys.length) * E.bytes ≤ 1000000 * 64 := Nat.mul_le_mul (by omega) this
      _ ≤ _ := by omega
  · intro v' w' h1 h2 h3
    refine h v' w' ?_ h2
    unfold OwnG
    rw [E.flat_app, List.length_append]; exact h1
/-- 'append(s, x...)' onto a row of the call's own -/
theorem appN_G {α : Type} {E : Elt α} (w : World) {ops : Array Oper} {rest : List Oper} {o : Oper} {a : Act} {Q : Exit → Act → World → Prop} (hgd : o.guard = none) (s x : Operand) (t : TypeId)
    (ho : o.op = .call { callee := .builtin .append, args := #[s, x], argTypes := #[t, t] }) (ht : Tryd.prog.underlying t = some (.slice E.e))
    (B : Nat) (v : Value) (xs : List α) (hs : a.eval s = v) (hown : OwnG E w B v xs) (g off m c : Nat) (ys : List α) (hx : a.eval x = .slice (some ⟨g, off, none⟩) m c) (hm : ys.length = m)
    (hcell : ∀ k (hk : k < ys.length) o, o < E.n → w.cell? ⟨g, off + (k * E.n + o), none⟩ = (E.cells ys[k])[o]?) (hlen : xs.length + m ≤ 1000000) (hB : B ≤ w.heap.size)
    (h : ∀ v' w', OwnG E w' B v' (xs ++ ys) → w.grownBy w' v.ownBlock → (v'.ownBlock = v.ownBlock ∨ v'.ownBlock = some w.heap.size) → wpList Tryd.prog ops Q rest (a.put o.dst v') w') : wpList Tryd.prog ops Q (o :: rest) a w := by
  subst hm
  obtain ⟨i0, hi, hz0, hz1, hz2⟩ := info_parts E.info
  have hzs : E.z.cells.size = E.n := by rw [← E.len E.d, ← E.zs]; simp
  refine wpList_append_own_at w hgd s x t ho B E.e i0 E.z E.n E.bytes ht hi hz0 hz1 hz2 hzs E.pos v xs.length (E.flat xs) hs hown ⟨g, off, none⟩ ys.length c (E.flat ys) hx (E.flat_len ys) ?_ ?_ (by unfold maxLen; omega) ?_ hB ?_
  · intro j u hj
    have e2 : (⟨g, off, none⟩ : Addr).add j = ⟨g, off + j, none⟩ := by unfold Addr.add; split <;> simp_all
    rw [e2]
    have hp := E.pos
    have hjl : j < ys.length * E.n := by
      have := (List.getElem?_eq_some_iff.1 hj).1
      rwa [E.flat_len] at this
    have hk : j / E.n < ys.length := Nat.div_lt_of_lt_mul (by rw [Nat.mul_comm]; exact hjl)
    have hmo := Nat.mod_lt j hp
    have e3 : j / E.n * E.n + j % E.n = j := by rw [Nat.mul_comm]; exact Nat.div_add_mod j E.n
    have h1 := E.flat_get ys (j / E.n) hk (j % E.n) hmo
    have h2 := hcell (j / E.n) hk (j % E.n) hmo
    rw [e3] at h1 h2
    rw [h2, ← h1]; exact hj
  · intro u hu
    unfold Elt.flat at hu
    obtain ⟨y, _, hy⟩ := List.mem_flatMap.1 hu
    exact E.one y u hy
  · have := E.small
    calc (xs.length + ys.length) * E.bytes ≤ 1000000 * 64 := Nat.mul_le_mul (by omega) this
      _ ≤ _ := by omega
  · intro v' w' h1 h2 _ h4
    refine h v' w' ?_ h2 h4
    unfold OwnG
    rw [E.flat_app, List.length_append]; exact h1
theorem elemClu : Tryd.prog.elem 29 = 44 := by kernel_rfl
theorem szClu (w : World) : (sizeOf 44).run Tryd.prog w = .ok 3 w := by
  have := Tryd.sizeOf44 w
  exact this
theorem unClu : Tryd.prog.underlying 29 = some (.slice (Tryd.prog.elem 29)) := by rw [elemClu]; exact Tryd.underlying29
theorem cutC_h (W : World) (g n c h : Nat) (h2 : h ≤ c) :
    (Instr.slice 29 (.slice (some ⟨g, 0, none⟩) n c) none (some (.int .i64 (h : Int))) none).run Tryd.prog W = .ok (.slice (some ⟨g, 0, none⟩) h c) W := by
  rw [run_slice_h (ht := unClu) (h0 := by omega) (h2 := by omega), elemClu, szClu]
  by_cases e : c = 0
  · have e2 : h = 0 := by omega
    simp [sliced, e, e2, Result.andThen]
  · simp [sliced, e, Result.andThen, Addr.add]
theorem cutC_l (W : World) (g n c l : Nat) (h1 : l ≤ n) (h2 : n ≤ c) (x : Int) (hx : x = (l : Int)) :
    (Instr.slice 29 (.slice (some ⟨g, 0, none⟩) n c) (some (.int .i64 x)) none none).run Tryd.prog W = .ok (.slice (some ⟨g, if c = l then 0 else l * 3, none⟩) (n - l) (c - l)) W := by
  subst hx
  rw [run_slice_l (ht := unClu) (h0 := by omega) (h1 := by omega), elemClu, szClu]
  by_cases e : c = l
  · simp [sliced, e, Result.andThen]
  · simp [sliced, e, Result.andThen, Addr.add]; omega
theorem cutC_lhm (W : World) (g n c l h : Nat) (h1 : l ≤ h) (h2 : h ≤ c) (x y : Int) (hx : x = (l : Int)) (hy : y = (h : Int)) :
    (Instr.slice 29 (.slice (some ⟨g, 0, none⟩) n c) (some (.int .i64 x)) (some (.int .i64 y)) (some (.int .i64 y))).run Tryd.prog W = .ok (.slice (some ⟨g, if h = l then 0 else l * 3, none⟩) (h - l) (h - l)) W := by
  subst hx hy
  rw [run_slice_lhm (ht := unClu) (h0 := by omega) (h1 := by omega) (h2 := by omega) (h3 := by omega), elemClu, szClu]
  by_cases e : h = l
  · simp [sliced, e, Result.andThen]
  · simp [sliced, e, Result.andThen, Addr.add]; omega
theorem clu_take {w w' : World} {g k : Nat} {cs : List Clu} (h : RG cluE w (some ⟨g, 0, none⟩) cs) (h0 : cs ≠ []) (hb : Below w.heap.size w w') : ∀ i (hi : i < (cs.take k).length) o, o < cluE.n → w'.cell? ⟨g, 0 + (i * cluE.n + o), none⟩ = (cluE.cells (cs.take k)[i])[o]? := by
  intro i hi o ho
  obtain ⟨g', e, hl, hc⟩ := h h0
  obtain rfl : g = g' := by simp at e; exact e
  have h2 : i < cs.length := by rw [List.length_take] at hi; omega
  rw [Nat.zero_add, hb.cell (p := ⟨g, i * cluE.n + o, none⟩) hl, List.getElem_take]
  exact hc i h2 o ho
theorem clu_drop {w w' : World} {g k off : Nat} {cs : List Clu} (h : RG cluE w (some ⟨g, 0, none⟩) cs) (h0 : cs ≠ []) (hb : Below w.heap.size w w') (hoff : off = k * 3 ∨ cs.length ≤ k) : ∀ i (hi : i < (cs.drop k).length) o, o < cluE.n → w'.cell? ⟨g, off + (i * cluE.n + o), none⟩ = (cluE.cells (cs.drop k)[i])[o]? := by
  intro i hi o ho
  obtain ⟨g', e, hl, hc⟩ := h h0
  obtain rfl : g = g' := by simp at e; exact e
  rw [List.length_drop] at hi
  obtain rfl := hoff.resolve_right (by omega)
  have e2 : k * 3 + (i * cluE.n + o) = (k + i) * cluE.n + o := by show k * 3 + (i * 3 + o) = (k + i) * 3 + o; omega
  rw [e2, hb.cell (p := ⟨g, (k + i) * cluE.n + o, none⟩) hl, List.getElem_drop]
  exact hc (k + i) (by omega) o ho
theorem cutC_any (W : World) (p : Option Addr) (n c h : Nat) (hp : (p = none ∧ c = 0) ∨ ∃ g, p = some ⟨g, 0, none⟩) (h2 : h ≤ c) :
    (Instr.slice 29 (.slice p n c) none (some (.int .i64 (h : Int))) none).run Tryd.prog W = .ok (.slice p h c) W := by
  rcases hp with ⟨rfl, rfl⟩ | ⟨g, rfl⟩
  · obtain rfl : h = 0 := by omega
    rw [run_slice_h (ht := unClu) (h0 := by omega) (h2 := by omega), elemClu, szClu]
    simp [sliced, Result.andThen]
  · exact cutC_h W g n c h h2
set_option maxHeartbeats 1000000 in
theorem pzWithout_any (p : Option Addr) (n c k : Nat) (cs : List Clu) (w : World) (hn : cs.length = n) (hk : k < n) (hc : n ≤ c) (hl : n ≤ 6) (hr : RG cluE w p cs) :
    Calls Tryd.prog 39 #[.slice p n c, .int .i64 k] w fun e w' => ∃ v, e = .returned v ∧ OwnG cluE w' w.heap.size v (lessC cs k) ∧ Below w.heap.size w w' := by
  have h0 : cs ≠ [] := fun e => by rw [e] at hn; simp at hn; omega
  obtain ⟨g, rfl, hgl, -⟩ := hr h0
  have hT := Lib.hid fun w' (hb : Below w.heap.size w w') => clu_take (k := k) hr h0 hb
  have hD := Lib.hid fun w' (hb : Below w.heap.size w w') => clu_drop (k := k + 1) (off := if c = k + 1 then 0 else (k + 1) * 3) hr h0 hb (by by_cases e : c = k + 1; (right; omega); (left; rw [if_neg e]))
  have hs1 := fun W => cutC_h W g n c k (by omega)
  have hs2 := fun W => cutC_l W g n c (k + 1) (by omega) (by omega) ((k : Int) + 1) (by omega)
  have e1 : IntKind.i64.wrap ((k : Int) + 1) = (k : Int) + 1 := by rw [IntKind.wrap_i64]; omega
  have hlt : Hid ((cs.take k).length = k) := Lib.hid (by rw [List.length_take]; omega)
  have hld : Hid ((cs.drop (k + 1)).length = n - (k + 1)) := Lib.hid (by rw [List.length_drop, hn])
  have hle := Lib.hid (show lessC cs k = [] ++ cs.take k ++ cs.drop (k + 1) from rfl)
  rw [hle.out]
  clear hr hn h0 hle
  generalize (if c = k + 1 then 0 else (k + 1) * 3) = off at *
  generalize cs.take k = xs at *
  generalize cs.drop (k + 1) = ys at *
  have hOe := own_emptyG cluE w.drew
  have hBe : Below w.heap.size w (w.drew.alloc (.cells #[] 44)) := (Below.refl _ _).drew.alloc (Nat.le_refl _) _
  replace hOe := Lib.hid hOe
  replace hBe := Lib.hid hBe
  go_enter Tryd.func39, Tryd.ntmps39
  go_wp2_with fail
  go_region_law (first
    | (have h7 := hO2; clear h7; refine step_appG (E := cluE) rfl (.tmp 9) (.tmp 13) 29 (by with_reducible rfl) Tryd.underlying29 w.heap.size v2 _ (by simp [Act.eval, Act.put]) hO2 g off (n - (k + 1)) (c - (k + 1)) ys (by simp [Act.eval, Act.put]) hld.out (hD.out _ hB2) (by rw [List.nil_append, hlt.out]; omega) hB2.size ?_; intro v3 w3 ho3 hg3; have hB3 := bel_ownG hB2 hO2 hg3 hB2.size)
    | (refine step_appG (E := cluE) rfl (.tmp 5) (.tmp 8) 29 (by with_reducible rfl) Tryd.underlying29 w.heap.size _ [] (by simp [Act.eval, Act.put]) hOe.out g 0 k c xs (by simp [Act.eval, Act.put]) hlt.out (hT.out _ hBe.out) (by simp; omega) hBe.out.size ?_; intro v2 w2 hO2 hg2; have hB2 := bel_ownG hBe.out hOe.out hg2 hBe.out.size))
  all_goals
    rw [List.nil_append] at ho3
    have ho5 := Lib.hid ho3
    have hb5 := Lib.hid hB3
    clear ho3 hB3 hg3 hO2 hB2 hg2
    go_wp2_with fail
    go_ret; exact ⟨_, rfl, ho5.out, hb5.out⟩

theorem cut_any (R : Int) (g n c f t : Nat) (w : World) (hft : f ≤ t) (htc : t ≤ c) (ht : t ≤ 1000) :
    Calls Tryd.prog 49 #[.agg #[.int .i64 R, .slice (some ⟨g, 0, none⟩) n c], .int .i64 f, .int .i64 t] w fun e w' => e = .returned (.slice (some ⟨g, if t = f then 0 else f * 3, none⟩) (t - f) (t - f)) ∧ w' = w.alloc (puzO R (.slice (some ⟨g, 0, none⟩) n c)) := by
  have hs := fun W => cutC_lhm W g n c f t hft htc f t rfl rfl
  generalize (if t = f then 0 else f * 3) = off at *
  go_enter Tryd.func49, Tryd.ntmps49
  go_wp2_with fail
  go_ret; exact ⟨rfl, rfl⟩

theorem cut_nil (R : Int) (w : World) :
    Calls Tryd.prog 49 #[.agg #[.int .i64 R, .slice none 0 0], .int .i64 0, .int .i64 0] w fun e w' => e = .returned (.slice none 0 0) ∧ w' = w.alloc (puzO R (.slice none 0 0)) := by
  have hs : ∀ W, (Instr.slice 29 (.slice none 0 0) (some (.int .i64 0)) (some (.int .i64 0)) (some (.int .i64 0))).run Tryd.prog W = .ok (.slice none 0 0) W := fun W => by
    rw [run_slice_lhm (ht := unClu) (h0 := by omega) (h1 := by omega) (h2 := by omega) (h3 := by omega), elemClu, szClu]
    simp [sliced, Result.andThen]
  go_enter Tryd.func49, Tryd.ntmps49
  go_wp2_with fail
  go_ret; exact ⟨rfl, rfl⟩

theorem cutPre_any (R : Int) (p : Option Addr) (n c t : Nat) (w : World) (hp : (p = none ∧ c = 0) ∨ ∃ g, p = some ⟨g, 0, none⟩) (h1 : t ≤ c) (h2 : t ≤ 1000) (hn : n ≤ c) :
    Calls Tryd.prog 49 #[.agg #[.int .i64 R, .slice p n c], .int .i64 0, .int .i64 (t : Nat)] w fun e w' => e = .returned (.slice p t t) ∧ Below w.heap.size w w' := by
  rcases hp with ⟨rfl, rfl⟩ | ⟨g, rfl⟩
  · obtain rfl : t = 0 := by omega
    obtain rfl : n = 0 := by omega
    exact (cut_nil R w).mono fun e w' h => ⟨h.1, by rw [h.2]; exact ba1 _ _⟩
  · refine (cut_any R g n c 0 t w (Nat.zero_le _) h1 h2).mono fun e w' h => ⟨?_, by rw [h.2]; exact ba1 _ _⟩
    rw [h.1]
    have e0 : (if t = 0 then 0 else 0 * 3) = 0 := by split <;> simp
    rw [e0]; rfl

theorem grow_nil (w : World) : Calls Tryd.prog 91 #[.slice none 0 0, .int .i64 0] w fun e w' => ∃ v, e = .returned v ∧ OwnG cluE w' w.heap.size v [] ∧ Below w.heap.size w w' := by
  go_enter Tryd.func91, Tryd.ntmps91
  go_wp2_with fail
  go_ret; exact ⟨_, rfl, OwnG.nil _ _, Below.refl _ _⟩

set_option maxRecDepth 100000 in
theorem grow_some (n : Nat) (w : World) (h0 : 0 < n) (h6 : n ≤ 6) : Calls Tryd.prog 91 #[.slice none 0 0, .int .i64 n] w fun e w' => ∃ v, e = .returned v ∧ OwnG cluE w' w.heap.size v [] ∧ Below w.heap.size w w' := by
  obtain ⟨i0, hi, hz0, hz1, hz2⟩ := info_parts cluE.info
  have hr := Lib.run_append_nil_zeros (P := Tryd.prog) w 29 3 29 44 i0 _ .i64 .i64 Tryd.underlying29 Tryd.underlying3 hi hz0 n h0 (by rw [hz1]; decide) (by omega) (by rw [hz2]; show n * 24 ≤ _; omega)
  obtain ⟨cap, hcap⟩ : ∃ cap, cap = grownCap w n 0 44 := ⟨_, rfl⟩
  have hcge : n ≤ cap := by rw [hcap]; exact grownCap_ge _ _ _ _
  have hcle : cap ≤ maxLen := by rw [hcap]; exact grownCap_le_maxLen _ _ _ _ (by unfold maxLen; omega)
  rw [← hcap] at hr
  have hcut := fun W => cutC_h W w.heap.size n cap 0 (Nat.zero_le _)
  have hown : Hid (∀ W, W = w.drew.alloc (.cells (Builtin.zeroCells cluE.z.cells n ++ Builtin.zeroCells cluE.z.cells (cap - n)) 44) → OwnG cluE W w.heap.size (.slice (some ⟨w.heap.size, 0, none⟩) 0 cap) [] ∧ Below w.heap.size w W) := Lib.hid fun W e => by
    subst e
    refine ⟨⟨by simp [Elt.flat], .inr ⟨_, cap, _, rfl, Nat.le_refl _, hb_new _ _, Nat.zero_le _, hcle, ?_, by simp [Elt.flat]⟩⟩, (Below.refl _ _).drew.alloc (Nat.le_refl _) _⟩
    rw [Array.size_append, size_zeroCells, size_zeroCells]
    show n * 3 + (cap - n) * 3 = cap * 3
    omega
  obtain ⟨W, hW⟩ : ∃ W, W = w.drew.alloc (.cells (Builtin.zeroCells cluE.z.cells n ++ Builtin.zeroCells cluE.z.cells (cap - n)) 44) := ⟨_, rfl⟩
  have hr := hr.trans (congrArg _ hW.symm)
  have hO := Lib.hid (hown.out W hW)
  clear hown hW hcap
  have h1 : ((n : Int) > 0) := by omega
  have e1 : IntKind.i64.wrap (n : Int) = (n : Int) := by rw [IntKind.wrap_i64]; omega
  go_enter Tryd.func91, Tryd.ntmps91
  go_wp2_with (at_builtin; refine Lib.wpList_append_run _ rfl _ _ _ _ rfl _ _ rfl rfl _ _ hr ?_)
  go_ret; exact ⟨_, rfl, hO.out.1, hO.out.2⟩

theorem grow_any (n : Nat) (w : World) (h6 : n ≤ 6) : Calls Tryd.prog 91 #[.slice none 0 0, .int .i64 n] w fun e w' => ∃ v, e = .returned v ∧ OwnG cluE w' w.heap.size v [] ∧ Below w.heap.size w w' := by
  cases n with
  | zero => exact grow_nil w
  | succ n => exact grow_some (n + 1) w (by omega) h6

set_option maxHeartbeats 1000000 in
theorem concat_any (gs g o0 o1 m0 m1 c0 c1 : Nat) (xs ys : List Clu) (w : World) (h0 : xs.length = m0) (h1 : ys.length = m1) (h6 : m0 + m1 ≤ 6)
    (s0 : w.cell? ⟨gs, 0, none⟩ = some (.slice (some ⟨g, o0, none⟩) m0 c0)) (s1 : w.cell? ⟨gs, 1, none⟩ = some (.slice (some ⟨g, o1, none⟩) m1 c1))
    (hX : Hid (∀ W, Below w.heap.size w W → ∀ i (hi : i < xs.length) o, o < cluE.n → W.cell? ⟨g, o0 + (i * cluE.n + o), none⟩ = (cluE.cells xs[i])[o]?))
    (hY : Hid (∀ W, Below w.heap.size w W → ∀ i (hi : i < ys.length) o, o < cluE.n → W.cell? ⟨g, o1 + (i * cluE.n + o), none⟩ = (cluE.cells ys[i])[o]?)) :
    Calls Tryd.prog 70 #[.slice (some ⟨gs, 0, none⟩) 2 2] w fun e w' => ∃ v, e = .returned v ∧ OwnG cluE w' w.heap.size v (xs ++ ys) ∧ Below w.heap.size w w' := by
  have hgs := block_lt s0
  have hS : Hid (∀ W, Below w.heap.size w W → W.cell? ⟨gs, 0, none⟩ = some (.slice (some ⟨g, o0, none⟩) m0 c0) ∧ W.cell? ⟨gs, 1, none⟩ = some (.slice (some ⟨g, o1, none⟩) m1 c1)) := Lib.hid fun W hb => ⟨(hb.cell (p := ⟨gs, 0, none⟩) hgs).trans s0, (hb.cell (p := ⟨gs, 1, none⟩) hgs).trans s1⟩
  have hG := Lib.hid fun w => grow_any (m0 + m1) w h6
  replace h0 := Lib.hid h0
  replace h1 := Lib.hid h1
  have e2 : ((m0 + m1 : Nat) : Int) = (m0 : Int) + (m1 : Int) := by omega
  rw [e2] at hG
  clear s0 s1
  go_enter Tryd.func70, Tryd.ntmps70
  go_wp2_with fail
  go_loopw [3, 11] (fun sz i wr => ∃ k : Nat, k ≤ 2 ∧ i = .int .i64 k ∧ sz = .int .i64 (if k = 0 then 0 else if k = 1 then (m0 : Int) else (m0 : Int) + (m1 : Int)) ∧ wr = w) (fun _ i _ => 2 - (intOf i).toNat)
  case atStart => exact ⟨0, Nat.zero_le _, rfl, rfl, rfl⟩
  case round =>
    obtain ⟨k, hk, rfl, rfl, rfl⟩ := hrel
    obtain ⟨s0, s1⟩ := hS.out _ (Below.refl _ _)
    rcases (show k = 0 ∨ k = 1 ∨ k = 2 by omega) with rfl | rfl | rfl
    · simp only [if_true]
      go_wp2_with fail
      go_roundw
      case rel => exact ⟨1, by omega, by go_num, by simp, trivial⟩
      all_goals (simp [intOf] <;> omega)
    · simp only [if_true, if_neg (show ¬ (1 = 0) by omega)]
      go_wp2_with fail
      go_roundw
      case rel => exact ⟨2, by omega, by go_num, by simp, trivial⟩
      all_goals (simp [intOf] <;> omega)
    · simp only [if_neg (show ¬ (2 = 0) by omega), if_neg (show ¬ (2 = 1) by omega)]
      go_wp2_with fail
      refine (hG.out _).mono ?_; rintro e w2 ⟨v, rfl, ho, hb⟩
      replace ho := Lib.hid ho
      replace hb := Lib.hid hb
      go_wp2_with fail
      clear s0 s1 hG e2
      obtain ⟨W0, rfl⟩ : ∃ x, x = wr := ⟨_, rfl⟩
      go_loopw [6, 27] (fun v i wx => ∃ k : Nat, k ≤ 2 ∧ i = .int .i64 k ∧ Hid (OwnG cluE wx W0.heap.size v (if k = 0 then [] else if k = 1 then xs else xs ++ ys)) ∧ Hid (Below W0.heap.size W0 wx)) (fun _ i _ => 2 - (intOf i).toNat)
      case atStart => exact ⟨0, Nat.zero_le _, rfl, ho, hb⟩
      case round =>
        obtain ⟨k, hk, rfl, ho2, hb2⟩ := hrel
        obtain ⟨s0, s1⟩ := hS.out _ hb2.out
        rcases (show k = 0 ∨ k = 1 ∨ k = 2 by omega) with rfl | rfl | rfl
        · have ho3 : Hid (OwnG cluE wr W0.heap.size u6 []) := ho2
          clear ho2 s1
          go_wp2_with (at_builtin; refine appN_G _ rfl _ _ 29 rfl Tryd.underlying29 W0.heap.size _ [] rfl ho3.out g o0 m0 c0 xs rfl h0.out (hX.out _ hb2.out) (by simp; omega) hb2.out.size ?_; intro v' w7 ho7 hg7 _; have hb7 := Lib.hid (bel_ownG hb2.out ho3.out hg7 hb2.out.size); rw [List.nil_append] at ho7; replace ho7 := Lib.hid ho7; clear hg7)
          go_roundw
          case rel => exact ⟨1, by omega, by go_num, ho7, hb7⟩
          all_goals (simp [intOf] <;> omega)
        · have ho3 : Hid (OwnG cluE wr W0.heap.size u6 xs) := ho2
          clear ho2 s0
          go_wp2_with (at_builtin; refine appN_G _ rfl _ _ 29 rfl Tryd.underlying29 W0.heap.size _ xs rfl ho3.out g o1 m1 c1 ys rfl h1.out (hY.out _ hb2.out) (by rw [h0.out]; omega) hb2.out.size ?_; intro v' w7 ho7 hg7 _; have hb7 := Lib.hid (bel_ownG hb2.out ho3.out hg7 hb2.out.size); replace ho7 := Lib.hid ho7; clear hg7)
          go_roundw
          case rel => exact ⟨2, by omega, by go_num, ho7, hb7⟩
          all_goals (simp [intOf] <;> omega)
        · have ho3 : Hid (OwnG cluE wr W0.heap.size u6 (xs ++ ys)) := ho2
          clear ho2 s0 s1
          go_wp2_with fail
          go_ret; exact ⟨_, rfl, ho3.out, hb2.out⟩

end Go.Proofs.YtmjeilimdnngpaaDoor
