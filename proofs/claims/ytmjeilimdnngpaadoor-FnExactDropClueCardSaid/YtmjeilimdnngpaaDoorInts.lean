/- Slices of integers that a law makes, compares, marks and holds. -/
import Derived.Test.YtmjeilimdnngpaaDoorH
import Derived.Lib.BufferOwn
import Derived.Deep.RegionWith
--@file T:[]int
namespace Go.Proofs.YtmjeilimdnngpaaDoor
open Go Go.RowKit RM

abbrev vint (xs : List Int) : List Value := xs.map (Value.int .i64)
/-- the value v owns the integers xs, in memory from block B on -/
def OwnI (w : World) (B : Nat) (v : Value) (xs : List Int) : Prop := w.ownsRow B 3 1 v xs.length (vint xs)

theorem OwnI.form {w : World} {B : Nat} {v : Value} {xs : List Int} (h : OwnI w B v xs) :
    (v = .slice none 0 0 ∧ xs = []) ∨ ∃ g cap, v = .slice (some ⟨g, 0, none⟩) xs.length cap ∧ B ≤ g ∧ g < w.heap.size ∧ (∀ k (hk : k < xs.length), w.cell? ⟨g, k, none⟩ = some (.int .i64 xs[k])) ∧ (∀ k, w.frozen? ⟨g, k, none⟩ = false) ∧ xs.length ≤ maxLen := by
  have h0 : w.ownsRow B 3 1 v xs.length (vint xs) := h
  rcases h.2 with ⟨h1, h2⟩ | ⟨g, cap, cur, rfl, hg, hh, hn, hc, _, _⟩
  · left; exact ⟨h1, List.length_eq_zero_iff.1 h2⟩
  · right
    refine ⟨g, cap, rfl, hg, lt_of_block hh, fun k hk => ?_, fun k => h0.frozenAt k, Nat.le_trans hn hc⟩
    rw [h0.cellAt k (by omega)]
    simp [vint, List.getElem?_eq_getElem hk]

theorem eqIntS_diff (pa pb : Option Addr) (la lb ca cb : Nat) (w : World) (h : ((la : Int) != (lb : Int)) = true) :
    Calls Tryd.prog 15 #[.slice pa la ca, .slice pb lb cb] w fun e w' => e = .returned (.bool false) ∧ ∃ q, w' = w.drewN q := by
  go_enter Tryd.func15, Tryd.ntmps15
  go_wp2
  go_ret; exact ⟨rfl, 0, rfl⟩

theorem eqIntS_nil (pa pb : Option Addr) (ca cb : Nat) (w : World) :
    Calls Tryd.prog 15 #[.slice pa 0 ca, .slice pb 0 cb] w fun e w' => e = .returned (.bool true) ∧ ∃ q, w' = w.drewN q := by
  go_enter Tryd.func15, Tryd.ntmps15
  go_wp2
  go_loopw [5] (fun i wr => i = .int .i64 0 ∧ wr = w) (fun _ _ => 0)
  case atStart => exact ⟨rfl, rfl⟩
  case round =>
    obtain ⟨rfl, rfl⟩ := hrel
    go_wp2
    go_ret; exact ⟨rfl, 0, rfl⟩

theorem eqIntS_some (ga gb n ca cb : Nat) (xs ys : List Int) (w : World) (hn : n ≤ maxLen) (b : Bool) (hb : Hid (decide (xs = ys) = b)) (hx : Hid (xs.length = n)) (hy : Hid (ys.length = n))
    (ha : Hid (∀ k (hk : k < xs.length), w.cell? ⟨ga, k, none⟩ = some (.int .i64 xs[k]))) (hc : Hid (∀ k (hk : k < ys.length), w.cell? ⟨gb, k, none⟩ = some (.int .i64 ys[k]))) :
    Calls Tryd.prog 15 #[.slice (some ⟨ga, 0, none⟩) n ca, .slice (some ⟨gb, 0, none⟩) n cb] w fun e w' => e = .returned (.bool b) ∧ ∃ q, w' = w.drewN q := by
  unfold maxLen at hn
  go_enter Tryd.func15, Tryd.ntmps15
  go_wp2
  go_loopw [5] (fun i wr => ∃ k q : Nat, k ≤ n ∧ i = .int .i64 k ∧ wr = w.drewN q ∧ Hid (xs.take k = ys.take k)) (fun i _ => n - (intOf i).toNat)
  case atStart => exact ⟨0, 0, by omega, rfl, rfl, rfl⟩
  case round =>
    obtain ⟨k, q, hk, rfl, rfl, ht⟩ := hrel
    by_cases hlt : k < n
    · have h1 := ha.out k (by rw [hx.out]; exact hlt)
      have h2 := hc.out k (by rw [hy.out]; exact hlt)
      obtain ⟨x, hxe⟩ : ∃ x, x = xs[k]'(by rw [hx.out]; exact hlt) := ⟨_, rfl⟩
      obtain ⟨y, hye⟩ : ∃ y, y = ys[k]'(by rw [hy.out]; exact hlt) := ⟨_, rfl⟩
      rw [← hxe] at h1
      rw [← hye] at h2
      have HX := Lib.hid hxe
      have HY := Lib.hid hye
      clear hxe hye
      have htk : Hid ((xs.take (k+1) = ys.take (k+1)) ↔ x = y) := Lib.hid (by
        have hkx : k < xs.length := by rw [hx.out]; exact hlt
        have hky : k < ys.length := by rw [hy.out]; exact hlt
        rw [List.take_succ_eq_append_getElem hkx, List.take_succ_eq_append_getElem hky, ht.out, ← HX.out, ← HY.out]
        simp)
      by_cases hxy : x = y
      · subst hxy
        have hne : (x != x) = false := by simp
        go_wp2
        go_quiet (fail)
        go_wp2
        go_roundw
        case rel => exact ⟨k + 1, q + nq, by omega, by go_num, rfl, Lib.hid (by have := htk.out; simpa using this)⟩
        all_goals (simp [intOf] <;> omega)
      · have hne : (x != y) = true := by simp [hxy]
        have HF : Hid (b = false) := Lib.hid (by
          rw [← hb.out]; simp; intro e; subst e; exact hxy (htk.out.1 rfl))
        clear hxy
        go_wp2
        go_quiet (fail)
        go_wp2
        go_ret; exact ⟨ret_bool HF.out.symm, q + nq, drewN_drewN _ _ _⟩
    · have HF : Hid (b = true) := Lib.hid (by
        have := ht.out
        rw [List.take_of_length_le (by rw [hx.out]; omega), List.take_of_length_le (by rw [hy.out]; omega)] at this
        rw [← hb.out]; simp [this])
      go_wp2
      go_ret; exact ⟨ret_bool HF.out.symm, q, rfl⟩

theorem eqIntS_any (va vb : Value) (xs ys : List Int) (A B : Nat) (w : World) (ha : OwnI w A va xs) (hb : OwnI w B vb ys) :
    Calls Tryd.prog 15 #[va, vb] w fun e w' => e = .returned (.bool (decide (xs = ys))) ∧ ∃ q, w' = w.drewN q := by
  have sh : ∀ {C : Nat} {v : Value} {zs : List Int}, OwnI w C v zs → ∃ p c, v = .slice p zs.length c ∧ zs.length ≤ maxLen := by
    intro C v zs h
    rcases h.form with ⟨rfl, rfl⟩ | ⟨g, cap, rfl, _, _, _, _, hm⟩
    · exact ⟨none, 0, rfl, Nat.zero_le _⟩
    · exact ⟨_, cap, rfl, hm⟩
  by_cases hl : xs.length = ys.length
  · by_cases h0 : xs.length = 0
    · obtain ⟨p, c, rfl, -⟩ := sh ha
      obtain ⟨p', c', rfl, -⟩ := sh hb
      have e : decide (xs = ys) = true := by
        have a := List.length_eq_zero_iff.1 h0
        have b := List.length_eq_zero_iff.1 (hl ▸ h0)
        simp [a, b]
      rw [← hl, h0, e]
      exact eqIntS_nil _ _ _ _ _
    · rcases ha.form with ⟨rfl, rfl⟩ | ⟨g, cap, rfl, _, _, hc, _, hm⟩
      · exact absurd rfl h0
      · rcases hb.form with ⟨rfl, rfl⟩ | ⟨g', cap', rfl, _, _, hc', _, hm'⟩
        · exact absurd hl h0
        · rw [← hl]
          exact eqIntS_some g g' _ _ _ xs ys w hm _ (Lib.hid rfl) (Lib.hid rfl) (Lib.hid hl.symm) (Lib.hid hc) (Lib.hid hc')
  · obtain ⟨p, c, rfl, -⟩ := sh ha
    obtain ⟨p', c', rfl, -⟩ := sh hb
    have e : decide (xs = ys) = false := by simp; intro e; exact hl (by rw [e])
    rw [e]
    exact eqIntS_diff _ _ _ _ _ _ _ (by simp; omega)

theorem eqIntS_same (va vb : Value) (xs : List Int) (A B : Nat) (w : World) (ha : OwnI w A va xs) (hb : OwnI w B vb xs) :
    Calls Tryd.prog 15 #[va, vb] w fun e w' => e = .returned (.bool true) ∧ ∃ q, w' = w.drewN q := by
  have h := eqIntS_any va vb xs xs A B w ha hb
  have e : decide (xs = xs) = true := by simp
  rw [e] at h; exact h

/-- the marks 1, 2, .. -/
def marks (n : Nat) : List Int := (List.range n).map fun (i : Nat) => 1 + (i : Int)
theorem marks_len (n : Nat) : (marks n).length = n := by simp [marks]
theorem marks_get (n k : Nat) (h : k < (marks n).length) : (marks n)[k] = 1 + (k : Int) := by simp [marks]

theorem heldIntS_some (g n cap : Nat) (w : World) (hn : n ≤ 2000000) (hc : Hid (∀ k, k < n → w.cell? ⟨g, k, none⟩ = some (.int .i64 (1 + (k : Int))))) :
    Calls Tryd.prog 19 #[.slice (some ⟨g, 0, none⟩) n cap, .int .i64 1] w fun e w' => e = .returned (.int .i64 (1 + (n : Int))) ∧ w = w' := by
  go_enter Tryd.func19, Tryd.ntmps19
  go_wp2
  go_loop [1, 5] (fun m i => ∃ k : Nat, k ≤ n ∧ i = .int .i64 k ∧ m = .int .i64 (1 + (k : Int))) (fun _ i => n - (intOf i).toNat)
  case atStart => exact ⟨0, by omega, rfl, rfl⟩
  case round =>
    obtain ⟨k, hk, rfl, rfl⟩ := hrel
    by_cases hlt : k < n
    · have h1 := hc.out k hlt
      have hne : ((1 + (k : Int)) != (1 + (k : Int))) = false := by simp
      go_wp2
      go_round
      case rel => exact ⟨k + 1, by omega, by go_num, vi (by omega)⟩
      all_goals (simp [intOf] <;> omega)
    · obtain rfl : k = n := by omega
      go_wp2
      go_ret; exact ⟨rfl, rfl⟩

theorem heldIntS_nil (p : Option Addr) (cap : Nat) (w : World) :
    Calls Tryd.prog 19 #[.slice p 0 cap, .int .i64 1] w fun e w' => e = .returned (.int .i64 1) ∧ w = w' := by
  go_enter Tryd.func19, Tryd.ntmps19
  go_wp2
  go_loop [1, 5] (fun m i => i = .int .i64 0 ∧ m = .int .i64 1) (fun _ _ => 0)
  case atStart => exact ⟨rfl, rfl⟩
  case round =>
    obtain ⟨rfl, rfl⟩ := hrel
    go_wp2
    go_ret; exact ⟨rfl, rfl⟩

theorem heldIntS_any (v : Value) (n B : Nat) (w : World) (hn : n ≤ 2000000) (h : OwnI w B v (marks n)) :
    Calls Tryd.prog 19 #[v, .int .i64 1] w fun e w' => e = .returned (.int .i64 (1 + (n : Int))) ∧ w = w' := by
  rcases h.form with ⟨rfl, h0⟩ | ⟨g, cap, rfl, _, _, hc, _, _⟩
  · have : n = 0 := by rw [← marks_len n, h0]; rfl
    subst this; exact heldIntS_nil _ _ w
  · rw [marks_len]
    exact heldIntS_some g n cap w hn (Lib.hid fun k hk => by rw [hc k (by rw [marks_len]; exact hk), marks_get])

theorem markIntS_some (g n cap B : Nat) (xs : List Int) (w : World) (hx : xs.length = n) (hn : n ≤ 2000000) (hw : OwnI w B (.slice (some ⟨g, 0, none⟩) xs.length cap) xs) :
    Calls Tryd.prog 18 #[.slice (some ⟨g, 0, none⟩) n cap, .int .i64 1] w fun e w' => e = .returned (.int .i64 (1 + (n : Int))) ∧ OwnI w' B (.slice (some ⟨g, 0, none⟩) n cap) (marks n) ∧ w.grownBy w' (some g) := by
  have hw0 : Hid (OwnI w B (.slice (some ⟨g, 0, none⟩) xs.length cap) xs) := Lib.hid hw
  have hxx := Lib.hid hx
  clear hw hx
  go_enter Tryd.func18, Tryd.ntmps18
  go_wp2
  go_loopw [1, 5] (fun m i wr => ∃ k : Nat, k ≤ n ∧ i = .int .i64 k ∧ m = .int .i64 (1 + (k : Int)) ∧ Hid (OwnI wr B (.slice (some ⟨g, 0, none⟩) n cap) (marks k ++ xs.drop k)) ∧ Hid (w.grownBy wr (some g))) (fun _ i _ => n - (intOf i).toNat)
  case atStart => exact ⟨0, by omega, rfl, rfl, by have := hw0.out; rw [hxx.out] at this; exact this, World.grownBy.refl _ _⟩
  case round =>
    obtain ⟨k, hk, rfl, rfl, ho, hg⟩ := hrel
    by_cases hlt : k < n
    · have hlen : Hid ((marks k ++ xs.drop k).length = n) := Lib.hid (by rw [List.length_append, marks_len, List.length_drop, hxx.out]; omega)
      have ho' : wr.ownsRow B 3 1 (.slice (some ⟨g, 0, none⟩) n cap) n (vint (marks k ++ xs.drop k)) := by
        have := ho.out; unfold OwnI at this; rw [hlen.out] at this; exact this
      have h1r := ho'.cellAt k (by omega)
      have h2 := ho'.frozenAt k
      have hst := Lib.hid (ho'.stored k (.int .i64 (1 + (k : Int))))
      have hkl : k < (marks k ++ xs.drop k).length := by rw [hlen.out]; exact hlt
      have h1 : ∃ y : Int, wr.cell? ⟨g, k, none⟩ = some (.int .i64 y) := ⟨(marks k ++ xs.drop k)[k], h1r.trans (by unfold vint; rw [List.getElem?_map, List.getElem?_eq_getElem hkl]; rfl)⟩
      obtain ⟨y, h1⟩ := h1
      clear hkl h1r
      clear ho'
      go_wp2
      go_roundw
      case rel =>
        refine ⟨k + 1, by omega, by go_num, vi (by omega), ?_, ?_⟩
        · have hs := hst.out.1
          have hm : ∀ (i : Nat), i < n → True := fun _ _ => trivial
          have e : (vint (marks k ++ xs.drop k)).set k (.int .i64 (1 + (k : Int))) = vint (marks (k + 1) ++ xs.drop (k + 1)) := by
            unfold vint
            rw [← List.map_set]
            congr 1
            have hd : xs.drop k = xs[k]'(by rw [hxx.out]; exact hlt) :: xs.drop (k + 1) := List.drop_eq_getElem_cons _
            rw [hd, List.set_append_right _ _ (by rw [marks_len]; exact Nat.le_refl _), marks_len, Nat.sub_self, List.set_cons_zero]
            unfold marks
            rw [List.range_succ, List.map_append]
            simp
          have hl2 : (marks (k + 1) ++ xs.drop (k + 1)).length = n := by rw [List.length_append, marks_len, List.length_drop, hxx.out]; omega
          refine Lib.hid ?_
          unfold OwnI
          rw [hl2, ← e]; exact hs
        · exact Lib.hid (Lib.grownBy_trans hg.out hst.out.2)
      all_goals (simp [intOf] <;> omega)
    · obtain rfl : k = n := by omega
      go_wp2
      go_ret; exact ⟨rfl, by have := ho.out; rw [List.drop_of_length_le (by rw [hxx.out]; omega), List.append_nil] at this; exact this, hg.out⟩

theorem markIntS_nil (p : Option Addr) (cap : Nat) (w : World) :
    Calls Tryd.prog 18 #[.slice p 0 cap, .int .i64 1] w fun e w' => e = .returned (.int .i64 1) ∧ w = w' := by
  go_enter Tryd.func18, Tryd.ntmps18
  go_wp2
  go_loop [1, 5] (fun m i => i = .int .i64 0 ∧ m = .int .i64 1) (fun _ _ => 0)
  case atStart => exact ⟨rfl, rfl⟩
  case round =>
    obtain ⟨rfl, rfl⟩ := hrel
    go_wp2
    go_ret; exact ⟨rfl, rfl⟩

/-- what a mark does: the value owns the marks; all other blocks are as they were -/
theorem markIntS_any (v : Value) (xs : List Int) (B : Nat) (w : World) (hn : xs.length ≤ 2000000) (h : OwnI w B v xs) :
    Calls Tryd.prog 18 #[v, .int .i64 1] w fun e w' => e = .returned (.int .i64 (1 + (xs.length : Int))) ∧ OwnI w' B v (marks xs.length) ∧ w.grownBy w' v.ownBlock := by
  rcases h.form with ⟨rfl, h0⟩ | ⟨g, cap, rfl, _, _, hc, _, _⟩
  · subst h0
    exact (markIntS_nil none 0 w).mono fun e w' ⟨he, hw⟩ => ⟨he, by subst hw; exact h, by subst hw; exact World.grownBy.refl _ _⟩
  · exact markIntS_some g xs.length cap B xs w rfl hn h

theorem OwnI.lt {w : World} {B : Nat} {v : Value} {xs : List Int} (h : OwnI w B v xs) : ∀ k, v.ownBlock = some k → B ≤ k ∧ k < w.heap.size := World.ownsRow.lt h
theorem OwnI.kept {w w' : World} {B : Nat} {v : Value} {xs : List Int} {row : Option Nat} (h : OwnI w B v xs) (hg : w.grownBy w' row) (hne : v.ownBlock = none ∨ v.ownBlock ≠ row) : OwnI w' B v xs := World.ownsRow.kept h hg hne
theorem grown_of_below {w w' : World} (h : Below w.heap.size w w') : w.grownBy w' none := ⟨h.os, h.tape, h.output, h.size, fun k hk _ => h.block k hk⟩
theorem OwnI.below {w w' : World} {B : Nat} {v : Value} {xs : List Int} (h : OwnI w B v xs) (hb : Below w.heap.size w w') : OwnI w' B v xs := by
  refine h.kept (grown_of_below hb) ?_
  cases hv : v.ownBlock
  · left; rfl
  · right; simp
theorem OwnI.drewN {w : World} {B : Nat} {v : Value} {xs : List Int} (h : OwnI w B v xs) (q : Nat) : OwnI (w.drewN q) B v xs := h.below (below_drewN (Below.refl _ _) q)
theorem OwnI.mono {w : World} {B C : Nat} {v : Value} {xs : List Int} (h : OwnI w B v xs) (hc : C ≤ B) : OwnI w C v xs := by
  obtain ⟨a, b⟩ := h
  refine ⟨a, ?_⟩
  rcases b with b | ⟨g, cap, cur, h1, h2, h3⟩
  · exact .inl b
  · exact .inr ⟨g, cap, cur, h1, by omega, h3⟩
/-- another's row is kept by a mark: rows from different places differ -/
theorem own_ne {w : World} {B C : Nat} {v u : Value} {xs ys : List Int} (_ : OwnI w B v xs) (hv : ∀ k, v.ownBlock = some k → k < C) (k : OwnI w C u ys) : v.ownBlock = none ∨ v.ownBlock ≠ u.ownBlock := by
  cases e : v.ownBlock with
  | none => left; rfl
  | some a =>
    right
    intro e2
    have := (k.lt a e2.symm).1
    have := hv a e
    omega

theorem intInfo : (Tryd.prog.info? 3).map (fun i => (i.zero, i.size, i.bytes)) = some (some (.int .i64 0), 1, 8) := by kernel_rfl
theorem OwnI.alloc {w : World} {B : Nat} {v : Value} {xs : List Int} (h : OwnI w B v xs) (o : Obj) : OwnI (w.alloc o) B v xs := World.ownsRow.alloc h o
theorem OwnI.nil (w : World) (B : Nat) : OwnI w B (.slice none 0 0) [] := World.ownsRow_nil _ _ _ _
theorem OwnI.size {w : World} {B : Nat} {v : Value} {xs : List Int} (h : OwnI w B v xs) (n : Nat) (hn : xs.length = n) : w.ownsRow B 3 1 v n (vint xs) := by subst hn; exact h

/-- 'append(out, y)' onto a row of integers of the call's own -/
theorem app_int (w : World) {ops : Array Oper} {rest : List Oper} {o : Oper} {a : Act} {Q : Exit → Act → World → Prop} (hgd : o.guard = none) (s x : Operand)
    (ho : o.op = .call { callee := .builtin .append, args := #[s, x], argTypes := #[26, 26] })
    (B : Nat) (v : Value) (xs : List Int) (hs : a.eval s = v) (hown : OwnI w B v xs) (g : Nat) (y : Int) (hx : a.eval x = .slice (some ⟨g, 0, none⟩) 1 1)
    (hcell : w.cell? ⟨g, 0, none⟩ = some (.int .i64 y)) (hlen : xs.length ≤ 2000000) (hB : B ≤ w.heap.size)
    (h : ∀ v' w', OwnI w' B v' (xs ++ [y]) → w.grownBy w' v.ownBlock → wpList Tryd.prog ops Q rest (a.put o.dst v') w') : wpList Tryd.prog ops Q (o :: rest) a w := by
  obtain ⟨i0, hi, hz0, hz1, hz2⟩ := info_parts intInfo
  refine wpList_append_own w hgd s x 26 ho B 3 i0 (.int .i64 0) 1 8 Tryd.underlying26 hi hz0 hz1 hz2 rfl (by decide) v xs.length (vint xs) hs hown ⟨g, 0, none⟩ 1 1 [.int .i64 y] hx rfl ?_ ?_ (by unfold maxLen; omega) (by omega) hB ?_
  · intro j u hj
    match j, hj with
    | 0, hj => simp at hj; subst hj; simpa [Addr.add] using hcell
    | j + 1, hj => simp at hj
  · intro u hu; simp at hu; subst hu; rfl
  · intro v' w' h1 h2 _
    refine h v' w' ?_ h2
    unfold OwnI
    have e : vint (xs ++ [y]) = vint xs ++ [.int .i64 y] := by simp [vint]
    rw [e, List.length_append]; exact h1
theorem bel_own {B : Nat} {a w w' : World} {v : Value} {xs : List Int} (h : Below B a w) (ho : OwnI w B v xs) (hg : w.grownBy w' v.ownBlock) (hB : B ≤ w.heap.size) : Below B a w' := h.grown hg hB fun k e => (ho.lt k e).1

/-- a call hands back integers in memory of its own, and whether it succeeds -/
def RetI (w : World) (xs : List Int) (ok : Bool) (e : Ending) (w' : World) : Prop := ∃ v, e = .returned (.tuple #[v, .bool ok]) ∧ OwnI w' w.heap.size v xs ∧ Below w.heap.size w w'

/-- 'make([]int, n)' -/
theorem make_int (w : World) {ops : Array Oper} {rest : List Oper} {o : Oper} {a : Act} {Q : Exit → Act → World → Prop} (hgd : o.guard = none) (l c : Operand) (hop : o.op = Op.makeSlice 26 l c)
    (kl kc : IntKind) (n : Nat) (hl : a.eval l = .int kl n) (hc : a.eval c = .int kc n) (hn : n ≤ 2000000)
    (hK : ∀ w', OwnI w' w.heap.size (.slice (some ⟨w.heap.size, 0, none⟩) n n) (List.replicate n 0) → Below w.heap.size w w' → wpList Tryd.prog ops Q rest (a.put o.dst (.slice (some ⟨w.heap.size, 0, none⟩) n n)) w') : wpList Tryd.prog ops Q (o :: rest) a w := by
  obtain ⟨i0, hi, hz0, hz1, hz2⟩ := info_parts intInfo
  refine wpList_make_full w hgd l c 26 hop w.heap.size 3 i0 (.int .i64 0) 1 Tryd.underlying26 hi hz0 hz1 kl kc n n n hl hc rfl rfl (by rw [hz2]; omega) (by unfold maxLen; omega) (Nat.le_refl _) ?_
  intro w' h1 h2
  refine hK w' ?_ ((Below.refl _ _).grown h2 (Nat.le_refl _) (fun k e => by cases e))
  unfold OwnI
  have e : vint (List.replicate n 0) = (madeCells (Value.int .i64 0).cells (n * 1)).toList := by
    rw [Nat.mul_one]
    show _ = (madeCells #[.int .i64 0] n).toList
    rw [toList_madeCells_one]; simp [vint]
  rw [e, List.length_replicate]; exact h1
/-- a store into such a row -/
theorem OwnI.stored {w : World} {B g n cap : Nat} {xs : List Int} (h : OwnI w B (.slice (some ⟨g, 0, none⟩) n cap) xs) (hn : xs.length = n) (k : Nat) (y : Int) :
    OwnI (w.setCell ⟨g, k, none⟩ (.int .i64 y)) B (.slice (some ⟨g, 0, none⟩) n cap) (xs.set k y) ∧ w.grownBy (w.setCell ⟨g, k, none⟩ (.int .i64 y)) (some g) := by
  have h' : w.ownsRow B 3 1 (.slice (some ⟨g, 0, none⟩) n cap) n (vint xs) := h.size n hn
  obtain ⟨a, b⟩ := h'.stored k (.int .i64 y)
  refine ⟨?_, b⟩
  unfold OwnI
  have e : vint (xs.set k y) = (vint xs).set k (.int .i64 y) := by simp [vint, List.map_set]
  rw [e, List.length_set, hn]; exact a
theorem OwnI.cell {w : World} {B g n cap : Nat} {xs : List Int} (h : OwnI w B (.slice (some ⟨g, 0, none⟩) n cap) xs) (hn : xs.length = n) (k : Nat) (hk : k < xs.length) :
    w.cell? ⟨g, k, none⟩ = some (.int .i64 xs[k]) ∧ w.frozen? ⟨g, k, none⟩ = false := by
  have h' : w.ownsRow B 3 1 (.slice (some ⟨g, 0, none⟩) n cap) n (vint xs) := h.size n hn
  refine ⟨?_, h'.frozenAt k⟩
  rw [h'.cellAt k (by omega)]
  simp [vint, List.getElem?_eq_getElem hk]
end Go.Proofs.YtmjeilimdnngpaaDoor
