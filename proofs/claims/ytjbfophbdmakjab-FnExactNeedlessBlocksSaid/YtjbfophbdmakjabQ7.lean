/- A step of a region that draws: a call by its contract, 'append' onto a row of the call's own; 'l1Own'. -/
import Derived.Test.YtjbfophbdmakjabInts
import Derived.Laws.AppendOwnNone
import Derived.Deep.RegionLaw
namespace Go.Proofs.Ytjbfophbdmakjab
open Go Go.RowKit RM

theorem own_enter (v : Value) (w : World) : (callFunc 75 #[v]).run Try.prog w = .ok (.enter 75 #[v]) w := by
  have gen : ∀ (fn : Func) (c : Code) (_ : Try.prog.funcs[75]? = some fn) (_ : (fn.name == "runtime.NumGoroutine") = false) (_ : fn.body = some c), (callFunc 75 #[v]).run Try.prog w = .ok (.enter 75 #[v]) w := by
    intro fn c hf hname hb
    have h1 : fn.name ≠ "runtime.NumGoroutine" := by simpa using hname
    simp [callFunc, hf, h1, hb]
  exact gen _ _ Try.func75 (by kernel_rfl) rfl
theorem step_own {ops : Array Oper} {o : Oper} {a : Act} {w : World} {K : Act → World → Prop} {Q : Exit → Act → World → Prop} {E : Prop}
    (hg : o.guard = none) (x : Operand) (hop : o.op = Op.call { callee := Callee.value (Operand.func 75), args := #[x], argTypes := #[22] })
    (v : Value) (hx : a.eval x = v) (R : Ending → World → Prop) (hc : Calls Try.prog 75 #[v] w R) (h : ∀ e w', R e w' → ∃ v, e = .returned v ∧ K (a.put o.dst v) w') :
    if Region.wanted o (yielded ops a.tmps) = true then Oper.wp Try.prog o a w K Q else E := by
  have hw : Region.wanted o (yielded ops a.tmps) = true := by simp [Region.wanted, hg]
  rw [if_pos hw]
  unfold Oper.wp execOp
  simp only [hop, resolve, invoke, Deferred.ofValue, Sem.run_bind, Sem.run_pure, Result.andThen_ok, List.map_toArray, List.map_cons, List.map_nil, hx]
  show Oper.upon _ _ _ _ _ ((callFunc 75 (#[] ++ #[v] ++ #[])).run Try.prog w)
  rw [show (#[] ++ #[v] ++ #[] : Array Value) = #[v] from rfl, own_enter, Oper.upon_enter]
  refine hc.mono ?_
  intro e w' hr
  obtain ⟨u, rfl, hk⟩ := h e w' hr
  exact hk

theorem step_app {ops : Array Oper} {o : Oper} {a : Act} {w : World} {K : Act → World → Prop} {Q : Exit → Act → World → Prop} {E : Prop}
    (hg : o.guard = none) (s x : Operand) (hop : o.op = Op.call { callee := Callee.builtin Builtin.append, args := #[s, x], argTypes := #[22, 22] })
    (B : Nat) (v : Value) (xs : List Int) (hs : a.eval s = v) (hown : OwnI w B v xs) (ad : Addr) (m c : Nat) (ys : List Int) (hx : a.eval x = .slice (some ad) m c) (hm : ys.length = m)
    (hcell : ∀ j (h : j < ys.length), w.cell? (ad.add j) = some (.int .i64 ys[j])) (hlen : xs.length + m ≤ 2000000) (hB : B ≤ w.heap.size)
    (h : ∀ v' w', OwnI w' B v' (xs ++ ys) → w.grownBy w' v.ownBlock → K (a.put o.dst v') w') :
    if Region.wanted o (yielded ops a.tmps) = true then Oper.wp Try.prog o a w K Q else E := by
  have hw : Region.wanted o (yielded ops a.tmps) = true := by simp [Region.wanted, hg]
  rw [if_pos hw]
  subst hm
  obtain ⟨i0, hi, hz0, hz1, hz2⟩ := info_parts intInfo
  refine wp_append_own w s x 22 hop B 3 i0 (.int .i64 0) 1 8 Try.underlying22 hi hz0 hz1 hz2 rfl (by decide) v xs.length (vint xs) hs hown ad ys.length c (vint ys) hx (by simp [vint]) ?_ ?_ (by unfold maxLen; omega) (by omega) hB ?_
  · intro j u hj
    simp only [vint, List.getElem?_map, Option.map_eq_some_iff] at hj
    obtain ⟨y, hy, rfl⟩ := hj
    obtain ⟨hj1, rfl⟩ := List.getElem?_eq_some_iff.1 hy
    exact hcell j hj1
  · intro u hu
    simp only [vint, List.mem_map] at hu
    obtain ⟨y, _, rfl⟩ := hu; rfl
  · intro v' w' h1 h2 _
    refine h v' w' ?_ h2
    unfold OwnI
    have e : vint (xs ++ ys) = vint xs ++ vint ys := by simp [vint]
    rw [e, List.length_append]; exact h1

theorem step_app0 {ops : Array Oper} {o : Oper} {a : Act} {w : World} {K : Act → World → Prop} {Q : Exit → Act → World → Prop} {E : Prop}
    (hg : o.guard = none) (s x : Operand) (hop : o.op = Op.call { callee := Callee.builtin Builtin.append, args := #[s, x], argTypes := #[22, 22] })
    (B : Nat) (v : Value) (xs : List Int) (hs : a.eval s = v) (hown : OwnI w B v xs) (hx : a.eval x = .slice none 0 0)
    (h : K (a.put o.dst v) w) :
    if Region.wanted o (yielded ops a.tmps) = true then Oper.wp Try.prog o a w K Q else E := by
  have hw : Region.wanted o (yielded ops a.tmps) = true := by simp [Region.wanted, hg]
  rw [if_pos hw]
  obtain ⟨i0, hi, hz0, hz1, hz2⟩ := info_parts intInfo
  have hrun := run_append_owned_none (P := Try.prog) (w := w) B 22 o.type 3 i0 1 Try.underlying22 hi v xs.length (vint xs) hown
  unfold Oper.wp
  simp [execOp, hop, resolve, invoke, builtin, hs, hx, hrun, Result.andThen]
  exact h

theorem own_nil (w : World) :
    Calls Try.prog 75 #[.slice none 0 0] w fun e w' => ∃ v, e = .returned v ∧ OwnI w' w.heap.size v [] ∧ Below w.heap.size w w' := by
  obtain ⟨i0, hi, hz0, hz1, hz2⟩ := info_parts intInfo
  have hown : OwnI (w.alloc (.cells #[] 3)) w.heap.size (.slice (some ⟨w.heap.size, 0, none⟩) 0 0) [] :=
    ⟨rfl, .inr ⟨w.heap.size, 0, #[], rfl, Nat.le_refl _, by show (w.heap.push _)[w.heap.size]? = _; exact Array.getElem?_push_size, Nat.le_refl _, Nat.zero_le _, rfl, rfl⟩⟩
  go_enter Try.func75, Try.ntmps75
  go_wp2_with (at_builtin; refine wpList_append_own_none rfl _ _ 22 rfl w.heap.size 3 i0 1 Try.underlying22 hi _ _ _ rfl hown rfl ?_)
  go_ret; exact ⟨_, rfl, hown, (Below.refl _ _).alloc (Nat.le_refl _) _⟩

theorem own_some (xs : List Int) (b cap n : Nat) (w : World) (hn : n ≤ 1000) (hx : Hid (xs.length = n)) (hb : b < w.heap.size)
    (hc : Hid (∀ i (h : i < xs.length), w.cell? ⟨b, i, none⟩ = some (.int .i64 xs[i]))) :
    Calls Try.prog 75 #[.slice (some ⟨b, 0, none⟩) n cap] w fun e w' => ∃ v, e = .returned v ∧ OwnI w' w.heap.size v xs ∧ Below w.heap.size w w' := by
  obtain ⟨i0, hi, hz0, hz1, hz2⟩ := info_parts intInfo
  have hown : OwnI (w.alloc (.cells #[] 3)) w.heap.size (.slice (some ⟨w.heap.size, 0, none⟩) 0 0) [] :=
    ⟨rfl, .inr ⟨w.heap.size, 0, #[], rfl, Nat.le_refl _, by show (w.heap.push _)[w.heap.size]? = _; exact Array.getElem?_push_size, Nat.le_refl _, Nat.zero_le _, rfl, rfl⟩⟩
  have hcc : ∀ j u, (vint xs)[j]? = some u → (w.alloc (.cells #[] 3)).cell? ((⟨b, 0, none⟩ : Addr).add j) = some u := by
    intro j u hj
    simp only [vint, List.getElem?_map, Option.map_eq_some_iff] at hj
    obtain ⟨y, hy, rfl⟩ := hj
    obtain ⟨hj1, rfl⟩ := List.getElem?_eq_some_iff.1 hy
    have e : ((⟨b, 0, none⟩ : Addr).add j) = ⟨b, j, none⟩ := by unfold Addr.add; split <;> simp_all
    rw [e, ((Below.refl w.heap.size w).alloc (Nat.le_refl _) _).cell (p := ⟨b, j, none⟩) hb]
    exact hc.out j hj1
  have h1v : ∀ u ∈ vint xs, u.oneCell' = true := by
    intro u hu
    simp only [vint, List.mem_map] at hu
    obtain ⟨y, _, rfl⟩ := hu; rfl
  have hlen : (vint xs).length = n * 1 := by simp [vint, hx.out]
  go_enter Try.func75, Try.ntmps75
  go_wp2_with (at_builtin; refine wpList_append_own _ rfl _ _ 22 rfl w.heap.size 3 i0 (.int .i64 0) 1 8 Try.underlying22 hi hz0 hz1 hz2 rfl (by decide) _ 0 [] rfl hown ⟨b, 0, none⟩ n cap (vint xs) rfl hlen hcc h1v (by unfold maxLen; omega) (by omega) (by simp) ?_; intro v' w' h1 h2 _)
  have h1 := Lib.hid h1
  have h2 := Lib.hid h2
  go_ret
  refine ⟨_, rfl, ?_, ?_⟩
  · have := h1.out
    rw [Nat.zero_add, List.nil_append] at this
    unfold OwnI; rw [hx.out]; exact this
  · exact bel_own ((Below.refl _ _).alloc (Nat.le_refl _) _) hown h2.out (by simp)
end Go.Proofs.Ytjbfophbdmakjab
