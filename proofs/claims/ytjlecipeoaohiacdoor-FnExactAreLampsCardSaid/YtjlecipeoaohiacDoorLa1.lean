/- Lamps of a law and of the program: texts of one sign, what a region appends, lamps in memory, compared, marked, held. -/
import Derived.Test.YtjlecipeoaohiacDoorRepS
import Derived.Test.YtjlecipeoaohiacDoorS1
import Derived.Deep.RegionLaw
import Derived.Lib.SmallJoins
namespace Go.Proofs.YtjlecipeoaohiacDoor
open Go Go.RowKit RM
/-- a text of one sign, so many times -/
def rp (b : UInt8) (n : Nat) : ByteArray := ⟨(List.replicate n b).toArray⟩
theorem rp_size (b : UInt8) (n : Nat) : (rp b n).size = n := by
  show (List.replicate n b).toArray.size = n
  simp
theorem rp_snoc (b : UInt8) (n : Nat) : rp b n ++ ⟨#[b]⟩ = rp b (n + 1) := by
  apply ByteArray.ext
  apply Array.ext'
  simp [rp, List.replicate_succ']
theorem repL_one (b : UInt8) (n : Nat) : (⟨(Lib.repeatL (⟨#[b]⟩ : ByteArray).data.toList n).toArray⟩ : ByteArray) = rp b n := by
  have e : ∀ n, Lib.repeatL [b] n = List.replicate n b := fun n => by
    induction n with
    | zero => rfl
    | succ n ih => show [b] ++ Lib.repeatL [b] n = _; rw [ih]; rfl
  unfold rp
  rw [← e n]
/-- what 'append(out, y)' gives: an equation for a region -/
theorem app_runT (w : World) (B : Nat) (v : Value) (xs : List ByteArray) (y : ByteArray) (g : Nat) (hown : OwnT w B v xs) (hcell : w.cell? ⟨g, 0, none⟩ = some (.string y)) (hlen : xs.length ≤ 2000000) (hB : B ≤ w.heap.size) :
    ∃ g' c' w', (Builtin.append_ #[22, 22] 22 #[v, .slice (some ⟨g, 0, none⟩) 1 1]).run Tryd.prog w = .ok (.slice (some ⟨g', 0, none⟩) (xs.length + 1) c') w' ∧
      OwnT w' B (.slice (some ⟨g', 0, none⟩) (xs.length + 1) c') (xs ++ [y]) ∧ w.grownBy w' v.ownBlock := by
  obtain ⟨i0, hi, hz0, hz1, hz2⟩ := info_parts strInfo
  obtain ⟨v', w', hr, ho, hg, -⟩ := run_append_own (P := Tryd.prog) w B 22 22 9 i0 (.string ⟨#[]⟩) 1 16 Tryd.underlying22 hi hz0 hz1 hz2 rfl (by decide) v xs.length (vtxt xs) hown ⟨g, 0, none⟩ 1 1 [.string y] rfl (fun j u hj => by
    match j, hj with
    | 0, hj => simp at hj; subst hj; simpa [Addr.add] using hcell
    | j + 1, hj => simp at hj) (fun u hu => by simp at hu; subst hu; rfl) (by unfold maxLen; omega) (by omega) hB
  have ho2 : OwnT w' B v' (xs ++ [y]) := by
    unfold OwnT
    have e : vtxt (xs ++ [y]) = vtxt xs ++ [.string y] := by simp [vtxt]
    rw [e, List.length_append]; exact ho
  rcases ho2.form with ⟨_, e⟩ | ⟨g', c', rfl, _⟩
  · simp at e
  · have hl : (xs ++ [y]).length = xs.length + 1 := by simp
    rw [hl] at hr ho2
    exact ⟨g', c', w', hr, ho2, hg⟩
set_option maxRecDepth 100000 in
theorem fn_enter {f : FuncId} {fn : Func} {c : Code} (args : Array Value) (w : World) (hf : Tryd.prog.funcs[f]? = some fn) (hname : (fn.name == "runtime.NumGoroutine") = false) (hb : fn.body = some c) : (callFunc f args).run Tryd.prog w = .ok (.enter f args) w := by
  have h1 : fn.name ≠ "runtime.NumGoroutine" := by simpa using hname
  simp [callFunc, hf, h1, hb]
set_option maxRecDepth 100000 in
theorem step_call1 {ops : Array Oper} {o : Oper} {a : Act} {w : World} {K : Act → World → Prop} {Q : Exit → Act → World → Prop} {E : Prop}
    (hg : o.guard = none) (f : FuncId) (x : Operand) (ts : Array TypeId) (hop : o.op = Op.call { callee := Callee.value (Operand.func f), args := #[x], argTypes := ts })
    (fn : Func) (hf : Tryd.prog.funcs[f]? = some fn) (hname : ((fn.name == "runtime.NumGoroutine") || fn.body.isNone) = false)
    (v : Value) (hx : a.eval x = v) (R : Ending → World → Prop) (hc : Calls Tryd.prog f #[v] w R) (h : ∀ e w', R e w' → ∃ v, e = .returned v ∧ K (a.put o.dst v) w') :
    if Region.wanted o (yielded ops a.tmps) = true then Oper.wp Tryd.prog o a w K Q else E := by
  have hw : Region.wanted o (yielded ops a.tmps) = true := by simp [Region.wanted, hg]
  rw [if_pos hw]
  unfold Oper.wp execOp
  simp only [hop, resolve, invoke, Deferred.ofValue, Sem.run_bind, Sem.run_pure, Result.andThen_ok, List.map_toArray, List.map_cons, List.map_nil, hx]
  rw [Bool.or_eq_false_iff] at hname
  obtain ⟨c, hb⟩ : ∃ c, fn.body = some c := by
    cases h : fn.body with
    | none => rw [h] at hname; simp at hname
    | some c => exact ⟨c, rfl⟩
  show Oper.upon _ _ _ _ _ ((callFunc f (#[] ++ #[v] ++ #[])).run Tryd.prog w)
  rw [show (#[] ++ #[v] ++ #[] : Array Value) = #[v] from rfl, fn_enter #[v] w hf hname.1 hb, Oper.upon_enter]
  refine hc.mono ?_
  intro e w' hr
  obtain ⟨u, rfl, hk⟩ := h e w' hr
  exact hk
/-- 'append', by its equation -/
theorem step_appE {ops : Array Oper} {o : Oper} {a : Act} {w : World} {K : Act → World → Prop} {Q : Exit → Act → World → Prop} {E : Prop} {t ty : TypeId} {u v v' : Value} {w' : World}
    (hr : (Builtin.append_ #[t, t] ty #[u, v]).run Tryd.prog w = .ok v' w') (hg : o.guard = none) (s x : Operand) (hop : o.op = Op.call { callee := Callee.builtin Builtin.append, args := #[s, x], argTypes := #[t, t] })
    (hty : o.type = ty) (hs : a.eval s = u) (hx : a.eval x = v) (h : K (a.put o.dst v') w') :
    if Region.wanted o (yielded ops a.tmps) = true then Oper.wp Tryd.prog o a w K Q else E := by
  have hw : Region.wanted o (yielded ops a.tmps) = true := by simp [Region.wanted, hg]
  rw [if_pos hw]
  subst hty
  unfold Oper.wp execOp
  simp only [hop, resolve, invoke, builtin, Sem.run_bind, Sem.run_pure, Result.andThen_ok, List.map_toArray, List.map_cons, List.map_nil, hs, hx, hr]
  exact h
set_option maxRecDepth 100000 in
theorem step_call2 {ops : Array Oper} {o : Oper} {a : Act} {w : World} {K : Act → World → Prop} {Q : Exit → Act → World → Prop} {E : Prop}
    (hg : o.guard = none) (f : FuncId) (x y : Operand) (ts : Array TypeId) (hop : o.op = Op.call { callee := Callee.value (Operand.func f), args := #[x, y], argTypes := ts })
    (fn : Func) (hf : Tryd.prog.funcs[f]? = some fn) (hname : ((fn.name == "runtime.NumGoroutine") || fn.body.isNone) = false)
    (v u : Value) (hx : a.eval x = v) (hy : a.eval y = u) (R : Ending → World → Prop) (hc : Calls Tryd.prog f #[v, u] w R) (h : ∀ e w', R e w' → ∃ v, e = .returned v ∧ K (a.put o.dst v) w') :
    if Region.wanted o (yielded ops a.tmps) = true then Oper.wp Tryd.prog o a w K Q else E := by
  have hw : Region.wanted o (yielded ops a.tmps) = true := by simp [Region.wanted, hg]
  rw [if_pos hw]
  unfold Oper.wp execOp
  simp only [hop, resolve, invoke, Deferred.ofValue, Sem.run_bind, Sem.run_pure, Result.andThen_ok, List.map_toArray, List.map_cons, List.map_nil, hx, hy]
  rw [Bool.or_eq_false_iff] at hname
  obtain ⟨c, hb⟩ : ∃ c, fn.body = some c := by
    cases h : fn.body with
    | none => rw [h] at hname; simp at hname
    | some c => exact ⟨c, rfl⟩
  show Oper.upon _ _ _ _ _ ((callFunc f (#[] ++ #[v, u] ++ #[])).run Tryd.prog w)
  rw [show (#[] ++ #[v, u] ++ #[] : Array Value) = #[v, u] from rfl, fn_enter #[v, u] w hf hname.1 hb, Oper.upon_enter]
  refine hc.mono ?_
  intro e w' hr
  obtain ⟨u, rfl, hk⟩ := h e w' hr
  exact hk
theorem OwnT.sl {w : World} {B : Nat} {v : Value} {xs : List ByteArray} (h : OwnT w B v xs) : ∃ pv cv, v = .slice pv xs.length cv := by
  obtain ⟨p, c, e, _⟩ := (ownT_G h).rd
  exact ⟨p, c, e⟩
/-- the object that holds lamps -/
abbrev lampO (u : Value) : Obj := .cells #[u] 27
theorem OwnT.ne_lamp {w : World} {B g : Nat} {v u : Value} {xs : List ByteArray} (h : OwnT w B v xs) (hg : w.heap[g]? = some (lampO u)) : v.ownBlock ≠ some g := by
  rcases h.2 with ⟨rfl, _⟩ | ⟨g', cap, cur, rfl, _, hh, _⟩
  · intro e; cases e
  · intro e
    have e1 : g' = g := by simpa [Value.ownBlock] using e
    subst e1
    rw [hg] at hh
    cases hh
/-- the value v is lamps whose texts lie in memory of its own, from block B on -/
def OwnY (w : World) (B : Nat) (v : Value) (rs : List ByteArray) : Prop := ∃ u, v = .agg #[u] ∧ OwnT w B u rs
theorem OwnY.below {w w' : World} {B : Nat} {v : Value} {rs : List ByteArray} (h : OwnY w B v rs) (hb : Below w.heap.size w w') : OwnY w' B v rs := by
  obtain ⟨u, rfl, hu⟩ := h; exact ⟨u, rfl, hu.below hb⟩
theorem OwnY.mk {w : World} {B : Nat} {u : Value} {rs : List ByteArray} (h : OwnT w B u rs) : OwnY w B (.agg #[u]) rs := ⟨u, rfl, h⟩
/-- a call hands back lamps in memory of their own, and whether it succeeds -/
def RetY (w : World) (rs : List ByteArray) (ok : Bool) (e : Ending) (w' : World) : Prop := ∃ v, e = .returned (.tuple #[.agg #[v], .bool ok]) ∧ OwnT w' w.heap.size v rs ∧ Below w.heap.size w w'
theorem eqLamps_same (v v' : Value) (rs : List ByteArray) (A B : Nat) (w : World) (h : OwnY w A v rs) (h' : OwnY w B v' rs) :
    Calls Tryd.prog 15 #[v, v'] w fun e w' => e = .returned (.bool true) ∧ Below w.heap.size w w' := by
  obtain ⟨u, rfl, h1⟩ := h
  obtain ⟨u', rfl, h2⟩ := h'
  obtain ⟨w2, hw2⟩ : ∃ w2, Hid (w2 = (w.alloc (lampO u)).alloc (lampO u')) := ⟨_, Lib.hid rfl⟩
  have hb2 : Hid (Below w.heap.size w w2) := Lib.hid (by rw [hw2.out]; exact (ba1 w _).alloc (by simp) _)
  have HQ := Lib.hid (eqStringS_same u u' rs A B w2 (h1.below hb2.out) (h2.below hb2.out))
  clear h1 h2
  go_enter Tryd.func15, Tryd.ntmps15
  go_wp2_with fail
  rw [← hw2.out]
  refine HQ.out.mono ?_; rintro e w3 ⟨rfl, q, rfl⟩
  go_wp2_with fail
  go_ret; exact ⟨rfl, below_drewN hb2.out q⟩
theorem markLamps_any (u : Value) (rs : List ByteArray) (B : Nat) (w : World) (hn : rs.length ≤ 2000000) (h : OwnT w B u rs) :
    Calls Tryd.prog 19 #[.agg #[u], .int .i64 1] w fun e w' => e = .returned (.int .i64 (1 + (rs.length : Int))) ∧ OwnT w' B u (marksT rs.length) ∧ w.grownBy w' u.ownBlock := by
  have HM := Lib.hid (markStringS_any u rs B (w.alloc (lampO u)) hn (h.alloc _))
  clear h
  go_enter Tryd.func19, Tryd.ntmps19
  go_wp2_with fail
  refine HM.out.mono ?_; rintro e w3 ⟨rfl, ho, hg⟩
  go_wp2_with fail
  go_ret; exact ⟨rfl, ho, Lib.grownBy_trans (grown_any (ba1 w _) _) hg⟩
theorem heldLamps_any (u : Value) (n B : Nat) (w : World) (hn : n ≤ 2000000) (h : OwnT w B u (marksT n)) :
    Calls Tryd.prog 24 #[.agg #[u], .int .i64 1] w fun e w' => e = .returned (.int .i64 (1 + (n : Int))) ∧ Below w.heap.size w w' := by
  have HM := Lib.hid (heldStringS_any u n B (w.alloc (lampO u)) hn (h.alloc _))
  have hneg : ¬ 1 + (n : Int) < 0 := by omega
  clear h
  go_enter Tryd.func24, Tryd.ntmps24
  go_wp2_with fail
  refine HM.out.mono ?_; rintro e w3 ⟨rfl, hb⟩
  go_wp2_with fail
  go_ret; exact ⟨rfl, bt1 (ba1 w _) hb⟩
theorem ne_rows {u v : Value} {A B C D : Nat} (hu : ∀ k, u.ownBlock = some k → A ≤ k ∧ k < B) (hv : ∀ k, v.ownBlock = some k → C ≤ k ∧ k < D) (h : B ≤ C ∨ D ≤ A) : u.ownBlock = none ∨ u.ownBlock ≠ v.ownBlock := by
  cases e : u.ownBlock with
  | none => left; rfl
  | some a =>
    right
    intro e2
    have h1 := hu a e
    have h2 := hv a e2.symm
    omega
end Go.Proofs.YtjlecipeoaohiacDoor
