/- Puzzles without one clue, by the program. -/
import Derived.Test.YtmjeilimdnngpaaDoorPzO2
namespace Go.Proofs.YtmjeilimdnngpaaDoor
open Go Go.RowKit RM
set_option maxRecDepth 100000 in
theorem step_call1Z {ops : Array Oper} {o : Oper} {a : Act} {w : World} {K : Act → World → Prop} {Q : Exit → Act → World → Prop} {E : Prop}
    (hg : o.guard = none) (f : FuncId) (x : Operand) (ts : Array TypeId) (hop : o.op = Op.call { callee := Callee.value (Operand.func f), args := #[x], argTypes := ts })
    (fn : Func) (hf : Tryd.prog.funcs[f]? = some fn) (hname : ((fn.name == "runtime.NumGoroutine") || fn.body.isNone) = false)
    (v : Value) (hx : a.eval x = v) (R : Ending → World → Prop) (hc : Calls Tryd.prog f #[v] w R) (h : ∀ e w', R e w' → ∃ v, e = .returned v ∧ K (a.put o.dst v) w') :
    if Region.wanted o (yielded ops a.tmps) = true then Oper.wp Tryd.prog o a w K Q else E := by
  have hw : Region.wanted o (yielded ops a.tmps) = true := by simp [Region.wanted, hg]
  rw [if_pos hw]
  unfold Oper.wp execOp
  simp only [hop, resolve, invoke, Deferred.ofValue, Sem.run_bind, Sem.run_pure, Result.andThen_ok, List.map_toArray, List.map_cons, List.map_nil, hx]
  rw [Bool.or_eq_false_iff] at hname
  obtain ⟨c, hb⟩ : ∃ c, fn.body = some c := by
    cases h : fn.body with
    | none => rw [h] at hname; simp at hname
    | some c => exact ⟨c, rfl⟩
  show Oper.upon _ _ _ _ _ ((callFunc f (#[] ++ #[v] ++ #[])).run Tryd.prog w)
  rw [show (#[] ++ #[v] ++ #[] : Array Value) = #[v] from rfl, fn_enterZ #[v] w hf hname.1 hb, Oper.upon_enter]
  refine hc.mono ?_
  intro e w' hr
  obtain ⟨u, rfl, hk⟩ := h e w' hr
  exact hk
set_option maxRecDepth 100000 in
theorem step_call3Z {ops : Array Oper} {o : Oper} {a : Act} {w : World} {K : Act → World → Prop} {Q : Exit → Act → World → Prop} {E : Prop}
    (hg : o.guard = none) (f : FuncId) (x y z : Operand) (ts : Array TypeId) (hop : o.op = Op.call { callee := Callee.value (Operand.func f), args := #[x, y, z], argTypes := ts })
    (fn : Func) (hf : Tryd.prog.funcs[f]? = some fn) (hname : ((fn.name == "runtime.NumGoroutine") || fn.body.isNone) = false)
    (v u t : Value) (hx : a.eval x = v) (hy : a.eval y = u) (hz : a.eval z = t) (R : Ending → World → Prop) (hc : Calls Tryd.prog f #[v, u, t] w R) (h : ∀ e w', R e w' → ∃ v, e = .returned v ∧ K (a.put o.dst v) w') :
    if Region.wanted o (yielded ops a.tmps) = true then Oper.wp Tryd.prog o a w K Q else E := by
  have hw : Region.wanted o (yielded ops a.tmps) = true := by simp [Region.wanted, hg]
  rw [if_pos hw]
  unfold Oper.wp execOp
  simp only [hop, resolve, invoke, Deferred.ofValue, Sem.run_bind, Sem.run_pure, Result.andThen_ok, List.map_toArray, List.map_cons, List.map_nil, hx, hy, hz]
  rw [Bool.or_eq_false_iff] at hname
  obtain ⟨c, hb⟩ : ∃ c, fn.body = some c := by
    cases h : fn.body with
    | none => rw [h] at hname; simp at hname
    | some c => exact ⟨c, rfl⟩
  show Oper.upon _ _ _ _ _ ((callFunc f (#[] ++ #[v, u, t] ++ #[])).run Tryd.prog w)
  rw [show (#[] ++ #[v, u, t] ++ #[] : Array Value) = #[v, u, t] from rfl, fn_enterZ #[v, u, t] w hf hname.1 hb, Oper.upon_enter]
  refine hc.mono ?_
  intro e w' hr
  obtain ⟨u, rfl, hk⟩ := h e w' hr
  exact hk
set_option maxRecDepth 100000 in
set_option maxHeartbeats 20000000 in
theorem without_any (R : Int) (p : Option Addr) (n c k : Nat) (cs : List Clu) (w : World) (hn : cs.length = n) (hk : k < n) (hc : n ≤ c) (hl : n ≤ 6) (hr : RG cluE w p cs) :
    Calls Tryd.prog 43 #[.agg #[.int .i64 R, .slice p n c], .int .i64 k] w fun e w' => ∃ v, e = .returned (.agg #[.int .i64 R, v]) ∧ OwnG cluE w' w.heap.size v (lessC cs k) ∧ Below w.heap.size w w' := by
  have h0 : cs ≠ [] := fun e => by rw [e] at hn; simp at hn; omega
  obtain ⟨g, rfl, hgl, -⟩ := hr h0
  have hT := Lib.hid fun w' (hb : Below w.heap.size w w') => clu_take (k := k) hr h0 hb
  have hD := Lib.hid fun w' (hb : Below w.heap.size w w') => clu_drop (k := k + 1) (off := if n = k + 1 then 0 else (k + 1) * 3) hr h0 hb (by by_cases e : n = k + 1; (right; omega); (left; rw [if_neg e]))
  have hC1 := Lib.hid fun w => cut_any R g n c 0 k w (Nat.zero_le _) (by omega) (by omega)
  have hC2 := Lib.hid fun w => cut_any R g n c (k + 1) n w (by omega) (by omega) (by omega)
  rw [show (if k = 0 then 0 else 0 * 3) = 0 by split <;> simp] at hC1
  have hlt : Hid ((cs.take k).length = k) := Lib.hid (by rw [List.length_take]; omega)
  have hld : Hid ((cs.drop (k + 1)).length = n - (k + 1)) := Lib.hid (by rw [List.length_drop, hn])
  have hle := Lib.hid (show lessC cs k = cs.take k ++ cs.drop (k + 1) from rfl)
  rw [hle.out]
  have e1 : IntKind.i64.wrap ((k : Int) + 1) = (k : Int) + 1 := by rw [IntKind.wrap_i64]; omega
  have e2 : ((k + 1 : Nat) : Int) = (k : Int) + 1 := by omega
  have hC1 : Hid (∀ w, Calls Tryd.prog 49 #[.agg #[.int .i64 R, .slice (some ⟨g, 0, none⟩) n c], .int .i64 0, .int .i64 k] w fun e w' => e = .returned (.slice (some ⟨g, 0, none⟩) k k) ∧ w' = w.alloc (puzO R (.slice (some ⟨g, 0, none⟩) n c))) := hC1
  rw [e2] at hC2
  clear hr hn h0 hle e2
  generalize (if n = k + 1 then 0 else (k + 1) * 3) = off at *
  generalize cs.take k = xs at *
  generalize cs.drop (k + 1) = ys at *
  obtain ⟨w2, hw2⟩ : ∃ w2, Hid (w2 = (w.alloc (puzO R (.slice (some ⟨g, 0, none⟩) n c))).alloc (puzO 0 (.slice none 0 0))) := ⟨_, Lib.hid rfl⟩
  have hb2 : Hid (Below w.heap.size w w2) := Lib.hid (by rw [hw2.out]; exact (ba1 w _).alloc (by simp) _)
  have P2 := Lib.hid (show w2.heap[w.heap.size]? = some (puzO R (.slice (some ⟨g, 0, none⟩) n c)) by rw [hw2.out]; exact hb_old _ (hb_new _ _))
  have Q2 := Lib.hid (show w2.heap[w.heap.size + 1]? = some (puzO 0 (.slice none 0 0)) by rw [hw2.out]; exact hb_new' _ _ _ (by simp))
  have hl2 : w.heap.size + 1 < w2.heap.size := hb_lt Q2.out
  have kc : Hid (∀ W, Below w2.heap.size w2 W → W.cell? ⟨w.heap.size, 0, none⟩ = some (.int .i64 R) ∧ W.cell? ⟨w.heap.size, 1, none⟩ = some (.slice (some ⟨g, 0, none⟩) n c)) := Lib.hid fun W hb => ⟨hb_cell (hb_below hb (by omega) P2.out) 0, hb_cell (hb_below hb (by omega) P2.out) 1⟩
  have kq : Hid (∀ W, Below w2.heap.size w2 W → W.cell? ⟨w.heap.size + 1, 0, none⟩ = some (.int .i64 0) ∧ W.cell? ⟨w.heap.size + 1, 1, none⟩ = some (.slice none 0 0) ∧ (∀ j, W.frozen? ⟨w.heap.size + 1, j, none⟩ = false) ∧ w.heap.size + 1 < W.heap.size) := Lib.hid fun W hb =>
    have Q7 := hb_below hb hl2 Q2.out
    ⟨hb_cell Q7 0, hb_cell Q7 1, hb_frozen Q7, hb_lt Q7⟩
  have dB := Lib.hid (show Below w2.heap.size w2 w2.drew from (Below.refl _ _).drew)
  have d1 := (kc.out _ dB.out).1
  have d2 := (kc.out _ dB.out).2
  replace hC1 : Hid (∀ w, Calls Tryd.prog 49 #[.agg #[.int .i64 R, .slice (some ⟨g, 0, none⟩) n c], .int .i64 0, .int .i64 k] w fun e w' => e = .returned (.slice (some ⟨g, 0, none⟩) k k) ∧ Below w.heap.size w w') := Lib.hid fun w => (hC1.out w).mono fun e w' h => ⟨h.1, by rw [h.2]; exact ba1 _ _⟩
  replace hC2 : Hid (∀ w, Calls Tryd.prog 49 #[.agg #[.int .i64 R, .slice (some ⟨g, 0, none⟩) n c], .int .i64 ((k : Int) + 1), .int .i64 n] w fun e w' => e = .returned (.slice (some ⟨g, off, none⟩) (n - (k + 1)) (n - (k + 1))) ∧ Below w.heap.size w w') := Lib.hid fun w => (hC2.out w).mono fun e w' h => ⟨h.1, by rw [h.2]; exact ba1 _ _⟩
  have hK := Lib.hid fun (W : World) (t : TypeId) (hb : Below w2.heap.size w2 W) =>
    have hb8 : Below w2.heap.size w2 (W.alloc (.cells #[.slice (some ⟨g, 0, none⟩) k k, .slice (some ⟨g, off, none⟩) (n - (k + 1)) (n - (k + 1))] t)) := hb.alloc hb.size _
    concat_any W.heap.size g 0 off k (n - (k + 1)) k (n - (k + 1)) xs ys (W.alloc (.cells #[.slice (some ⟨g, 0, none⟩) k k, .slice (some ⟨g, off, none⟩) (n - (k + 1)) (n - (k + 1))] t)) hlt.out hld.out (by omega) (hb_cell (hb_new _ _) 0) (hb_cell (hb_new _ _) 1) (Lib.hid fun W' hb' => hT.out W' (hb2.out.trans ((hb8.trans (hb'.mono hb8.size)).mono hb2.out.size))) (Lib.hid fun W' hb' => hD.out W' (hb2.out.trans ((hb8.trans (hb'.mono hb8.size)).mono hb2.out.size)))
  go_enter Tryd.func43, Tryd.ntmps43
  go_wp2_with fail
  rw [← hw2.out]
  go_region_law (first
    | (have h7 := hBb; clear h7; refine step_call1Z rfl 70 (.tmp 17) _ (by with_reducible rfl) _ Tryd.func70 (by kernel_rfl) _ (by simp [Act.eval, Act.put]) _ (hK.out w6 _ hBb) ?_; rintro e w7 ⟨v, rfl, ho7, hb7⟩; obtain ⟨pv, lv, cv, rfl⟩ : ∃ p l c, v = .slice p l c := (by obtain ⟨p, c, e⟩ := ho7.sl; exact ⟨p, _, c, e⟩); refine ⟨_, rfl, ?_⟩; have hB7 : Below w2.heap.size w2 w7 := (hBb.alloc hBb.size _).trans (hb7.mono (by simp; have := hBb.size; omega)); have hO7 := Lib.hid (ho7.mono (C := w2.heap.size) (by have := hBb.size; simp; omega)); obtain ⟨r0, r1, z7, hl7⟩ := kq.out _ hB7; obtain ⟨q0, q1⟩ := kc.out _ hB7; replace hB7 := Lib.hid hB7; clear ho7 hb7)
    | (have h7 := hBa; clear h7; refine step_call3Z rfl 49 (.tmp 7) (.const (.int .i64 0)) (.tmp 8) _ (by with_reducible rfl) _ Tryd.func49 (by kernel_rfl) _ _ _ (by simp [Act.eval, Act.put]) (by simp [Act.eval, Act.put]) (by simp [Act.eval, Act.put]) _ (hC1.out _) ?_; rintro e w6 ⟨rfl, hb9⟩; refine ⟨_, rfl, ?_⟩; have hBb : Below w2.heap.size w2 w6 := hBa.trans (hb9.mono hBa.size); obtain ⟨y0, y1⟩ := kc.out _ hBb; have y2 := fun o => (kc.out (w6.alloc o) (hBb.alloc hBb.size o)).1; have y3 := fun o => (kc.out (w6.alloc o) (hBb.alloc hBb.size o)).2)
    | (have h7 := hBa; clear h7; refine step_call3Z rfl 49 (.tmp 10) (.tmp 12) (.tmp 15) _ (by with_reducible rfl) _ Tryd.func49 (by kernel_rfl) _ _ _ (by simp [Act.eval, Act.put]) (by simp [Act.eval, Act.put]) (by simp [Act.eval, Act.put]) _ (hC2.out _) ?_; rintro e w6 ⟨rfl, hb9⟩; refine ⟨_, rfl, ?_⟩; have hBb : Below w2.heap.size w2 w6 := hBa.trans (hb9.mono hBa.size); obtain ⟨y0, y1⟩ := kc.out _ hBb; have y2 := fun o => (kc.out (w6.alloc o) (hBb.alloc hBb.size o)).1; have y3 := fun o => (kc.out (w6.alloc o) (hBb.alloc hBb.size o)).2)
    | (refine step_call3Z rfl 49 (.tmp 7) (.const (.int .i64 0)) (.tmp 8) _ (by with_reducible rfl) _ Tryd.func49 (by kernel_rfl) _ _ _ (by simp [Act.eval, Act.put]) (by simp [Act.eval, Act.put]) (by simp [Act.eval, Act.put]) _ (hC1.out _) ?_; rintro e w5 ⟨rfl, hb9⟩; refine ⟨_, rfl, ?_⟩; have hBa : Below w2.heap.size w2 w5 := dB.out.trans (hb9.mono dB.out.size); obtain ⟨x0, x1⟩ := kc.out _ hBa)
    | (refine step_call3Z rfl 49 (.tmp 10) (.tmp 12) (.tmp 15) _ (by with_reducible rfl) _ Tryd.func49 (by kernel_rfl) _ _ _ (by simp [Act.eval, Act.put]) (by simp [Act.eval, Act.put]) (by simp [Act.eval, Act.put]) _ (hC2.out _) ?_; rintro e w5 ⟨rfl, hb9⟩; refine ⟨_, rfl, ?_⟩; have hBa : Below w2.heap.size w2 w5 := dB.out.trans (hb9.mono dB.out.size); obtain ⟨x0, x1⟩ := kc.out _ hBa))
  all_goals
    go_wp2_with fail
    refine bodyPost_ret (v := .agg #[.int .i64 R, .slice pv lv cv]) ?_ rfl ⟨_, rfl, ?_, ?_⟩
    · simp [results, Tryd.results43, go_sem, hl7, r0, r1]
    · exact OwnG.mono (ownsRow_setCell_below (ownsRow_setCell_below hO7.out hl2 _) hl2 _) hb2.out.size
    · exact ((bt1 hb2.out hB7.out).setCell (Nat.le_succ _) _).setCell (Nat.le_succ _) _

end Go.Proofs.YtmjeilimdnngpaaDoor
