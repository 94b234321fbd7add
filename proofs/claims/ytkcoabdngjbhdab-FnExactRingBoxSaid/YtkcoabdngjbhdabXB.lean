/- The free box, both sides; rows that a region appends to. -/
import Derived.Test.YtkcoabdngjbhdabXA
import Derived.Test.YtkcoabdngjbhdabV8
import Derived.Deep.RegionLaw
namespace Go.Proofs.Ytkcoabdngjbhdab
open Go Go.RowKit RM
/-- what 'append(out, y)' gives: an equation for a region -/
theorem app_runT (w : World) (B : Nat) (v : Value) (xs : List ByteArray) (y : ByteArray) (g : Nat) (hown : OwnT w B v xs) (hcell : w.cell? ⟨g, 0, none⟩ = some (.string y)) (hlen : xs.length ≤ 2000000) (hB : B ≤ w.heap.size) :
    ∃ g' c' w', (Builtin.append_ #[22, 22] 22 #[v, .slice (some ⟨g, 0, none⟩) 1 1]).run Try.prog w = .ok (.slice (some ⟨g', 0, none⟩) (xs.length + 1) c') w' ∧
      OwnT w' B (.slice (some ⟨g', 0, none⟩) (xs.length + 1) c') (xs ++ [y]) ∧ w.grownBy w' v.ownBlock := by
  obtain ⟨i0, hi, hz0, hz1, hz2⟩ := info_parts strInfo
  obtain ⟨v', w', hr, ho, hg, -⟩ := run_append_own (P := Try.prog) w B 22 22 9 i0 (.string ⟨#[]⟩) 1 16 Try.underlying22 hi hz0 hz1 hz2 rfl (by decide) v xs.length (vtxt xs) hown ⟨g, 0, none⟩ 1 1 [.string y] rfl (fun j u hj => by
    match j, hj with
    | 0, hj => simp at hj; subst hj; simpa [Addr.add] using hcell
    | j + 1, hj => simp at hj) (fun u hu => by simp at hu; subst hu; rfl) (by unfold maxLen; omega) (by omega) hB
  have ho2 : OwnT w' B v' (xs ++ [y]) := by
    unfold OwnT
    have e : vtxt (xs ++ [y]) = vtxt xs ++ [.string y] := by simp [vtxt]
    rw [e, List.length_append]; exact ho
  rcases ho2.form with ⟨_, e⟩ | ⟨g', c', rfl, _⟩
  · simp at e
  · have hl : (xs ++ [y]).length = xs.length + 1 := by simp
    rw [hl] at hr ho2
    exact ⟨g', c', w', hr, ho2, hg⟩
set_option maxRecDepth 100000 in
theorem fn_enter {f : FuncId} {fn : Func} {c : Code} (args : Array Value) (w : World) (hf : Try.prog.funcs[f]? = some fn) (hname : (fn.name == "runtime.NumGoroutine") = false) (hb : fn.body = some c) : (callFunc f args).run Try.prog w = .ok (.enter f args) w := by
  have h1 : fn.name ≠ "runtime.NumGoroutine" := by simpa using hname
  simp [callFunc, hf, h1, hb]
set_option maxRecDepth 100000 in
theorem step_call1 {ops : Array Oper} {o : Oper} {a : Act} {w : World} {K : Act → World → Prop} {Q : Exit → Act → World → Prop} {E : Prop}
    (hg : o.guard = none) (f : FuncId) (x : Operand) (ts : Array TypeId) (hop : o.op = Op.call { callee := Callee.value (Operand.func f), args := #[x], argTypes := ts })
    (fn : Func) (hf : Try.prog.funcs[f]? = some fn) (hname : ((fn.name == "runtime.NumGoroutine") || fn.body.isNone) = false)
    (v : Value) (hx : a.eval x = v) (R : Ending → World → Prop) (hc : Calls Try.prog f #[v] w R) (h : ∀ e w', R e w' → ∃ v, e = .returned v ∧ K (a.put o.dst v) w') :
    if Region.wanted o (yielded ops a.tmps) = true then Oper.wp Try.prog o a w K Q else E := by
  have hw : Region.wanted o (yielded ops a.tmps) = true := by simp [Region.wanted, hg]
  rw [if_pos hw]
  unfold Oper.wp execOp
  simp only [hop, resolve, invoke, Deferred.ofValue, Sem.run_bind, Sem.run_pure, Result.andThen_ok, List.map_toArray, List.map_cons, List.map_nil, hx]
  rw [Bool.or_eq_false_iff] at hname
  obtain ⟨c, hb⟩ : ∃ c, fn.body = some c := by
    cases h : fn.body with
    | none => rw [h] at hname; simp at hname
    | some c => exact ⟨c, rfl⟩
  show Oper.upon _ _ _ _ _ ((callFunc f (#[] ++ #[v] ++ #[])).run Try.prog w)
  rw [show (#[] ++ #[v] ++ #[] : Array Value) = #[v] from rfl, fn_enter #[v] w hf hname.1 hb, Oper.upon_enter]
  refine hc.mono ?_
  intro e w' hr
  obtain ⟨u, rfl, hk⟩ := h e w' hr
  exact hk
/-- 'append', by its equation -/
theorem step_appE {ops : Array Oper} {o : Oper} {a : Act} {w : World} {K : Act → World → Prop} {Q : Exit → Act → World → Prop} {E : Prop} {t ty : TypeId} {u v v' : Value} {w' : World}
    (hr : (Builtin.append_ #[t, t] ty #[u, v]).run Try.prog w = .ok v' w') (hg : o.guard = none) (s x : Operand) (hop : o.op = Op.call { callee := Callee.builtin Builtin.append, args := #[s, x], argTypes := #[t, t] })
    (hty : o.type = ty) (hs : a.eval s = u) (hx : a.eval x = v) (h : K (a.put o.dst v') w') :
    if Region.wanted o (yielded ops a.tmps) = true then Oper.wp Try.prog o a w K Q else E := by
  have hw : Region.wanted o (yielded ops a.tmps) = true := by simp [Region.wanted, hg]
  rw [if_pos hw]
  subst hty
  unfold Oper.wp execOp
  simp only [hop, resolve, invoke, builtin, Sem.run_bind, Sem.run_pure, Result.andThen_ok, List.map_toArray, List.map_cons, List.map_nil, hs, hx, hr]
  exact h
theorem bxAny_any (n : Nat) (w : World) (hn : n ≤ 20) :
    Calls Try.prog 46 #[.int .i64 n] w fun e w' => e = .returned (.string (rp 63 n)) ∧ w = w' := by
  have HB := Lib.hid (rp_snoc 63)
  have HZ : Hid (rp 63 0 = ⟨#[]⟩) := Lib.hid rfl
  have hsz := rp_size 63
  generalize rp 63 = R at *
  go_enter Try.func46, Try.ntmps46
  go_wp2_with fail
  go_loop [0, 3] (fun i o => ∃ k : Nat, k ≤ n ∧ i = .int .i64 ((n : Int) - k) ∧ o = .string (R k)) (fun i _ => (intOf i).toNat)
  case atStart => exact ⟨0, by omega, vi (by omega), vs HZ.out.symm⟩
  case round =>
    obtain ⟨k, hk, rfl, rfl⟩ := hrel
    have hs2 : (R k).size ≤ 20 := by rw [hsz]; omega
    by_cases h : k < n
    · have HS := Lib.hid (HB.out k)
      go_wp2_with fail
      go_round
      case rel => exact ⟨k + 1, by omega, vi (by omega), vs HS.out⟩
      all_goals (simp [intOf] <;> omega)
    · obtain rfl : k = n := by omega
      go_wp2_with fail
      go_ret; exact ⟨rfl, rfl⟩
theorem sFB_no (P S : Int) (w : World) (h : szI P S = false) : Calls Try.prog 17 #[.int .i64 P, .int .i64 S] w fun e w' => RetX w 0 0 [] false e w' := by
  have hR := Lib.hid (fun w => bxSize_any P S w)
  rw [h] at hR
  go_enter Try.func17, Try.ntmps17
  go_wp2_with fail
  refine (hR.out _).mono ?_; rintro e w' ⟨rfl, rfl⟩
  go_wp2_with fail
  refine bodyPost_ret (v := .tuple #[.agg #[.int .i64 0, .int .i64 0, .slice none 0 0], .bool false]) ?_ rfl ⟨_, rfl, OwnT.nil _ _, ?_⟩
  · simp [results, Try.results17, go_sem]
  · exact ba1 w _
set_option maxRecDepth 100000 in
set_option maxHeartbeats 1000000 in
theorem sFB_yes (p s : Nat) (w : World) (h1 : 1 ≤ p) (h2 : p ≤ 6) (h3 : 2 ≤ s) (h4 : s ≤ 5) (h5 : szI p s = true) : Calls Try.prog 17 #[.int .i64 p, .int .i64 s] w fun e w' => RetX w p s (List.replicate (p * (s - 1)) (rp 63 p)) true e w' := by
  have hR := Lib.hid (fun w => bxSize_any p s w)
  rw [h5] at hR
  have hA := Lib.hid (fun w => bxAny_any p w (by omega))
  have h24 := mul24 (p := p) (s := s) h2 h4
  have hms := mulsub (p := p) (s := s) (by omega)
  have hm0 : 0 ≤ (p : Int) * ((s : Int) - 1) := by rw [hms]; omega
  have hm1 : (p : Int) * ((s : Int) - 1) ≤ 24 := by rw [hms]; omega
  generalize rp 63 p = t at *
  generalize p * (s - 1) = n at *
  replace hms := Lib.hid hms
  clear h5
  obtain ⟨w2, hw2⟩ : ∃ w2, Hid (w2 = (w.alloc (boxO 0 0 (.slice none 0 0))).alloc (boxO p s (.slice none 0 0))) := ⟨_, Lib.hid rfl⟩
  have hb2 : Hid (Below w.heap.size w w2) := Lib.hid (by rw [hw2.out]; exact (ba1 w _).alloc (by simp) _)
  have R2 := Lib.hid (show w2.heap[w.heap.size]? = some (boxO 0 0 (.slice none 0 0)) by rw [hw2.out]; exact hb_old _ (hb_new _ _))
  have O2 := Lib.hid (show w2.heap[w.heap.size + 1]? = some (boxO p s (.slice none 0 0)) by rw [hw2.out]; exact hb_new' _ _ _ (by simp))
  have y2 := Lib.hid (show w2.heap.size = w.heap.size + 2 by rw [hw2.out]; simp)
  go_enter Try.func17, Try.ntmps17
  go_wp2_with fail
  refine (hR.out _).mono ?_; rintro e w' ⟨rfl, rfl⟩
  go_wp2_with fail
  rw [← hw2.out]
  go_loopw [7] (fun i wr => ∃ (k : Nat) (v : Value), k ≤ n ∧ i = .int .i64 ((p : Int) * ((s : Int) - 1) - k) ∧ Hid (wr.heap[w.heap.size + 1]? = some (boxO p s v)) ∧ Hid (OwnT wr (w.heap.size + 2) v (List.replicate k t)) ∧ Hid (Below (w.heap.size + 1) w2 wr)) (fun i _ => (intOf i).toNat)
  case atStart => exact ⟨0, .slice none 0 0, Nat.zero_le _, vi (by simp), O2, Lib.hid (OwnT.nil _ _), Lib.hid (Below.refl _ _)⟩
  case round =>
    obtain ⟨k, v, hk, rfl, hO, ho, hb⟩ := hrel
    obtain ⟨wq, rfl⟩ : ∃ x, x = wr := ⟨_, rfl⟩
    have hOl := hb_lt hO.out
    have o0 : wq.cell? ⟨w.heap.size + 1, 0, none⟩ = some (.int .i64 p) := hb_cell hO.out 0
    have o1 : wq.cell? ⟨w.heap.size + 1, 1, none⟩ = some (.int .i64 s) := hb_cell hO.out 1
    have o2 : wq.cell? ⟨w.heap.size + 1, 2, none⟩ = some v := hb_cell hO.out 2
    by_cases hlt : k < n
    · have hgt : ¬ (p : Int) * ((s : Int) - 1) - (k : Int) ≤ 0 := by rw [hms.out]; omega
      obtain ⟨g', c', w9, hr, ho9, hg9⟩ := app_runT (wq.alloc (.cells #[.string t] 9)).drew (w.heap.size + 2) v (List.replicate k t) t wq.heap.size ((ho.out.alloc _).below (Below.refl _ _).drew) (hb_cell (hb_new wq _) 0) (by rw [List.length_replicate]; omega) (by have := hb.out.size; rw [y2.out] at this; simp; omega)
      rw [List.length_replicate] at hr ho9
      have hO9 := Lib.hid (show w9.heap[w.heap.size + 1]? = some (boxO p s v) from (hg9.block (w.heap.size + 1) (by simp; omega) (fun e => by have := (ho.out.lt _ e.symm).1; omega)).trans (hb_old _ hO.out))
      have hs9 := Lib.hid hg9.size
      have hO9l := hb_lt hO9.out
      have q0 : w9.cell? ⟨w.heap.size + 1, 0, none⟩ = some (.int .i64 p) := hb_cell hO9.out 0
      have q1 : w9.cell? ⟨w.heap.size + 1, 1, none⟩ = some (.int .i64 s) := hb_cell hO9.out 1
      have q2 : w9.cell? ⟨w.heap.size + 1, 2, none⟩ = some v := hb_cell hO9.out 2
      have qf := hb_frozen hO9.out
      have hvs : ∃ pv nv cv, v = .slice pv nv cv := by
        rcases ho.out.form with ⟨h, _⟩ | ⟨g, cap, h, _⟩
        · exact ⟨_, _, _, h⟩
        · exact ⟨_, _, _, h⟩
      obtain ⟨pv, nv, cv, rfl⟩ := hvs
      have hb9 : Hid (Below (w.heap.size + 1) w2 w9) := Lib.hid (((hb.out.alloc (by have := hb.out.size; rw [y2.out] at this; omega) _).drew).grown hg9 (by have := hb.out.size; rw [y2.out] at this; simp; omega) (fun j e => by have := (ho.out.lt _ e).1; omega))
      have hS : Hid (List.replicate k t ++ [t] = List.replicate (k + 1) t) := Lib.hid (List.replicate_succ' ..).symm
      replace ho9 := Lib.hid ho9
      clear hg9
      go_upto_region 7 with fail
      go_region_law (first | (refine step_call1 rfl 46 (.tmp 26) _ (by with_reducible rfl) _ Try.func46 (by kernel_rfl) _ (by simp [Act.eval, Act.put]) _ (hA.out _) ?_; rintro e w' ⟨rfl, rfl⟩; refine ⟨_, rfl, ?_⟩) | (refine step_appE hr rfl (.tmp 25) (.tmp 28) (by with_reducible rfl) (by with_reducible rfl) (by simp [Act.eval, Act.put]) (by simp [Act.eval, Act.put]) ?_))
      all_goals
        go_wp2_with fail
        refine ⟨⟨k + 1, _, by omega, vi (by omega), Lib.hid (hb_set hO9.out _), Lib.hid (by rw [← hS.out]; exact ownsRow_setCell_below ho9.out (by show w.heap.size + 1 < _; omega) _), Lib.hid (hb9.out.setCell (by show w.heap.size + 1 ≤ w.heap.size + 1; omega) _)⟩, by simp [intOf]; omega⟩
    · obtain rfl : k = n := by omega
      have hle : (p : Int) * ((s : Int) - 1) - (k : Int) ≤ 0 := by rw [hms.out]; omega
      have RR := Lib.hid (hb_below (g := w.heap.size) hb.out (by omega) R2.out)
      have r0 : wq.cell? ⟨w.heap.size, 0, none⟩ = some (.int .i64 0) := hb_cell RR.out 0
      have r1 : wq.cell? ⟨w.heap.size, 1, none⟩ = some (.int .i64 0) := hb_cell RR.out 1
      have r2 : wq.cell? ⟨w.heap.size, 2, none⟩ = some (.slice none 0 0) := hb_cell RR.out 2
      have zr := hb_frozen RR.out
      have hRl := hb_lt RR.out
      have hvs : ∃ pv nv cv, v = .slice pv nv cv := by
        rcases ho.out.form with ⟨h, _⟩ | ⟨g, cap, h, _⟩
        · exact ⟨_, _, _, h⟩
        · exact ⟨_, _, _, h⟩
      obtain ⟨pv, nv, cv, rfl⟩ := hvs
      go_wp2_with fail
      refine bodyPost_ret (v := .tuple #[.agg #[.int .i64 p, .int .i64 s, .slice pv nv cv], .bool true]) ?_ rfl ⟨_, rfl, ?_, ?_⟩
      · simp [results, Try.results17, go_sem, hRl, r0, r1, r2]
      · have kk : ∀ (W : World) (a : Addr) (u : Value), OwnT W (w.heap.size + 2) (.slice pv nv cv) (List.replicate k t) → a.block < w.heap.size + 2 → OwnT (W.setCell a u) (w.heap.size + 2) (.slice pv nv cv) (List.replicate k t) := fun W a u h ha => ownsRow_setCell_below h ha u
        refine OwnT.mono (B := w.heap.size + 2) ?_ (by omega)
        repeat (first | (with_reducible exact ho.out) | (with_reducible refine kk _ _ _ ?_ ?_; rotate_left; (show w.heap.size < _; omega)))
      · have h0 := hb2.out.trans (hb.out.mono (by omega))
        repeat (first | (with_reducible exact h0) | (with_reducible refine Below.setCell ?_ ?_ _; rotate_left; (show w.heap.size ≤ w.heap.size; omega)))
theorem srepX_any (b : UInt8) (n : Nat) (w : World) (hn : n ≤ 100) : Calls Try.prog 48 #[.string ⟨#[b]⟩, .int .i64 n] w fun e w' => e = .returned (.string (rp b n)) ∧ Below w.heap.size w w' := by
  have := srep_any ⟨#[b]⟩ n w (by omega) (by show 1 * n ≤ _; omega)
  rwa [repL_one] at this
theorem iFB_no (P S : Int) (w : World) (h : szI P S = false) : Calls Try.prog 18 #[.int .i64 P, .int .i64 S] w fun e w' => RetX w 0 0 [] false e w' := by
  have hR := Lib.hid (fun w => isBS_any P S w)
  rw [h] at hR
  go_enter Try.func18, Try.ntmps18
  go_wp2_with fail
  refine (hR.out _).mono ?_; rintro e w' ⟨rfl, rfl⟩
  go_wp2_with fail
  refine bodyPost_ret (v := .tuple #[.agg #[.int .i64 0, .int .i64 0, .slice none 0 0], .bool false]) ?_ rfl ⟨_, rfl, OwnT.nil _ _, ?_⟩
  · simp [results, Try.results18, go_sem]
  · exact ba1 w _
set_option maxRecDepth 100000 in
theorem iFB_yes (p s : Nat) (w : World) (h1 : 1 ≤ p) (h2 : p ≤ 6) (h3 : 2 ≤ s) (h4 : s ≤ 5) (h5 : szI p s = true) : Calls Try.prog 18 #[.int .i64 p, .int .i64 s] w fun e w' => RetX w p s (List.replicate (p * (s - 1)) (rp 63 p)) true e w' := by
  have hR := Lib.hid (fun w => isBS_any p s w)
  rw [h5] at hR
  have hA := Lib.hid (fun w => srepX_any 63 p w (by omega))
  have hC := Lib.hid (fun w => countR_any p s w h2 (by omega) h4)
  have h24 := mul24 (p := p) (s := s) h2 h4
  have hn1 : 1 ≤ p * (s - 1) := Nat.mul_pos h1 (by omega)
  generalize rp 63 p = t at *
  generalize p * (s - 1) = n at *
  clear h5
  obtain ⟨w1, hw1⟩ : ∃ w1, Hid (w1 = w.alloc (boxO 0 0 (.slice none 0 0))) := ⟨_, Lib.hid rfl⟩
  have hb1 : Hid (Below w.heap.size w w1) := Lib.hid (by rw [hw1.out]; exact ba1 w _)
  have R1 := Lib.hid (show w1.heap[w.heap.size]? = some (boxO 0 0 (.slice none 0 0)) by rw [hw1.out]; exact hb_new _ _)
  go_enter Try.func18, Try.ntmps18
  go_wp2_with fail
  refine (hR.out _).mono ?_; rintro e w' ⟨rfl, rfl⟩
  rw [← hw1.out]
  go_wp2_with fail
  refine (hA.out _).mono ?_; rintro e w2 ⟨rfl, hb2⟩
  have R2 := Lib.hid (hb_below hb2 (hb_lt R1.out) R1.out)
  replace hb2 := Lib.hid (bt1 hb1.out hb2)
  obtain ⟨w3, hw3⟩ : ∃ w3, Hid (w3 = w2.alloc (.cells #[.string t] 9)) := ⟨_, Lib.hid rfl⟩
  have hb3 : Hid (Below w2.heap.size w2 w3) := Lib.hid (by rw [hw3.out]; exact ba1 w2 _)
  have k3 : w3.cell? ⟨w2.heap.size, 0, none⟩ = some (.string t) := by rw [hw3.out]; exact hb_cell (hb_new w2 _) 0
  have l3 : w2.heap.size < w3.heap.size := by rw [hw3.out]; simp
  have R3 := Lib.hid (hb_below hb3.out (hb_lt R2.out) R2.out)
  have hQ := Lib.hid (rep_any w2.heap.size 1 n t w3 hn1 (by omega) l3 k3)
  replace hb3 := Lib.hid (bt1 hb2.out hb3.out)
  clear k3 l3
  go_wp2_with fail
  refine (hC.out _).mono ?_; rintro e w' ⟨rfl, rfl⟩
  rw [← hw3.out]
  go_wp2_with fail
  refine hQ.out.mono ?_; rintro e w4 ⟨u, rfl, ho, hb4⟩
  have R4 := Lib.hid (hb_below hb4 (hb_lt R3.out) R3.out)
  have hlo : w.heap.size < w3.heap.size := hb_lt R3.out
  replace hb4 := Lib.hid (bt1 hb3.out hb4)
  have r0 : w4.cell? ⟨w.heap.size, 0, none⟩ = some (.int .i64 0) := hb_cell R4.out 0
  have r1 : w4.cell? ⟨w.heap.size, 1, none⟩ = some (.int .i64 0) := hb_cell R4.out 1
  have r2 : w4.cell? ⟨w.heap.size, 2, none⟩ = some (.slice none 0 0) := hb_cell R4.out 2
  have zr := hb_frozen R4.out
  have hRl := hb_lt R4.out
  obtain ⟨pv, cv, rfl⟩ : ∃ p c, u = .slice p n c := by
    obtain ⟨p, c, e, _⟩ := (ownT_G ho).rd
    exact ⟨p, c, by rw [e, List.length_replicate]⟩
  replace ho := Lib.hid ho
  go_wp2_with fail
  refine bodyPost_ret (v := .tuple #[.agg #[.int .i64 p, .int .i64 s, .slice pv n cv], .bool true]) ?_ rfl ⟨_, rfl, ?_, ?_⟩
  · simp [results, Try.results18, go_sem, hRl, r0, r1, r2]
  · have kk : ∀ (W : World) (a : Addr) (u : Value), OwnT W w3.heap.size (.slice pv n cv) (List.replicate n t) → a.block < w3.heap.size → OwnT (W.setCell a u) w3.heap.size (.slice pv n cv) (List.replicate n t) := fun W a u h ha => ownsRow_setCell_below h ha u
    refine OwnT.mono (B := w3.heap.size) ?_ (by omega)
    repeat (first | (with_reducible exact ho.out) | (with_reducible refine kk _ _ _ ?_ ?_; rotate_left; (show w.heap.size < _; omega)))
  · have h0 := hb4.out
    repeat (first | (with_reducible exact h0) | (with_reducible refine Below.setCell ?_ ?_ _; rotate_left; (show w.heap.size ≤ w.heap.size; omega)))
theorem FreeBox_both (P S : Int) (_ : (Lit.int .i64 P).wf = true) (_ : (Lit.int .i64 S).wf = true) : ∃ (RP RS : Int) (r : List ByteArray) (ok : Bool), r.length ≤ 2000000 ∧
    (∀ w, Calls Try.prog 17 #[.int .i64 P, .int .i64 S] w fun e w' => RetX w RP RS r ok e w') ∧
    (∀ w, Calls Try.prog 18 #[.int .i64 P, .int .i64 S] w fun e w' => RetX w RP RS r ok e w') := by
  cases h : szI P S with
  | false => exact ⟨0, 0, [], false, by simp, fun w => sFB_no P S w h, fun w => iFB_no P S w h⟩
  | true =>
    obtain ⟨p, s, rfl, rfl, h1, h2, h3, h4, -⟩ := szI_nat h
    exact ⟨p, s, _, true, by rw [List.length_replicate]; have := mul24 (p := p) (s := s) h2 h4; omega, fun w => sFB_yes p s w h1 h2 h3 h4 h, fun w => iFB_yes p s w h1 h2 h3 h4 h⟩
end Go.Proofs.Ytkcoabdngjbhdab
