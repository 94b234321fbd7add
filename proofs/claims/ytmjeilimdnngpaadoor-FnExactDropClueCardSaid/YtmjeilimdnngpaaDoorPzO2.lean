/- The counts of the states that fit the first clues: by the model; both sides. -/
import Derived.Test.YtmjeilimdnngpaaDoorPzN
namespace Go.Proofs.YtmjeilimdnngpaaDoor
open Go Go.RowKit RM
theorem one_cellZ {w : World} {b : Nat} {s : Int} (h : w.heap[b]? = some (.cells #[.int .i64 s] 3 (0, 0))) : ∀ j (hj : j < [s].length), w.cell? ((⟨b, 0, none⟩ : Addr).add j) = some (.int .i64 [s][j]) := by
  intro j hj
  obtain rfl : j = 0 := by simpa using hj
  simp [Addr.add, World.cell?, h]

theorem step_appI {ops : Array Oper} {o : Oper} {a : Act} {w : World} {K : Act → World → Prop} {Q : Exit → Act → World → Prop} {E : Prop}
    (hg : o.guard = none) (s x : Operand) (hop : o.op = Op.call { callee := Callee.builtin Builtin.append, args := #[s, x], argTypes := #[26, 26] })
    (B : Nat) (v : Value) (xs : List Int) (hs : a.eval s = v) (hown : OwnI w B v xs) (ad : Addr) (m c : Nat) (ys : List Int) (hx : a.eval x = .slice (some ad) m c) (hm : ys.length = m)
    (hcell : ∀ j (h : j < ys.length), w.cell? (ad.add j) = some (.int .i64 ys[j])) (hlen : xs.length + m ≤ 2000000) (hB : B ≤ w.heap.size)
    (h : ∀ v' w', OwnI w' B v' (xs ++ ys) → w.grownBy w' v.ownBlock → K (a.put o.dst v') w') :
    if Region.wanted o (yielded ops a.tmps) = true then Oper.wp Tryd.prog o a w K Q else E := by
  have hw : Region.wanted o (yielded ops a.tmps) = true := by simp [Region.wanted, hg]
  rw [if_pos hw]
  subst hm
  obtain ⟨i0, hi, hz0, hz1, hz2⟩ := info_parts intInfo
  refine wp_append_own w s x 26 hop B 3 i0 (.int .i64 0) 1 8 Tryd.underlying26 hi hz0 hz1 hz2 rfl (by decide) v xs.length (vint xs) hs hown ad ys.length c (vint ys) hx (by simp [vint]) ?_ ?_ (by unfold maxLen; omega) (by omega) hB ?_
  · intro j u hj
    simp only [vint, List.getElem?_map, Option.map_eq_some_iff] at hj
    obtain ⟨y, hy, rfl⟩ := hj
    obtain ⟨hj1, rfl⟩ := List.getElem?_eq_some_iff.1 hy
    exact hcell j hj1
  · intro u hu
    simp only [vint, List.mem_map] at hu
    obtain ⟨y, _, rfl⟩ := hu; rfl
  · intro v' w' h1 h2 _
    refine h v' w' ?_ h2
    unfold OwnI
    have e : vint (xs ++ ys) = vint xs ++ vint ys := by simp [vint]
    rw [e, List.length_append]; exact h1

set_option maxRecDepth 100000 in
theorem fn_enterZ {f : FuncId} {fn : Func} {c : Code} (args : Array Value) (w : World) (hf : Tryd.prog.funcs[f]? = some fn) (hname : (fn.name == "runtime.NumGoroutine") = false) (hb : fn.body = some c) : (callFunc f args).run Tryd.prog w = .ok (.enter f args) w := by
  have h1 : fn.name ≠ "runtime.NumGoroutine" := by simpa using hname
  simp [callFunc, hf, h1, hb]
set_option maxRecDepth 100000 in
theorem step_call2Z {ops : Array Oper} {o : Oper} {a : Act} {w : World} {K : Act → World → Prop} {Q : Exit → Act → World → Prop} {E : Prop}
    (hg : o.guard = none) (f : FuncId) (x y : Operand) (ts : Array TypeId) (hop : o.op = Op.call { callee := Callee.value (Operand.func f), args := #[x, y], argTypes := ts })
    (fn : Func) (hf : Tryd.prog.funcs[f]? = some fn) (hname : ((fn.name == "runtime.NumGoroutine") || fn.body.isNone) = false)
    (v u : Value) (hx : a.eval x = v) (hy : a.eval y = u) (R : Ending → World → Prop) (hc : Calls Tryd.prog f #[v, u] w R) (h : ∀ e w', R e w' → ∃ v, e = .returned v ∧ K (a.put o.dst v) w') :
    if Region.wanted o (yielded ops a.tmps) = true then Oper.wp Tryd.prog o a w K Q else E := by
  have hw : Region.wanted o (yielded ops a.tmps) = true := by simp [Region.wanted, hg]
  rw [if_pos hw]
  unfold Oper.wp execOp
  simp only [hop, resolve, invoke, Deferred.ofValue, Sem.run_bind, Sem.run_pure, Result.andThen_ok, List.map_toArray, List.map_cons, List.map_nil, hx, hy]
  rw [Bool.or_eq_false_iff] at hname
  obtain ⟨c, hb⟩ : ∃ c, fn.body = some c := by
    cases h : fn.body with
    | none => rw [h] at hname; simp at hname
    | some c => exact ⟨c, rfl⟩
  show Oper.upon _ _ _ _ _ ((callFunc f (#[] ++ #[v, u] ++ #[])).run Tryd.prog w)
  rw [show (#[] ++ #[v, u] ++ #[] : Array Value) = #[v, u] from rfl, fn_enterZ #[v, u] w hf hname.1 hb, Oper.upon_enter]
  refine hc.mono ?_
  intro e w' hr
  obtain ⟨u, rfl, hk⟩ := h e w' hr
  exact hk

set_option maxRecDepth 100000 in
set_option maxHeartbeats 2000000 in
theorem sLeft_core (R : Int) (n c : Nat) (p : Option Addr) (f : Nat → Nat) (F : Nat → List Int) (w : World) (h6 : n ≤ 6) (hF0 : F 0 = []) (hF : Hid (∀ k, F k ++ [(f k : Int)] = F (k + 1))) (hFl : Hid (∀ k, (F k).length = k)) (hf : Hid (∀ k, f k ≤ 128))
    (hI : Hid (∀ W, Below w.heap.size w W → Calls Tryd.prog 37 #[.agg #[.int .i64 R, .slice p n c]] W fun e w' => e = .returned (.bool true) ∧ Below W.heap.size W w'))
    (hC : Hid (∀ W k, Below w.heap.size w W → k ≤ n → Calls Tryd.prog 38 #[.int .i64 R, .slice p k c] W fun e w' => (∃ pv cv, e = .returned (.slice pv (f k) cv)) ∧ Below W.heap.size W w'))
    (hK : ∀ W (k : Nat), k ≤ n → (Instr.slice 29 (.slice p n c) none (some (.int .i64 (k : Int))) none).run Tryd.prog W = .ok (.slice p k c) W) :
    Calls Tryd.prog 26 #[.agg #[.int .i64 R, .slice p n c]] w fun e w' => RetI w (F (n + 1)) true e w' := by
  obtain ⟨w2, hw2⟩ : ∃ w2, Hid (w2 = w.alloc (puzO R (.slice p n c))) := ⟨_, Lib.hid rfl⟩
  have hb2 : Hid (Below w.heap.size w w2) := Lib.hid (by rw [hw2.out]; exact ba1 w _)
  have P2 := Lib.hid (show w2.heap[w.heap.size]? = some (puzO R (.slice p n c)) by rw [hw2.out]; exact hb_new _ _)
  have hl2 : w.heap.size < w2.heap.size := hb_lt P2.out
  have kc : Hid (∀ W, Below w2.heap.size w2 W → W.cell? ⟨w.heap.size, 0, none⟩ = some (.int .i64 R) ∧ W.cell? ⟨w.heap.size, 1, none⟩ = some (.slice p n c)) := Lib.hid fun W hb => ⟨hb_cell (hb_below hb hl2 P2.out) 0, hb_cell (hb_below hb hl2 P2.out) 1⟩
  replace hK := Lib.hid hK
  go_enter Tryd.func26, Tryd.ntmps26
  go_wp2_with fail
  rw [← hw2.out]
  refine (hI.out _ hb2.out).mono ?_; rintro e w3 ⟨rfl, hb3⟩
  have kd : Hid (∀ W, Below w3.heap.size w3 W → W.cell? ⟨w.heap.size, 0, none⟩ = some (.int .i64 R) ∧ W.cell? ⟨w.heap.size, 1, none⟩ = some (.slice p n c)) := Lib.hid fun W hb => kc.out W (hb3.trans (hb.mono hb3.size))
  have hl3 := hb3.size
  replace hb3 := Lib.hid (bt1 hb2.out hb3)
  go_wp2_with fail
  go_loopw [4, 5] (fun o i wr => ∃ k : Nat, k ≤ n + 1 ∧ i = .int .i64 k ∧ Hid (OwnI wr w3.heap.size o (F k)) ∧ Hid (Below w3.heap.size w3 wr)) (fun _ i _ => n + 1 - (intOf i).toNat)
  case atStart => exact ⟨0, Nat.zero_le _, rfl, Lib.hid (by rw [hF0]; exact OwnI.nil _ _), Lib.hid (Below.refl _ _)⟩
  case round =>
    obtain ⟨k, hk, rfl, ho, hb⟩ := hrel
    obtain ⟨wA, rfl⟩ : ∃ x, x = wr := ⟨_, rfl⟩
    obtain ⟨f0, f1⟩ := kd.out wA hb.out
    by_cases hlt : k < n + 1
    · have hkn : k ≤ n := by omega
      have hle : (k : Int) ≤ (n : Int) := by omega
      have hK1 := fun W => hK.out W k hkn
      have hC1 := Lib.hid fun W (hb : Below w.heap.size w W) => hC.out W k hb hkn
      have hs := Lib.hid (hF.out k)
      have hl := hFl.out k
      have hfk := hf.out k
      generalize f k = fk at *
      obtain ⟨d0, d1⟩ := kd.out wA.drew hb.out.drew
      have dB := Lib.hid hb.out.drew
      have doo := Lib.hid (ho.out.below (Below.refl _ _).drew)
      go_wp2_with fail
      go_region_law (first
        | (have h7 := hO5; clear h7; refine step_appI rfl (.tmp 16) (.tmp 25) (by with_reducible rfl) w3.heap.size u4 (F k) (by simp [Act.eval, Act.put]) (hO5.alloc _) ⟨w5.heap.size, 0, none⟩ 1 1 [(fk : Int)] (by simp [Act.eval, Act.put]) rfl ?_ ?_ ?_ ?_; exact one_cellZ (hb_new w5 _); (rw [hl]; omega); (have := hB5.size; simp; omega); intro v8 w8 ho8 hg8; have hB8 := bel_own (hB5.alloc hB5.size _) (hO5.alloc _) hg8 (by have := hB5.size; simp; omega))
        | (refine step_call2Z rfl 38 (.tmp 18) (.tmp 22) _ (by with_reducible rfl) _ Tryd.func38 (by kernel_rfl) _ _ (by simp [Act.eval, Act.put]) (by simp [Act.eval, Act.put]) _ (hC1.out _ (bt1 hb3.out dB.out)) ?_; rintro e w5 ⟨⟨pv, cv, rfl⟩, hb5⟩; refine ⟨_, rfl, ?_⟩; have hB5 := bt1 dB.out hb5; have hO5 := doo.out.below hb5; obtain ⟨x0, x1⟩ := kd.out w5 hB5))
      all_goals
        have ho9 := Lib.hid ho8
        have hb9 := Lib.hid hB8
        clear ho8 hB8 hg8 hO5 hB5 hb5 x0 x1
        go_wp2_with fail
        go_roundw
        case rel => exact ⟨k + 1, by omega, by go_num, Lib.hid (by rw [← hs.out]; exact ho9.out), hb9⟩
        all_goals (simp [intOf] <;> omega)
    · obtain rfl : k = n + 1 := by omega
      go_wp2_with fail
      go_ret2; exact ⟨_, rfl, ho.out.mono hb3.out.size, bt1 hb3.out hb.out⟩

end Go.Proofs.YtmjeilimdnngpaaDoor
