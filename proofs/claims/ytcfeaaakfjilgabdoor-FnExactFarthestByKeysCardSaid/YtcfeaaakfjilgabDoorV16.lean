/- The states that a search has come to, by the program. -/
import Derived.Test.YtcfeaaakfjilgabDoorV15
namespace Go.Proofs.YtcfeaaakfjilgabDoor
set_option linter.unusedSimpArgs false
set_option linter.unusedVariables false
open Go Go.RowKit RM
def uE : Elt Nat where
  e := 56
  n := 1
  bytes := 8
  z := .int .u64 0
  d := 0
  cells k := [.int .u64 ((k : Nat) : Int)]
  len _ := rfl
  one x u hu := by simp at hu; subst hu; rfl
  pos := by decide
  zs := rfl
  info := by kernel_rfl
  small := by decide
/-- the states among the first that have been come to -/
def stL (R : List (Nat × Nat)) (k : Nat) : List Nat := (List.range k).filter fun s => decide (0 < (R.getD s (0, 0)).2)
theorem stL_yes (R : List (Nat × Nat)) (k : Nat) (hk : k < R.length) (h : 0 < R[k].2) : stL R (k + 1) = stL R k ++ [k] := by
  unfold stL
  rw [List.range_succ, List.filter_append, List.filter_cons_of_pos (by rw [getD_at R k _ hk]; simpa using h)]; rfl
theorem stL_no (R : List (Nat × Nat)) (k : Nat) (hk : k < R.length) (h : R[k].2 = 0) : stL R (k + 1) = stL R k := by
  unfold stL
  rw [List.range_succ, List.filter_append, List.filter_cons_of_neg (by rw [getD_at R k _ hk, h]; simp)]; simp
theorem stL_len (R : List (Nat × Nat)) (k : Nat) : (stL R k).length ≤ k := by
  have := List.length_filter_le (fun s => decide (0 < (R.getD s (0, 0)).2)) (List.range k)
  rwa [List.length_range] at this
theorem app_u (w : World) {ops : Array Oper} {rest : List Oper} {o : Oper} {a : Act} {Q : Exit → Act → World → Prop} (hgd : o.guard = none) (s x : Operand)
    (ho : o.op = .call { callee := .builtin .append, args := #[s, x], argTypes := #[72, 72] })
    (B : Nat) (v : Value) (xs : List Nat) (hs : a.eval s = v) (hown : OwnG uE w B v xs) (g : Nat) (y : Nat) (hx : a.eval x = .slice (some ⟨g, 0, none⟩) 1 1)
    (hcell : w.cell? ⟨g, 0, none⟩ = some (.int .u64 (y : Int))) (hlen : xs.length ≤ 1000000) (hB : B ≤ w.heap.size)
    (h : ∀ v' w', OwnG uE w' B v' (xs ++ [y]) → w.grownBy w' v.ownBlock → wpList Tryd.prog ops Q rest (a.put o.dst v') w') : wpList Tryd.prog ops Q (o :: rest) a w := by
  refine app_G w hgd s x 72 ho Tryd.underlying72 B v xs hs hown g y hx (fun o u hu => ?_) hlen hB (fun v' w' h1 h2 _ => h v' w' h1 h2)
  cases o with
  | zero => have : u = .int .u64 (y : Int) := by simpa [uE, eq_comm] using hu
            rw [this]; exact hcell
  | succ o => simp [uE] at hu
set_option maxRecDepth 100000 in
set_option maxHeartbeats 1000000 in
theorem statesIn_any (u : Value) (B N : Nat) (R : List (Nat × Nat)) (w : World) (h : OwnG kwE w B u R) (hN : R.length = N) (hN2 : N ≤ 1024) :
    Calls Tryd.prog 43 #[u] w fun e w' => ∃ o, e = .returned o ∧ OwnG uE w' w.heap.size o (stL R N) ∧ Below w.heap.size w w' := by
  obtain ⟨p, c, rfl, hc⟩ := kw_rd (w' := w) h
  replace hc := Lib.hid hc
  have hy := Lib.hid (stL_yes R)
  have hno := Lib.hid (stL_no R)
  have hln := Lib.hid (stL_len R)
  have h0 : Hid (stL R 0 = []) := Lib.hid rfl
  generalize stL R = SL at *
  rw [hN]
  replace hN := Lib.hid hN
  clear h
  go_enter Tryd.func43, Tryd.ntmps43
  go_wp2_with fail
  go_loopw [3, 8] (fun o i wr => ∃ k : Nat, k ≤ N ∧ i = .int .i64 k ∧ Hid (OwnG uE wr w.heap.size o (SL k)) ∧ Hid (Below w.heap.size w wr)) (fun _ i _ => N - (intOf i).toNat)
  case atStart => exact ⟨0, Nat.zero_le _, rfl, Lib.hid (by rw [h0.out]; exact OwnG.nil _ _), Lib.hid (Below.refl _ _)⟩
  case round =>
    obtain ⟨k, hk, rfl, ho, hb⟩ := hrel
    rename World => wA
    by_cases hlt : k < N
    · have hkx : k < R.length := by rw [hN.out]; exact hlt
      obtain ⟨g, rfl, c0, c1⟩ := hc.out wA hb.out k hkx
      have hyk := Lib.hid (hy.out k hkx)
      have hnk := Lib.hid (hno.out k hkx)
      have hlk := hln.out k
      generalize R[k].1 = y at *
      generalize R[k].2 = y2 at *
      have hb5 := Lib.hid (ba1 wA (.cells #[.int .i64 (y : Int), .int .u64 (y2 : Int)] 64))
      have ho5 := Lib.hid (ho.out.below hb5.out)
      replace hb5 := Lib.hid (bt1 hb.out hb5.out)
      by_cases hz : y2 = 0
      · have hS := Lib.hid (hnk.out hz)
        subst hz
        go_wp2_with fail
        go_roundw
        case rel => exact ⟨k + 1, by omega, by go_num, by rw [hS.out]; exact ho5, hb5⟩
        all_goals (simp [intOf] <;> omega)
      · have hS := Lib.hid (hyk.out (by omega))
        have hgt : decide ((0 : Int) < (y2 : Int)) = true := by rw [decide_eq_true_eq]; omega
        have hpos : 0 < y2 := by omega
        clear hz
        have hcv : IntKind.u64.wrap (k : Int) = (k : Int) := by rw [IntKind.wrap_u64]; omega
        obtain ⟨w5, hw5⟩ : ∃ w5, Hid (w5 = wA.alloc (.cells #[.int .i64 (y : Int), .int .u64 (y2 : Int)] 64)) := ⟨_, Lib.hid rfl⟩
        have hs5 := hb5.out.size
        go_wp2_with (at_builtin; refine app_u _ rfl _ _ rfl w.heap.size _ _ rfl (ho5.out.alloc _) _ k rfl (by simp) (by omega) (by have := hb5.out.size; simp at this ⊢; omega) ?_; intro v' w7 ho7 hg7; have hb7 := Lib.hid (bel_ownG (hb5.out.alloc hb5.out.size _) (ho5.out.alloc _) hg7 (by have := hb5.out.size; simp at this ⊢; omega)); replace ho7 := Lib.hid ho7; clear hg7)
        go_roundw
        case rel => exact ⟨k + 1, by omega, by go_num, by rw [hS.out]; exact ho7, hb7⟩
        all_goals (clear hcv; simp [intOf]; first | omega | trace_state)
    · obtain rfl : k = N := by omega
      go_wp2_with fail
      go_ret; exact ⟨_, rfl, ho.out, hb.out⟩
end Go.Proofs.YtcfeaaakfjilgabDoor
