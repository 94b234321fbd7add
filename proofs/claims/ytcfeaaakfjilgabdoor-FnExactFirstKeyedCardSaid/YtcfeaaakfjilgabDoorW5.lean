/- The model's search by keys: rows of how far, and what the search holds in memory. -/
import Derived.Test.YtcfeaaakfjilgabDoorW1
import Derived.Test.YtcfeaaakfjilgabDoorStrs5
import Derived.Test.YtcfeaaakfjilgabDoorG3
import Derived.Deep.OwnRows
namespace Go.Proofs.YtcfeaaakfjilgabDoor
set_option linter.unusedSimpArgs false
set_option linter.unusedVariables false
open Go Go.RowKit RM
def fI : Option Nat → Int | none => -1 | some d => (d : Int)
def mR (N : Nat) (f : Nat → Option Nat) : List Int := (List.range N).map fun y => fI (f y)
theorem mR_len (N : Nat) (f : Nat → Option Nat) : (mR N f).length = N := by simp [mR]
theorem mR_get (N : Nat) (f : Nat → Option Nat) (t : Nat) (h : t < (mR N f).length) : (mR N f)[t] = fI (f t) := by simp [mR]
theorem mR_set (N : Nat) (f g : Nat → Option Nat) (t d : Nat) (h : g t = some d) (ho : ∀ u, u ≠ t → g u = f u) : (mR N f).set t (d : Int) = mR N g := by
  apply List.ext_getElem
  · simp [mR]
  · intro i h1 h2
    rw [List.getElem_set, mR_get]
    split
    · rename_i e; subst e; rw [mR_get, h]; rfl
    · rename_i e; rw [mR_get, ho i (fun e2 => e e2.symm)]
theorem mR_one (N S : Nat) : (List.replicate N (-1) : List Int).set S ((0 : Nat) : Int) = mR N (Sr.one S).far := by
  have e : (List.replicate N (-1) : List Int) = mR N (fun _ => none) := by
    apply List.ext_getElem
    · simp [mR]
    · intro i h1 h2; simp [mR, fI]
  rw [e]
  exact mR_set N _ _ S 0 (by simp [Sr.one]) (fun u hu => by simp [Sr.one, hu])
theorem part_app {M m : Nat} {s : Nat} {st : Sr Nat} (a b : List Nat) : st.part M m s (a ++ b) = (st.part M m s a).part M m s b := by unfold Sr.part; rw [List.foldl_append]
/-- what holds within a round of the search: of the neighbours of z, j are done -/
structure Inn (N : Nat) (nb : Nat → List Nat) (S k z j : Nat) (st : Sr Nat) : Prop where
  at_ : (run 1 nb S k).q[k]? = some z
  eq : st = (run 1 nb S k).part 1 ((run 1 nb S k).dst z + 1) z ((nb z).take j)
section
variable {N S k z j : Nat} {nb : Nat → List Nat} {st : Sr Nat}
theorem Inn.full (h : Inn N nb S k z j st) : run 1 nb S (k + 1) = st.part 1 ((run 1 nb S k).dst z + 1) z ((nb z).drop j) := by
  rw [run_some h.at_, h.eq, ← part_app, List.take_append_drop]; rfl
theorem Inn.len (h : Inn N nb S k z j st) (hU : Univ nb (List.range N)) (hS : S < N) : st.q.length ≤ N := by
  have h1 := hU.len (List.mem_range.2 hS) 1 (k + 1)
  rw [List.length_range] at h1
  have h2 : Ext st (run 1 nb S (k + 1)) := by rw [h.full]; exact ext_part _
  exact Nat.le_trans h2.q.length_le h1
theorem Inn.get (h : Inn N nb S k z j st) : st.q[k]? = some z := by
  have h2 : Ext (run 1 nb S k) st := by rw [h.eq]; exact ext_part _
  exact h2.get h.at_
theorem run_dst (h : (run 1 nb S k).q[k]? = some z) : (run 1 nb S k).far z = some ((run 1 nb S k).dst z) := (run_ok 1 nb S k).dst (List.mem_of_getElem? h)
theorem Inn.far (h : Inn N nb S k z j st) : st.far z = some ((run 1 nb S k).dst z) := by
  have h2 : Ext (run 1 nb S k) st := by rw [h.eq]; exact ext_part _
  exact h2.far _ _ (run_dst h.at_)
theorem Inn.zero (h : (run 1 nb S k).q[k]? = some z) : Inn N nb S k z 0 (run 1 nb S k) := ⟨h, rfl⟩
theorem Inn.step (h : Inn N nb S k z j st) (hj : j < (nb z).length) : Inn N nb S k z (j + 1) (st.add 1 ((run 1 nb S k).dst z + 1) (st.way z) (nb z)[j]) := by
  refine ⟨h.at_, ?_⟩
  rw [List.take_succ_eq_append_getElem hj, Sr.part_snoc, ← h.eq]
theorem Inn.done (h : Inn N nb S k z j st) (hj : j = (nb z).length) : st = run 1 nb S (k + 1) := by
  rw [h.full, hj, List.drop_length]; rfl
end
theorem run_len {N S k : Nat} {nb : Nat → List Nat} (hU : Univ nb (List.range N)) (hS : S < N) : (run 1 nb S k).q.length ≤ N := by
  have h1 := hU.len (List.mem_range.2 hS) 1 k
  rwa [List.length_range] at h1
theorem run_fin {N S k : Nat} {nb : Nat → List Nat} (hU : Univ nb (List.range N)) (hS : S < N) (hk : (run 1 nb S k).q.length ≤ k) : run 1 nb S k = fin 1 nb (List.range N) S := hU.fin_at (List.mem_range.2 hS) (List.getElem?_eq_none hk)
theorem run_lt {N S k z : Nat} {nb : Nat → List Nat} (hU : Univ nb (List.range N)) (hS : S < N) (h : z ∈ (run 1 nb S k).q) : z < N := List.mem_range.1 (hU.sub (List.mem_range.2 hS) 1 k z h)
theorem own_lit (w : World) (s : ByteArray) (B : Nat) (hB : B ≤ w.heap.size) : OwnT (w.alloc (.cells #[.string s] 9)) B (.slice (some ⟨w.heap.size, 0, none⟩) 1 1) [s] :=
  ⟨rfl, .inr ⟨_, 1, #[.string s], rfl, hB, hb_new _ _, Nat.le_refl _, by decide, rfl, rfl⟩⟩
structure TI (B : Nat) (w0 w : World) (N gm gw : Nat) (q : Value) (Q : List ByteArray) (M W : List Int) : Prop where
  mv : OwnI w B (.slice (some ⟨gm, 0, none⟩) N N) M
  wy : OwnI w B (.slice (some ⟨gw, 0, none⟩) N N) W
  qu : OwnT w B q Q
  ne : gm ≠ gw
  bel : Below B w0 w
  le : B ≤ w.heap.size
structure TJ (B : Nat) (w0 w : World) (N gm gw : Nat) (q : Value) (Q : List ByteArray) (M W : List Int) (v : Value) (Bv : Nat) (pm : List Int) : Prop where
  si : TI B w0 w N gm gw q Q M W
  vm : OwnI w Bv v pm
  hm : gm < Bv
  hw : gw < Bv
section
variable {B : Nat} {w0 w w' : World} {N gm gw : Nat} {q q' : Value} {Q : List ByteArray} {M W : List Int} {v : Value} {Bv : Nat} {pm : List Int}
theorem TI.below (h : TI B w0 w N gm gw q Q M W) (hb : Below w.heap.size w w') : TI B w0 w' N gm gw q Q M W :=
  ⟨h.mv.below hb, h.wy.below hb, h.qu.below hb, h.ne, h.bel.trans (hb.mono h.le), Nat.le_trans h.le hb.size⟩
theorem TI.storeM (h : TI B w0 w N gm gw q Q M W) (hM : M.length = N) (k : Nat) (y : Int) : TI B w0 (w.setCell ⟨gm, k, none⟩ (.int .i64 y)) N gm gw q Q (M.set k y) W := by
  obtain ⟨hs, hg⟩ := h.mv.stored hM k y
  have hm := (h.mv.lt gm rfl)
  exact ⟨hs, h.wy.kept hg (.inr fun e => h.ne (Option.some.inj e).symm), h.qu.kept hg (own_ne_kind h.qu h.mv (by decide)), h.ne, h.bel.setCell hm.1 _, by simpa using h.le⟩
theorem TI.storeW (h : TI B w0 w N gm gw q Q M W) (hW : W.length = N) (k : Nat) (y : Int) : TI B w0 (w.setCell ⟨gw, k, none⟩ (.int .i64 y)) N gm gw q Q M (W.set k y) := by
  obtain ⟨hs, hg⟩ := h.wy.stored hW k y
  have hm := (h.wy.lt gw rfl)
  exact ⟨h.mv.kept hg (.inr fun e => h.ne (Option.some.inj e)), hs, h.qu.kept hg (own_ne_kind h.qu h.wy (by decide)), h.ne, h.bel.setCell hm.1 _, by simpa using h.le⟩
theorem TI.push {z : ByteArray} (h : TI B w0 w N gm gw q Q M W) (hq : OwnT w' B q' (Q ++ [z])) (hg : w.grownBy w' q.ownBlock) : TI B w0 w' N gm gw q' (Q ++ [z]) M W :=
  ⟨h.mv.kept hg (own_ne_kind h.mv h.qu (by decide)), h.wy.kept hg (own_ne_kind h.wy h.qu (by decide)), hq, h.ne, h.bel.grown hg h.le (fun k e => (h.qu.lt k e).1), Nat.le_trans h.le hg.size⟩
theorem TJ.below (h : TJ B w0 w N gm gw q Q M W v Bv pm) (hb : Below w.heap.size w w') : TJ B w0 w' N gm gw q Q M W v Bv pm :=
  ⟨h.si.below hb, h.vm.below hb, h.hm, h.hw⟩
theorem TJ.storeM (h : TJ B w0 w N gm gw q Q M W v Bv pm) (hM : M.length = N) (k : Nat) (y : Int) : TJ B w0 (w.setCell ⟨gm, k, none⟩ (.int .i64 y)) N gm gw q Q (M.set k y) W v Bv pm := by
  refine ⟨h.si.storeM hM k y, h.vm.kept (h.si.mv.stored hM k y).2 ?_, h.hm, h.hw⟩
  cases e : v.ownBlock with
  | none => left; rfl
  | some a => right; intro e2; have := (h.vm.lt a e).1; have := h.hm; have := Option.some.inj e2; omega
theorem TJ.storeW (h : TJ B w0 w N gm gw q Q M W v Bv pm) (hW : W.length = N) (k : Nat) (y : Int) : TJ B w0 (w.setCell ⟨gw, k, none⟩ (.int .i64 y)) N gm gw q Q M (W.set k y) v Bv pm := by
  refine ⟨h.si.storeW hW k y, h.vm.kept (h.si.wy.stored hW k y).2 ?_, h.hm, h.hw⟩
  cases e : v.ownBlock with
  | none => left; rfl
  | some a => right; intro e2; have := (h.vm.lt a e).1; have := h.hw; have := Option.some.inj e2; omega
theorem TJ.cells {f : Nat → Option Nat} {t d : Nat} (h : TJ B w0 w N gm gw q Q (mR N f) W v Bv pm) (hW : W.length = N) (ht : t < N) (hf : f t = some d) :
    w.cell? ⟨gm, t, none⟩ = some (.int .i64 (d : Int)) ∧ w.frozen? ⟨gm, t, none⟩ = false ∧ (∃ y, w.cell? ⟨gw, t, none⟩ = some (.int .i64 y)) ∧ w.frozen? ⟨gw, t, none⟩ = false := by
  obtain ⟨c0, cf⟩ := h.si.mv.cell (mR_len _ _) t (by rw [mR_len]; exact ht)
  obtain ⟨f0, ff⟩ := h.si.wy.cell hW t (by rw [hW]; exact ht)
  rw [mR_get, hf] at c0
  exact ⟨c0, cf, ⟨_, f0⟩, ff⟩
theorem TJ.cells0 {f : Nat → Option Nat} {t : Nat} (h : TJ B w0 w N gm gw q Q (mR N f) W v Bv pm) (ht : t < N) (hf : f t = none) :
    w.cell? ⟨gm, t, none⟩ = some (.int .i64 (-1)) ∧ w.frozen? ⟨gm, t, none⟩ = false := by
  obtain ⟨c0, cf⟩ := h.si.mv.cell (mR_len _ _) t (by rw [mR_len]; exact ht)
  rw [mR_get, hf] at c0
  exact ⟨c0, cf⟩
theorem TJ.push {z : ByteArray} (h : TJ B w0 w N gm gw q Q M W v Bv pm) (hq : OwnT w' B q' (Q ++ [z])) (hg : w.grownBy w' q.ownBlock) : TJ B w0 w' N gm gw q' (Q ++ [z]) M W v Bv pm :=
  ⟨h.si.push hq hg, h.vm.kept hg (own_ne_kind h.vm h.si.qu (by decide)), h.hm, h.hw⟩
end
theorem own_made' {w : World} {B g N : Nat} (h : w.heap[g]? = some (.cells (madeCells #[.int .i64 0] N) 3)) (hB : B ≤ g) (hN : N ≤ 2000000) : OwnI w B (.slice (some ⟨g, 0, none⟩) N N) (List.replicate N 0) := by
  have e : vint (List.replicate N 0) = (madeCells #[.int .i64 0] N).toList := by rw [toList_madeCells_one]; simp [vint]
  have e2 : (madeCells #[Value.int .i64 0] N).size = N := by
    have := congrArg List.length e; simpa [vint] using this.symm
  unfold OwnI World.ownsRow
  rw [List.length_replicate]
  refine ⟨by simp [vint], .inr ⟨g, N, _, rfl, hB, h, Nat.le_refl _, by unfold maxLen; omega, by rw [e2]; omega, ?_⟩⟩
  rw [e, List.take_of_length_le (by rw [Array.length_toList, e2]; omega)]
theorem h2_0 (a : World) (o1 o2 : Obj) (k : Nat) (hk : k = a.heap.size) : ((a.alloc o1).alloc o2).drew.heap[k]? = some o1 := hb_old o2 (hb_new' a o1 k hk.symm)
theorem h2_1 (a : World) (o1 o2 : Obj) (k : Nat) (hk : k = a.heap.size + 1) : ((a.alloc o1).alloc o2).drew.heap[k]? = some o2 := hb_new' (a.alloc o1) o2 k (by simp; omega)
end Go.Proofs.YtcfeaaakfjilgabDoor
