/- Rows of bars of the call's own; what a search holds in memory. -/
import Derived.Test.YtmbijomjilicgabDoorB4
import Derived.Maps.AppendAt
namespace Go.Proofs.YtmbijomjilicgabDoor
open Go Go.RowKit RM

def lenOf : Value → Nat
  | .slice _ n _ => n
  | _ => 0
theorem OwnI.lenOf {w : World} {B : Nat} {v : Value} {xs : List Int} (h : OwnI w B v xs) : lenOf v = xs.length := by
  rcases h.form with ⟨rfl, rfl⟩ | ⟨g, cap, rfl, _⟩ <;> rfl
/-- the object that holds a bar -/
abbrev barO (n x : Nat) : Obj := .cells #[.int .i64 (ctz x), .bool (onB x), .int .i64 n, .int .u64 x] 50
theorem bar_cells {w : World} {g n x : Nat} (h : w.heap[g]? = some (barO n x)) : CellsOf w g n x ∧ ∀ o, w.frozen? ⟨g, o, none⟩ = false := by
  refine ⟨?_, ?_⟩
  · simp [CellsOf, World.cell?, h, barO]
  · intro o; simp [World.frozen?, h, barO]
theorem alloc_at (w : World) (o : Obj) : (w.alloc o).heap[w.heap.size]? = some o := by
  show (w.heap.push o)[w.heap.size]? = some o
  exact Array.getElem?_push_size
theorem alloc_at' (w : World) (o : Obj) (k : Nat) (h : w.heap.size = k) : (w.alloc o).heap[k]? = some o := by subst h; exact alloc_at w o

theorem OwnI.setO {w : World} {B g j : Nat} {v : Value} {xs : List Int} (h : OwnI w B v xs) (hne : v.ownBlock ≠ some g) {u : Value} : OwnI (w.setCell ⟨g, j, none⟩ u) B v xs := ownsRow_setCell_other (a := ⟨g, j, none⟩) h hne u
def qcells (n : Nat) (zs : List Nat) : List Value := zs.flatMap fun z => [.int .i64 (ctz z), .bool (onB z), .int .i64 n, .int .u64 z]
theorem qcells_len (n : Nat) (zs : List Nat) : (qcells n zs).length = zs.length * 4 := by
  induction zs with
  | nil => rfl
  | cons z zs ih => unfold qcells at *; rw [List.flatMap_cons, List.length_append, ih]; simp; omega
theorem qcells_app (n : Nat) (zs ys : List Nat) : qcells n (zs ++ ys) = qcells n zs ++ qcells n ys := by unfold qcells; rw [List.flatMap_append]
theorem qcells_get (n : Nat) : ∀ (zs : List Nat) (k : Nat) (hk : k < zs.length),
    (qcells n zs)[k * 4]? = some (.int .i64 (ctz zs[k])) ∧ (qcells n zs)[k * 4 + 1]? = some (.bool (onB zs[k])) ∧ (qcells n zs)[k * 4 + 2]? = some (.int .i64 n) ∧ (qcells n zs)[k * 4 + 3]? = some (.int .u64 zs[k]) := by
  intro zs
  induction zs with
  | nil => intro k hk; simp at hk
  | cons z zs ih =>
    intro k hk
    have e : qcells n (z :: zs) = [.int .i64 (ctz z), .bool (onB z), .int .i64 n, .int .u64 z] ++ qcells n zs := by unfold qcells; rw [List.flatMap_cons]
    rw [e]
    cases k with
    | zero => simp
    | succ k =>
      have h := ih k (by simpa using hk)
      have f : ∀ o, ([.int .i64 (ctz z), .bool (onB z), .int .i64 n, .int .u64 z] ++ qcells n zs : List Value)[(k + 1) * 4 + o]? = (qcells n zs)[k * 4 + o]? := fun o => by
        rw [List.getElem?_append_right (by simp; omega)]
        congr 1
        simp; omega
      have f0 := f 0
      simp only [Nat.add_zero] at f0
      simp only [List.getElem_cons_succ]
      rw [f0, f 1, f 2, f 3]
      exact h
/-- the value v owns the bars of n rings, in memory from block B on -/
def OwnQ (w : World) (B : Nat) (v : Value) (n : Nat) (zs : List Nat) : Prop := w.ownsRow B 50 4 v zs.length (qcells n zs)
theorem OwnQ.form {w : World} {B : Nat} {v : Value} {n : Nat} {zs : List Nat} (h : OwnQ w B v n zs) (h0 : zs ≠ []) :
    ∃ g cap, v = .slice (some ⟨g, 0, none⟩) zs.length cap ∧ B ≤ g ∧ g < w.heap.size ∧ (∀ k (hk : k < zs.length), w.cell? ⟨g, k * 4, none⟩ = some (.int .i64 (ctz zs[k])) ∧ w.cell? ⟨g, k * 4 + 1, none⟩ = some (.bool (onB zs[k])) ∧ w.cell? ⟨g, k * 4 + 2, none⟩ = some (.int .i64 n) ∧ w.cell? ⟨g, k * 4 + 3, none⟩ = some (.int .u64 zs[k])) ∧ zs.length ≤ maxLen := by
  have h' : w.ownsRow B 50 4 v zs.length (qcells n zs) := h
  rcases h.2 with ⟨_, h2⟩ | ⟨g, cap, cur, rfl, hg, hh, hn, hc, _, _⟩
  · exact absurd (List.length_eq_zero_iff.1 h2) h0
  · refine ⟨g, cap, rfl, hg, lt_of_block hh, fun k hk => ?_, Nat.le_trans hn hc⟩
    obtain ⟨a, b, c, d⟩ := qcells_get n zs k hk
    refine ⟨?_, ?_, ?_, ?_⟩
    · rw [h'.cellAt (k * 4) (by omega)]; exact a
    · rw [h'.cellAt (k * 4 + 1) (by omega)]; exact b
    · rw [h'.cellAt (k * 4 + 2) (by omega)]; exact c
    · rw [h'.cellAt (k * 4 + 3) (by omega)]; exact d
theorem OwnQ.lt {w : World} {B : Nat} {v : Value} {n : Nat} {zs : List Nat} (h : OwnQ w B v n zs) : ∀ k, v.ownBlock = some k → B ≤ k ∧ k < w.heap.size := World.ownsRow.lt h
theorem OwnQ.kept {w w' : World} {B : Nat} {v : Value} {n : Nat} {zs : List Nat} {row : Option Nat} (h : OwnQ w B v n zs) (hg : w.grownBy w' row) (hne : v.ownBlock = none ∨ v.ownBlock ≠ row) : OwnQ w' B v n zs := World.ownsRow.kept h hg hne
theorem OwnQ.below {w w' : World} {B : Nat} {v : Value} {n : Nat} {zs : List Nat} (h : OwnQ w B v n zs) (hb : Below w.heap.size w w') : OwnQ w' B v n zs := by
  refine h.kept (grown_of_below hb) ?_
  cases hv : v.ownBlock
  · left; rfl
  · right; simp
/-- blocks of different kinds differ -/
theorem own_ne_type {w : World} {B C s t n m : Nat} {e f : TypeId} {v u : Value} {xs ys : List Value} (h : w.ownsRow B e s v n xs) (k : w.ownsRow C f t u m ys) (hef : e ≠ f) : v.ownBlock = none ∨ v.ownBlock ≠ u.ownBlock := by
  rcases h.2 with ⟨rfl, _⟩ | ⟨g, cap, cur, rfl, _, hh, _⟩
  · left; rfl
  · right
    rcases k.2 with ⟨rfl, _⟩ | ⟨g', cap', cur', rfl, _, hh', _⟩
    · intro e; cases e
    · intro e
      obtain rfl : g = g' := Option.some.inj e
      rw [hh] at hh'
      simp at hh'
      exact hef hh'.2
theorem own_ne_obj {w : World} {B s n g : Nat} {e f : TypeId} {v : Value} {xs : List Value} {c : Array Value} (h : w.ownsRow B e s v n xs) (k : w.heap[g]? = some (.cells c f (0, 0))) (hef : e ≠ f) : v.ownBlock ≠ some g := by
  rcases h.2 with ⟨rfl, _⟩ | ⟨g', cap, cur, rfl, _, hh, _⟩
  · intro e; cases e
  · intro e
    obtain rfl : g' = g := Option.some.inj e
    rw [hh] at k
    simp at k
    exact hef k.2
theorem barInfo : (Tryd.prog.info? 50).map (fun i => (i.zero, i.size, i.bytes)) = some (some (.agg #[.int .i64 0, .bool false, .int .i64 0, .int .u64 0]), 4, 32) := by kernel_rfl
theorem app_bar (w : World) {ops : Array Oper} {rest : List Oper} {o : Oper} {a : Act} {Q : Exit → Act → World → Prop} (hgd : o.guard = none) (s x : Operand)
    (ho : o.op = .call { callee := .builtin .append, args := #[s, x], argTypes := #[79, 79] })
    (B : Nat) (v : Value) (n : Nat) (zs : List Nat) (hs : a.eval s = v) (hown : OwnQ w B v n zs) (g z : Nat) (hx : a.eval x = .slice (some ⟨g, 0, none⟩) 1 1)
    (hcell : w.heap[g]? = some (barO n z)) (hlen : zs.length ≤ 1000000) (hB : B ≤ w.heap.size)
    (h : ∀ v' w', OwnQ w' B v' n (zs ++ [z]) → w.grownBy w' v.ownBlock → (v'.ownBlock = v.ownBlock ∨ v'.ownBlock = some w.heap.size) → wpList Tryd.prog ops Q rest (a.put o.dst v') w') : wpList Tryd.prog ops Q (o :: rest) a w := by
  obtain ⟨i0, hi, hz0, hz1, hz2⟩ := info_parts barInfo
  obtain ⟨c0, c1, c2, c3⟩ := (bar_cells hcell).1
  refine wpList_append_own_at w hgd s x 79 ho B 50 i0 (.agg #[.int .i64 0, .bool false, .int .i64 0, .int .u64 0]) 4 32 Tryd.underlying79 hi hz0 hz1 hz2 rfl (by decide) v zs.length (qcells n zs) hs hown ⟨g, 0, none⟩ 1 1 (qcells n [z]) hx (by rw [qcells_len]; rfl) ?_ ?_ (by unfold maxLen; omega) (by omega) hB ?_
  · intro j u hj
    match j, hj with
    | 0, hj => simp [qcells] at hj; subst hj; simpa [Addr.add] using c0
    | 1, hj => simp [qcells] at hj; subst hj; simpa [Addr.add] using c1
    | 2, hj => simp [qcells] at hj; subst hj; simpa [Addr.add] using c2
    | 3, hj => simp [qcells] at hj; subst hj; simpa [Addr.add] using c3
    | j + 4, hj => simp [qcells] at hj
  · intro u hu; simp [qcells] at hu; rcases hu with rfl | rfl | rfl | rfl <;> rfl
  · intro v' w' h1 h2 _ h4
    refine h v' w' ?_ h2 h4
    unfold OwnQ
    rw [qcells_app, List.length_append]; exact h1
/-- the object that holds what a search has found -/
abbrev fndO (n N gm gw : Nat) : Obj := .cells #[.int .i64 n, .slice (some ⟨gm, 0, none⟩) N N, .slice (some ⟨gw, 0, none⟩) N N] 61
theorem fnd_cells {w : World} {g n N gm gw : Nat} (h : w.heap[g]? = some (fndO n N gm gw)) : (w.cell? ⟨g, 0, none⟩ = some (.int .i64 n) ∧ w.cell? ⟨g, 1, none⟩ = some (.slice (some ⟨gm, 0, none⟩) N N) ∧ w.cell? ⟨g, 2, none⟩ = some (.slice (some ⟨gw, 0, none⟩) N N)) ∧ ∀ o, w.frozen? ⟨g, o, none⟩ = false := by
  refine ⟨?_, ?_⟩
  · simp [World.cell?, h, fndO]
  · intro o; simp [World.frozen?, h, fndO]
/-- what a search holds in memory: what has been found, and the queue -/
structure SI (B : Nat) (w0 w : World) (n N gf gm gw : Nat) (q : Value) (Q : List Nat) (M W : List Int) : Prop where
  fnd : w.heap[gf]? = some (fndO n N gm gw)
  mv : OwnI w B (.slice (some ⟨gm, 0, none⟩) N N) M
  wy : OwnI w B (.slice (some ⟨gw, 0, none⟩) N N) W
  qu : OwnQ w B q n Q
  ne : gm ≠ gw
  bel : Below B w0 w
  le : B ≤ w.heap.size
theorem SI.below {B : Nat} {w0 w w' : World} {n N gf gm gw : Nat} {q : Value} {Q : List Nat} {M W : List Int} (h : SI B w0 w n N gf gm gw q Q M W) (hb : Below w.heap.size w w') : SI B w0 w' n N gf gm gw q Q M W :=
  ⟨(hb.block gf (lt_of_block h.fnd)).trans h.fnd, h.mv.below hb, h.wy.below hb, h.qu.below hb, h.ne, h.bel.trans (hb.mono h.le), Nat.le_trans h.le hb.size⟩
theorem SI.storeM {B : Nat} {w0 w : World} {n N gf gm gw : Nat} {q : Value} {Q : List Nat} {M W : List Int} (h : SI B w0 w n N gf gm gw q Q M W) (hM : M.length = N) (k : Nat) (y : Int) : SI B w0 (w.setCell ⟨gm, k, none⟩ (.int .i64 y)) n N gf gm gw q Q (M.set k y) W := by
  obtain ⟨hs, hg⟩ := h.mv.stored hM k y
  have hm := (h.mv.lt gm rfl)
  refine ⟨?_, hs, h.wy.kept hg (.inr fun e => h.ne (Option.some.inj e).symm), h.qu.kept hg (own_ne_type h.qu h.mv (by decide)), h.ne, h.bel.setCell hm.1 _, by simpa using h.le⟩
  rw [hg.block gf (lt_of_block h.fnd) (fun e => own_ne_obj h.mv h.fnd (by decide) e.symm)]; exact h.fnd
theorem SI.storeW {B : Nat} {w0 w : World} {n N gf gm gw : Nat} {q : Value} {Q : List Nat} {M W : List Int} (h : SI B w0 w n N gf gm gw q Q M W) (hW : W.length = N) (k : Nat) (y : Int) : SI B w0 (w.setCell ⟨gw, k, none⟩ (.int .i64 y)) n N gf gm gw q Q M (W.set k y) := by
  obtain ⟨hs, hg⟩ := h.wy.stored hW k y
  have hm := (h.wy.lt gw rfl)
  refine ⟨?_, h.mv.kept hg (.inr fun e => h.ne (Option.some.inj e)), hs, h.qu.kept hg (own_ne_type h.qu h.wy (by decide)), h.ne, h.bel.setCell hm.1 _, by simpa using h.le⟩
  rw [hg.block gf (lt_of_block h.fnd) (fun e => own_ne_obj h.wy h.fnd (by decide) e.symm)]; exact h.fnd
theorem SI.push {B : Nat} {w0 w w' : World} {n N gf gm gw : Nat} {q q' : Value} {Q : List Nat} {z : Nat} {M W : List Int} (h : SI B w0 w n N gf gm gw q Q M W) (hq : OwnQ w' B q' n (Q ++ [z])) (hg : w.grownBy w' q.ownBlock) : SI B w0 w' n N gf gm gw q' (Q ++ [z]) M W := by
  refine ⟨?_, h.mv.kept hg (own_ne_type h.mv h.qu (by decide)), h.wy.kept hg (own_ne_type h.wy h.qu (by decide)), hq, h.ne, h.bel.grown hg h.le (fun k e => (h.qu.lt k e).1), Nat.le_trans h.le hg.size⟩
  rw [hg.block gf (lt_of_block h.fnd) (fun e => own_ne_obj h.qu h.fnd (by decide) e.symm)]; exact h.fnd
/-- and while the moves of one state are tried: the state's bar, and the row of its moves -/
structure SJ (B : Nat) (w0 w : World) (n N gf gm gw : Nat) (q : Value) (Q : List Nat) (M W : List Int) (ga g : Nat) (v : Value) (Bv : Nat) (pm : List Int) : Prop where
  si : SI B w0 w n N gf gm gw q Q M W
  bar : w.heap[ga]? = some (barO n g)
  vm : OwnI w Bv v pm
  qa : q.ownBlock ≠ some ga
  hm : gm < Bv
  hw : gw < Bv
section
variable {B : Nat} {w0 w w' : World} {n N gf gm gw : Nat} {q q' : Value} {Q : List Nat} {M W : List Int} {ga g : Nat} {v : Value} {Bv : Nat} {pm : List Int}
theorem SJ.below (h : SJ B w0 w n N gf gm gw q Q M W ga g v Bv pm) (hb : Below w.heap.size w w') : SJ B w0 w' n N gf gm gw q Q M W ga g v Bv pm :=
  ⟨h.si.below hb, (hb.block ga (lt_of_block h.bar)).trans h.bar, h.vm.below hb, h.qa, h.hm, h.hw⟩
theorem SJ.storeM (h : SJ B w0 w n N gf gm gw q Q M W ga g v Bv pm) (hM : M.length = N) (k : Nat) (y : Int) : SJ B w0 (w.setCell ⟨gm, k, none⟩ (.int .i64 y)) n N gf gm gw q Q (M.set k y) W ga g v Bv pm := by
  have hg := (h.si.mv.stored hM k y).2
  refine ⟨h.si.storeM hM k y, ?_, h.vm.kept hg ?_, h.qa, h.hm, h.hw⟩
  · rw [hg.block ga (lt_of_block h.bar) (fun e => own_ne_obj h.si.mv h.bar (by decide) e.symm)]; exact h.bar
  · cases e : v.ownBlock with
    | none => left; rfl
    | some a => right; intro e2; have := (h.vm.lt a e).1; have := h.hm; have := Option.some.inj e2; omega
theorem SJ.storeW (h : SJ B w0 w n N gf gm gw q Q M W ga g v Bv pm) (hW : W.length = N) (k : Nat) (y : Int) : SJ B w0 (w.setCell ⟨gw, k, none⟩ (.int .i64 y)) n N gf gm gw q Q M (W.set k y) ga g v Bv pm := by
  have hg := (h.si.wy.stored hW k y).2
  refine ⟨h.si.storeW hW k y, ?_, h.vm.kept hg ?_, h.qa, h.hm, h.hw⟩
  · rw [hg.block ga (lt_of_block h.bar) (fun e => own_ne_obj h.si.wy h.bar (by decide) e.symm)]; exact h.bar
  · cases e : v.ownBlock with
    | none => left; rfl
    | some a => right; intro e2; have := (h.vm.lt a e).1; have := h.hw; have := Option.some.inj e2; omega
theorem SJ.push {z : Nat} (h : SJ B w0 w n N gf gm gw q Q M W ga g v Bv pm) (hq : OwnQ w' B q' n (Q ++ [z])) (hg : w.grownBy w' q.ownBlock) (hat : q'.ownBlock = q.ownBlock ∨ q'.ownBlock = some w.heap.size) : SJ B w0 w' n N gf gm gw q' (Q ++ [z]) M W ga g v Bv pm := by
  have hl := lt_of_block h.bar
  refine ⟨h.si.push hq hg, ?_, h.vm.kept hg (own_ne_type h.vm h.si.qu (by decide)), ?_, h.hm, h.hw⟩
  · rw [hg.block ga hl (fun e => h.qa e.symm)]; exact h.bar
  · rcases hat with e | e
    · rw [e]; exact h.qa
    · rw [e]; intro e2; have := Option.some.inj e2; omega
theorem SJ.qlt (h : SJ B w0 w n N gf gm gw q Q M W ga g v Bv pm) {b : Nat} (hb : w.heap.size ≤ b) : q.ownBlock ≠ some b := by
  intro e; have := (h.si.qu.lt _ e).2; omega
/-- another bar in memory is kept, too -/
theorem SJ.keepM {b z : Nat} (h : SJ B w0 w n N gf gm gw q Q M W ga g v Bv pm) (hM : M.length = N) (k : Nat) (y : Int) (hb : w.heap[b]? = some (barO n z)) : (w.setCell ⟨gm, k, none⟩ (.int .i64 y)).heap[b]? = some (barO n z) := by
  rw [((h.si.mv.stored hM k y).2).block b (lt_of_block hb) (fun e => own_ne_obj h.si.mv hb (by decide) e.symm)]; exact hb
end
theorem own_slit (w : World) (n z : Nat) (B : Nat) (hB : B ≤ w.heap.size) : OwnQ (w.alloc (barO n z)) B (.slice (some ⟨w.heap.size, 0, none⟩) 1 1) n [z] :=
  ⟨by rw [qcells_len], .inr ⟨_, 1, _, rfl, hB, alloc_at _ _, Nat.le_refl _, by decide, rfl, rfl⟩⟩
end Go.Proofs.YtmbijomjilicgabDoor
