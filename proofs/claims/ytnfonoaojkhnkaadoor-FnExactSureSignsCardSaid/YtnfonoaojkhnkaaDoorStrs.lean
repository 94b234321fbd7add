/- Rows of texts of the call's own. -/
import Derived.Test.YtnfonoaojkhnkaaDoorInts
import Derived.Test.YtnfonoaojkhnkaaDoorMark
import Derived.Test.YtnfonoaojkhnkaaDoorA1
import Derived.OneCell
import Derived.Deep.RegionHeld3
import Derived.BigRegion
namespace Go.Proofs.YtnfonoaojkhnkaaDoor
open Go Go.RowKit RM

abbrev vtxt (xs : List ByteArray) : List Value := xs.map (Value.string)
/-- the value v owns the integers xs, in memory from block B on -/
def OwnT (w : World) (B : Nat) (v : Value) (xs : List ByteArray) : Prop := w.ownsRow B 9 1 v xs.length (vtxt xs)

theorem OwnT.form {w : World} {B : Nat} {v : Value} {xs : List ByteArray} (h : OwnT w B v xs) :
    (v = .slice none 0 0 ∧ xs = []) ∨ ∃ g cap, v = .slice (some ⟨g, 0, none⟩) xs.length cap ∧ B ≤ g ∧ g < w.heap.size ∧ (∀ k (hk : k < xs.length), w.cell? ⟨g, k, none⟩ = some (.string xs[k])) ∧ (∀ k, w.frozen? ⟨g, k, none⟩ = false) ∧ xs.length ≤ maxLen := by
  have h0 : w.ownsRow B 9 1 v xs.length (vtxt xs) := h
  rcases h.2 with ⟨h1, h2⟩ | ⟨g, cap, cur, rfl, hg, hh, hn, hc, _, _⟩
  · left; exact ⟨h1, List.length_eq_zero_iff.1 h2⟩
  · right
    refine ⟨g, cap, rfl, hg, lt_of_block hh, fun k hk => ?_, fun k => h0.frozenAt k, Nat.le_trans hn hc⟩
    rw [h0.cellAt k (by omega)]
    simp [vtxt, List.getElem?_eq_getElem hk]

theorem OwnT.lt {w : World} {B : Nat} {v : Value} {xs : List ByteArray} (h : OwnT w B v xs) : ∀ k, v.ownBlock = some k → B ≤ k ∧ k < w.heap.size := World.ownsRow.lt h
theorem OwnT.kept {w w' : World} {B : Nat} {v : Value} {xs : List ByteArray} {row : Option Nat} (h : OwnT w B v xs) (hg : w.grownBy w' row) (hne : v.ownBlock = none ∨ v.ownBlock ≠ row) : OwnT w' B v xs := World.ownsRow.kept h hg hne
theorem grown_of_belowT {w w' : World} (h : Below w.heap.size w w') : w.grownBy w' none := ⟨h.os, h.tape, h.output, h.size, fun k hk _ => h.block k hk⟩
theorem OwnT.below {w w' : World} {B : Nat} {v : Value} {xs : List ByteArray} (h : OwnT w B v xs) (hb : Below w.heap.size w w') : OwnT w' B v xs := by
  refine h.kept (grown_of_belowT hb) ?_
  cases hv : v.ownBlock
  · left; rfl
  · right; simp
theorem OwnT.drewN {w : World} {B : Nat} {v : Value} {xs : List ByteArray} (h : OwnT w B v xs) (q : Nat) : OwnT (w.drewN q) B v xs := h.below (below_drewN (Below.refl _ _) q)
theorem OwnT.mono {w : World} {B C : Nat} {v : Value} {xs : List ByteArray} (h : OwnT w B v xs) (hc : C ≤ B) : OwnT w C v xs := by
  obtain ⟨a, b⟩ := h
  refine ⟨a, ?_⟩
  rcases b with b | ⟨g, cap, cur, h1, h2, h3⟩
  · exact .inl b
  · exact .inr ⟨g, cap, cur, h1, by omega, h3⟩
/-- another's row is kept by a mark: rows from different places differ -/
theorem own_neT {w : World} {B C : Nat} {v u : Value} {xs ys : List ByteArray} (_ : OwnT w B v xs) (hv : ∀ k, v.ownBlock = some k → k < C) (k : OwnT w C u ys) : v.ownBlock = none ∨ v.ownBlock ≠ u.ownBlock := by
  cases e : v.ownBlock with
  | none => left; rfl
  | some a =>
    right
    intro e2
    have := (k.lt a e2.symm).1
    have := hv a e
    omega

theorem strInfo : (Tryd.prog.info? 9).map (fun i => (i.zero, i.size, i.bytes)) = some (some (.string ⟨#[]⟩), 1, 16) := by kernel_rfl
theorem OwnT.alloc {w : World} {B : Nat} {v : Value} {xs : List ByteArray} (h : OwnT w B v xs) (o : Obj) : OwnT (w.alloc o) B v xs := World.ownsRow.alloc h o
theorem OwnT.nil (w : World) (B : Nat) : OwnT w B (.slice none 0 0) [] := World.ownsRow_nil _ _ _ _
theorem OwnT.size {w : World} {B : Nat} {v : Value} {xs : List ByteArray} (h : OwnT w B v xs) (n : Nat) (hn : xs.length = n) : w.ownsRow B 9 1 v n (vtxt xs) := by subst hn; exact h

/-- 'append(out, y)' onto a row of integers of the call's own -/
theorem app_txt (w : World) {ops : Array Oper} {rest : List Oper} {o : Oper} {a : Act} {Q : Exit → Act → World → Prop} (hgd : o.guard = none) (s x : Operand)
    (ho : o.op = .call { callee := .builtin .append, args := #[s, x], argTypes := #[42, 42] })
    (B : Nat) (v : Value) (xs : List ByteArray) (hs : a.eval s = v) (hown : OwnT w B v xs) (g : Nat) (y : ByteArray) (hx : a.eval x = .slice (some ⟨g, 0, none⟩) 1 1)
    (hcell : w.cell? ⟨g, 0, none⟩ = some (.string y)) (hlen : xs.length ≤ 2000000) (hB : B ≤ w.heap.size)
    (h : ∀ v' w', OwnT w' B v' (xs ++ [y]) → w.grownBy w' v.ownBlock → wpList Tryd.prog ops Q rest (a.put o.dst v') w') : wpList Tryd.prog ops Q (o :: rest) a w := by
  obtain ⟨i0, hi, hz0, hz1, hz2⟩ := info_parts strInfo
  refine wpList_append_own w hgd s x 42 ho B 9 i0 (.string ⟨#[]⟩) 1 16 Tryd.underlying42 hi hz0 hz1 hz2 rfl (by decide) v xs.length (vtxt xs) hs hown ⟨g, 0, none⟩ 1 1 [.string y] hx rfl ?_ ?_ (by unfold maxLen; omega) (by omega) hB ?_
  · intro j u hj
    match j, hj with
    | 0, hj => simp at hj; subst hj; simpa [Addr.add] using hcell
    | j + 1, hj => simp at hj
  · intro u hu; simp at hu; subst hu; rfl
  · intro v' w' h1 h2 _
    refine h v' w' ?_ h2
    unfold OwnT
    have e : vtxt (xs ++ [y]) = vtxt xs ++ [.string y] := by simp [vtxt]
    rw [e, List.length_append]; exact h1
theorem bel_ownT {B : Nat} {a w w' : World} {v : Value} {xs : List ByteArray} (h : Below B a w) (ho : OwnT w B v xs) (hg : w.grownBy w' v.ownBlock) (hB : B ≤ w.heap.size) : Below B a w' := h.grown hg hB fun k e => (ho.lt k e).1

/-- a call hands back integers in memory of its own, and whether it succeeds -/
def RetT (w : World) (xs : List ByteArray) (ok : Bool) (e : Ending) (w' : World) : Prop := ∃ v, e = .returned (.tuple #[v, .bool ok]) ∧ OwnT w' w.heap.size v xs ∧ Below w.heap.size w w'

/-- a store into such a row -/
theorem OwnT.stored {w : World} {B g n cap : Nat} {xs : List ByteArray} (h : OwnT w B (.slice (some ⟨g, 0, none⟩) n cap) xs) (hn : xs.length = n) (k : Nat) (y : ByteArray) :
    OwnT (w.setCell ⟨g, k, none⟩ (.string y)) B (.slice (some ⟨g, 0, none⟩) n cap) (xs.set k y) ∧ w.grownBy (w.setCell ⟨g, k, none⟩ (.string y)) (some g) := by
  have h' : w.ownsRow B 9 1 (.slice (some ⟨g, 0, none⟩) n cap) n (vtxt xs) := h.size n hn
  obtain ⟨a, b⟩ := h'.stored k (.string y)
  refine ⟨?_, b⟩
  unfold OwnT
  have e : vtxt (xs.set k y) = (vtxt xs).set k (.string y) := by simp [vtxt, List.map_set]
  rw [e, List.length_set, hn]; exact a
theorem OwnT.cell {w : World} {B g n cap : Nat} {xs : List ByteArray} (h : OwnT w B (.slice (some ⟨g, 0, none⟩) n cap) xs) (hn : xs.length = n) (k : Nat) (hk : k < xs.length) :
    w.cell? ⟨g, k, none⟩ = some (.string xs[k]) ∧ w.frozen? ⟨g, k, none⟩ = false := by
  have h' : w.ownsRow B 9 1 (.slice (some ⟨g, 0, none⟩) n cap) n (vtxt xs) := h.size n hn
  refine ⟨?_, h'.frozenAt k⟩
  rw [h'.cellAt k (by omega)]
  simp [vtxt, List.getElem?_eq_getElem hk]

theorem eqStringS_nil (pa pb : Option Addr) (ca cb : Nat) (w : World) :
    Calls Tryd.prog 23 #[.slice pa 0 ca, .slice pb 0 cb] w fun e w' => e = .returned (.bool true) ∧ ∃ q, w' = w.drewN q := by
  go_enter Tryd.func23, Tryd.ntmps23
  go_wp2
  go_loopw [5] (fun i wr => i = .int .i64 0 ∧ wr = w) (fun _ _ => 0)
  case atStart => exact ⟨rfl, rfl⟩
  case round =>
    obtain ⟨rfl, rfl⟩ := hrel
    go_wp2
    go_ret; exact ⟨rfl, 0, rfl⟩
theorem eqStringS_some (ga gb n ca cb : Nat) (xs : List ByteArray) (w : World) (hn : n ≤ maxLen) (hx : Hid (xs.length = n))
    (ha : Hid (∀ k (hk : k < xs.length), w.cell? ⟨ga, k, none⟩ = some (.string xs[k]))) (hc : Hid (∀ k (hk : k < xs.length), w.cell? ⟨gb, k, none⟩ = some (.string xs[k]))) :
    Calls Tryd.prog 23 #[.slice (some ⟨ga, 0, none⟩) n ca, .slice (some ⟨gb, 0, none⟩) n cb] w fun e w' => e = .returned (.bool true) ∧ ∃ q, w' = w.drewN q := by
  unfold maxLen at hn
  go_enter Tryd.func23, Tryd.ntmps23
  go_wp2
  go_loopw [5] (fun i wr => ∃ k q : Nat, k ≤ n ∧ i = .int .i64 k ∧ wr = w.drewN q) (fun i _ => n - (intOf i).toNat)
  case atStart => exact ⟨0, 0, by omega, rfl, rfl⟩
  case round =>
    obtain ⟨k, q, hk, rfl, rfl⟩ := hrel
    by_cases hlt : k < n
    · have h1 := ha.out k (by rw [hx.out]; exact hlt)
      have h2 := hc.out k (by rw [hx.out]; exact hlt)
      generalize xs[k]'(by rw [hx.out]; exact hlt) = x at *
      have hne : (x.toList == x.toList) = true := by simp
      go_wp2
      go_quiet (fail)
      go_wp2
      go_roundw
      case rel => exact ⟨k + 1, q + nq, by omega, by go_num, rfl⟩
      all_goals (simp [intOf] <;> omega)
    · go_wp2
      go_ret; exact ⟨rfl, q, rfl⟩
theorem eqStringS_same (va vb : Value) (xs : List ByteArray) (A B : Nat) (w : World) (ha : OwnT w A va xs) (hb : OwnT w B vb xs) :
    Calls Tryd.prog 23 #[va, vb] w fun e w' => e = .returned (.bool true) ∧ ∃ q, w' = w.drewN q := by
  rcases ha.form with ⟨rfl, rfl⟩ | ⟨g, cap, rfl, _, _, hc, _, hm⟩
  · rcases hb.form with ⟨rfl, _⟩ | ⟨g', cap', rfl, _, _, hc', _, hm'⟩
    · exact eqStringS_nil _ _ _ _ _
    · exact eqStringS_nil _ _ _ _ _
  · rcases hb.form with ⟨rfl, rfl⟩ | ⟨g', cap', rfl, _, _, hc', _, hm'⟩
    · exact eqStringS_nil _ _ _ _ _
    · exact eqStringS_some g g' _ _ _ xs w hm (Lib.hid rfl) (Lib.hid hc) (Lib.hid hc')

theorem keepS {w a b : World} {g k : Nat} {u : Value} (h2 : Below a.heap.size a b) (h : a.cell? ⟨g, k, none⟩ = some u ∧ g < a.heap.size ∧ Below w.heap.size w a) : b.cell? ⟨g, k, none⟩ = some u ∧ g < b.heap.size ∧ Below w.heap.size w b :=
  ⟨by rw [h2.cell (p := ⟨g, k, none⟩) h.2.1]; exact h.1, Nat.lt_of_lt_of_le h.2.1 h2.size, bt h.2.2 h2⟩
theorem keepF {w a : World} {g k : Nat} {u : Value} (h : a.cell? ⟨g, k, none⟩ = some u ∧ g < a.heap.size ∧ Below w.heap.size w a) : Below w.heap.size w a := h.2.2
/-- the marks -/
def marksT (n : Nat) : List ByteArray := (List.range n).map fun (i : Nat) => mkT (1 + i)
theorem marksT_len (n : Nat) : (marksT n).length = n := by simp [marksT]
theorem marksT_get (n k : Nat) (h : k < (marksT n).length) : (marksT n)[k] = mkT (1 + k) := by simp [marksT]

theorem heldStringS_some (g n cap : Nat) (w : World) (hn : n ≤ 2000000) (hl : g < w.heap.size) (hc : Hid (∀ k, k < n → w.cell? ⟨g, k, none⟩ = some (.string (mkT (1 + k))))) :
    Calls Tryd.prog 26 #[.slice (some ⟨g, 0, none⟩) n cap, .int .i64 1] w fun e w' => e = .returned (.int .i64 (1 + (n : Int))) ∧ Below w.heap.size w w' := by
  go_enter Tryd.func26, Tryd.ntmps26
  go_wp2
  go_loopw [1, 5] (fun m i wr => ∃ k : Nat, k ≤ n ∧ i = .int .i64 k ∧ m = .int .i64 (1 + (k : Int)) ∧ Hid (Below w.heap.size w wr)) (fun _ i _ => n - (intOf i).toNat)
  case atStart => exact ⟨0, by omega, rfl, rfl, Below.refl _ _⟩
  case round =>
    obtain ⟨k, hk, rfl, rfl, hb⟩ := hrel
    by_cases hlt : k < n
    · have h1 : wr.cell? ⟨g, k, none⟩ = some (.string (mkT (1 + k))) := by
        rw [hb.out.cell (p := ⟨g, k, none⟩) hl]; exact hc.out k hlt
      have HM := Lib.hid fun w => markText_any (1 + k) w (by omega) (by omega)
      have hcast : (((1 + k : Nat) : Int)) = 1 + (k : Int) := by omega
      rw [hcast] at HM
      generalize mkT (1 + k) = t at *
      have hne : (t.toList == t.toList) = true := by simp
      have hgl : g < wr.heap.size := Nat.lt_of_lt_of_le hl hb.out.size
      go_wp2_with fail
      go_region_held3 (fun v => v.cell? ⟨g, k, none⟩ = some (.string t) ∧ g < v.heap.size ∧ Below w.heap.size w v) ((first | assumption | (refine ⟨?_, ?_, ?_⟩ <;> first | assumption | go_keep | omega | exact hb.out.drew)))
        (first | (go_at_call 50; refine (HM.out _).mono ?_; rintro e w' ⟨rfl, hb2⟩; have hbn := keepS hb2 (by assumption)))
      all_goals
        have hfin := keepF (by assumption)
        go_wp2_with fail
        go_roundw
        case rel => exact ⟨k + 1, by omega, by go_num, vi (by omega), Lib.hid hfin⟩
        all_goals (simp [intOf] <;> omega)
    · obtain rfl : k = n := by omega
      go_wp2_with fail
      go_ret; exact ⟨rfl, hb.out⟩
theorem heldStringS_nil (p : Option Addr) (cap : Nat) (w : World) :
    Calls Tryd.prog 26 #[.slice p 0 cap, .int .i64 1] w fun e w' => e = .returned (.int .i64 1) ∧ w = w' := by
  go_enter Tryd.func26, Tryd.ntmps26
  go_wp2
  go_loop [1, 5] (fun m i => i = .int .i64 0 ∧ m = .int .i64 1) (fun _ _ => 0)
  case atStart => exact ⟨rfl, rfl⟩
  case round =>
    obtain ⟨rfl, rfl⟩ := hrel
    go_wp2
    go_ret; exact ⟨rfl, rfl⟩
theorem heldStringS_any (v : Value) (n B : Nat) (w : World) (hn : n ≤ 2000000) (h : OwnT w B v (marksT n)) :
    Calls Tryd.prog 26 #[v, .int .i64 1] w fun e w' => e = .returned (.int .i64 (1 + (n : Int))) ∧ Below w.heap.size w w' := by
  rcases h.form with ⟨rfl, h0⟩ | ⟨g, cap, rfl, _, hl, hc, _, _⟩
  · have : n = 0 := by rw [← marksT_len n, h0]; rfl
    subst this; exact (heldStringS_nil _ _ w).mono fun e w' ⟨a, b⟩ => ⟨a, by subst b; exact Below.refl _ _⟩
  · rw [marksT_len]
    exact heldStringS_some g n cap w hn hl (Lib.hid fun k hk => by rw [hc k (by rw [marksT_len]; exact hk), marksT_get])

theorem markStringS_some (g n cap B : Nat) (xs : List ByteArray) (w : World) (hx : xs.length = n) (hn : n ≤ 2000000) (hw : OwnT w B (.slice (some ⟨g, 0, none⟩) xs.length cap) xs) :
    Calls Tryd.prog 25 #[.slice (some ⟨g, 0, none⟩) n cap, .int .i64 1] w fun e w' => e = .returned (.int .i64 (1 + (n : Int))) ∧ OwnT w' B (.slice (some ⟨g, 0, none⟩) n cap) (marksT n) ∧ w.grownBy w' (some g) := by
  have hw0 : Hid (OwnT w B (.slice (some ⟨g, 0, none⟩) xs.length cap) xs) := Lib.hid hw
  have hxx := Lib.hid hx
  clear hw hx
  go_enter Tryd.func25, Tryd.ntmps25
  go_wp2
  go_loopw [1, 5] (fun m i wr => ∃ k : Nat, k ≤ n ∧ i = .int .i64 k ∧ m = .int .i64 (1 + (k : Int)) ∧ Hid (OwnT wr B (.slice (some ⟨g, 0, none⟩) n cap) (marksT k ++ xs.drop k)) ∧ Hid (w.grownBy wr (some g))) (fun _ i _ => n - (intOf i).toNat)
  case atStart => exact ⟨0, by omega, rfl, rfl, by have := hw0.out; rw [hxx.out] at this; exact this, World.grownBy.refl _ _⟩
  case round =>
    obtain ⟨k, hk, rfl, rfl, ho, hg⟩ := hrel
    by_cases hlt : k < n
    · have hlen : Hid ((marksT k ++ xs.drop k).length = n) := Lib.hid (by rw [List.length_append, marksT_len, List.length_drop, hxx.out]; omega)
      have hkl : k < (marksT k ++ xs.drop k).length := by rw [hlen.out]; exact hlt
      have HM := Lib.hid fun w => markText_any (1 + k) w (by omega) (by omega)
      have hcast : (((1 + k : Nat) : Int)) = 1 + (k : Int) := by omega
      rw [hcast] at HM
      have hset : Hid ((marksT k ++ xs.drop k).set k (mkT (1 + k)) = marksT (k + 1) ++ xs.drop (k + 1)) := Lib.hid (by
        have hd : xs.drop k = xs[k]'(by rw [hxx.out]; exact hlt) :: xs.drop (k + 1) := List.drop_eq_getElem_cons _
        rw [hd, List.set_append_right _ _ (by rw [marksT_len]; exact Nat.le_refl _), marksT_len, Nat.sub_self, List.set_cons_zero]
        unfold marksT
        rw [List.range_succ, List.map_append]
        simp)
      generalize mkT (1 + k) = t at *
      obtain ⟨hce0, hfr0⟩ := ho.out.cell hlen.out k hkl
      go_wp2_with fail
      refine (HM.out _).mono ?_; rintro e w2 ⟨rfl, hb2⟩
      have ho2 := Lib.hid (ho.out.below hb2)
      have hg2 := Lib.hid (Lib.grownBy_trans hg.out ⟨hb2.os, hb2.tape, hb2.output, hb2.size, fun j hj _ => hb2.block j hj⟩)
      have hb2 := Lib.hid hb2
      clear hce0 hfr0
      obtain ⟨hce, hfr⟩ := ho2.out.cell hlen.out k hkl
      have hst := Lib.hid (ho2.out.stored hlen.out k t)
      generalize (marksT k ++ xs.drop k)[k]'hkl = y9 at hce
      clear hkl
      go_wp2_with fail
      go_roundw
      case rel =>
        refine ⟨k + 1, by omega, by go_num, vi (by omega), Lib.hid ?_, Lib.hid (Lib.grownBy_trans hg2.out hst.out.2)⟩
        rw [← hset.out]; exact hst.out.1
      all_goals (simp [intOf] <;> omega)
    · obtain rfl : k = n := by omega
      go_wp2_with fail
      go_ret; exact ⟨rfl, by have := ho.out; rw [List.drop_of_length_le (by rw [hxx.out]; omega), List.append_nil] at this; exact this, hg.out⟩
theorem markStringS_nil (p : Option Addr) (cap : Nat) (w : World) :
    Calls Tryd.prog 25 #[.slice p 0 cap, .int .i64 1] w fun e w' => e = .returned (.int .i64 1) ∧ w = w' := by
  go_enter Tryd.func25, Tryd.ntmps25
  go_wp2
  go_loop [1, 5] (fun m i => i = .int .i64 0 ∧ m = .int .i64 1) (fun _ _ => 0)
  case atStart => exact ⟨rfl, rfl⟩
  case round =>
    obtain ⟨rfl, rfl⟩ := hrel
    go_wp2
    go_ret; exact ⟨rfl, rfl⟩
theorem markStringS_any (v : Value) (xs : List ByteArray) (B : Nat) (w : World) (hn : xs.length ≤ 2000000) (h : OwnT w B v xs) :
    Calls Tryd.prog 25 #[v, .int .i64 1] w fun e w' => e = .returned (.int .i64 (1 + (xs.length : Int))) ∧ OwnT w' B v (marksT xs.length) ∧ w.grownBy w' v.ownBlock := by
  rcases h.form with ⟨rfl, h0⟩ | ⟨g, cap, rfl, _, _, hc, _, _⟩
  · subst h0
    exact (markStringS_nil none 0 w).mono fun e w' ⟨he, hw⟩ => ⟨he, by subst hw; exact h, by subst hw; exact World.grownBy.refl _ _⟩
  · exact markStringS_some g xs.length cap B xs w rfl hn h
end Go.Proofs.YtnfonoaojkhnkaaDoor
