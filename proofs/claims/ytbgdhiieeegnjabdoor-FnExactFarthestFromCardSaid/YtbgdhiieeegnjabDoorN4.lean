/- WayTo: both ways. -/
import Derived.Test.YtbgdhiieeegnjabDoorN2
import Derived.Test.YtbgdhiieeegnjabDoorA5
import Derived.OneCell
namespace Go.Proofs.YtbgdhiieeegnjabDoor
open Go Go.RowKit RM

/-- the rings of the next j moves from x toward y -/
def wayL (y : Nat) : Nat → Nat → List Int
  | 0, _ => []
  | j + 1, x => (stepK x y : Int) :: wayL y j (x ^^^ 2 ^ stepK x y)
theorem wayL_len (y : Nat) : ∀ j x, (wayL y j x).length = j := by
  intro j
  induction j with
  | zero => intro x; rfl
  | succ j ih => intro x; show (wayL y j _).length + 1 = j + 1; rw [ih]
/-- how many moves lead from x to y -/
def dst (x y : Nat) : Nat := (num x - num y) + (num y - num x)
theorem dst_zero (y : Nat) : dst y y = 0 := by unfold dst; omega
theorem num_stp (x y : Nat) (h : x ≠ y) : num (x ^^^ 2 ^ stepK x y) = nxt x y := by rw [← nxt_step x y h, num_gray]
theorem dst_step (x y : Nat) (h : x ≠ y) : dst x y = dst (x ^^^ 2 ^ stepK x y) y + 1 := by
  have hne : num x ≠ num y := fun e => h (num_inj e)
  unfold dst; rw [num_stp x y h]; unfold nxt
  split
  · omega
  · split <;> omega
def lenOf : Value → Nat
  | .slice _ n _ => n
  | _ => 0
theorem OwnI.lenOf {w : World} {B : Nat} {v : Value} {xs : List Int} (h : OwnI w B v xs) : lenOf v = xs.length := by
  rcases h.form with ⟨rfl, rfl⟩ | ⟨g, cap, rfl, _⟩ <;> rfl
/-- the object that holds a bar -/
abbrev barO (n x : Nat) : Obj := .cells #[.int .i64 (ctz x), .bool (onB x), .int .i64 n, .int .u64 x] 44
theorem bar_cells {w : World} {g n x : Nat} (h : w.heap[g]? = some (barO n x)) : CellsOf w g n x ∧ ∀ o, w.frozen? ⟨g, o, none⟩ = false := by
  refine ⟨?_, ?_⟩
  · simp [CellsOf, World.cell?, h, barO]
  · intro o; simp [World.frozen?, h, barO]
theorem alloc_at (w : World) (o : Obj) : (w.alloc o).heap[w.heap.size]? = some o := by
  show (w.heap.push o)[w.heap.size]? = some o
  exact Array.getElem?_push_size
theorem OwnI.ne_bar {w : World} {B g n x : Nat} {v : Value} {xs : List Int} (h : OwnI w B v xs) (hg : w.heap[g]? = some (barO n x)) : v.ownBlock ≠ some g := by
  rcases h.2 with ⟨rfl, _⟩ | ⟨g', cap, cur, rfl, _, hh, _⟩
  · intro e; cases e
  · intro e
    obtain rfl : g' = g := Option.some.inj e
    rw [hh] at hg
    simp [barO] at hg
theorem alloc_at' (w : World) (o : Obj) (k : Nat) (h : w.heap.size = k) : (w.alloc o).heap[k]? = some o := by subst h; exact alloc_at w o
theorem OwnI.setO {w : World} {B g j : Nat} {v : Value} {xs : List Int} (h : OwnI w B v xs) (hne : v.ownBlock ≠ some g) {u : Value} : OwnI (w.setCell ⟨g, j, none⟩ u) B v xs := ownsRow_setCell_other (a := ⟨g, j, none⟩) h hne u
theorem grow_bar {w w' : World} {B g n z : Nat} {o : Value} {pre : List Int} {ob : Obj} (hg : (w.alloc ob).grownBy w' o.ownBlock) (ho : OwnI w B o pre) (h : w.heap[g]? = some (barO n z)) : w'.heap[g]? = some (barO n z) := by
  have hl : g < w.heap.size := lt_of_block h
  rw [hg.block g (by simp; omega) (fun e => ho.ne_bar h e.symm), Below.heap_alloc _ _ _ hl]; exact h

set_option maxRecDepth 100000 in
set_option maxHeartbeats 2000000 in
theorem iWay_up (a b : ByteArray) (n x y : Nat) (L : List Int) (P : Nat → Prop) (w : World) (h1 : 1 ≤ n) (hn : n ≤ 20) (hT : TabOk w) (hPx : P x) (R : Int) (hDx : dst x y ≤ 2000)
    (hL : Hid (L = wayL y (dst x y) x))
    (hPl : Hid (∀ z, P z → z < 2 ^ n))
    (hPs : Hid (∀ z, P z → z ≠ y → P (z ^^^ 2 ^ stepK z y)))
    (hPk : Hid (∀ z, P z → z ≠ y → stepK z y < n))
    (hK : Hid (∀ z w, P z → z ≠ y → Calls Tryd.prog 47 #[(.agg #[.int .i64 ((ctz (z) : Nat) : Int), .bool (onB (z)), .int .i64 ((n : Nat) : Int), .int .u64 ((z : Nat) : Int)])] w fun e w' => e = .returned (.int .i64 (stepK z y : Int)) ∧ Below w.heap.size w w'))
    (hA : Hid (∀ w, TabOk w → Calls Tryd.prog 27 #[.string a, .string b] w fun e w' => e = .returned (.tuple #[(.agg #[.int .i64 ((ctz (x) : Nat) : Int), .bool (onB (x)), .int .i64 ((n : Nat) : Int), .int .u64 ((x : Nat) : Int)]), (.agg #[.int .i64 ((ctz (y) : Nat) : Int), .bool (onB (y)), .int .i64 ((n : Nat) : Int), .int .u64 ((y : Nat) : Int)]), .bool true]) ∧ Below w.heap.size w w'))
    (hN : Hid (∀ w, Calls Tryd.prog 32 #[(.agg #[.int .i64 ((ctz (x) : Nat) : Int), .bool (onB (x)), .int .i64 ((n : Nat) : Int), .int .u64 ((x : Nat) : Int)]), (.agg #[.int .i64 ((ctz (y) : Nat) : Int), .bool (onB (y)), .int .i64 ((n : Nat) : Int), .int .u64 ((y : Nat) : Int)])] w fun e w' => e = .returned (.int .i64 R) ∧ Below w.heap.size w w'))
    (hC : Hid (∀ w, Calls Tryd.prog 31 #[.int .i64 R] w fun e w' => e = .returned (.bool true) ∧ w = w'))
    (hR : Hid (∀ w, Calls Tryd.prog 28 #[(.agg #[.int .i64 ((ctz (x) : Nat) : Int), .bool (onB (x)), .int .i64 ((n : Nat) : Int), .int .u64 ((x : Nat) : Int)]), (.agg #[.int .i64 ((ctz (y) : Nat) : Int), .bool (onB (y)), .int .i64 ((n : Nat) : Int), .int .u64 ((y : Nat) : Int)])] w fun e w' => e = .returned (.func (.func 47) #[] #[]) ∧ Below w.heap.size w w')) :
    Calls Tryd.prog 11 #[.string a, .string b] w fun e w' => RetI w L true e w' := by
  have hT := Lib.hid hT
  have hPx := Lib.hid hPx
  go_enter Tryd.func11, Tryd.ntmps11
  go_wp2_with fail
  refine (hA.out _ hT.out).mono ?_; rintro e w1 ⟨rfl, hb⟩
  have hT1 := Lib.hid (hT.out.below hb)
  have hb := Lib.hid hb
  go_wp2_with fail
  refine (hN.out _).mono ?_; rintro e w2 ⟨rfl, hb2⟩
  have hb2 := Lib.hid hb2
  have hs2 := hb2.out.size
  simp only [World.size_alloc] at hs2
  go_wp2_with fail
  refine (hC.out _).mono ?_; rintro e w3 ⟨rfl, rfl⟩
  have f2 : ∀ o, w2.cell? ⟨w1.heap.size, o, none⟩ = _ := fun o => hb2.out.cell (p := ⟨w1.heap.size, o, none⟩) (by simp; omega)
  have f3 : ∀ o, w2.cell? ⟨w1.heap.size + 1, o, none⟩ = _ := fun o => hb2.out.cell (p := ⟨w1.heap.size + 1, o, none⟩) (by simp)
  go_wp2_with fail
  refine (hR.out _).mono ?_; rintro e w3 ⟨rfl, hb3⟩
  have f4 : ∀ o, w3.cell? ⟨w1.heap.size, o, none⟩ = w2.cell? ⟨w1.heap.size, o, none⟩ := fun o => hb3.cell (p := ⟨w1.heap.size, o, none⟩) (by show w1.heap.size < w2.heap.size; omega)
  have f5 : ∀ o, w3.cell? ⟨w1.heap.size + 1, o, none⟩ = w2.cell? ⟨w1.heap.size + 1, o, none⟩ := fun o => hb3.cell (p := ⟨w1.heap.size + 1, o, none⟩) (by show w1.heap.size + 1 < w2.heap.size; omega)
  have hs3 := hb3.size
  have hT3 := Lib.hid ((((hT1.out.alloc _).alloc _).below hb2.out).below hb3)
  have hW3 := Lib.hid (bt (bt (bt (bt hb.out (ba _ _)) (ba _ _)) hb2.out) hb3)
  have hCy : Hid (CellsOf w3 (w1.heap.size + 1) n y) := Lib.hid (by unfold CellsOf; rw [f5, f5, f5, f5, f3, f3, f3, f3]; simp)
  have hb3 := Lib.hid hb3
  go_wp2_with fail
  clear f2 f3 f4 f5 hR hC hN hA hb hb2 hb3
  go_loopw [10, 11] (fun o p wr => ∃ z g pre, Hid (P z) ∧ p = .pointer (some ⟨g, 0, none⟩) ∧ w3.heap.size ≤ g ∧ Hid (L = pre ++ wayL y (dst z y) z) ∧ Hid (OwnI wr w3.heap.size o pre) ∧ Hid (wr.heap[g]? = some (barO n z)) ∧ Hid (Below w3.heap.size w3 wr)) (fun o _ _ => 2001 - lenOf o)
  case atStart => exact ⟨x, w3.heap.size, [], hPx, rfl, Nat.le_refl _, hL, OwnI.nil _ _, Lib.hid (alloc_at _ _), ba _ _⟩
  case round =>
    obtain ⟨z, g, pre, hPz, rfl, hg0, hpre, ho, hgz, hbw⟩ := hrel
    have hsw := hbw.out.size
    have hgl : g < wr.heap.size := lt_of_block hgz.out
    obtain ⟨⟨c0, c1, c2, c3⟩, cf⟩ := bar_cells hgz.out
    have hlo := ho.out.lenOf
    obtain ⟨d0, d1, d2, d3⟩ : CellsOf wr (w1.heap.size + 1) n y := by
      obtain ⟨r0, r1, r2, r3⟩ := hCy.out
      refine ⟨?_, ?_, ?_, ?_⟩
      · rw [hbw.out.cell (p := ⟨w1.heap.size + 1, 0, none⟩) (by show w1.heap.size + 1 < w3.heap.size; omega)]; exact r0
      · rw [hbw.out.cell (p := ⟨w1.heap.size + 1, 1, none⟩) (by show w1.heap.size + 1 < w3.heap.size; omega)]; exact r1
      · rw [hbw.out.cell (p := ⟨w1.heap.size + 1, 2, none⟩) (by show w1.heap.size + 1 < w3.heap.size; omega)]; exact r2
      · rw [hbw.out.cell (p := ⟨w1.heap.size + 1, 3, none⟩) (by show w1.heap.size + 1 < w3.heap.size; omega)]; exact r3
    by_cases hzy : z = y
    · subst hzy
      have hfin : Hid (L = pre) := Lib.hid (by rw [hpre.out, dst_zero]; simp [wayL])
      go_wp2_with fail
      go_ret2
      exact ⟨_, rfl, by rw [hfin.out]; exact ho.out.mono hW3.out.size, bt hW3.out hbw.out⟩
    · have hKz := Lib.hid fun w => hK.out z w hPz.out hzy
      have hkn := hPk.out z hPz.out hzy
      have hnext : Hid (L = (pre ++ [(stepK z y : Int)]) ++ wayL y (dst (z ^^^ 2 ^ stepK z y) y) (z ^^^ 2 ^ stepK z y)) := Lib.hid (by
        rw [hpre.out, dst_step z y hzy]; simp [wayL])
      have hPn := Lib.hid (hPs.out z hPz.out hzy)
      have hlen0 : Hid (pre.length + 1 ≤ 2000) := Lib.hid (by
        have e := congrArg List.length hnext.out
        have e2 := congrArg List.length hL.out
        rw [wayL_len] at e2
        simp at e; omega)
      have hzl := Nat.lt_of_lt_of_le (hPl.out z hPz.out) (pow20 hn)
      obtain ⟨k, hk⟩ : ∃ k, k = stepK z y := ⟨_, rfl⟩
      rw [← hk] at hKz hkn hnext hPn
      have hM := Lib.hid fun w hw => moved_any n z k w hzl (by omega) hw
      generalize z ^^^ 2 ^ k = z' at *
      clear hk
      go_wp2_with fail
      refine (hKz.out _).mono ?_; rintro e w4 ⟨rfl, hb4⟩
      have hs4 := hb4.size
      have hgz4 : w4.heap[g]? = some (barO n z) := by rw [hb4.block g hgl]; exact hgz.out
      have ho4 := Lib.hid (ho.out.below hb4)
      have hbw4 := Lib.hid (hbw.out.trans (hb4.mono hsw))
      have hgz4 := Lib.hid hgz4
      have hb4 := Lib.hid hb4
      clear c0 c1 c2 c3 d0 d1 d2 d3 cf
      go_wp2_with (at_builtin; refine app_int _ rfl _ _ rfl w3.heap.size _ _ rfl (ho4.out.alloc _) w4.heap.size _ rfl (by simp; rfl) (by have := hlen0.out; omega) (by simp; omega) ?_; intro v' w5 ho5 hg5; have hgz5 := grow_bar hg5 ho4.out hgz4.out; obtain ⟨⟨c0, c1, c2, c3⟩, cf⟩ := bar_cells hgz5; have hbw5 := Lib.hid (bel_own (hbw4.out.alloc hbw4.out.size _) (ho4.out.alloc _) hg5 (by simp; omega)); have hgz5 := Lib.hid hgz5; have ho5 := Lib.hid ho5; have hg5 := Lib.hid hg5)
      have hT5 := Lib.hid (hT3.out.below hbw5.out)
      refine (hM.out _ hT5.out).mono ?_; rintro e w6 ⟨rfl, hb6⟩
      have hgl5 : g < w5.heap.size := lt_of_block hgz5.out
      have hgz6 : w6.heap[g]? = some (barO n z) := by rw [hb6.block g hgl5]; exact hgz5.out
      clear c0 c1 c2 c3 cf
      obtain ⟨⟨c0, c1, c2, c3⟩, cf⟩ := bar_cells hgz6
      have ho6 := Lib.hid (ho5.out.below hb6)
      have hbw6 := Lib.hid (hbw5.out.trans (hb6.mono hbw5.out.size))
      have hgz6 := Lib.hid hgz6
      have hb6 := Lib.hid hb6
      have hgl6 : g < w6.heap.size := lt_of_block hgz6.out
      go_wp2_with fail
      go_roundw
      case rel =>
        have hne := ho6.out.ne_bar hgz6.out
        refine ⟨z', w6.heap.size, pre ++ [(k : Int)], hPn, rfl, by omega, hnext, Lib.hid ?_, Lib.hid ?_, Lib.hid ?_⟩
        · exact ((((ho6.out.setO hne).setO hne).setO hne).setO hne).alloc _
        · exact alloc_at' _ _ _ (by simp)
        · refine Below.alloc (Below.setCell (Below.setCell (Below.setCell (Below.setCell hbw6.out hg0 _) hg0 _) hg0 _) hg0 _) (by simp; omega) _
      case measure =>
        have e1 := ho5.out.lenOf
        have e2 := hlen0.out
        rw [List.length_append] at e1
        show 2001 - lenOf v' < 2001 - lenOf _
        simp at e1
        omega

set_option maxRecDepth 100000 in
set_option maxHeartbeats 2000000 in
theorem iWay_down (a b : ByteArray) (n x y : Nat) (L : List Int) (P : Nat → Prop) (w : World) (h1 : 1 ≤ n) (hn : n ≤ 20) (hT : TabOk w) (hPx : P x) (R : Int) (hDx : dst x y ≤ 2000)
    (hL : Hid (L = wayL y (dst x y) x))
    (hPl : Hid (∀ z, P z → z < 2 ^ n))
    (hPs : Hid (∀ z, P z → z ≠ y → P (z ^^^ 2 ^ stepK z y)))
    (hPk : Hid (∀ z, P z → z ≠ y → stepK z y < n))
    (hK : Hid (∀ z w, P z → z ≠ y → Calls Tryd.prog 48 #[(.agg #[.int .i64 ((ctz (z) : Nat) : Int), .bool (onB (z)), .int .i64 ((n : Nat) : Int), .int .u64 ((z : Nat) : Int)])] w fun e w' => e = .returned (.int .i64 (stepK z y : Int)) ∧ Below w.heap.size w w'))
    (hA : Hid (∀ w, TabOk w → Calls Tryd.prog 27 #[.string a, .string b] w fun e w' => e = .returned (.tuple #[(.agg #[.int .i64 ((ctz (x) : Nat) : Int), .bool (onB (x)), .int .i64 ((n : Nat) : Int), .int .u64 ((x : Nat) : Int)]), (.agg #[.int .i64 ((ctz (y) : Nat) : Int), .bool (onB (y)), .int .i64 ((n : Nat) : Int), .int .u64 ((y : Nat) : Int)]), .bool true]) ∧ Below w.heap.size w w'))
    (hN : Hid (∀ w, Calls Tryd.prog 32 #[(.agg #[.int .i64 ((ctz (x) : Nat) : Int), .bool (onB (x)), .int .i64 ((n : Nat) : Int), .int .u64 ((x : Nat) : Int)]), (.agg #[.int .i64 ((ctz (y) : Nat) : Int), .bool (onB (y)), .int .i64 ((n : Nat) : Int), .int .u64 ((y : Nat) : Int)])] w fun e w' => e = .returned (.int .i64 R) ∧ Below w.heap.size w w'))
    (hC : Hid (∀ w, Calls Tryd.prog 31 #[.int .i64 R] w fun e w' => e = .returned (.bool true) ∧ w = w'))
    (hR : Hid (∀ w, Calls Tryd.prog 28 #[(.agg #[.int .i64 ((ctz (x) : Nat) : Int), .bool (onB (x)), .int .i64 ((n : Nat) : Int), .int .u64 ((x : Nat) : Int)]), (.agg #[.int .i64 ((ctz (y) : Nat) : Int), .bool (onB (y)), .int .i64 ((n : Nat) : Int), .int .u64 ((y : Nat) : Int)])] w fun e w' => e = .returned (.func (.func 48) #[] #[]) ∧ Below w.heap.size w w')) :
    Calls Tryd.prog 11 #[.string a, .string b] w fun e w' => RetI w L true e w' := by
  have hT := Lib.hid hT
  have hPx := Lib.hid hPx
  go_enter Tryd.func11, Tryd.ntmps11
  go_wp2_with fail
  refine (hA.out _ hT.out).mono ?_; rintro e w1 ⟨rfl, hb⟩
  have hT1 := Lib.hid (hT.out.below hb)
  have hb := Lib.hid hb
  go_wp2_with fail
  refine (hN.out _).mono ?_; rintro e w2 ⟨rfl, hb2⟩
  have hb2 := Lib.hid hb2
  have hs2 := hb2.out.size
  simp only [World.size_alloc] at hs2
  go_wp2_with fail
  refine (hC.out _).mono ?_; rintro e w3 ⟨rfl, rfl⟩
  have f2 : ∀ o, w2.cell? ⟨w1.heap.size, o, none⟩ = _ := fun o => hb2.out.cell (p := ⟨w1.heap.size, o, none⟩) (by simp; omega)
  have f3 : ∀ o, w2.cell? ⟨w1.heap.size + 1, o, none⟩ = _ := fun o => hb2.out.cell (p := ⟨w1.heap.size + 1, o, none⟩) (by simp)
  go_wp2_with fail
  refine (hR.out _).mono ?_; rintro e w3 ⟨rfl, hb3⟩
  have f4 : ∀ o, w3.cell? ⟨w1.heap.size, o, none⟩ = w2.cell? ⟨w1.heap.size, o, none⟩ := fun o => hb3.cell (p := ⟨w1.heap.size, o, none⟩) (by show w1.heap.size < w2.heap.size; omega)
  have f5 : ∀ o, w3.cell? ⟨w1.heap.size + 1, o, none⟩ = w2.cell? ⟨w1.heap.size + 1, o, none⟩ := fun o => hb3.cell (p := ⟨w1.heap.size + 1, o, none⟩) (by show w1.heap.size + 1 < w2.heap.size; omega)
  have hs3 := hb3.size
  have hT3 := Lib.hid ((((hT1.out.alloc _).alloc _).below hb2.out).below hb3)
  have hW3 := Lib.hid (bt (bt (bt (bt hb.out (ba _ _)) (ba _ _)) hb2.out) hb3)
  have hCy : Hid (CellsOf w3 (w1.heap.size + 1) n y) := Lib.hid (by unfold CellsOf; rw [f5, f5, f5, f5, f3, f3, f3, f3]; simp)
  have hb3 := Lib.hid hb3
  go_wp2_with fail
  clear f2 f3 f4 f5 hR hC hN hA hb hb2 hb3
  go_loopw [10, 11] (fun o p wr => ∃ z g pre, Hid (P z) ∧ p = .pointer (some ⟨g, 0, none⟩) ∧ w3.heap.size ≤ g ∧ Hid (L = pre ++ wayL y (dst z y) z) ∧ Hid (OwnI wr w3.heap.size o pre) ∧ Hid (wr.heap[g]? = some (barO n z)) ∧ Hid (Below w3.heap.size w3 wr)) (fun o _ _ => 2001 - lenOf o)
  case atStart => exact ⟨x, w3.heap.size, [], hPx, rfl, Nat.le_refl _, hL, OwnI.nil _ _, Lib.hid (alloc_at _ _), ba _ _⟩
  case round =>
    obtain ⟨z, g, pre, hPz, rfl, hg0, hpre, ho, hgz, hbw⟩ := hrel
    have hsw := hbw.out.size
    have hgl : g < wr.heap.size := lt_of_block hgz.out
    obtain ⟨⟨c0, c1, c2, c3⟩, cf⟩ := bar_cells hgz.out
    have hlo := ho.out.lenOf
    obtain ⟨d0, d1, d2, d3⟩ : CellsOf wr (w1.heap.size + 1) n y := by
      obtain ⟨r0, r1, r2, r3⟩ := hCy.out
      refine ⟨?_, ?_, ?_, ?_⟩
      · rw [hbw.out.cell (p := ⟨w1.heap.size + 1, 0, none⟩) (by show w1.heap.size + 1 < w3.heap.size; omega)]; exact r0
      · rw [hbw.out.cell (p := ⟨w1.heap.size + 1, 1, none⟩) (by show w1.heap.size + 1 < w3.heap.size; omega)]; exact r1
      · rw [hbw.out.cell (p := ⟨w1.heap.size + 1, 2, none⟩) (by show w1.heap.size + 1 < w3.heap.size; omega)]; exact r2
      · rw [hbw.out.cell (p := ⟨w1.heap.size + 1, 3, none⟩) (by show w1.heap.size + 1 < w3.heap.size; omega)]; exact r3
    by_cases hzy : z = y
    · subst hzy
      have hfin : Hid (L = pre) := Lib.hid (by rw [hpre.out, dst_zero]; simp [wayL])
      go_wp2_with fail
      go_ret2
      exact ⟨_, rfl, by rw [hfin.out]; exact ho.out.mono hW3.out.size, bt hW3.out hbw.out⟩
    · have hKz := Lib.hid fun w => hK.out z w hPz.out hzy
      have hkn := hPk.out z hPz.out hzy
      have hnext : Hid (L = (pre ++ [(stepK z y : Int)]) ++ wayL y (dst (z ^^^ 2 ^ stepK z y) y) (z ^^^ 2 ^ stepK z y)) := Lib.hid (by
        rw [hpre.out, dst_step z y hzy]; simp [wayL])
      have hPn := Lib.hid (hPs.out z hPz.out hzy)
      have hlen0 : Hid (pre.length + 1 ≤ 2000) := Lib.hid (by
        have e := congrArg List.length hnext.out
        have e2 := congrArg List.length hL.out
        rw [wayL_len] at e2
        simp at e; omega)
      have hzl := Nat.lt_of_lt_of_le (hPl.out z hPz.out) (pow20 hn)
      obtain ⟨k, hk⟩ : ∃ k, k = stepK z y := ⟨_, rfl⟩
      rw [← hk] at hKz hkn hnext hPn
      have hM := Lib.hid fun w hw => moved_any n z k w hzl (by omega) hw
      generalize z ^^^ 2 ^ k = z' at *
      clear hk
      go_wp2_with fail
      refine (hKz.out _).mono ?_; rintro e w4 ⟨rfl, hb4⟩
      have hs4 := hb4.size
      have hgz4 : w4.heap[g]? = some (barO n z) := by rw [hb4.block g hgl]; exact hgz.out
      have ho4 := Lib.hid (ho.out.below hb4)
      have hbw4 := Lib.hid (hbw.out.trans (hb4.mono hsw))
      have hgz4 := Lib.hid hgz4
      have hb4 := Lib.hid hb4
      clear c0 c1 c2 c3 d0 d1 d2 d3 cf
      go_wp2_with (at_builtin; refine app_int _ rfl _ _ rfl w3.heap.size _ _ rfl (ho4.out.alloc _) w4.heap.size _ rfl (by simp; rfl) (by have := hlen0.out; omega) (by simp; omega) ?_; intro v' w5 ho5 hg5; have hgz5 := grow_bar hg5 ho4.out hgz4.out; obtain ⟨⟨c0, c1, c2, c3⟩, cf⟩ := bar_cells hgz5; have hbw5 := Lib.hid (bel_own (hbw4.out.alloc hbw4.out.size _) (ho4.out.alloc _) hg5 (by simp; omega)); have hgz5 := Lib.hid hgz5; have ho5 := Lib.hid ho5; have hg5 := Lib.hid hg5)
      have hT5 := Lib.hid (hT3.out.below hbw5.out)
      refine (hM.out _ hT5.out).mono ?_; rintro e w6 ⟨rfl, hb6⟩
      have hgl5 : g < w5.heap.size := lt_of_block hgz5.out
      have hgz6 : w6.heap[g]? = some (barO n z) := by rw [hb6.block g hgl5]; exact hgz5.out
      clear c0 c1 c2 c3 cf
      obtain ⟨⟨c0, c1, c2, c3⟩, cf⟩ := bar_cells hgz6
      have ho6 := Lib.hid (ho5.out.below hb6)
      have hbw6 := Lib.hid (hbw5.out.trans (hb6.mono hbw5.out.size))
      have hgz6 := Lib.hid hgz6
      have hb6 := Lib.hid hb6
      have hgl6 : g < w6.heap.size := lt_of_block hgz6.out
      go_wp2_with fail
      go_roundw
      case rel =>
        have hne := ho6.out.ne_bar hgz6.out
        refine ⟨z', w6.heap.size, pre ++ [(k : Int)], hPn, rfl, by omega, hnext, Lib.hid ?_, Lib.hid ?_, Lib.hid ?_⟩
        · exact ((((ho6.out.setO hne).setO hne).setO hne).setO hne).alloc _
        · exact alloc_at' _ _ _ (by simp)
        · refine Below.alloc (Below.setCell (Below.setCell (Below.setCell (Below.setCell hbw6.out hg0 _) hg0 _) hg0 _) hg0 _) (by simp; omega) _
      case measure =>
        have e1 := ho5.out.lenOf
        have e2 := hlen0.out
        rw [List.length_append] at e1
        show 2001 - lenOf v' < 2001 - lenOf _
        simp at e1
        omega

theorem step_lt (n z y : Nat) (hz : z < 2 ^ n) (hy : y < 2 ^ n) (h : z ≠ y) : z ^^^ 2 ^ stepK z y < 2 ^ n :=
  Nat.xor_lt_two_pow hz (Nat.pow_lt_pow_right (a := 2) (by omega) (stepK_lt n z y h hz hy))
theorem moveC_yes (n : Int) (w : World) (h : n ≤ 2000) : Calls Tryd.prog 31 #[.int .i64 n] w fun e w' => e = .returned (.bool true) ∧ w = w' := by
  go_enter Tryd.func31, Tryd.ntmps31
  go_wp2
  go_ret; exact ⟨rfl, rfl⟩

theorem moveC_no (n : Int) (w : World) (h : 2000 < n) : Calls Tryd.prog 31 #[.int .i64 n] w fun e w' => e = .returned (.bool false) ∧ w = w' := by
  go_enter Tryd.func31, Tryd.ntmps31
  go_wp2
  go_ret; exact ⟨ret_bool (by simp; omega), rfl⟩

theorem apart_dst (x y : Nat) : apartN x y = (dst x y : Int) := by unfold apartN dst; omega
theorem iWay_ST (n x y : Nat) (w : World) (h1 : 1 ≤ n) (hn : n ≤ 20) (hx : x < 2 ^ n) (hy : y < 2 ^ n) (hD : dst x y ≤ 2000) (hT : TabOk w) :
    Calls Tryd.prog 11 #[.string (ST n x), .string (ST n y)] w fun e w' => RetI w (wayL y (dst x y) x) true e w' := by
  have lx := Nat.lt_of_lt_of_le hx (pow20 hn)
  have ly := Nat.lt_of_lt_of_le hy (pow20 hn)
  have hR : apartN x y ≤ 2000 := by rw [apart_dst]; omega
  by_cases h : num x < num y
  · refine iWay_up _ _ n x y _ (fun z => z < 2 ^ n ∧ num z ≤ num y) w h1 hn hT ⟨hx, by omega⟩ (apartN x y) hD (Lib.hid rfl) (Lib.hid fun z h => h.1) (Lib.hid fun z h hne => ⟨step_lt n z y h.1 hy hne, ?_⟩) (Lib.hid fun z h hne => stepK_lt n z y hne h.1 hy) (Lib.hid fun z w hz hne => ?_) (Lib.hid fun w hw => two_yes n x y w h1 hn hx hy hw) (Lib.hid fun w => apart_any n x y w lx ly) (Lib.hid fun w => moveC_yes _ w hR) (Lib.hid fun w => ?_)
    · have h0 : num z ≠ num y := fun e => hne (num_inj e)
      rw [num_stp z y hne]; unfold nxt; rw [if_pos (by omega)]; omega
    · have h0 : num z ≠ num y := fun e => hne (num_inj e)
      have lz := Nat.lt_of_lt_of_le hz.1 (pow20 hn)
      have := raising_any n z w lz (ctz_le20 z lz)
      rw [rise_up] at this
      unfold stepK; rw [if_pos (by omega)]; exact this
    · have := toward_any n x y w lx ly
      rw [if_pos h] at this; exact this
  · refine iWay_down _ _ n x y _ (fun z => z < 2 ^ n ∧ num y ≤ num z) w h1 hn hT ⟨hx, by omega⟩ (apartN x y) hD (Lib.hid rfl) (Lib.hid fun z h => h.1) (Lib.hid fun z h hne => ⟨step_lt n z y h.1 hy hne, ?_⟩) (Lib.hid fun z h hne => stepK_lt n z y hne h.1 hy) (Lib.hid fun z w hz hne => ?_) (Lib.hid fun w hw => two_yes n x y w h1 hn hx hy hw) (Lib.hid fun w => apart_any n x y w lx ly) (Lib.hid fun w => moveC_yes _ w hR) (Lib.hid fun w => ?_)
    · have h0 : num z ≠ num y := fun e => hne (num_inj e)
      rw [num_stp z y hne]; unfold nxt; rw [if_neg (by omega), if_pos (by omega)]; omega
    · have h0 : num z ≠ num y := fun e => hne (num_inj e)
      have lz := Nat.lt_of_lt_of_le hz.1 (pow20 hn)
      have := lowering_any n z w lz (ctz_le20 z lz)
      rw [low_up z (by omega)] at this
      unfold stepK; rw [if_neg (by omega)]; exact this
    · have := toward_any n x y w lx ly
      rw [if_neg h] at this; exact this

theorem iWay_no (a b : ByteArray) (w : World) (hT : TabOk w)
    (hA : Hid (∀ w, TabOk w → Calls Tryd.prog 27 #[.string a, .string b] w fun e w' => e = .returned (.tuple #[(.agg #[.int .i64 ((ctz (0) : Nat) : Int), .bool (onB (0)), .int .i64 ((0 : Nat) : Int), .int .u64 ((0 : Nat) : Int)]), (.agg #[.int .i64 ((ctz (0) : Nat) : Int), .bool (onB (0)), .int .i64 ((0 : Nat) : Int), .int .u64 ((0 : Nat) : Int)]), .bool false]) ∧ Below w.heap.size w w')) :
    Calls Tryd.prog 11 #[.string a, .string b] w fun e w' => RetI w [] false e w' := by
  have hT := Lib.hid hT
  go_enter Tryd.func11, Tryd.ntmps11
  go_wp2_with fail
  refine (hA.out _ hT.out).mono ?_; rintro e w1 ⟨rfl, hb⟩
  have hb := Lib.hid hb
  go_wp2_with fail
  go_ret2
  exact ⟨_, rfl, OwnI.nil _ _, bt (bt hb.out (ba _ _)) (ba _ _)⟩

theorem iWay_far0 (a b : ByteArray) (n x y : Nat) (R : Int) (w : World) (hT : TabOk w)
    (hA : Hid (∀ w, TabOk w → Calls Tryd.prog 27 #[.string a, .string b] w fun e w' => e = .returned (.tuple #[(.agg #[.int .i64 ((ctz (x) : Nat) : Int), .bool (onB (x)), .int .i64 ((n : Nat) : Int), .int .u64 ((x : Nat) : Int)]), (.agg #[.int .i64 ((ctz (y) : Nat) : Int), .bool (onB (y)), .int .i64 ((n : Nat) : Int), .int .u64 ((y : Nat) : Int)]), .bool true]) ∧ Below w.heap.size w w'))
    (hN : Hid (∀ w, Calls Tryd.prog 32 #[(.agg #[.int .i64 ((ctz (x) : Nat) : Int), .bool (onB (x)), .int .i64 ((n : Nat) : Int), .int .u64 ((x : Nat) : Int)]), (.agg #[.int .i64 ((ctz (y) : Nat) : Int), .bool (onB (y)), .int .i64 ((n : Nat) : Int), .int .u64 ((y : Nat) : Int)])] w fun e w' => e = .returned (.int .i64 R) ∧ Below w.heap.size w w'))
    (hC : Hid (∀ w, Calls Tryd.prog 31 #[.int .i64 R] w fun e w' => e = .returned (.bool false) ∧ w = w')) :
    Calls Tryd.prog 11 #[.string a, .string b] w fun e w' => RetI w [] false e w' := by
  have hT := Lib.hid hT
  go_enter Tryd.func11, Tryd.ntmps11
  go_wp2_with fail
  refine (hA.out _ hT.out).mono ?_; rintro e w1 ⟨rfl, hb⟩
  have hb := Lib.hid hb
  go_wp2_with fail
  refine (hN.out _).mono ?_; rintro e w2 ⟨rfl, hb2⟩
  have hb2 := Lib.hid hb2
  go_wp2_with fail
  refine (hC.out _).mono ?_; rintro e w3 ⟨rfl, rfl⟩
  go_wp2_with fail
  go_ret2
  exact ⟨_, rfl, OwnI.nil _ _, bt (bt (bt hb.out (ba _ _)) (ba _ _)) hb2.out⟩

theorem iWay_far (n x y : Nat) (w : World) (h1 : 1 ≤ n) (hn : n ≤ 20) (hx : x < 2 ^ n) (hy : y < 2 ^ n) (hD : 2000 < dst x y) (hT : TabOk w) :
    Calls Tryd.prog 11 #[.string (ST n x), .string (ST n y)] w fun e w' => RetI w [] false e w' :=
  iWay_far0 _ _ n x y (apartN x y) w hT (Lib.hid fun w hw => two_yes n x y w h1 hn hx hy hw) (Lib.hid fun w => apart_any n x y w (Nat.lt_of_lt_of_le hx (pow20 hn)) (Nat.lt_of_lt_of_le hy (pow20 hn))) (Lib.hid fun w => moveC_no _ w (by rw [apart_dst]; omega))

set_option maxRecDepth 100000 in
set_option maxHeartbeats 2000000 in
theorem sWay_core (n x y X Y : Nat) (L : List Int) (w : World) (hx : x < 2 ^ n) (hL : Hid (L = wayL y (dst x y) x)) (hDx : dst x y ≤ 2000)
    (hG : Hid (∀ w, Calls Tryd.prog 24 #[.string (ST n x), .string (ST n y)] w fun e w' => e = .returned (.bool true) ∧ w = w'))
    (hA : Hid (∀ w, Calls Tryd.prog 30 #[.string (ST n x)] w fun e w' => e = .returned (.int .i64 (X : Int)) ∧ w = w'))
    (hB : Hid (∀ w, Calls Tryd.prog 30 #[.string (ST n y)] w fun e w' => e = .returned (.int .i64 (Y : Int)) ∧ w = w')) (hX : X < 1048576) (hY : Y < 1048576) (R : Int) (hR : Hid (max ((X : Int) - Y) (-((X : Int) - Y)) = R)) (hR2 : R ≤ 2000)
    (hE : Hid (∀ z, z < 2 ^ n → z ≠ y → ((ST n z).toList == (ST n y).toList) = false))
    (hPs : Hid (∀ z, z < 2 ^ n → z ≠ y → z ^^^ 2 ^ stepK z y < 2 ^ n))
    (hN : Hid (∀ z w, z < 2 ^ n → z ≠ y → Calls Tryd.prog 26 #[.string (ST n z), .string (ST n y)] w fun e w' => e = .returned (.string (ST n (z ^^^ 2 ^ stepK z y))) ∧ ∃ q, w' = w.drewN q))
    (hD : Hid (∀ z w, z < 2 ^ n → z ≠ y → Calls Tryd.prog 25 #[.string (ST n z), .string (ST n (z ^^^ 2 ^ stepK z y))] w fun e w' => e = .returned (.int .i64 (stepK z y : Int)) ∧ Below w.heap.size w w')) :
    Calls Tryd.prog 10 #[.string (ST n x), .string (ST n y)] w fun e w' => RetI w L true e w' := by
  have hxx := Lib.hid hx
  clear hx
  go_enter Tryd.func10, Tryd.ntmps10
  go_wp2_with fail
  refine (hG.out _).mono ?_; rintro e w' ⟨rfl, rfl⟩
  go_wp2_with fail
  refine (hA.out _).mono ?_; rintro e w' ⟨rfl, rfl⟩
  go_wp2_with fail
  refine (hB.out _).mono ?_; rintro e w' ⟨rfl, rfl⟩
  go_wp2_with fail
  refine (l1Abs_any _ _ (by omega) (by omega)).mono ?_; rintro e w' ⟨rfl, rfl⟩
  rw [hR.out]
  have hR3 : decide (2000 < R) = false := decide_eq_false (by omega)
  go_wp2_with fail
  clear hG hA hB
  go_loopw [0, 6] (fun t o wr => ∃ z pre, Hid (z < 2 ^ n) ∧ t = .string (ST n z) ∧ Hid (L = pre ++ wayL y (dst z y) z) ∧ Hid (OwnI wr w.heap.size o pre) ∧ Hid (Below w.heap.size w wr)) (fun _ o _ => 2001 - lenOf o)
  case atStart => exact ⟨x, [], hxx, rfl, hL, OwnI.nil _ _, Below.refl _ _⟩
  case round =>
    obtain ⟨z, pre, hz, rfl, hpre, ho, hbw⟩ := hrel
    have hsw := hbw.out.size
    have hlo := ho.out.lenOf
    by_cases hzy : z = y
    · subst hzy
      have hfin : Hid (L = pre) := Lib.hid (by rw [hpre.out, dst_zero]; simp [wayL])
      go_wp2_with fail
      go_ret2
      exact ⟨_, rfl, by rw [hfin.out]; exact ho.out, hbw.out⟩
    · have hne := hE.out z hz.out hzy
      have hNz := Lib.hid fun w => hN.out z w hz.out hzy
      have hDz := Lib.hid fun w => hD.out z w hz.out hzy
      have hnext : Hid (L = (pre ++ [(stepK z y : Int)]) ++ wayL y (dst (z ^^^ 2 ^ stepK z y) y) (z ^^^ 2 ^ stepK z y)) := Lib.hid (by
        rw [hpre.out, dst_step z y hzy]; simp [wayL])
      have hPn := Lib.hid (hPs.out z hz.out hzy)
      have hlen0 : Hid (pre.length + 1 ≤ 2000) := Lib.hid (by
        have e := congrArg List.length hnext.out
        have e2 := congrArg List.length hL.out
        rw [wayL_len] at e2
        simp at e; omega)
      obtain ⟨k, hk⟩ : ∃ k, k = stepK z y := ⟨_, rfl⟩
      rw [← hk] at hNz hDz hnext hPn
      generalize z ^^^ 2 ^ k = z' at *
      clear hk
      generalize ST n z = sz at *
      generalize ST n y = sy at *
      go_wp2_with fail
      refine (hNz.out _).mono ?_; rintro e w4 ⟨rfl, q4, rfl⟩
      go_wp2_with fail
      refine (hDz.out _).mono ?_; rintro e w5 ⟨rfl, hb5⟩
      have ho5 := Lib.hid ((ho.out.drewN q4).below hb5)
      have hbw5 := Lib.hid ((below_drewN hbw.out q4).trans (hb5.mono (by simpa using hsw)))
      have hs5 := hbw5.out.size
      have hb5 := Lib.hid hb5
      go_wp2_with (at_builtin; refine app_int _ rfl _ _ rfl w.heap.size _ _ rfl (ho5.out.alloc _) w5.heap.size _ rfl (by simp; rfl) (by have := hlen0.out; omega) (by simp; omega) ?_; intro v' w6 ho6 hg6; have hbw6 := Lib.hid (bel_own (hbw5.out.alloc hbw5.out.size _) (ho5.out.alloc _) hg6 (by simp; omega)); have ho6 := Lib.hid ho6; have hg6 := Lib.hid hg6)
      go_roundw
      case rel => exact ⟨z', pre ++ [(k : Int)], hPn, rfl, hnext, ho6, hbw6⟩
      case measure =>
        have e1 := ho6.out.lenOf
        have e2 := hlen0.out
        rw [List.length_append] at e1
        show 2001 - lenOf v' < 2001 - lenOf _
        simp at e1
        omega

theorem sWay_ST (n x y : Nat) (w : World) (h1 : 1 ≤ n) (hn : n ≤ 20) (hx : x < 2 ^ n) (hy : y < 2 ^ n) (hD : dst x y ≤ 2000) :
    Calls Tryd.prog 10 #[.string (ST n x), .string (ST n y)] w fun e w' => RetI w (wayL y (dst x y) x) true e w' := by
  have lx := Nat.lt_of_lt_of_le hx (pow20 hn)
  have ly := Nat.lt_of_lt_of_le hy (pow20 hn)
  have hR : max ((num x : Int) - num y) (-((num x : Int) - num y)) = (dst x y : Int) := by unfold dst; omega
  exact sWay_core n x y (num x) (num y) _ w hx (Lib.hid rfl) hD (Lib.hid fun w => by
    have := riTwo_any (ST n x) (ST n y) w (by rw [ST_size]; unfold maxLen; omega) (by rw [ST_size]; unfold maxLen; omega)
    rw [two_ST n x y h1 hn] at this; exact this) (Lib.hid fun w => riNumber_ST n x w hn hx) (Lib.hid fun w => riNumber_ST n y w hn hy) (num_lt 20 x lx) (num_lt 20 y ly) _ (Lib.hid hR) (by omega)
    (Lib.hid fun z hz hne => ST_toList hz hy hne) (Lib.hid fun z hz hne => step_lt n z y hz hy hne) (Lib.hid fun z w hz hne => next_ST n z y w hn hz hy hne) (Lib.hid fun z w hz hne => differs_ST n z _ w (stepK_lt n z y hne hz hy))

theorem sWay_no (a b : ByteArray) (w : World) (hG : Hid (∀ w, Calls Tryd.prog 24 #[.string a, .string b] w fun e w' => e = .returned (.bool false) ∧ w = w')) :
    Calls Tryd.prog 10 #[.string a, .string b] w fun e w' => RetI w [] false e w' := by
  go_enter Tryd.func10, Tryd.ntmps10
  go_wp2_with fail
  refine (hG.out _).mono ?_; rintro e w1 ⟨rfl, rfl⟩
  go_wp2_with fail
  go_ret2
  exact ⟨_, rfl, OwnI.nil _ _, Below.refl _ _⟩

theorem sWay_far0 (a b : ByteArray) (X Y : Nat) (w : World)
    (hG : Hid (∀ w, Calls Tryd.prog 24 #[.string a, .string b] w fun e w' => e = .returned (.bool true) ∧ w = w'))
    (hA : Hid (∀ w, Calls Tryd.prog 30 #[.string a] w fun e w' => e = .returned (.int .i64 (X : Int)) ∧ w = w'))
    (hB : Hid (∀ w, Calls Tryd.prog 30 #[.string b] w fun e w' => e = .returned (.int .i64 (Y : Int)) ∧ w = w')) (hX : X < 1048576) (hY : Y < 1048576) (R : Int) (hR : Hid (max ((X : Int) - Y) (-((X : Int) - Y)) = R)) (hR2 : 2000 < R) :
    Calls Tryd.prog 10 #[.string a, .string b] w fun e w' => RetI w [] false e w' := by
  go_enter Tryd.func10, Tryd.ntmps10
  go_wp2_with fail
  refine (hG.out _).mono ?_; rintro e w' ⟨rfl, rfl⟩
  go_wp2_with fail
  refine (hA.out _).mono ?_; rintro e w' ⟨rfl, rfl⟩
  go_wp2_with fail
  refine (hB.out _).mono ?_; rintro e w' ⟨rfl, rfl⟩
  go_wp2_with fail
  refine (l1Abs_any _ _ (by omega) (by omega)).mono ?_; rintro e w' ⟨rfl, rfl⟩
  rw [hR.out]
  have hR3 : decide (2000 < R) = true := decide_eq_true (by omega)
  go_wp2_with fail
  go_ret2
  exact ⟨_, rfl, OwnI.nil _ _, Below.refl _ _⟩

theorem sWay_far (n x y : Nat) (w : World) (h1 : 1 ≤ n) (hn : n ≤ 20) (hx : x < 2 ^ n) (hy : y < 2 ^ n) (hD : 2000 < dst x y) :
    Calls Tryd.prog 10 #[.string (ST n x), .string (ST n y)] w fun e w' => RetI w [] false e w' := by
  have lx := Nat.lt_of_lt_of_le hx (pow20 hn)
  have ly := Nat.lt_of_lt_of_le hy (pow20 hn)
  have hR : max ((num x : Int) - num y) (-((num x : Int) - num y)) = (dst x y : Int) := by unfold dst; omega
  exact sWay_far0 _ _ (num x) (num y) w (Lib.hid fun w => by
    have := riTwo_any (ST n x) (ST n y) w (by rw [ST_size]; unfold maxLen; omega) (by rw [ST_size]; unfold maxLen; omega)
    rw [two_ST n x y h1 hn] at this; exact this) (Lib.hid fun w => riNumber_ST n x w hn hx) (Lib.hid fun w => riNumber_ST n y w hn hy) (num_lt 20 x lx) (num_lt 20 y ly) _ (Lib.hid hR) (by omega)

end Go.Proofs.YtbgdhiieeegnjabDoor
