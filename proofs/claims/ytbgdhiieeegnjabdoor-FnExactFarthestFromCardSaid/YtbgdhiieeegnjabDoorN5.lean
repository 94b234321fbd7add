/- StatesBetween: both ways. -/
import Derived.Test.YtbgdhiieeegnjabDoorN4
import Derived.Test.YtbgdhiieeegnjabDoorStrs
import Derived.Deep.RegionWith
namespace Go.Proofs.YtbgdhiieeegnjabDoor
open Go Go.RowKit RM

/-- the states behind the next j moves from x toward y -/
def stL (n y : Nat) : Nat → Nat → List ByteArray
  | 0, _ => []
  | j + 1, x => ST n (x ^^^ 2 ^ stepK x y) :: stL n y j (x ^^^ 2 ^ stepK x y)
theorem stL_len (n y : Nat) : ∀ j x, (stL n y j x).length = j := by
  intro j
  induction j with
  | zero => intro x; rfl
  | succ j ih => intro x; show (stL n y j _).length + 1 = j + 1; rw [ih]
theorem OwnT.lenOf {w : World} {B : Nat} {v : Value} {xs : List ByteArray} (h : OwnT w B v xs) : lenOf v = xs.length := by
  rcases h.form with ⟨rfl, rfl⟩ | ⟨g, cap, rfl, _⟩ <;> rfl
theorem OwnT.ne_bar {w : World} {B g n x : Nat} {v : Value} {xs : List ByteArray} (h : OwnT w B v xs) (hg : w.heap[g]? = some (barO n x)) : v.ownBlock ≠ some g := by
  rcases h.2 with ⟨rfl, _⟩ | ⟨g', cap, cur, rfl, _, hh, _⟩
  · intro e; cases e
  · intro e
    obtain rfl : g' = g := Option.some.inj e
    rw [hh] at hg
    simp [barO] at hg
theorem OwnT.setO {w : World} {B g j : Nat} {v : Value} {xs : List ByteArray} (h : OwnT w B v xs) (hne : v.ownBlock ≠ some g) {u : Value} : OwnT (w.setCell ⟨g, j, none⟩ u) B v xs := ownsRow_setCell_other (a := ⟨g, j, none⟩) h hne u
theorem grow_barT {w w' : World} {B g n z : Nat} {o : Value} {pre : List ByteArray} {ob : Obj} (hg : (w.alloc ob).grownBy w' o.ownBlock) (ho : OwnT w B o pre) (h : w.heap[g]? = some (barO n z)) : w'.heap[g]? = some (barO n z) := by
  have hl : g < w.heap.size := lt_of_block h
  rw [hg.block g (by simp; omega) (fun e => ho.ne_bar h e.symm), Below.heap_alloc _ _ _ hl]; exact h
theorem set_one {w : World} {g j : Nat} {c : Array Value} {t : TypeId} {fz : Nat × Nat} (h : w.heap[g]? = some (.cells c t fz)) (v : Value) : (w.setCell ⟨g, j, none⟩ v).heap[g]? = some (.cells (c.setIfInBounds j v) t fz) := by
  simp [World.setCell, Array.getElem?_modify, h]
theorem set_bar {w : World} {g n z : Nat} (h : w.heap[g]? = some (barO n z)) (z' : Nat) : ((((w.setCell ⟨g, 0, none⟩ (.int .i64 (ctz z'))).setCell ⟨g, 1, none⟩ (.bool (onB z'))).setCell ⟨g, 2, none⟩ (.int .i64 n)).setCell ⟨g, 3, none⟩ (.int .u64 z')).heap[g]? = some (barO n z') :=
  set_one (set_one (set_one (set_one h _) _) _) _
theorem own_cellT {w w' : World} {B : Nat} {v : Value} {xs : List ByteArray} (h : OwnT w B v xs) (hg : w.grownBy w' v.ownBlock) {b o : Nat} (hb : b < B) (hl : b < w.heap.size) : w'.cell? ⟨b, o, none⟩ = w.cell? ⟨b, o, none⟩ :=
  World.cell?_of_block (hg.block b hl (fun e => by have := (h.lt b e.symm).1; omega))
theorem TabOk.grownT {w w' : World} {B : Nat} {v : Value} {xs : List ByteArray} (h : TabOk w) (ho : OwnT w B v xs) (hg : w.grownBy w' v.ownBlock) (hB : 1 < B) : TabOk w' := fun j hj => by
  rw [own_cellT ho hg hB h.lt]; exact h j hj
theorem own_lit (w : World) (s : ByteArray) : OwnT (w.alloc (.cells #[.string s] 9)) w.heap.size (.slice (some ⟨w.heap.size, 0, none⟩) 1 1) [s] :=
  ⟨rfl, .inr ⟨_, 1, #[.string s], rfl, Nat.le_refl _, alloc_at _ _, Nat.le_refl _, by decide, rfl, rfl⟩⟩

set_option maxRecDepth 100000 in
set_option maxHeartbeats 2000000 in
theorem iSt_up (a b : ByteArray) (n x y : Nat) (L : List ByteArray) (P : Nat → Prop) (w : World) (h1 : 1 ≤ n) (hn : n ≤ 20) (hT : TabOk w) (hPx : P x) (R : Int) (hDx : dst x y ≤ 1999) (hR8 : -1048576 ≤ R ∧ R ≤ 1048576)
    (hL : Hid (L = ST n x :: stL n y (dst x y) x))
    (hPl : Hid (∀ z, P z → z < 2 ^ n))
    (hPs : Hid (∀ z, P z → z ≠ y → P (z ^^^ 2 ^ stepK z y)))
    (hPk : Hid (∀ z, P z → z ≠ y → stepK z y < n))
    (hK : Hid (∀ z w, P z → z ≠ y → Calls Tryd.prog 47 #[(.agg #[.int .i64 ((ctz (z) : Nat) : Int), .bool (onB (z)), .int .i64 ((n : Nat) : Int), .int .u64 ((z : Nat) : Int)])] w fun e w' => e = .returned (.int .i64 (stepK z y : Int)) ∧ Below w.heap.size w w'))
    (hA : Hid (∀ w, TabOk w → Calls Tryd.prog 27 #[.string a, .string b] w fun e w' => e = .returned (.tuple #[(.agg #[.int .i64 ((ctz (x) : Nat) : Int), .bool (onB (x)), .int .i64 ((n : Nat) : Int), .int .u64 ((x : Nat) : Int)]), (.agg #[.int .i64 ((ctz (y) : Nat) : Int), .bool (onB (y)), .int .i64 ((n : Nat) : Int), .int .u64 ((y : Nat) : Int)]), .bool true]) ∧ Below w.heap.size w w'))
    (hN : Hid (∀ w, Calls Tryd.prog 32 #[(.agg #[.int .i64 ((ctz (x) : Nat) : Int), .bool (onB (x)), .int .i64 ((n : Nat) : Int), .int .u64 ((x : Nat) : Int)]), (.agg #[.int .i64 ((ctz (y) : Nat) : Int), .bool (onB (y)), .int .i64 ((n : Nat) : Int), .int .u64 ((y : Nat) : Int)])] w fun e w' => e = .returned (.int .i64 R) ∧ Below w.heap.size w w'))
    (hX : Hid (∀ z w, P z → Calls Tryd.prog 40 #[(.agg #[.int .i64 ((ctz (z) : Nat) : Int), .bool (onB (z)), .int .i64 ((n : Nat) : Int), .int .u64 ((z : Nat) : Int)])] w fun e w' => e = .returned (.string (ST n z)) ∧ Below w.heap.size w w'))
    (hC : Hid (∀ w, Calls Tryd.prog 31 #[.int .i64 (R + 1)] w fun e w' => e = .returned (.bool true) ∧ w = w'))
    (hR : Hid (∀ w, Calls Tryd.prog 28 #[(.agg #[.int .i64 ((ctz (x) : Nat) : Int), .bool (onB (x)), .int .i64 ((n : Nat) : Int), .int .u64 ((x : Nat) : Int)]), (.agg #[.int .i64 ((ctz (y) : Nat) : Int), .bool (onB (y)), .int .i64 ((n : Nat) : Int), .int .u64 ((y : Nat) : Int)])] w fun e w' => e = .returned (.func (.func 47) #[] #[]) ∧ Below w.heap.size w w')) :
    Calls Tryd.prog 21 #[.string a, .string b] w fun e w' => RetT w L true e w' := by
  have hT := Lib.hid hT
  have hPx := Lib.hid hPx
  go_enter Tryd.func21, Tryd.ntmps21
  go_wp2_with fail
  refine (hA.out _ hT.out).mono ?_; rintro e w1 ⟨rfl, hb⟩
  have hT1 := Lib.hid (hT.out.below hb)
  have hb := Lib.hid hb
  go_wp2_with fail
  refine (hN.out _).mono ?_; rintro e w2 ⟨rfl, hb2⟩
  have hb2 := Lib.hid hb2
  have hs2 := hb2.out.size
  simp only [World.size_alloc] at hs2
  go_wp2_with fail
  refine (hC.out _).mono ?_; rintro e w3 ⟨rfl, rfl⟩
  have f2 : ∀ o, w2.cell? ⟨w1.heap.size, o, none⟩ = _ := fun o => hb2.out.cell (p := ⟨w1.heap.size, o, none⟩) (by simp; omega)
  have f3 : ∀ o, w2.cell? ⟨w1.heap.size + 1, o, none⟩ = _ := fun o => hb2.out.cell (p := ⟨w1.heap.size + 1, o, none⟩) (by simp)
  go_wp2_with fail
  refine (hR.out _).mono ?_; rintro e w3 ⟨rfl, hb3⟩
  have f4 : ∀ o, w3.cell? ⟨w1.heap.size, o, none⟩ = w2.cell? ⟨w1.heap.size, o, none⟩ := fun o => hb3.cell (p := ⟨w1.heap.size, o, none⟩) (by show w1.heap.size < w2.heap.size; omega)
  have f5 : ∀ o, w3.cell? ⟨w1.heap.size + 1, o, none⟩ = w2.cell? ⟨w1.heap.size + 1, o, none⟩ := fun o => hb3.cell (p := ⟨w1.heap.size + 1, o, none⟩) (by show w1.heap.size + 1 < w2.heap.size; omega)
  have hs3 := hb3.size
  have hT3 := Lib.hid ((((hT1.out.alloc _).alloc _).below hb2.out).below hb3)
  have hW3 := Lib.hid (bt (bt (bt (bt hb.out (ba _ _)) (ba _ _)) hb2.out) hb3)
  have hb3 := Lib.hid hb3
  go_wp2_with fail
  refine (hX.out x _ hPx.out).mono ?_; rintro e w4 ⟨rfl, hb4⟩
  have f6 : ∀ o, w4.cell? ⟨w1.heap.size, o, none⟩ = w3.cell? ⟨w1.heap.size, o, none⟩ := fun o => hb4.cell (p := ⟨w1.heap.size, o, none⟩) (by show w1.heap.size < w3.heap.size; omega)
  have f7 : ∀ o, w4.cell? ⟨w1.heap.size + 1, o, none⟩ = w3.cell? ⟨w1.heap.size + 1, o, none⟩ := fun o => hb4.cell (p := ⟨w1.heap.size + 1, o, none⟩) (by show w1.heap.size + 1 < w3.heap.size; omega)
  have hs4 := hb4.size
  have l0 : w1.heap.size < w4.heap.size := by omega
  have l1 : w1.heap.size + 1 < w4.heap.size := by omega
  have m0 : ¬ w1.heap.size = w4.heap.size := by omega
  have hT4 := Lib.hid (hT3.out.below hb4)
  have hW4 := Lib.hid (bt hW3.out hb4)
  have hCy : Hid (CellsOf w4 (w1.heap.size + 1) n y) := Lib.hid (by unfold CellsOf; rw [f7, f7, f7, f7, f5, f5, f5, f5, f3, f3, f3, f3]; simp)
  have hb4 := Lib.hid hb4
  go_wp2_with fail
  clear f2 f3 f4 f5 f6 f7 hR hC hN hA hb hb2 hb3 hb4 hW3 hT3
  go_loopw [10, 11] (fun o p wr => ∃ z g pre, Hid (P z) ∧ p = .pointer (some ⟨g, 0, none⟩) ∧ w4.heap.size ≤ g ∧ Hid (L = pre ++ stL n y (dst z y) z) ∧ Hid (OwnT wr w4.heap.size o pre) ∧ Hid (wr.heap[g]? = some (barO n z)) ∧ Hid (Below w4.heap.size w4 wr)) (fun o _ _ => 2001 - lenOf o)
  case atStart =>
    refine ⟨x, w4.heap.size + 1, [ST n x], hPx, rfl, by omega, Lib.hid (by rw [hL.out]; rfl), Lib.hid ((own_lit w4 (ST n x)).alloc _), Lib.hid (alloc_at' _ _ _ (by simp)), bt (ba _ _) (ba _ _)⟩
  case round =>
    obtain ⟨z, g, pre, hPz, rfl, hg0, hpre, ho, hgz, hbw⟩ := hrel
    have hsw := hbw.out.size
    have hgl : g < wr.heap.size := lt_of_block hgz.out
    obtain ⟨⟨c0, c1, c2, c3⟩, cf⟩ := bar_cells hgz.out
    have hlo := ho.out.lenOf
    have hTw := Lib.hid (hT4.out.below hbw.out)
    obtain ⟨d0, d1, d2, d3⟩ : CellsOf wr (w1.heap.size + 1) n y := by
      obtain ⟨r0, r1, r2, r3⟩ := hCy.out
      refine ⟨?_, ?_, ?_, ?_⟩
      · rw [hbw.out.cell (p := ⟨w1.heap.size + 1, 0, none⟩) (by show w1.heap.size + 1 < w4.heap.size; omega)]; exact r0
      · rw [hbw.out.cell (p := ⟨w1.heap.size + 1, 1, none⟩) (by show w1.heap.size + 1 < w4.heap.size; omega)]; exact r1
      · rw [hbw.out.cell (p := ⟨w1.heap.size + 1, 2, none⟩) (by show w1.heap.size + 1 < w4.heap.size; omega)]; exact r2
      · rw [hbw.out.cell (p := ⟨w1.heap.size + 1, 3, none⟩) (by show w1.heap.size + 1 < w4.heap.size; omega)]; exact r3
    by_cases hzy : z = y
    · subst hzy
      have hfin : Hid (L = pre) := Lib.hid (by rw [hpre.out, dst_zero]; simp [stL])
      go_wp2_with fail
      go_ret2
      exact ⟨_, rfl, by rw [hfin.out]; exact ho.out.mono hW4.out.size, bt hW4.out hbw.out⟩
    · have hKz := Lib.hid fun w => hK.out z w hPz.out hzy
      have hkn := hPk.out z hPz.out hzy
      have hPn := Lib.hid (hPs.out z hPz.out hzy)
      have hXn := Lib.hid fun w => hX.out _ w hPn.out
      have hnext : Hid (L = (pre ++ [ST n (z ^^^ 2 ^ stepK z y)]) ++ stL n y (dst (z ^^^ 2 ^ stepK z y) y) (z ^^^ 2 ^ stepK z y)) := Lib.hid (by
        rw [hpre.out, dst_step z y hzy]; simp [stL])
      have hlen0 : Hid (pre.length + 1 ≤ 2000) := Lib.hid (by
        have e := congrArg List.length hnext.out
        have e2 := congrArg List.length hL.out
        rw [List.length_cons, stL_len] at e2
        simp at e; omega)
      have hzl := Nat.lt_of_lt_of_le (hPl.out z hPz.out) (pow20 hn)
      obtain ⟨k, hk⟩ : ∃ k, k = stepK z y := ⟨_, rfl⟩
      rw [← hk] at hKz hkn hnext hPn hXn
      have hM := Lib.hid fun w hw => moved_any n z k w hzl (by omega) hw
      generalize z ^^^ 2 ^ k = z' at *
      generalize ST n z' = tz' at *
      clear hk
      go_wp2_with fail
      go_region_with (first
        | (go_at_call 47; refine (hKz.out _).mono ?_; rintro e w' ⟨rfl, hb2⟩; have hgl2 : g < w'.heap.size := Nat.lt_of_lt_of_le (by simpa using hgl) hb2.size; have hbb : Below wr.heap.size wr w' := Below.trans (by repeat (first | exact Below.refl _ _ | refine Below.drew ?_ | apply below_drewN)) (hb2.mono (by simp)); have hTn : TabOk w' := hTw.out.below hbb; have cc : ∀ o, w'.cell? ⟨g, o, none⟩ = wr.cell? ⟨g, o, none⟩ := fun o => hbb.cell (p := ⟨g, o, none⟩) hgl; have cff : ∀ o, w'.frozen? ⟨g, o, none⟩ = false := fun o => (hbb.frozen (p := ⟨g, o, none⟩) hgl).trans (cf o))
        | (go_at_call 33; refine (hM.out _ ?_).mono ?_; (repeat (first | assumption | apply TabOk.drew | apply TabOk.drewN)); rintro e w' ⟨rfl, hb3⟩; have hgl3 : g < w'.heap.size := Nat.lt_of_lt_of_le (by simpa using hgl2) hb3.size; have hbb3 : Below wr.heap.size wr w' := Below.trans (by repeat (first | exact hbb | refine Below.drew ?_ | apply below_drewN)) (hb3.mono (by have := hbb.size; simp; omega)); have cc3 : ∀ o, w'.cell? ⟨g, o, none⟩ = wr.cell? ⟨g, o, none⟩ := fun o => hbb3.cell (p := ⟨g, o, none⟩) hgl; have cff3 : ∀ o, w'.frozen? ⟨g, o, none⟩ = false := fun o => (hbb3.frozen (p := ⟨g, o, none⟩) hgl).trans (cf o)))
      all_goals
        have hgw : w'.heap[g]? = some (barO n z) := (hbb3.block g hgl).trans hgz.out
        have how := ho.out.below hbb3
        have hnew := how.ne_bar hgw
        obtain ⟨W5, hW5⟩ : ∃ W5, W5 = (((w'.setCell ⟨g, 0, none⟩ (.int .i64 (ctz z'))).setCell ⟨g, 1, none⟩ (.bool (onB z'))).setCell ⟨g, 2, none⟩ (.int .i64 n)).setCell ⟨g, 3, none⟩ (.int .u64 z') := ⟨_, rfl⟩
        rw [← hW5]
        have hgz5 : W5.heap[g]? = some (barO n z') := by rw [hW5]; exact set_bar hgw z'
        have ho5 := Lib.hid (show OwnT W5 w4.heap.size _ pre by rw [hW5]; exact (((how.setO hnew).setO hnew).setO hnew).setO hnew)
        have hbw5 := Lib.hid (show Below w4.heap.size w4 W5 by rw [hW5]; exact Below.setCell (Below.setCell (Below.setCell (Below.setCell (hbw.out.trans (hbb3.mono hsw)) hg0 _) hg0 _) hg0 _) hg0 _)
        clear hW5 hnew how hgw cc3 cff3 cc cff hgl3 hgl2 hTn c0 c1 c2 c3 d0 d1 d2 d3 cf
        have hgl5 : g < W5.heap.size := lt_of_block hgz5
        obtain ⟨⟨c0, c1, c2, c3⟩, cf⟩ := bar_cells hgz5
        have hgz5 := Lib.hid hgz5
        go_wp2_with fail
        refine (hXn.out _).mono ?_; rintro e w6 ⟨rfl, hb6⟩
        have hgz6 : w6.heap[g]? = some (barO n z') := by rw [hb6.block g hgl5]; exact hgz5.out
        have ho6 := Lib.hid (ho5.out.below hb6)
        have hbw6 := Lib.hid (hbw5.out.trans (hb6.mono hbw5.out.size))
        have hs6 := hb6.size
        have hgz6 := Lib.hid hgz6
        have hb6 := Lib.hid hb6
        clear c0 c1 c2 c3 cf
        go_wp2_with (at_builtin; refine app_txt _ rfl _ _ rfl w4.heap.size _ _ rfl (ho6.out.alloc _) w6.heap.size _ rfl (by simp; rfl) (by have := hlen0.out; omega) (by have := hbw6.out.size; simp; omega) ?_; intro v' w7 ho7 hg7; have hgz7 := grow_barT hg7 ho6.out hgz6.out; obtain ⟨⟨c0, c1, c2, c3⟩, cf⟩ := bar_cells hgz7; have hbw7 := Lib.hid (bel_ownT (hbw6.out.alloc hbw6.out.size _) (ho6.out.alloc _) hg7 (by have := hbw6.out.size; simp; omega)); have hgz7 := Lib.hid hgz7; have ho7 := Lib.hid ho7; have hg7 := Lib.hid hg7)
        go_roundw
        case rel =>
          refine ⟨z', w7.heap.size, pre ++ [tz'], hPn, rfl, hbw7.out.size, hnext, Lib.hid (ho7.out.alloc _), Lib.hid (alloc_at _ _), Lib.hid (hbw7.out.alloc hbw7.out.size _)⟩
        case measure =>
          have e1 := ho7.out.lenOf
          have e2 := hlen0.out
          rw [List.length_append] at e1
          show 2001 - lenOf v' < 2001 - lenOf _
          simp at e1
          omega

set_option maxRecDepth 100000 in
set_option maxHeartbeats 2000000 in
theorem iSt_down (a b : ByteArray) (n x y : Nat) (L : List ByteArray) (P : Nat → Prop) (w : World) (h1 : 1 ≤ n) (hn : n ≤ 20) (hT : TabOk w) (hPx : P x) (R : Int) (hDx : dst x y ≤ 1999) (hR8 : -1048576 ≤ R ∧ R ≤ 1048576)
    (hL : Hid (L = ST n x :: stL n y (dst x y) x))
    (hPl : Hid (∀ z, P z → z < 2 ^ n))
    (hPs : Hid (∀ z, P z → z ≠ y → P (z ^^^ 2 ^ stepK z y)))
    (hPk : Hid (∀ z, P z → z ≠ y → stepK z y < n))
    (hK : Hid (∀ z w, P z → z ≠ y → Calls Tryd.prog 48 #[(.agg #[.int .i64 ((ctz (z) : Nat) : Int), .bool (onB (z)), .int .i64 ((n : Nat) : Int), .int .u64 ((z : Nat) : Int)])] w fun e w' => e = .returned (.int .i64 (stepK z y : Int)) ∧ Below w.heap.size w w'))
    (hA : Hid (∀ w, TabOk w → Calls Tryd.prog 27 #[.string a, .string b] w fun e w' => e = .returned (.tuple #[(.agg #[.int .i64 ((ctz (x) : Nat) : Int), .bool (onB (x)), .int .i64 ((n : Nat) : Int), .int .u64 ((x : Nat) : Int)]), (.agg #[.int .i64 ((ctz (y) : Nat) : Int), .bool (onB (y)), .int .i64 ((n : Nat) : Int), .int .u64 ((y : Nat) : Int)]), .bool true]) ∧ Below w.heap.size w w'))
    (hN : Hid (∀ w, Calls Tryd.prog 32 #[(.agg #[.int .i64 ((ctz (x) : Nat) : Int), .bool (onB (x)), .int .i64 ((n : Nat) : Int), .int .u64 ((x : Nat) : Int)]), (.agg #[.int .i64 ((ctz (y) : Nat) : Int), .bool (onB (y)), .int .i64 ((n : Nat) : Int), .int .u64 ((y : Nat) : Int)])] w fun e w' => e = .returned (.int .i64 R) ∧ Below w.heap.size w w'))
    (hX : Hid (∀ z w, P z → Calls Tryd.prog 40 #[(.agg #[.int .i64 ((ctz (z) : Nat) : Int), .bool (onB (z)), .int .i64 ((n : Nat) : Int), .int .u64 ((z : Nat) : Int)])] w fun e w' => e = .returned (.string (ST n z)) ∧ Below w.heap.size w w'))
    (hC : Hid (∀ w, Calls Tryd.prog 31 #[.int .i64 (R + 1)] w fun e w' => e = .returned (.bool true) ∧ w = w'))
    (hR : Hid (∀ w, Calls Tryd.prog 28 #[(.agg #[.int .i64 ((ctz (x) : Nat) : Int), .bool (onB (x)), .int .i64 ((n : Nat) : Int), .int .u64 ((x : Nat) : Int)]), (.agg #[.int .i64 ((ctz (y) : Nat) : Int), .bool (onB (y)), .int .i64 ((n : Nat) : Int), .int .u64 ((y : Nat) : Int)])] w fun e w' => e = .returned (.func (.func 48) #[] #[]) ∧ Below w.heap.size w w')) :
    Calls Tryd.prog 21 #[.string a, .string b] w fun e w' => RetT w L true e w' := by
  have hT := Lib.hid hT
  have hPx := Lib.hid hPx
  go_enter Tryd.func21, Tryd.ntmps21
  go_wp2_with fail
  refine (hA.out _ hT.out).mono ?_; rintro e w1 ⟨rfl, hb⟩
  have hT1 := Lib.hid (hT.out.below hb)
  have hb := Lib.hid hb
  go_wp2_with fail
  refine (hN.out _).mono ?_; rintro e w2 ⟨rfl, hb2⟩
  have hb2 := Lib.hid hb2
  have hs2 := hb2.out.size
  simp only [World.size_alloc] at hs2
  go_wp2_with fail
  refine (hC.out _).mono ?_; rintro e w3 ⟨rfl, rfl⟩
  have f2 : ∀ o, w2.cell? ⟨w1.heap.size, o, none⟩ = _ := fun o => hb2.out.cell (p := ⟨w1.heap.size, o, none⟩) (by simp; omega)
  have f3 : ∀ o, w2.cell? ⟨w1.heap.size + 1, o, none⟩ = _ := fun o => hb2.out.cell (p := ⟨w1.heap.size + 1, o, none⟩) (by simp)
  go_wp2_with fail
  refine (hR.out _).mono ?_; rintro e w3 ⟨rfl, hb3⟩
  have f4 : ∀ o, w3.cell? ⟨w1.heap.size, o, none⟩ = w2.cell? ⟨w1.heap.size, o, none⟩ := fun o => hb3.cell (p := ⟨w1.heap.size, o, none⟩) (by show w1.heap.size < w2.heap.size; omega)
  have f5 : ∀ o, w3.cell? ⟨w1.heap.size + 1, o, none⟩ = w2.cell? ⟨w1.heap.size + 1, o, none⟩ := fun o => hb3.cell (p := ⟨w1.heap.size + 1, o, none⟩) (by show w1.heap.size + 1 < w2.heap.size; omega)
  have hs3 := hb3.size
  have hT3 := Lib.hid ((((hT1.out.alloc _).alloc _).below hb2.out).below hb3)
  have hW3 := Lib.hid (bt (bt (bt (bt hb.out (ba _ _)) (ba _ _)) hb2.out) hb3)
  have hb3 := Lib.hid hb3
  go_wp2_with fail
  refine (hX.out x _ hPx.out).mono ?_; rintro e w4 ⟨rfl, hb4⟩
  have f6 : ∀ o, w4.cell? ⟨w1.heap.size, o, none⟩ = w3.cell? ⟨w1.heap.size, o, none⟩ := fun o => hb4.cell (p := ⟨w1.heap.size, o, none⟩) (by show w1.heap.size < w3.heap.size; omega)
  have f7 : ∀ o, w4.cell? ⟨w1.heap.size + 1, o, none⟩ = w3.cell? ⟨w1.heap.size + 1, o, none⟩ := fun o => hb4.cell (p := ⟨w1.heap.size + 1, o, none⟩) (by show w1.heap.size + 1 < w3.heap.size; omega)
  have hs4 := hb4.size
  have l0 : w1.heap.size < w4.heap.size := by omega
  have l1 : w1.heap.size + 1 < w4.heap.size := by omega
  have m0 : ¬ w1.heap.size = w4.heap.size := by omega
  have hT4 := Lib.hid (hT3.out.below hb4)
  have hW4 := Lib.hid (bt hW3.out hb4)
  have hCy : Hid (CellsOf w4 (w1.heap.size + 1) n y) := Lib.hid (by unfold CellsOf; rw [f7, f7, f7, f7, f5, f5, f5, f5, f3, f3, f3, f3]; simp)
  have hb4 := Lib.hid hb4
  go_wp2_with fail
  clear f2 f3 f4 f5 f6 f7 hR hC hN hA hb hb2 hb3 hb4 hW3 hT3
  go_loopw [10, 11] (fun o p wr => ∃ z g pre, Hid (P z) ∧ p = .pointer (some ⟨g, 0, none⟩) ∧ w4.heap.size ≤ g ∧ Hid (L = pre ++ stL n y (dst z y) z) ∧ Hid (OwnT wr w4.heap.size o pre) ∧ Hid (wr.heap[g]? = some (barO n z)) ∧ Hid (Below w4.heap.size w4 wr)) (fun o _ _ => 2001 - lenOf o)
  case atStart =>
    refine ⟨x, w4.heap.size + 1, [ST n x], hPx, rfl, by omega, Lib.hid (by rw [hL.out]; rfl), Lib.hid ((own_lit w4 (ST n x)).alloc _), Lib.hid (alloc_at' _ _ _ (by simp)), bt (ba _ _) (ba _ _)⟩
  case round =>
    obtain ⟨z, g, pre, hPz, rfl, hg0, hpre, ho, hgz, hbw⟩ := hrel
    have hsw := hbw.out.size
    have hgl : g < wr.heap.size := lt_of_block hgz.out
    obtain ⟨⟨c0, c1, c2, c3⟩, cf⟩ := bar_cells hgz.out
    have hlo := ho.out.lenOf
    have hTw := Lib.hid (hT4.out.below hbw.out)
    obtain ⟨d0, d1, d2, d3⟩ : CellsOf wr (w1.heap.size + 1) n y := by
      obtain ⟨r0, r1, r2, r3⟩ := hCy.out
      refine ⟨?_, ?_, ?_, ?_⟩
      · rw [hbw.out.cell (p := ⟨w1.heap.size + 1, 0, none⟩) (by show w1.heap.size + 1 < w4.heap.size; omega)]; exact r0
      · rw [hbw.out.cell (p := ⟨w1.heap.size + 1, 1, none⟩) (by show w1.heap.size + 1 < w4.heap.size; omega)]; exact r1
      · rw [hbw.out.cell (p := ⟨w1.heap.size + 1, 2, none⟩) (by show w1.heap.size + 1 < w4.heap.size; omega)]; exact r2
      · rw [hbw.out.cell (p := ⟨w1.heap.size + 1, 3, none⟩) (by show w1.heap.size + 1 < w4.heap.size; omega)]; exact r3
    by_cases hzy : z = y
    · subst hzy
      have hfin : Hid (L = pre) := Lib.hid (by rw [hpre.out, dst_zero]; simp [stL])
      go_wp2_with fail
      go_ret2
      exact ⟨_, rfl, by rw [hfin.out]; exact ho.out.mono hW4.out.size, bt hW4.out hbw.out⟩
    · have hKz := Lib.hid fun w => hK.out z w hPz.out hzy
      have hkn := hPk.out z hPz.out hzy
      have hPn := Lib.hid (hPs.out z hPz.out hzy)
      have hXn := Lib.hid fun w => hX.out _ w hPn.out
      have hnext : Hid (L = (pre ++ [ST n (z ^^^ 2 ^ stepK z y)]) ++ stL n y (dst (z ^^^ 2 ^ stepK z y) y) (z ^^^ 2 ^ stepK z y)) := Lib.hid (by
        rw [hpre.out, dst_step z y hzy]; simp [stL])
      have hlen0 : Hid (pre.length + 1 ≤ 2000) := Lib.hid (by
        have e := congrArg List.length hnext.out
        have e2 := congrArg List.length hL.out
        rw [List.length_cons, stL_len] at e2
        simp at e; omega)
      have hzl := Nat.lt_of_lt_of_le (hPl.out z hPz.out) (pow20 hn)
      obtain ⟨k, hk⟩ : ∃ k, k = stepK z y := ⟨_, rfl⟩
      rw [← hk] at hKz hkn hnext hPn hXn
      have hM := Lib.hid fun w hw => moved_any n z k w hzl (by omega) hw
      generalize z ^^^ 2 ^ k = z' at *
      generalize ST n z' = tz' at *
      clear hk
      go_wp2_with fail
      go_region_with (first
        | (go_at_call 48; refine (hKz.out _).mono ?_; rintro e w' ⟨rfl, hb2⟩; have hgl2 : g < w'.heap.size := Nat.lt_of_lt_of_le (by simpa using hgl) hb2.size; have hbb : Below wr.heap.size wr w' := Below.trans (by repeat (first | exact Below.refl _ _ | refine Below.drew ?_ | apply below_drewN)) (hb2.mono (by simp)); have hTn : TabOk w' := hTw.out.below hbb; have cc : ∀ o, w'.cell? ⟨g, o, none⟩ = wr.cell? ⟨g, o, none⟩ := fun o => hbb.cell (p := ⟨g, o, none⟩) hgl; have cff : ∀ o, w'.frozen? ⟨g, o, none⟩ = false := fun o => (hbb.frozen (p := ⟨g, o, none⟩) hgl).trans (cf o))
        | (go_at_call 33; refine (hM.out _ ?_).mono ?_; (repeat (first | assumption | apply TabOk.drew | apply TabOk.drewN)); rintro e w' ⟨rfl, hb3⟩; have hgl3 : g < w'.heap.size := Nat.lt_of_lt_of_le (by simpa using hgl2) hb3.size; have hbb3 : Below wr.heap.size wr w' := Below.trans (by repeat (first | exact hbb | refine Below.drew ?_ | apply below_drewN)) (hb3.mono (by have := hbb.size; simp; omega)); have cc3 : ∀ o, w'.cell? ⟨g, o, none⟩ = wr.cell? ⟨g, o, none⟩ := fun o => hbb3.cell (p := ⟨g, o, none⟩) hgl; have cff3 : ∀ o, w'.frozen? ⟨g, o, none⟩ = false := fun o => (hbb3.frozen (p := ⟨g, o, none⟩) hgl).trans (cf o)))
      all_goals
        have hgw : w'.heap[g]? = some (barO n z) := (hbb3.block g hgl).trans hgz.out
        have how := ho.out.below hbb3
        have hnew := how.ne_bar hgw
        obtain ⟨W5, hW5⟩ : ∃ W5, W5 = (((w'.setCell ⟨g, 0, none⟩ (.int .i64 (ctz z'))).setCell ⟨g, 1, none⟩ (.bool (onB z'))).setCell ⟨g, 2, none⟩ (.int .i64 n)).setCell ⟨g, 3, none⟩ (.int .u64 z') := ⟨_, rfl⟩
        rw [← hW5]
        have hgz5 : W5.heap[g]? = some (barO n z') := by rw [hW5]; exact set_bar hgw z'
        have ho5 := Lib.hid (show OwnT W5 w4.heap.size _ pre by rw [hW5]; exact (((how.setO hnew).setO hnew).setO hnew).setO hnew)
        have hbw5 := Lib.hid (show Below w4.heap.size w4 W5 by rw [hW5]; exact Below.setCell (Below.setCell (Below.setCell (Below.setCell (hbw.out.trans (hbb3.mono hsw)) hg0 _) hg0 _) hg0 _) hg0 _)
        clear hW5 hnew how hgw cc3 cff3 cc cff hgl3 hgl2 hTn c0 c1 c2 c3 d0 d1 d2 d3 cf
        have hgl5 : g < W5.heap.size := lt_of_block hgz5
        obtain ⟨⟨c0, c1, c2, c3⟩, cf⟩ := bar_cells hgz5
        have hgz5 := Lib.hid hgz5
        go_wp2_with fail
        refine (hXn.out _).mono ?_; rintro e w6 ⟨rfl, hb6⟩
        have hgz6 : w6.heap[g]? = some (barO n z') := by rw [hb6.block g hgl5]; exact hgz5.out
        have ho6 := Lib.hid (ho5.out.below hb6)
        have hbw6 := Lib.hid (hbw5.out.trans (hb6.mono hbw5.out.size))
        have hs6 := hb6.size
        have hgz6 := Lib.hid hgz6
        have hb6 := Lib.hid hb6
        clear c0 c1 c2 c3 cf
        go_wp2_with (at_builtin; refine app_txt _ rfl _ _ rfl w4.heap.size _ _ rfl (ho6.out.alloc _) w6.heap.size _ rfl (by simp; rfl) (by have := hlen0.out; omega) (by have := hbw6.out.size; simp; omega) ?_; intro v' w7 ho7 hg7; have hgz7 := grow_barT hg7 ho6.out hgz6.out; obtain ⟨⟨c0, c1, c2, c3⟩, cf⟩ := bar_cells hgz7; have hbw7 := Lib.hid (bel_ownT (hbw6.out.alloc hbw6.out.size _) (ho6.out.alloc _) hg7 (by have := hbw6.out.size; simp; omega)); have hgz7 := Lib.hid hgz7; have ho7 := Lib.hid ho7; have hg7 := Lib.hid hg7)
        go_roundw
        case rel =>
          refine ⟨z', w7.heap.size, pre ++ [tz'], hPn, rfl, hbw7.out.size, hnext, Lib.hid (ho7.out.alloc _), Lib.hid (alloc_at _ _), Lib.hid (hbw7.out.alloc hbw7.out.size _)⟩
        case measure =>
          have e1 := ho7.out.lenOf
          have e2 := hlen0.out
          rw [List.length_append] at e1
          show 2001 - lenOf v' < 2001 - lenOf _
          simp at e1
          omega
theorem iSt_ST (n x y : Nat) (w : World) (h1 : 1 ≤ n) (hn : n ≤ 20) (hx : x < 2 ^ n) (hy : y < 2 ^ n) (hD : dst x y ≤ 1999) (hT : TabOk w) :
    Calls Tryd.prog 21 #[.string (ST n x), .string (ST n y)] w fun e w' => RetT w (ST n x :: stL n y (dst x y) x) true e w' := by
  have lx := Nat.lt_of_lt_of_le hx (pow20 hn)
  have ly := Nat.lt_of_lt_of_le hy (pow20 hn)
  have hR : apartN x y ≤ 1999 := by rw [apart_dst]; omega
  have hR8 : -1048576 ≤ apartN x y ∧ apartN x y ≤ 1048576 := by rw [apart_dst]; omega
  by_cases h : num x < num y
  · refine iSt_up _ _ n x y _ (fun z => z < 2 ^ n ∧ num z ≤ num y) w h1 hn hT ⟨hx, by omega⟩ (apartN x y) hD hR8 (Lib.hid rfl) (Lib.hid fun z h => h.1) (Lib.hid fun z h hne => ⟨step_lt n z y h.1 hy hne, ?_⟩) (Lib.hid fun z h hne => stepK_lt n z y hne h.1 hy) (Lib.hid fun z w hz hne => ?_) (Lib.hid fun w hw => two_yes n x y w h1 hn hx hy hw) (Lib.hid fun w => apart_any n x y w lx ly) (Lib.hid fun z w hz => text_any n z w (Nat.lt_of_lt_of_le hz.1 (pow20 hn)) hn) (Lib.hid fun w => moveC_yes _ w (by omega)) (Lib.hid fun w => ?_)
    · have h0 : num z ≠ num y := fun e => hne (num_inj e)
      rw [num_stp z y hne]; unfold nxt; rw [if_pos (by omega)]; omega
    · have h0 : num z ≠ num y := fun e => hne (num_inj e)
      have lz := Nat.lt_of_lt_of_le hz.1 (pow20 hn)
      have := raising_any n z w lz (ctz_le20 z lz)
      rw [rise_up] at this
      unfold stepK; rw [if_pos (by omega)]; exact this
    · have := toward_any n x y w lx ly
      rw [if_pos h] at this; exact this
  · refine iSt_down _ _ n x y _ (fun z => z < 2 ^ n ∧ num y ≤ num z) w h1 hn hT ⟨hx, by omega⟩ (apartN x y) hD hR8 (Lib.hid rfl) (Lib.hid fun z h => h.1) (Lib.hid fun z h hne => ⟨step_lt n z y h.1 hy hne, ?_⟩) (Lib.hid fun z h hne => stepK_lt n z y hne h.1 hy) (Lib.hid fun z w hz hne => ?_) (Lib.hid fun w hw => two_yes n x y w h1 hn hx hy hw) (Lib.hid fun w => apart_any n x y w lx ly) (Lib.hid fun z w hz => text_any n z w (Nat.lt_of_lt_of_le hz.1 (pow20 hn)) hn) (Lib.hid fun w => moveC_yes _ w (by omega)) (Lib.hid fun w => ?_)
    · have h0 : num z ≠ num y := fun e => hne (num_inj e)
      rw [num_stp z y hne]; unfold nxt; rw [if_neg (by omega), if_pos (by omega)]; omega
    · have h0 : num z ≠ num y := fun e => hne (num_inj e)
      have lz := Nat.lt_of_lt_of_le hz.1 (pow20 hn)
      have := lowering_any n z w lz (ctz_le20 z lz)
      rw [low_up z (by omega)] at this
      unfold stepK; rw [if_neg (by omega)]; exact this
    · have := toward_any n x y w lx ly
      rw [if_neg h] at this; exact this
theorem iSt_no (a b : ByteArray) (w : World) (hT : TabOk w)
    (hA : Hid (∀ w, TabOk w → Calls Tryd.prog 27 #[.string a, .string b] w fun e w' => e = .returned (.tuple #[(.agg #[.int .i64 ((ctz (0) : Nat) : Int), .bool (onB (0)), .int .i64 ((0 : Nat) : Int), .int .u64 ((0 : Nat) : Int)]), (.agg #[.int .i64 ((ctz (0) : Nat) : Int), .bool (onB (0)), .int .i64 ((0 : Nat) : Int), .int .u64 ((0 : Nat) : Int)]), .bool false]) ∧ Below w.heap.size w w')) :
    Calls Tryd.prog 21 #[.string a, .string b] w fun e w' => RetT w [] false e w' := by
  have hT := Lib.hid hT
  go_enter Tryd.func21, Tryd.ntmps21
  go_wp2_with fail
  refine (hA.out _ hT.out).mono ?_; rintro e w1 ⟨rfl, hb⟩
  have hb := Lib.hid hb
  go_wp2_with fail
  go_ret2
  exact ⟨_, rfl, OwnT.nil _ _, bt (bt hb.out (ba _ _)) (ba _ _)⟩
theorem iSt_far0 (a b : ByteArray) (n x y : Nat) (R : Int) (w : World) (hT : TabOk w) (hR8 : -1048576 ≤ R ∧ R ≤ 1048576)
    (hA : Hid (∀ w, TabOk w → Calls Tryd.prog 27 #[.string a, .string b] w fun e w' => e = .returned (.tuple #[(.agg #[.int .i64 ((ctz (x) : Nat) : Int), .bool (onB (x)), .int .i64 ((n : Nat) : Int), .int .u64 ((x : Nat) : Int)]), (.agg #[.int .i64 ((ctz (y) : Nat) : Int), .bool (onB (y)), .int .i64 ((n : Nat) : Int), .int .u64 ((y : Nat) : Int)]), .bool true]) ∧ Below w.heap.size w w'))
    (hN : Hid (∀ w, Calls Tryd.prog 32 #[(.agg #[.int .i64 ((ctz (x) : Nat) : Int), .bool (onB (x)), .int .i64 ((n : Nat) : Int), .int .u64 ((x : Nat) : Int)]), (.agg #[.int .i64 ((ctz (y) : Nat) : Int), .bool (onB (y)), .int .i64 ((n : Nat) : Int), .int .u64 ((y : Nat) : Int)])] w fun e w' => e = .returned (.int .i64 R) ∧ Below w.heap.size w w'))
    (hC : Hid (∀ w, Calls Tryd.prog 31 #[.int .i64 (R + 1)] w fun e w' => e = .returned (.bool false) ∧ w = w')) :
    Calls Tryd.prog 21 #[.string a, .string b] w fun e w' => RetT w [] false e w' := by
  have hT := Lib.hid hT
  go_enter Tryd.func21, Tryd.ntmps21
  go_wp2_with fail
  refine (hA.out _ hT.out).mono ?_; rintro e w1 ⟨rfl, hb⟩
  have hb := Lib.hid hb
  go_wp2_with fail
  refine (hN.out _).mono ?_; rintro e w2 ⟨rfl, hb2⟩
  have hb2 := Lib.hid hb2
  go_wp2_with fail
  refine (hC.out _).mono ?_; rintro e w3 ⟨rfl, rfl⟩
  go_wp2_with fail
  go_ret2
  exact ⟨_, rfl, OwnT.nil _ _, bt (bt (bt hb.out (ba _ _)) (ba _ _)) hb2.out⟩
theorem iSt_far (n x y : Nat) (w : World) (h1 : 1 ≤ n) (hn : n ≤ 20) (hx : x < 2 ^ n) (hy : y < 2 ^ n) (hD : 1999 < dst x y) (hT : TabOk w) :
    Calls Tryd.prog 21 #[.string (ST n x), .string (ST n y)] w fun e w' => RetT w [] false e w' := by
  have lx := Nat.lt_of_lt_of_le hx (pow20 hn)
  have ly := Nat.lt_of_lt_of_le hy (pow20 hn)
  have a := num_lt 20 x lx
  have b := num_lt 20 y ly
  have hR8 : -1048576 ≤ apartN x y ∧ apartN x y ≤ 1048576 := by rw [apart_dst]; unfold dst; omega
  exact iSt_far0 _ _ n x y (apartN x y) w hT hR8 (Lib.hid fun w hw => two_yes n x y w h1 hn hx hy hw) (Lib.hid fun w => apart_any n x y w lx ly) (Lib.hid fun w => moveC_no _ w (by rw [apart_dst]; omega))
set_option maxRecDepth 100000 in
set_option maxHeartbeats 2000000 in
theorem sSt_core (n x y X Y : Nat) (L : List ByteArray) (w : World) (hx : x < 2 ^ n) (hL : Hid (L = ST n x :: stL n y (dst x y) x)) (hDx : dst x y ≤ 1999)
    (hG : Hid (∀ w, Calls Tryd.prog 24 #[.string (ST n x), .string (ST n y)] w fun e w' => e = .returned (.bool true) ∧ w = w'))
    (hA : Hid (∀ w, Calls Tryd.prog 30 #[.string (ST n x)] w fun e w' => e = .returned (.int .i64 (X : Int)) ∧ w = w'))
    (hB : Hid (∀ w, Calls Tryd.prog 30 #[.string (ST n y)] w fun e w' => e = .returned (.int .i64 (Y : Int)) ∧ w = w')) (hX : X < 1048576) (hY : Y < 1048576) (R : Int) (hR : Hid (max ((X : Int) - Y) (-((X : Int) - Y)) = R)) (hR2 : R ≤ 1999) (hR0 : 0 ≤ R)
    (hE : Hid (∀ z, z < 2 ^ n → z ≠ y → ((ST n z).toList == (ST n y).toList) = false))
    (hPs : Hid (∀ z, z < 2 ^ n → z ≠ y → z ^^^ 2 ^ stepK z y < 2 ^ n))
    (hN : Hid (∀ z w, z < 2 ^ n → z ≠ y → Calls Tryd.prog 26 #[.string (ST n z), .string (ST n y)] w fun e w' => e = .returned (.string (ST n (z ^^^ 2 ^ stepK z y))) ∧ ∃ q, w' = w.drewN q)) :
    Calls Tryd.prog 20 #[.string (ST n x), .string (ST n y)] w fun e w' => RetT w L true e w' := by
  have hxx := Lib.hid hx
  clear hx
  go_enter Tryd.func20, Tryd.ntmps20
  go_wp2_with fail
  refine (hG.out _).mono ?_; rintro e w' ⟨rfl, rfl⟩
  go_wp2_with fail
  refine (hA.out _).mono ?_; rintro e w' ⟨rfl, rfl⟩
  go_wp2_with fail
  refine (hB.out _).mono ?_; rintro e w' ⟨rfl, rfl⟩
  go_wp2_with fail
  refine (l1Abs_any _ _ (by omega) (by omega)).mono ?_; rintro e w' ⟨rfl, rfl⟩
  rw [hR.out]
  have hR3 : decide (2000 < R + 1) = false := decide_eq_false (by omega)
  go_wp2_with fail
  clear hG hA hB
  go_loopw [0, 6] (fun t o wr => ∃ z pre, Hid (z < 2 ^ n) ∧ t = .string (ST n z) ∧ Hid (L = pre ++ stL n y (dst z y) z) ∧ Hid (OwnT wr w.heap.size o pre) ∧ Hid (Below w.heap.size w wr)) (fun _ o _ => 2001 - lenOf o)
  case atStart => exact ⟨x, [ST n x], hxx, rfl, Lib.hid (by rw [hL.out]; rfl), Lib.hid (own_lit w (ST n x)), ba _ _⟩
  case round =>
    obtain ⟨z, pre, hz, rfl, hpre, ho, hbw⟩ := hrel
    have hsw := hbw.out.size
    have hlo := ho.out.lenOf
    by_cases hzy : z = y
    · subst hzy
      have hfin : Hid (L = pre) := Lib.hid (by rw [hpre.out, dst_zero]; simp [stL])
      go_wp2_with fail
      go_ret2
      exact ⟨_, rfl, by rw [hfin.out]; exact ho.out, hbw.out⟩
    · have hne := hE.out z hz.out hzy
      have hNz := Lib.hid fun w => hN.out z w hz.out hzy
      have hnext : Hid (L = (pre ++ [ST n (z ^^^ 2 ^ stepK z y)]) ++ stL n y (dst (z ^^^ 2 ^ stepK z y) y) (z ^^^ 2 ^ stepK z y)) := Lib.hid (by
        rw [hpre.out, dst_step z y hzy]; simp [stL])
      have hPn := Lib.hid (hPs.out z hz.out hzy)
      have hlen0 : Hid (pre.length + 1 ≤ 2000) := Lib.hid (by
        have e := congrArg List.length hnext.out
        have e2 := congrArg List.length hL.out
        rw [List.length_cons, stL_len] at e2
        simp at e; omega)
      obtain ⟨k, hk⟩ : ∃ k, k = stepK z y := ⟨_, rfl⟩
      rw [← hk] at hNz hnext hPn
      generalize z ^^^ 2 ^ k = z' at *
      clear hk
      generalize hsz : ST n z = sz at *
      generalize hsy : ST n y = sy at *
      obtain ⟨tz', htz⟩ : ∃ t, t = ST n z' := ⟨_, rfl⟩
      rw [← htz] at hNz hnext
      have htz2 := Lib.hid htz
      clear hsz hsy htz
      go_wp2_with fail
      refine (hNz.out _).mono ?_; rintro e w4 ⟨rfl, q4, hq⟩
      have ho5 := Lib.hid (show OwnT w4 w.heap.size _ pre by rw [hq]; exact ho.out.drewN q4)
      have hbw5 := Lib.hid (show Below w.heap.size w w4 by rw [hq]; exact below_drewN hbw.out q4)
      have hs5 := hbw5.out.size
      clear hq
      go_wp2_with (at_builtin; refine app_txt _ rfl _ _ rfl w.heap.size _ _ rfl (ho5.out.alloc _) w4.heap.size _ rfl (by simp; rfl) (by have := hlen0.out; omega) (by simp; omega) ?_; intro v' w6 ho6 hg6; have hbw6 := Lib.hid (bel_ownT (hbw5.out.alloc hbw5.out.size _) (ho5.out.alloc _) hg6 (by simp; omega)); have ho6 := Lib.hid ho6; have hg6 := Lib.hid hg6)
      go_roundw
      case rel => exact ⟨z', pre ++ [tz'], hPn, by rw [htz2.out], hnext, ho6, hbw6⟩
      case measure =>
        have e1 := ho6.out.lenOf
        have e2 := hlen0.out
        rw [List.length_append] at e1
        show 2001 - lenOf v' < 2001 - lenOf _
        simp at e1
        omega
theorem sSt_ST (n x y : Nat) (w : World) (h1 : 1 ≤ n) (hn : n ≤ 20) (hx : x < 2 ^ n) (hy : y < 2 ^ n) (hD : dst x y ≤ 1999) :
    Calls Tryd.prog 20 #[.string (ST n x), .string (ST n y)] w fun e w' => RetT w (ST n x :: stL n y (dst x y) x) true e w' := by
  have lx := Nat.lt_of_lt_of_le hx (pow20 hn)
  have ly := Nat.lt_of_lt_of_le hy (pow20 hn)
  have hR : max ((num x : Int) - num y) (-((num x : Int) - num y)) = (dst x y : Int) := by unfold dst; omega
  exact sSt_core n x y (num x) (num y) _ w hx (Lib.hid rfl) hD (Lib.hid fun w => by
    have := riTwo_any (ST n x) (ST n y) w (by rw [ST_size]; unfold maxLen; omega) (by rw [ST_size]; unfold maxLen; omega)
    rw [two_ST n x y h1 hn] at this; exact this) (Lib.hid fun w => riNumber_ST n x w hn hx) (Lib.hid fun w => riNumber_ST n y w hn hy) (num_lt 20 x lx) (num_lt 20 y ly) _ (Lib.hid hR) (by omega) (by omega)
    (Lib.hid fun z hz hne => ST_toList hz hy hne) (Lib.hid fun z hz hne => step_lt n z y hz hy hne) (Lib.hid fun z w hz hne => next_ST n z y w hn hz hy hne)
theorem sSt_no (a b : ByteArray) (w : World) (hG : Hid (∀ w, Calls Tryd.prog 24 #[.string a, .string b] w fun e w' => e = .returned (.bool false) ∧ w = w')) :
    Calls Tryd.prog 20 #[.string a, .string b] w fun e w' => RetT w [] false e w' := by
  go_enter Tryd.func20, Tryd.ntmps20
  go_wp2_with fail
  refine (hG.out _).mono ?_; rintro e w1 ⟨rfl, rfl⟩
  go_wp2_with fail
  go_ret2
  exact ⟨_, rfl, OwnT.nil _ _, Below.refl _ _⟩
theorem sSt_far0 (a b : ByteArray) (X Y : Nat) (w : World)
    (hG : Hid (∀ w, Calls Tryd.prog 24 #[.string a, .string b] w fun e w' => e = .returned (.bool true) ∧ w = w'))
    (hA : Hid (∀ w, Calls Tryd.prog 30 #[.string a] w fun e w' => e = .returned (.int .i64 (X : Int)) ∧ w = w'))
    (hB : Hid (∀ w, Calls Tryd.prog 30 #[.string b] w fun e w' => e = .returned (.int .i64 (Y : Int)) ∧ w = w')) (hX : X < 1048576) (hY : Y < 1048576) (R : Int) (hR : Hid (max ((X : Int) - Y) (-((X : Int) - Y)) = R)) (hR2 : 1999 < R) (hR9 : R ≤ 1048576) :
    Calls Tryd.prog 20 #[.string a, .string b] w fun e w' => RetT w [] false e w' := by
  go_enter Tryd.func20, Tryd.ntmps20
  go_wp2_with fail
  refine (hG.out _).mono ?_; rintro e w' ⟨rfl, rfl⟩
  go_wp2_with fail
  refine (hA.out _).mono ?_; rintro e w' ⟨rfl, rfl⟩
  go_wp2_with fail
  refine (hB.out _).mono ?_; rintro e w' ⟨rfl, rfl⟩
  go_wp2_with fail
  refine (l1Abs_any _ _ (by omega) (by omega)).mono ?_; rintro e w' ⟨rfl, rfl⟩
  rw [hR.out]
  have hR3 : decide (2000 < R + 1) = true := decide_eq_true (by omega)
  go_wp2_with fail
  go_ret2
  exact ⟨_, rfl, OwnT.nil _ _, Below.refl _ _⟩
theorem sSt_far (n x y : Nat) (w : World) (h1 : 1 ≤ n) (hn : n ≤ 20) (hx : x < 2 ^ n) (hy : y < 2 ^ n) (hD : 1999 < dst x y) :
    Calls Tryd.prog 20 #[.string (ST n x), .string (ST n y)] w fun e w' => RetT w [] false e w' := by
  have lx := Nat.lt_of_lt_of_le hx (pow20 hn)
  have ly := Nat.lt_of_lt_of_le hy (pow20 hn)
  have a := num_lt 20 x lx
  have b := num_lt 20 y ly
  have hR : max ((num x : Int) - num y) (-((num x : Int) - num y)) = (dst x y : Int) := by unfold dst; omega
  exact sSt_far0 _ _ (num x) (num y) w (Lib.hid fun w => by
    have := riTwo_any (ST n x) (ST n y) w (by rw [ST_size]; unfold maxLen; omega) (by rw [ST_size]; unfold maxLen; omega)
    rw [two_ST n x y h1 hn] at this; exact this) (Lib.hid fun w => riNumber_ST n x w hn hx) (Lib.hid fun w => riNumber_ST n y w hn hy) a b _ (Lib.hid hR) (by omega) (by unfold dst; omega)
end Go.Proofs.YtbgdhiieeegnjabDoor
