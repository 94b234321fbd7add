/- FarthestFrom: both ways. -/
import Derived.Test.YtbgdhiieeegnjabDoorN5
import Derived.Deep.DeepCutAuto
namespace Go.Proofs.YtbgdhiieeegnjabDoor
open Go Go.RowKit RM
/-- a call hands back texts in memory of its own, a number, and whether it succeeds -/
def RetF (w : World) (xs : List ByteArray) (d : Int) (ok : Bool) (e : Ending) (w' : World) : Prop := ∃ v, e = .returned (.tuple #[v, .int .i64 d, .bool ok]) ∧ OwnT w' w.heap.size v xs ∧ Below w.heap.size w w'
theorem keepE4 {A B D : Prop} {N : Nat} {w v : World} (h : A ∧ B ∧ D ∧ Below N w v) : Below N w v := h.2.2.2
theorem keepA {A B : Prop} {N : Nat} {w a : World} {o : Obj} (h : A ∧ B ∧ N ≤ a.heap.size ∧ Below N w a) : Below N w (a.alloc o) := h.2.2.2.alloc h.2.2.1 o
theorem keepZ {A B : Prop} {N : Nat} {w a : World} {o : Obj} (h : A ∧ B ∧ N ≤ a.heap.size ∧ Below N w a) : N ≤ (a.alloc o).heap.size := by simp; have := h.2.2.1; omega
theorem keepN {A B D : Prop} {N : Nat} {v : World} (h : A ∧ B ∧ N ≤ v.heap.size ∧ D) : N ≤ v.heap.size := h.2.2.1
theorem keepE5 {A B C D : Prop} {N : Nat} {w v : World} (h : A ∧ B ∧ C ∧ D ∧ Below N w v) : Below N w v := h.2.2.2.2
theorem keep4 {a1 : Nat} {a b : World} {v0 v1 v2 v3 : Value} (h1 : a1 < a.heap.size) (k : Below a.heap.size a b) (h : a.cell? ⟨a1, 0, none⟩ = some v0 ∧ a.cell? ⟨a1, 1, none⟩ = some v1 ∧ a.cell? ⟨a1, 2, none⟩ = some v2 ∧ a.cell? ⟨a1, 3, none⟩ = some v3) :
    b.cell? ⟨a1, 0, none⟩ = some v0 ∧ b.cell? ⟨a1, 1, none⟩ = some v1 ∧ b.cell? ⟨a1, 2, none⟩ = some v2 ∧ b.cell? ⟨a1, 3, none⟩ = some v3 := by
  refine ⟨?_, ?_, ?_, ?_⟩
  · rw [k.cell (p := ⟨a1, 0, none⟩) h1]; exact h.1
  · rw [k.cell (p := ⟨a1, 1, none⟩) h1]; exact h.2.1
  · rw [k.cell (p := ⟨a1, 2, none⟩) h1]; exact h.2.2.1
  · rw [k.cell (p := ⟨a1, 3, none⟩) h1]; exact h.2.2.2
theorem keep12 {a1 a2 a3 N : Nat} {w a b : World} {v0 v1 v2 v3 x0 x1 x2 x3 y0 y1 y2 y3 : Value} (h1 : a1 < N) (h2 : a2 < N) (h3 : a3 < N) (k : Below a.heap.size a b)
    (h : (a.cell? ⟨a1, 0, none⟩ = some v0 ∧ a.cell? ⟨a1, 1, none⟩ = some v1 ∧ a.cell? ⟨a1, 2, none⟩ = some v2 ∧ a.cell? ⟨a1, 3, none⟩ = some v3) ∧ (a.cell? ⟨a2, 0, none⟩ = some x0 ∧ a.cell? ⟨a2, 1, none⟩ = some x1 ∧ a.cell? ⟨a2, 2, none⟩ = some x2 ∧ a.cell? ⟨a2, 3, none⟩ = some x3) ∧ (a.cell? ⟨a3, 0, none⟩ = some y0 ∧ a.cell? ⟨a3, 1, none⟩ = some y1 ∧ a.cell? ⟨a3, 2, none⟩ = some y2 ∧ a.cell? ⟨a3, 3, none⟩ = some y3) ∧ N ≤ a.heap.size ∧ Below N w a) :
    (b.cell? ⟨a1, 0, none⟩ = some v0 ∧ b.cell? ⟨a1, 1, none⟩ = some v1 ∧ b.cell? ⟨a1, 2, none⟩ = some v2 ∧ b.cell? ⟨a1, 3, none⟩ = some v3) ∧ (b.cell? ⟨a2, 0, none⟩ = some x0 ∧ b.cell? ⟨a2, 1, none⟩ = some x1 ∧ b.cell? ⟨a2, 2, none⟩ = some x2 ∧ b.cell? ⟨a2, 3, none⟩ = some x3) ∧ (b.cell? ⟨a3, 0, none⟩ = some y0 ∧ b.cell? ⟨a3, 1, none⟩ = some y1 ∧ b.cell? ⟨a3, 2, none⟩ = some y2 ∧ b.cell? ⟨a3, 3, none⟩ = some y3) ∧ N ≤ b.heap.size ∧ Below N w b :=
  ⟨keep4 (Nat.lt_of_lt_of_le h1 h.2.2.2.1) k h.1, keep4 (Nat.lt_of_lt_of_le h2 h.2.2.2.1) k h.2.1, keep4 (Nat.lt_of_lt_of_le h3 h.2.2.2.1) k h.2.2.1, Nat.le_trans h.2.2.2.1 k.size, h.2.2.2.2.trans (k.mono h.2.2.2.1)⟩
theorem keep8 {a1 a2 N : Nat} {w a b : World} {v0 v1 v2 v3 x0 x1 x2 x3 : Value} (h1 : a1 < N) (h2 : a2 < N) (k : Below a.heap.size a b)
    (h : (a.cell? ⟨a1, 0, none⟩ = some v0 ∧ a.cell? ⟨a1, 1, none⟩ = some v1 ∧ a.cell? ⟨a1, 2, none⟩ = some v2 ∧ a.cell? ⟨a1, 3, none⟩ = some v3) ∧ (a.cell? ⟨a2, 0, none⟩ = some x0 ∧ a.cell? ⟨a2, 1, none⟩ = some x1 ∧ a.cell? ⟨a2, 2, none⟩ = some x2 ∧ a.cell? ⟨a2, 3, none⟩ = some x3) ∧ N ≤ a.heap.size ∧ Below N w a) :
    (b.cell? ⟨a1, 0, none⟩ = some v0 ∧ b.cell? ⟨a1, 1, none⟩ = some v1 ∧ b.cell? ⟨a1, 2, none⟩ = some v2 ∧ b.cell? ⟨a1, 3, none⟩ = some v3) ∧ (b.cell? ⟨a2, 0, none⟩ = some x0 ∧ b.cell? ⟨a2, 1, none⟩ = some x1 ∧ b.cell? ⟨a2, 2, none⟩ = some x2 ∧ b.cell? ⟨a2, 3, none⟩ = some x3) ∧ N ≤ b.heap.size ∧ Below N w b :=
  ⟨keep4 (Nat.lt_of_lt_of_le h1 h.2.2.1) k h.1, keep4 (Nat.lt_of_lt_of_le h2 h.2.2.1) k h.2.1, Nat.le_trans h.2.2.1 k.size, h.2.2.2.trans (k.mono h.2.2.1)⟩
set_option maxRecDepth 100000 in
set_option maxHeartbeats 4000000 in
theorem iFar_core (s : ByteArray) (n x E Z : Nat) (w : World) (hn : n ≤ 20) (hx : x < 1048576) (hE : E < 1048576) (hT : TabOk w) (G : Nat)
    (hA : Hid (∀ w, TabOk w → Calls Tryd.prog 37 #[.string s] w fun e w' => e = .returned (.tuple #[(.agg #[.int .i64 ((ctz (x) : Nat) : Int), .bool (onB (x)), .int .i64 ((n : Nat) : Int), .int .u64 ((x : Nat) : Int)]), .bool true]) ∧ Below w.heap.size w w'))
    (hZ : Hid (∀ w, TabOk w → Calls Tryd.prog 38 #[.int .i64 n, .int .i64 0] w fun e w' => e = .returned (.agg #[.int .i64 ((ctz (Z) : Nat) : Int), .bool (onB (Z)), .int .i64 ((n : Nat) : Int), .int .u64 ((Z : Nat) : Int)]) ∧ Below w.heap.size w w'))
    (hG : Hid (∀ w, Calls Tryd.prog 39 #[.int .i64 n] w fun e w' => e = .returned (.int .i64 (G : Int)) ∧ w = w'))
    (R1 R2 : Int) (hN1 : Hid (∀ w, Calls Tryd.prog 32 #[(.agg #[.int .i64 ((ctz (x) : Nat) : Int), .bool (onB (x)), .int .i64 ((n : Nat) : Int), .int .u64 ((x : Nat) : Int)]), (.agg #[.int .i64 ((ctz (E) : Nat) : Int), .bool (onB (E)), .int .i64 ((n : Nat) : Int), .int .u64 ((E : Nat) : Int)])] w fun e w' => e = .returned (.int .i64 R1) ∧ Below w.heap.size w w'))
    (hN2 : Hid (∀ w, Calls Tryd.prog 32 #[(.agg #[.int .i64 ((ctz (x) : Nat) : Int), .bool (onB (x)), .int .i64 ((n : Nat) : Int), .int .u64 ((x : Nat) : Int)]), (.agg #[.int .i64 ((ctz (Z) : Nat) : Int), .bool (onB (Z)), .int .i64 ((n : Nat) : Int), .int .u64 ((Z : Nat) : Int)])] w fun e w' => e = .returned (.int .i64 R2) ∧ Below w.heap.size w w'))
    (tE tZ tA : ByteArray) (rA : Int) (hyes : Hid (R2 < R1 → tE = tA ∧ R1 = rA)) (hno : Hid (R1 ≤ R2 → tZ = tA ∧ R2 = rA)) (hTE : Hid (∀ w, Calls Tryd.prog 40 #[(.agg #[.int .i64 ((ctz (E) : Nat) : Int), .bool (onB (E)), .int .i64 ((n : Nat) : Int), .int .u64 ((E : Nat) : Int)])] w fun e w' => e = .returned (.string tE) ∧ Below w.heap.size w w'))
    (hTZ : Hid (∀ w, Calls Tryd.prog 40 #[(.agg #[.int .i64 ((ctz (Z) : Nat) : Int), .bool (onB (Z)), .int .i64 ((n : Nat) : Int), .int .u64 ((Z : Nat) : Int)])] w fun e w' => e = .returned (.string tZ) ∧ Below w.heap.size w w'))
    (hEn : Hid (∀ w, TabOk w → Calls Tryd.prog 38 #[.int .i64 n, .int .i64 G] w fun e w' => e = .returned (.agg #[.int .i64 ((ctz (E) : Nat) : Int), .bool (onB (E)), .int .i64 ((n : Nat) : Int), .int .u64 ((E : Nat) : Int)]) ∧ Below w.heap.size w w')) :
    Calls Tryd.prog 16 #[.string s] w fun e w' => RetF w [tA] rA true e w' := by
  have hT := Lib.hid hT
  go_enter Tryd.func16, Tryd.ntmps16
  go_wp2_with fail
  refine (hA.out _ hT.out).mono ?_; rintro e w1 ⟨rfl, hb⟩
  have hT1 := Lib.hid (hT.out.below hb)
  have hb := Lib.hid hb
  go_wp2_with fail
  refine (hZ.out _ (hT1.out.alloc _)).mono ?_; rintro e w2 ⟨rfl, hb2⟩
  have hT2 := Lib.hid ((hT1.out.alloc _).below hb2)
  have hs2 := hb2.size
  simp only [World.size_alloc] at hs2
  have hx1 : w2.heap[w1.heap.size]? = some (barO n x) := (hb2.block w1.heap.size (by simp)).trans (alloc_at _ _)
  have hbw2 : Below w.heap.size w w2 := (hb.out.alloc hb.out.size _).trans (hb2.mono (by have := hb.out.size; simp; omega))
  clear hb2
  have hx1 := Lib.hid hx1
  have hbw2 := Lib.hid hbw2
  have hs2 := Lib.hid hs2
  go_upto_region 5 with fail
  obtain ⟨W, hW⟩ : ∃ W, W = w2.alloc (.cells #[.int .i64 (ctz Z), .bool (onB Z), .int .i64 n, .int .u64 Z] 44) := ⟨_, rfl⟩
  have hWs : Hid (W.heap.size = w2.heap.size + 1) := Lib.hid (by rw [hW]; simp)
  have hWx : W.heap[w1.heap.size]? = some (barO n x) := by rw [hW]; exact (Below.heap_alloc _ _ _ (by have := hs2.out; omega)).trans hx1.out
  have hWz := Lib.hid (show W.heap[w2.heap.size]? = some (barO n Z) by rw [hW]; exact alloc_at _ _)
  have hWT := Lib.hid (show TabOk W by rw [hW]; exact hT2.out.alloc _)
  have hWb := Lib.hid (show Below w.heap.size w W by rw [hW]; exact hbw2.out.alloc (by have := hbw2.out.size; exact this) _)
  rw [← hW]
  obtain ⟨⟨c0, c1, c2, c3⟩, _⟩ := bar_cells hWx
  clear c0 c1 c3 hW
  have hlt1 : w1.heap.size < W.heap.size := by have := hs2.out; have := hWs.out; omega
  have hne1 : ¬ w1.heap.size = W.heap.size := by omega
  have hWx := Lib.hid hWx
  go_cut [8] (fun t8 wx => ∃ g : Nat, t8 = .pointer (some ⟨g, 0, none⟩) ∧ W.heap.size ≤ g ∧ wx.heap[g]? = some (barO n E) ∧ Below W.heap.size W wx)
  case first =>
    go_region_with (first
      | (go_at_call 39; refine (hG.out _).mono ?_; rintro e w' ⟨rfl, rfl⟩)
      | (go_at_call 38; refine (hEn.out _ ?_).mono ?_; (repeat (first | exact hWT.out | apply TabOk.alloc | apply TabOk.drew | apply TabOk.drewN)); rintro e w' ⟨rfl, hb5⟩; obtain ⟨hc5, hf5⟩ := bcell hb5))
    all_goals
      go_wp2_with fail
      go_meet
      first
        | exact ⟨_, rfl, hb5.size, alloc_at _ _, ((Below.refl _ _).drew.trans hb5).alloc hb5.size _⟩
        | exact ⟨_, rfl, Nat.le_refl _, set_one (set_one (set_one (set_one ((hb5.block W.heap.size (by simp)).trans (alloc_at W.drew _)) _) _) _) _,
            Below.setCell (Below.setCell (Below.setCell (Below.setCell (((Below.refl _ _).drew.alloc (Nat.le_refl _) _).trans (hb5.mono (by simp))) (Nat.le_refl _) _) (Nat.le_refl _) _) (Nat.le_refl _) _) (Nat.le_refl _) _⟩
  case rest =>
    obtain ⟨g, rfl, hg1, hgE, hbx⟩ := hcut
    have hgx : wc.heap[w1.heap.size]? = some (barO n x) := (hbx.block _ hlt1).trans hWx.out
    have hgz : wc.heap[w2.heap.size]? = some (barO n Z) := (hbx.block _ (by rw [hWs.out]; omega)).trans hWz.out
    have hTc := Lib.hid (hWT.out.below hbx)
    have hbc := Lib.hid (hWb.out.trans (hbx.mono hWb.out.size))
    have hglt := lt_of_block hgE
    have l1 := lt_of_block hgx
    have l2 := lt_of_block hgz
    obtain ⟨⟨p0, p1, p2, p3⟩, _⟩ := bar_cells hgx
    obtain ⟨⟨q0, q1, q2, q3⟩, _⟩ := bar_cells hgz
    obtain ⟨⟨r0, r1, r2, r3⟩, _⟩ := bar_cells hgE
    have hgx := Lib.hid hgx
    have hgz := Lib.hid hgz
    have hgE := Lib.hid hgE
    have hbW := Lib.hid hbx
    clear hbx c2
    go_upto_region 6 with fail
    go_cut [31] (fun t31 wx => ∃ c, t31 = .bool c ∧ ((c = true ∧ R2 < R1) ∨ (c = false ∧ R1 ≤ R2)) ∧ Below wc.heap.size wc wx)
    case first =>
      go_region_held3 (fun v => (v.cell? ⟨w1.heap.size, 0, none⟩ = some (.int .i64 (ctz x)) ∧ v.cell? ⟨w1.heap.size, 1, none⟩ = some (.bool (onB x)) ∧ v.cell? ⟨w1.heap.size, 2, none⟩ = some (.int .i64 n) ∧ v.cell? ⟨w1.heap.size, 3, none⟩ = some (.int .u64 x)) ∧ (v.cell? ⟨w2.heap.size, 0, none⟩ = some (.int .i64 (ctz Z)) ∧ v.cell? ⟨w2.heap.size, 1, none⟩ = some (.bool (onB Z)) ∧ v.cell? ⟨w2.heap.size, 2, none⟩ = some (.int .i64 n) ∧ v.cell? ⟨w2.heap.size, 3, none⟩ = some (.int .u64 Z)) ∧ (v.cell? ⟨g, 0, none⟩ = some (.int .i64 (ctz E)) ∧ v.cell? ⟨g, 1, none⟩ = some (.bool (onB E)) ∧ v.cell? ⟨g, 2, none⟩ = some (.int .i64 n) ∧ v.cell? ⟨g, 3, none⟩ = some (.int .u64 E)) ∧ wc.heap.size ≤ v.heap.size ∧ Below wc.heap.size wc v) ((first | assumption | (refine ⟨⟨?_, ?_, ?_, ?_⟩, ⟨?_, ?_, ?_, ?_⟩, ⟨?_, ?_, ?_, ?_⟩, ?_, ?_⟩ <;> first | assumption | go_keep | exact Nat.le_refl _ | exact (Below.refl _ _).drew)))
        (first | (go_at_call 32; (first | (with_reducible refine (hN1.out _).mono ?_) | (with_reducible refine (hN2.out _).mono ?_)); rintro e w' ⟨rfl, hb2⟩; have hz := hb2.size; obtain ⟨hc, hf⟩ := bcell hb2; have hbn := keep12 l1 l2 hglt hb2 (by assumption)))
      all_goals
        go_wp2_with fail
        go_meet
        refine ⟨_, rfl, ?_, keepE5 (by assumption)⟩
        by_cases h9 : R2 < R1
        · left; exact ⟨by simpa using h9, h9⟩
        · right; exact ⟨by simpa using h9, by omega⟩
    case rest =>
      obtain ⟨cb, rfl, hcb, hb6⟩ := hcut
      have vx : wc.heap[w1.heap.size]? = some (barO n x) := (hb6.block _ l1).trans hgx.out
      have vz : wc.heap[w2.heap.size]? = some (barO n Z) := (hb6.block _ l2).trans hgz.out
      have vE : wc.heap[g]? = some (barO n E) := (hb6.block _ hglt).trans hgE.out
      have hbv := Lib.hid (hbc.out.trans (hb6.mono hbc.out.size))
      have hne12 : w1.heap.size ≠ w2.heap.size := by have := hs2.out; omega
      have hle2 : w.heap.size ≤ w2.heap.size := hbw2.out.size
      have hne12 := Lib.hid hne12
      have hle2 := Lib.hid hle2
      clear p0 p1 p2 p3 q0 q1 q2 q3 r0 r1 r2 r3 hgx hgz hgE hb6 l1 l2 hglt hTc hbc hbW
      rcases hcb with ⟨rfl, hcmp⟩ | ⟨rfl, hcmp⟩
      · obtain ⟨e1, e2⟩ := hyes.out hcmp
        have e1 := Lib.hid e1
        have e2 := Lib.hid e2
        clear hcmp
        obtain ⟨⟨c0, c1, c2, c3⟩, cf⟩ := bar_cells vE
        obtain ⟨⟨d0, d1, d2, d3⟩, df⟩ := bar_cells vz
        go_wp2_with fail
        obtain ⟨W7, hW7⟩ : ∃ W7, W7 = (((wc.setCell ⟨w2.heap.size, 0, none⟩ (.int .i64 (ctz E))).setCell ⟨w2.heap.size, 1, none⟩ (.bool (onB E))).setCell ⟨w2.heap.size, 2, none⟩ (.int .i64 n)).setCell ⟨w2.heap.size, 3, none⟩ (.int .u64 E) := ⟨_, rfl⟩
        rw [← hW7]
        have vx : W7.heap[w1.heap.size]? = some (barO n x) := by
          rw [hW7]
          exact (Below.heap_setCell _ _ _ _ hne12.out).trans ((Below.heap_setCell _ _ _ _ hne12.out).trans ((Below.heap_setCell _ _ _ _ hne12.out).trans ((Below.heap_setCell _ _ _ _ hne12.out).trans vx)))
        have vz : W7.heap[w2.heap.size]? = some (barO n E) := by rw [hW7]; exact set_bar vz E
        have hbv7 := Lib.hid (show Below w.heap.size w W7 by rw [hW7]; exact Below.setCell (Below.setCell (Below.setCell (Below.setCell hbv.out hle2.out _) hle2.out _) hle2.out _) hle2.out _)
        clear hW7 c0 c1 c2 c3 d0 d1 d2 d3 cf df vE
        have m1 := lt_of_block vx
        have m2 := lt_of_block vz
        obtain ⟨⟨p0, p1, p2, p3⟩, _⟩ := bar_cells vx
        obtain ⟨⟨q0, q1, q2, q3⟩, _⟩ := bar_cells vz
        clear vx vz
        go_region_held3 (fun v => (v.cell? ⟨w1.heap.size, 0, none⟩ = some (.int .i64 (ctz x)) ∧ v.cell? ⟨w1.heap.size, 1, none⟩ = some (.bool (onB x)) ∧ v.cell? ⟨w1.heap.size, 2, none⟩ = some (.int .i64 n) ∧ v.cell? ⟨w1.heap.size, 3, none⟩ = some (.int .u64 x)) ∧ (v.cell? ⟨w2.heap.size, 0, none⟩ = some (.int .i64 (ctz E)) ∧ v.cell? ⟨w2.heap.size, 1, none⟩ = some (.bool (onB E)) ∧ v.cell? ⟨w2.heap.size, 2, none⟩ = some (.int .i64 n) ∧ v.cell? ⟨w2.heap.size, 3, none⟩ = some (.int .u64 E)) ∧ W7.heap.size ≤ v.heap.size ∧ Below W7.heap.size W7 v) ((first | assumption | exact keep8 m1 m2 ((Below.refl _ _).alloc (Nat.le_refl _) _) hbn | exact keep8 m1 m2 ((Below.refl _ _).alloc (Nat.le_refl _) _) (by assumption) | exact keepA hbn | exact keepA (by assumption) | (refine ⟨⟨?_, ?_, ?_, ?_⟩, ⟨?_, ?_, ?_, ?_⟩, ?_, ?_⟩ <;> first | assumption | go_keep | exact Nat.le_refl _ | exact (Below.refl _ _).drew | exact keepZ hbn | exact keepZ (by assumption) | exact keepA hbn | exact keepA (by assumption))))
          (first | (go_at_call 32; refine (hN1.out _).mono ?_; rintro e w' ⟨rfl, hbm⟩; obtain ⟨hc, hf⟩ := bcell hbm; have hbn := keep8 m1 m2 hbm (by assumption)) | (go_at_call 40; refine (hTE.out _).mono ?_; rintro e w' ⟨rfl, hbt⟩; obtain ⟨hc, hf⟩ := bcell hbt; have hbn := keep8 m1 m2 hbt (by assumption)))
        all_goals
          go_wp2_with fail
          go_ret3
          first
            | exact ⟨_, rfl, ((own_lit _ _).below hbm).mono (Nat.le_trans hbv7.out.size (keepN (by assumption))), hbv7.out.trans ((keepE4 (by assumption)).mono hbv7.out.size)⟩
            | exact ⟨_, rfl, (own_lit _ _).mono (Nat.le_trans hbv7.out.size (keepN (by assumption))), hbv7.out.trans ((keepE4 (by assumption)).mono hbv7.out.size)⟩
      · obtain ⟨e1, e2⟩ := hno.out hcmp
        have e1 := Lib.hid e1
        have e2 := Lib.hid e2
        clear hcmp vE
        have hbv7 := hbv
        go_wp2_with fail
        have m1 := lt_of_block vx
        have m2 := lt_of_block vz
        obtain ⟨⟨p0, p1, p2, p3⟩, _⟩ := bar_cells vx
        obtain ⟨⟨q0, q1, q2, q3⟩, _⟩ := bar_cells vz
        clear vx vz
        go_region_held3 (fun v => (v.cell? ⟨w1.heap.size, 0, none⟩ = some (.int .i64 (ctz x)) ∧ v.cell? ⟨w1.heap.size, 1, none⟩ = some (.bool (onB x)) ∧ v.cell? ⟨w1.heap.size, 2, none⟩ = some (.int .i64 n) ∧ v.cell? ⟨w1.heap.size, 3, none⟩ = some (.int .u64 x)) ∧ (v.cell? ⟨w2.heap.size, 0, none⟩ = some (.int .i64 (ctz Z)) ∧ v.cell? ⟨w2.heap.size, 1, none⟩ = some (.bool (onB Z)) ∧ v.cell? ⟨w2.heap.size, 2, none⟩ = some (.int .i64 n) ∧ v.cell? ⟨w2.heap.size, 3, none⟩ = some (.int .u64 Z)) ∧ wc.heap.size ≤ v.heap.size ∧ Below wc.heap.size wc v) ((first | assumption | exact keep8 m1 m2 ((Below.refl _ _).alloc (Nat.le_refl _) _) hbn | exact keep8 m1 m2 ((Below.refl _ _).alloc (Nat.le_refl _) _) (by assumption) | exact keepA hbn | exact keepA (by assumption) | (refine ⟨⟨?_, ?_, ?_, ?_⟩, ⟨?_, ?_, ?_, ?_⟩, ?_, ?_⟩ <;> first | assumption | go_keep | exact Nat.le_refl _ | exact (Below.refl _ _).drew | exact keepZ hbn | exact keepZ (by assumption) | exact keepA hbn | exact keepA (by assumption))))
          (first | (go_at_call 32; refine (hN2.out _).mono ?_; rintro e w' ⟨rfl, hbm⟩; obtain ⟨hc, hf⟩ := bcell hbm; have hbn := keep8 m1 m2 hbm (by assumption)) | (go_at_call 40; refine (hTZ.out _).mono ?_; rintro e w' ⟨rfl, hbt⟩; obtain ⟨hc, hf⟩ := bcell hbt; have hbn := keep8 m1 m2 hbt (by assumption)))
        all_goals
          go_wp2_with fail
          go_ret3
          first
            | exact ⟨_, rfl, ((own_lit _ _).below hbm).mono (Nat.le_trans hbv7.out.size (keepN (by assumption))), hbv7.out.trans ((keepE4 (by assumption)).mono hbv7.out.size)⟩
            | exact ⟨_, rfl, (own_lit _ _).mono (Nat.le_trans hbv7.out.size (keepN (by assumption))), hbv7.out.trans ((keepE4 (by assumption)).mono hbv7.out.size)⟩
end Go.Proofs.YtbgdhiieeegnjabDoor
