/- Chapter 2: the choice with a rank, both ways. -/
import Derived.Test.YtbgdhiieeegnjacK8
import Derived.Test.YtbgdhiieeegnjacRow
namespace Go.Proofs.Ytbgdhiieeegnjac
open Go Go.RowKit RM

theorem reverse_own (v : Value) (xs : List Int) (B : Nat) (w : World) (hn : xs.length ≤ 2000000) (h : OwnI w B v xs) :
    Calls Try.prog 46 #[v] w fun e w' => e = .returned (.tuple #[]) ∧ OwnI w' B v xs.reverse ∧ w.grownBy w' v.ownBlock := by
  rcases h.form with ⟨rfl, rfl⟩ | ⟨g, cap, rfl, _, _, hc, hf, _⟩
  · exact (reverse_empty none 0 w).mono fun e w' ⟨a, b⟩ => ⟨a, by subst b; exact h, by subst b; exact World.grownBy.refl _ _⟩
  · refine (reverse_cells g 0 xs.length cap xs w (Nat.le_refl _) (by omega) (fun j hj => by rw [Nat.zero_add, hc j hj, getD_at xs j hj]) (fun j hj => by rw [Nat.zero_add]; exact hf j)).mono ?_
    rintro e w' ⟨a, q, rfl⟩
    rw [List.take_of_length_le (Nat.le_refl _)]
    obtain ⟨c, d⟩ := (h.drewN q).storedAll xs.reverse rfl (by simp)
    refine ⟨a, c.sameLen (by simp), ?_⟩
    have e1 : w.grownBy (w.drewN q) (some g) := ⟨rfl, rfl, rfl, Nat.le_refl _, fun _ _ _ => rfl⟩
    exact e1.trans d

/-- the answer: the choice, or none -/
def chB (n c r : Int) : Bool := decide (1 ≤ n) && decide (n ≤ 20) && (decide (0 ≤ c) && decide (c ≤ n)) && (decide (0 ≤ r) && decide (r < (ch n.toNat c.toNat : Int)))
def chA (n c r : Int) : List Int := if chB n c r then choL n.toNat c.toNat r.toNat else []
theorem ch_cases (n c r : Int) : (((n < 1 ∨ 20 < n) ∨ (1 ≤ n ∧ n ≤ 20 ∧ (c < 0 ∨ (0 ≤ c ∧ n < c)))) ∧ chB n c r = false ∧ chA n c r = []) ∨
    (∃ s k : Nat, n = (s : Int) ∧ c = (k : Int) ∧ 1 ≤ s ∧ s ≤ 20 ∧ k ≤ s ∧ (r < 0 ∨ (ch s k : Int) ≤ r) ∧ chB n c r = false ∧ chA n c r = []) ∨
    (∃ s k m : Nat, n = (s : Int) ∧ c = (k : Int) ∧ r = (m : Int) ∧ 1 ≤ s ∧ s ≤ 20 ∧ k ≤ s ∧ m < ch s k ∧ chB n c r = true ∧ chA n c r = choL s k m) := by
  rcases count_cases n c with h | ⟨s, k, rfl, rfl, h1, h2, h3⟩
  · left
    have e : chB n c r = false := by
      unfold chB
      have : (decide (1 ≤ n) && decide (n ≤ 20) && (decide (0 ≤ c) && decide (c ≤ n))) = false := by simp; omega
      rw [this]; rfl
    exact ⟨h, e, by unfold chA; rw [e]; rfl⟩
  · right
    have e0 : (decide ((1 : Int) ≤ (s : Int)) && decide ((s : Int) ≤ 20) && (decide ((0 : Int) ≤ (k : Int)) && decide ((k : Int) ≤ (s : Int)))) = true := by simp; omega
    by_cases hr : r < 0 ∨ (ch s k : Int) ≤ r
    · left
      have e : chB (s : Int) (k : Int) r = false := by
        unfold chB; rw [e0]; simp only [Int.toNat_natCast, Bool.true_and]; simp; omega
      exact ⟨s, k, rfl, rfl, h1, h2, h3, hr, e, by unfold chA; rw [e]; rfl⟩
    · right
      have e : chB (s : Int) (k : Int) r = true := by
        unfold chB; rw [e0]; simp only [Int.toNat_natCast, Bool.true_and]; simp; omega
      refine ⟨s, k, r.toNat, rfl, rfl, by omega, h1, h2, h3, by omega, e, ?_⟩
      unfold chA; rw [e]; simp

theorem iChoice_no (n c r : Int) (w : World) (h : (n < 1 ∨ 20 < n) ∨ (1 ≤ n ∧ n ≤ 20 ∧ (c < 0 ∨ (0 ≤ c ∧ n < c)))) : Calls Try.prog 17 #[.int .i64 n, .int .i64 c, .int .i64 r] w fun e w' => RetI w [] false e w' := by
  have hS := Lib.hid fun w => isCount_no n c w h
  clear h
  go_enter Try.func17, Try.ntmps17
  go_wp2_with fail
  refine (hS.out _).mono ?_; rintro e w' ⟨rfl, rfl⟩
  go_wp2_with fail
  go_ret2; exact ⟨_, rfl, OwnI.nil _ _, Below.refl _ _⟩

theorem iChoice_norank (s k : Nat) (r : Int) (w : World) (h1 : 1 ≤ s) (h2 : s ≤ 20) (h3 : k ≤ s) (h : r < 0 ∨ (ch s k : Int) ≤ r) : Calls Try.prog 17 #[.int .i64 s, .int .i64 k, .int .i64 r] w fun e w' => RetI w [] false e w' := by
  have hS := Lib.hid fun w => isCount_yes (s : Int) (k : Int) w (by omega) (by omega) (by omega) (by omega)
  have hC := Lib.hid fun w => choices_any s k w h2 (by omega)
  have hR := Lib.hid fun w => isRank_no r ((ch s k : Nat) : Int) w h
  clear h
  generalize ch s k = C at *
  go_enter Try.func17, Try.ntmps17
  go_wp2_with fail
  refine (hS.out _).mono ?_; rintro e w' ⟨rfl, rfl⟩
  go_wp2_with fail
  refine (hC.out _).mono ?_; rintro e w' ⟨rfl, rfl⟩
  go_wp2_with fail
  refine (hR.out _).mono ?_; rintro e w' ⟨rfl, rfl⟩
  go_wp2_with fail
  go_ret2; exact ⟨_, rfl, OwnI.nil _ _, Below.refl _ _⟩

set_option maxHeartbeats 1000000 in
theorem iChoice_yes (s k m : Nat) (w : World) (h1 : 1 ≤ s) (h2 : s ≤ 20) (h3 : k ≤ s) (h : m < ch s k) : Calls Try.prog 17 #[.int .i64 s, .int .i64 k, .int .i64 m] w fun e w' => RetI w (choL s k m) true e w' := by
  have hS := Lib.hid fun w => isCount_yes (s : Int) (k : Int) w (by omega) (by omega) (by omega) (by omega)
  have hC := Lib.hid fun w => choices_any s k w h2 (by omega)
  have hR := Lib.hid fun w => isRank_yes (m : Int) ((ch s k : Nat) : Int) w (by omega) (by omega)
  have hm := Lib.hid h
  clear h
  obtain ⟨C, hCe⟩ : ∃ C, C = ch s k := ⟨_, rfl⟩
  rw [← hCe] at hC hR
  have HCe := Lib.hid hCe
  clear hCe
  go_enter Try.func17, Try.ntmps17
  go_wp2_with fail
  refine (hS.out _).mono ?_; rintro e w' ⟨rfl, rfl⟩
  go_wp2_with fail
  refine (hC.out _).mono ?_; rintro e w' ⟨rfl, rfl⟩
  go_wp2_with fail
  refine (hR.out _).mono ?_; rintro e w' ⟨rfl, rfl⟩
  go_wp2_with fail
  refine (chooser_any _ _ _).mono ?_; rintro e w1 ⟨rfl, hw1⟩
  have HW1 := Lib.hid hw1
  clear hw1
  go_wp2_with fail
  go_loopw [9, 10] (fun oo i wr => ∃ (t c r : Nat) (z : Int) (ys : List Int) (o : Value), o = oo ∧ t ≤ s ∧ i = .int .i64 z ∧ z = (t : Int) - 1 ∧ c ≤ t ∧ Hid (r < ch t c) ∧ Hid (ys ++ (choL t c r).reverse = (choL s k m).reverse) ∧ Hid (ys.length ≤ 20 - t) ∧
    Hid (wr.cell? ⟨w.heap.size, 0, none⟩ = some (.int .i64 c)) ∧ Hid (wr.cell? ⟨w.heap.size + 1, 0, none⟩ = some (.int .i64 r)) ∧ Hid (wr.frozen? ⟨w.heap.size, 0, none⟩ = false) ∧ Hid (wr.frozen? ⟨w.heap.size + 1, 0, none⟩ = false) ∧
    Hid (OwnI wr (w.heap.size + 2) o ys) ∧ Hid (Below w.heap.size w wr) ∧ Hid (w.heap.size + 2 ≤ wr.heap.size)) (fun _ i _ => (intOf i + 1).toNat)
  case atStart =>
    exact ⟨s, k, m, _, [], _, rfl, Nat.le_refl _, rfl, rfl, h3, hm, rfl, Lib.hid (by simp), Lib.hid (by rw [HW1.out]; simp), Lib.hid (by rw [HW1.out]; simp), Lib.hid (by rw [HW1.out]; simp), Lib.hid (by rw [HW1.out]; simp), OwnI.nil _ _,
      Lib.hid (by rw [HW1.out]; exact ((Below.refl _ _).alloc (Nat.le_refl _) _).alloc (by simp) _), Lib.hid (by rw [HW1.out]; simp)⟩
  case round =>
    obtain ⟨t, c, r, z, ys, o, rfl, ht, rfl, hz, hct, hr, hys, hyl, hc1, hc2, hf1, hf2, ho, hb, hsz⟩ := hrel
    by_cases hlt : t = 0
    · subst hlt
      obtain rfl : z = -1 := by omega
      clear hz
      have HY : Hid (ys = (choL s k m).reverse) := Lib.hid (by
        have := hys.out
        rw [show choL 0 c r = [] from rfl] at this
        simpa using this)
      have hRv := Lib.hid (reverse_own o ys _ wr (by have := hyl.out; omega) ho.out)
      go_wp2_with fail
      refine hRv.out.mono ?_; rintro e w9 ⟨rfl, ho9, hg9⟩
      have ho9 := Lib.hid ho9
      have hb9 := Lib.hid (bel_own hb.out (ho.out.mono (by omega)) hg9 (by have := hsz.out; omega))
      clear hg9
      go_wp2_with fail
      go_ret2
      refine ⟨_, rfl, ?_, hb9.out⟩
      have := ho9.out
      rw [HY.out, List.reverse_reverse] at this
      exact this.mono (by omega)
    · obtain ⟨j, rfl⟩ : ∃ j, t = j + 1 := ⟨t - 1, by omega⟩
      obtain rfl : z = (j : Int) := by omega
      clear hz hlt
      have hC1 := Lib.hid fun w => choices_any j c w (by omega) (by omega)
      by_cases hlow : r < ch j c
      · have HL := Lib.hid (choL_low j c r hlow)
        have hcj := cho_low (s := j) (by omega) hct hlow
        have hN := Lib.hid (chosen_no j c (ch j c) r w.heap.size (w.heap.size + 1) wr hc1.out hc2.out hC1 (by omega))
        have hlow := Lib.hid hlow
        go_wp2_with fail
        refine hN.out.mono ?_; rintro e w' ⟨rfl, rfl⟩
        go_wp2_with fail
        go_roundw
        case rel => exact ⟨j, c, r, _, ys, _, rfl, by omega, rfl, rfl, hcj, hlow, Lib.hid (by rw [← HL.out]; exact hys.out), Lib.hid (by have := hyl.out; omega), hc1, hc2, hf1, hf2, ho, hb, hsz⟩
        all_goals (simp [intOf] <;> omega)
      · obtain ⟨a1, a2, a3, a4⟩ := cho_step (s := j) (by omega) hct hr.out hlow
        have HH := Lib.hid (choL_high j c r hlow)
        have b1 := ch_le (s := j) (k := c) (by omega) (by omega)
        have b2 := ch_le (s := j) (k := c - 1) (by omega) (by omega)
        have b3 := ch_le (s := j + 1) (k := c) (by omega) (by omega)
        have hr' := hr.out
        have hC2 : Hid (∀ w, Calls Try.prog 42 #[.int .i64 j, .int .i64 ((c - 1 : Nat) : Int)] w fun e w' => e = .returned (.int .i64 ((ch j (c - 1) : Nat) : Int)) ∧ w' = w) := Lib.hid fun w => (choices_any j (c - 1) w (by omega) (by omega)).mono fun _ _ ⟨a, b⟩ => ⟨a, b.symm⟩
        rw [show ((c - 1 : Nat) : Int) = (c : Int) - 1 from by omega] at hC2
        have hY := Lib.hid (chosen_yes j c (ch j c) (ch j (c - 1)) r w.heap.size (w.heap.size + 1) wr a1 (by omega) (by omega) hc1.out hc2.out hf1.out hf2.out hC1 (by omega) (by omega) b1 hC2 b2)
        obtain ⟨R, hR⟩ : ∃ R, R = ch j (c - 1) - 1 - (r - ch j c) := ⟨_, rfl⟩
        rw [← hR] at a4 HH
        have eR : ((ch j (c - 1) : Nat) : Int) - 1 - ((r : Int) - ((ch j c : Nat) : Int)) = (R : Int) := by omega
        rw [eR] at hY
        have a4 := Lib.hid a4
        clear hlow hr' hR eR a3 b1 b2 b3
        go_wp2_with fail
        refine hY.out.mono ?_; rintro e w2 ⟨rfl, hw2⟩
        have o2 : Hid (OwnI w2 (w.heap.size + 2) o ys) := Lib.hid (by rw [hw2]; exact ((ho.out.setOther _ _ (by show w.heap.size < _; omega)).setOther _ _ (by show w.heap.size + 1 < _; omega)).drewN 1)
        have c1 : Hid (w2.cell? ⟨w.heap.size, 0, none⟩ = some (.int .i64 ((c - 1 : Nat) : Int))) := Lib.hid (by
          rw [hw2, World.cell?_drew, World.cell?_setCell_far _ _ _ _ (by show w.heap.size + 1 ≠ w.heap.size; omega), World.cell?_setCell_same' _ _ _ (by rw [hc1.out]; rfl)]
          rw [show ((c - 1 : Nat) : Int) = (c : Int) - 1 from by omega])
        have c2 : Hid (w2.cell? ⟨w.heap.size + 1, 0, none⟩ = some (.int .i64 R)) := Lib.hid (by
          rw [hw2, World.cell?_drew, World.cell?_setCell_same' _ _ _ (by rw [World.cell?_setCell_far _ _ _ _ (by show w.heap.size ≠ w.heap.size + 1; omega), hc2.out]; rfl)])
        have f1 : Hid (w2.frozen? ⟨w.heap.size, 0, none⟩ = false) := Lib.hid (by rw [hw2, World.frozen?_drew, World.frozen?_setCell, World.frozen?_setCell]; exact hf1.out)
        have f2 : Hid (w2.frozen? ⟨w.heap.size + 1, 0, none⟩ = false) := Lib.hid (by rw [hw2, World.frozen?_drew, World.frozen?_setCell, World.frozen?_setCell]; exact hf2.out)
        have bb : Hid (Below w.heap.size w w2) := Lib.hid (by rw [hw2]; exact ((hb.out.setCell (Nat.le_refl _) _).setCell (by show w.heap.size ≤ w.heap.size + 1; omega) _).drew)
        have sz : w.heap.size + 2 ≤ w2.heap.size := by rw [hw2]; have := hsz.out; simp; exact this
        have hlen : Hid (ys.length ≤ 2000000) := Lib.hid (by have := hyl.out; omega)
        clear hw2 hc1 hc2 hf1 hf2 ho hb hsz
        go_wp2_with (at_builtin; refine app_int _ rfl _ _ rfl (w.heap.size + 2) _ _ rfl (o2.out.alloc _) w2.heap.size _ rfl (by simp; rfl) hlen.out (by simp; omega) ?_; intro v' w' ho' hg')
        have ho3 := Lib.hid ho'
        have hg3 := Lib.hid hg'
        have hne1 : ∀ b, b < w.heap.size + 2 → some b ≠ o.ownBlock := fun b hb e => by have := (o2.out.lt b e.symm).1; omega
        have hk1 : ∀ b, b < w.heap.size + 2 → ∀ x, w'.cell? ⟨b, x, none⟩ = w2.cell? ⟨b, x, none⟩ := fun b hb x => by
          rw [World.cell?_of_block (w := w2.alloc _) (w' := w') (hg'.block b (by simp; omega) (hne1 b hb))]
          exact World.cell?_of_block (Below.heap_alloc _ _ _ (by show b < _; omega))
        have hk2 : ∀ b, b < w.heap.size + 2 → ∀ x, w'.frozen? ⟨b, x, none⟩ = w2.frozen? ⟨b, x, none⟩ := fun b hb x => by
          rw [World.frozen?_of_block (w := w2.alloc _) (w' := w') (hg'.block b (by simp; omega) (hne1 b hb))]
          exact World.frozen?_of_block (Below.heap_alloc _ _ _ (by show b < _; omega))
        have HK1 := Lib.hid hk1
        have HK2 := Lib.hid hk2
        clear ho' hg' hk1 hk2 hne1
        go_roundw
        case rel =>
          refine ⟨j, c - 1, R, _, ys ++ [(j : Int)], _, rfl, by omega, rfl, rfl, a2, a4, Lib.hid ?_, Lib.hid ?_, Lib.hid ?_, Lib.hid ?_, Lib.hid ?_, Lib.hid ?_, ho3, Lib.hid ?_, Lib.hid ?_⟩
          · have := hys.out
            rw [HH.out, List.reverse_append] at this
            simpa using this
          · rw [List.length_append]; have := hyl.out; simp; omega
          · rw [HK1.out _ (by omega)]; exact c1.out
          · rw [HK1.out _ (by omega)]; exact c2.out
          · rw [HK2.out _ (by omega)]; exact f1.out
          · rw [HK2.out _ (by omega)]; exact f2.out
          · exact bel_own (bb.out.alloc bb.out.size _) ((o2.out.alloc _).mono (by omega)) hg3.out (by simp; omega)
          · have := hg3.out.size; simp at this; omega
        all_goals (simp [intOf] <;> omega)
end Go.Proofs.Ytbgdhiieeegnjac
