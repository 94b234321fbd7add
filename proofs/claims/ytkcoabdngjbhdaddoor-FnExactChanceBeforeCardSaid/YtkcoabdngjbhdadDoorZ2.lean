/- Chapter 7: fractions in lowest terms, both ways. -/
import Derived.Test.YtkcoabdngjbhdadDoorZ1
import Derived.Test.YtkcoabdngjbhdadDoorH
namespace Go.Proofs.YtkcoabdngjbhdadDoor
open Go Go.RowKit RM

/-- the law's words for a fraction -/
def RA (p q : Nat) : Value := .agg #[.int .i64 (p : Int), .int .i64 (q : Int)]
theorem tm_nat (a b : Nat) : (a : Int).tmod (b : Int) = ((a % b : Nat) : Int) := by rw [Int.tmod_eq_emod_of_nonneg (by omega)]; exact (Int.natCast_emod _ _).symm
theorem td_nat (a b : Nat) : (a : Int).tdiv (b : Int) = ((a / b : Nat) : Int) := by rw [Int.tdiv_eq_ediv_of_nonneg (by omega)]; exact (Int.natCast_ediv _ _).symm

theorem waLow_any (p q : Nat) (w : World) (hp : p ≤ 4611686018427387904) (hq : 0 < q) (hq2 : q ≤ 4611686018427387904) :
    Calls Tryd.prog 8 #[.int .i64 p, .int .i64 q] w fun e w' => e = .returned (.tuple #[.int .i64 (lowP p q : Nat), .int .i64 (lowQ p q : Nat)]) ∧ Below w.heap.size w w' := by
  have hP := Lib.hid (td_nat p (Nat.gcd p q))
  have hQ := Lib.hid (td_nat q (Nat.gcd p q))
  have g1 := gcd_pos p q hq
  have g2 := gcd_le_r p q hq
  have l1 := lowP_le p q
  have l2 := lowQ_le p q
  have hG : Hid (Nat.gcd q p = Nat.gcd p q) := Lib.hid (Nat.gcd_comm q p)
  rw [show p / Nat.gcd p q = lowP p q from rfl] at hP
  rw [show q / Nat.gcd p q = lowQ p q from rfl] at hQ
  generalize lowP p q = P at *
  generalize lowQ p q = Q at *
  obtain ⟨G, hGe⟩ : ∃ G, G = Nat.gcd p q := ⟨_, rfl⟩
  rw [← hGe] at hP hQ hG g1 g2
  clear hGe
  go_enter Tryd.func8, Tryd.ntmps8
  go_wp2_with fail
  go_loopw [6, 7] (fun a b wr => ∃ x y : Nat, a = .int .i64 x ∧ b = .int .i64 y ∧ x ≤ 4611686018427387904 ∧ y ≤ 4611686018427387904 ∧ Hid (Nat.gcd y x = G) ∧ Hid (Below w.heap.size w wr)) (fun _ b _ => (intOf b).toNat)
  case atStart => exact ⟨p, q, rfl, rfl, by omega, by omega, hG, Lib.hid (Below.refl _ _)⟩
  case round =>
    obtain ⟨x, y, rfl, rfl, hx, hy, he, hbr⟩ := hrel
    by_cases h : y = 0
    · subst h
      obtain rfl : x = G := by have := he.out; rwa [Nat.gcd_zero_left] at this
      have e1 := hP.out
      have e2 := hQ.out
      have hne : ((x : Int) == 0) = false := by simp; omega
      go_wp2
      go_region
      all_goals go_wp2
      go_ret2; exact ⟨rfl, hbr.out.drew⟩
    · have hpos : decide ((0 : Int) < (y : Int)) = true := by simp; omega
      have hne : ((y : Int) == 0) = false := by simp; omega
      have hm := tm_nat x y
      have hlt := Nat.mod_lt x (show 0 < y by omega)
      have hn : Hid (Nat.gcd (x % y) y = G) := Lib.hid (by rw [← he.out]; exact (gcd_step y x).symm)
      generalize x % y = z at *
      go_wp2
      go_region
      all_goals go_wp2
      go_roundw
      case rel => exact ⟨y, z, rfl, rfl, hy, by omega, hn, Lib.hid hbr.out.drew⟩
      all_goals (simp [intOf] <;> omega)

theorem ratioOf_any (p q : Nat) (w : World) (hp : p ≤ 4611686018427387904) (hq : 0 < q) (hq2 : q ≤ 4611686018427387904) :
    Calls Tryd.prog 18 #[.int .i64 p, .int .i64 q] w fun e w' => e = .returned (RA (lowP p q) (lowQ p q)) ∧ Below w.heap.size w w' := by
  have hP := Lib.hid (td_nat p (Nat.gcd p q))
  have hQ := Lib.hid (td_nat q (Nat.gcd p q))
  have g1 := gcd_pos p q hq
  have g2 := gcd_le_r p q hq
  have l1 := lowP_le p q
  have l2 := lowQ_le p q
  rw [show p / Nat.gcd p q = lowP p q from rfl] at hP
  rw [show q / Nat.gcd p q = lowQ p q from rfl] at hQ
  generalize lowP p q = P at *
  generalize lowQ p q = Q at *
  obtain ⟨G, hGe⟩ : ∃ G, G = Nat.gcd p q := ⟨_, rfl⟩
  rw [← hGe] at hP hQ g1 g2
  have hG := Lib.hid hGe.symm
  clear hGe
  go_enter Tryd.func18, Tryd.ntmps18
  go_wp2_with fail
  obtain ⟨W, hW⟩ : ∃ W, W = w.alloc (.cells #[.int .i64 0, .int .i64 0] 38) := ⟨_, rfl⟩
  have hWb := Lib.hid (show Below w.heap.size w W by rw [hW]; exact (Below.refl _ _).alloc (Nat.le_refl _) _)
  have hWz := Lib.hid (show W.heap.size = w.heap.size + 1 by rw [hW]; simp)
  have hWo := Lib.hid (show W.heap[w.heap.size]? = some (.cells #[.int .i64 0, .int .i64 0] 38) by rw [hW]; exact Array.getElem?_push_size)
  rw [← hW]
  clear hW
  go_loopw [5, 6] (fun a b wr => ∃ x y : Nat, a = .int .i64 x ∧ b = .int .i64 y ∧ x ≤ 4611686018427387904 ∧ y ≤ 4611686018427387904 ∧ Hid (Nat.gcd y x = G) ∧ Hid (Below W.heap.size W wr)) (fun _ b _ => (intOf b).toNat)
  case atStart => exact ⟨q, p, rfl, rfl, by omega, by omega, hG, Lib.hid (Below.refl _ _)⟩
  case round =>
    obtain ⟨x, y, rfl, rfl, hx, hy, he, hbr⟩ := hrel
    by_cases h : y = 0
    · subst h
      obtain rfl : x = G := by have := he.out; rwa [Nat.gcd_zero_left] at this
      have e1 := hP.out
      have e2 := hQ.out
      have hne : ((x : Int) == 0) = false := by simp; omega
      have hor : wr.heap[w.heap.size]? = some (.cells #[.int .i64 0, .int .i64 0] 38) := (hbr.out.block w.heap.size (by have := hWz.out; omega)).trans hWo.out
      have c0 : wr.cell? ⟨w.heap.size, 0, none⟩ = some (.int .i64 0) := by simp [World.cell?, hor]
      have c1 : wr.cell? ⟨w.heap.size, 1, none⟩ = some (.int .i64 0) := by simp [World.cell?, hor]
      have f0 : ∀ o, wr.frozen? ⟨w.heap.size, o, none⟩ = false := fun o => by simp [World.frozen?, hor]
      have hlt : w.heap.size < wr.heap.size := by have := hWz.out; have := hbr.out.size; omega
      clear hor
      go_wp2
      go_region
      all_goals go_wp2
      all_goals
        refine bodyPost_ret (v := RA P Q) ?_ rfl ⟨rfl, ?_⟩
        · simp [results, Tryd.results18, go_sem, c0, c1, f0, hlt, RA]
        · refine Below.drew (Below.setCell (Below.setCell ?_ (by simp) _) (by simp) _)
          exact hWb.out.trans (hbr.out.mono hWb.out.size)
    · have hne1 : ((y : Int) != 0) = true := by simp; omega
      have hne : ((y : Int) == 0) = false := by simp; omega
      have hm := tm_nat x y
      have hlt := Nat.mod_lt x (show 0 < y by omega)
      have hn : Hid (Nat.gcd (x % y) y = G) := Lib.hid (by rw [← he.out]; exact (gcd_step y x).symm)
      generalize x % y = z at *
      go_wp2
      go_region
      all_goals go_wp2
      go_roundw
      case rel => exact ⟨y, z, rfl, rfl, hy, by omega, hn, Lib.hid hbr.out.drew⟩
      all_goals (simp [intOf] <;> omega)

theorem told_any (p q : Nat) (w : World) :
    Calls Tryd.prog 12 #[RA p q] w fun e w' => e = .returned (.tuple #[.int .i64 p, .int .i64 q, .bool true]) ∧ Below w.heap.size w w' := by
  unfold RA
  go_enter Tryd.func12, Tryd.ntmps12
  go_wp2_with fail
  go_region
  all_goals go_wp2
  refine bodyPost_ret (v := .tuple #[.int .i64 p, .int .i64 q, .bool true]) ?_ rfl ⟨rfl, ((Below.refl _ _).alloc (Nat.le_refl _) _).drew⟩
  simp [results, Tryd.results12, go_sem]
end Go.Proofs.YtkcoabdngjbhdadDoor
