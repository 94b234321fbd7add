/- A rule of a box, both sides. -/
import Derived.Test.YtjlecipeoaohiaaX6
import Derived.Test.YtjlecipeoaohiaaX8
import Derived.Test.YtjlecipeoaohiaaClone
namespace Go.Proofs.Ytjlecipeoaohiaa
open Go Go.RowKit RM
/-- there is such a part, and such a side that is not the last one -/
def plB (P S part side : Int) : Bool := (decide (0 ≤ part) && decide (part ≤ P - 1)) && (decide (0 ≤ side) && decide (side ≤ S - 2))
theorem plB_nat {p s : Nat} {part side : Int} (h : plB p s part side = true) : ∃ i j : Nat, part = i ∧ side = j ∧ i < p ∧ j + 1 < s := by
  unfold plB at h
  simp only [Bool.and_eq_true, decide_eq_true_eq] at h
  exact ⟨part.toNat, side.toNat, by omega, by omega, by omega, by omega⟩
theorem idx_lt {p s i j : Nat} (hi : i < p) (hj : j + 1 < s) : i * (s - 1) + j < p * (s - 1) := by
  calc i * (s - 1) + j < i * (s - 1) + (s - 1) := by omega
    _ = (i + 1) * (s - 1) := by rw [Nat.add_mul, Nat.one_mul]
    _ ≤ p * (s - 1) := Nat.mul_le_mul_right _ hi
theorem idx_div {s i j : Nat} (hj : j + 1 < s) : (i * (s - 1) + j) / (s - 1) = i := by
  rw [Nat.mul_comm, Nat.mul_add_div (by omega), Nat.div_eq_of_lt (by omega)]; omega
/-- the text of a rule -/
def ruX (P S : Int) (rs : List ByteArray) (part side : Int) : ByteArray := if goodX P S rs && plB P S part side then rs.getD (part * (S - 1) + side).toNat ⟨#[]⟩ else ⟨#[]⟩
theorem bxPlace_any (v : Value) (P S : Int) (rs : List ByteArray) (part side : Int) (w : World) (hz : ∀ s ∈ rs, s.size ≤ maxLen) (h : RdX w v P S rs) :
    Calls Try.prog 78 #[v, .int .i64 part, .int .i64 side] w fun e w' => e = .returned (.bool (goodX P S rs && plB P S part side)) ∧ Below w.heap.size w w' := by
  have hG := Lib.hid (fun w' (hb : Below w.heap.size w w') => bxGood_any v P S rs w' hz (h.below hb))
  obtain ⟨u, rfl, -⟩ := h
  cases hg : goodX P S rs with
  | false =>
    rw [hg] at hG
    rw [Bool.false_and]
    go_enter Try.func78, Try.ntmps78
    go_wp2_with fail
    refine (hG.out _ (ba1 w _)).mono ?_; rintro e w' ⟨rfl, hb⟩
    go_wp2_with fail
    go_ret; exact ⟨rfl, bt1 (ba1 w _) hb⟩
  | true =>
    rw [hg] at hG
    rw [Bool.true_and]
    obtain ⟨p, s, rfl, rfl, h1, h2, h3, h4, -, -, -⟩ := goodX_nat hg
    have hpl : plB p s part side = ((decide (0 ≤ part) && decide (part ≤ (p : Int) - 1)) && (decide (0 ≤ side) && decide (side ≤ (s : Int) - 2))) := rfl
    rw [hpl]
    have hI1 := Lib.hid (fun w => l1In_any part 0 ((p : Int) - 1) _ w rfl)
    have hI2 := Lib.hid (fun w => l1In_any side 0 ((s : Int) - 2) _ w rfl)
    generalize (decide (0 ≤ part) && decide (part ≤ (p : Int) - 1)) = d1 at *
    generalize (decide (0 ≤ side) && decide (side ≤ (s : Int) - 2)) = d2 at *
    clear hpl hg
    go_enter Try.func78, Try.ntmps78
    go_wp2_with fail
    refine (hG.out _ (ba1 w _)).mono ?_; rintro e w' ⟨rfl, hb⟩
    have F := Lib.hid (hb_below hb (by simp) (hb_new w (boxO p s u)))
    have f0 : w'.cell? ⟨w.heap.size, 0, none⟩ = some (.int .i64 p) := hb_cell F.out 0
    have f1 : w'.cell? ⟨w.heap.size, 1, none⟩ = some (.int .i64 s) := hb_cell F.out 1
    have hbw := Lib.hid (bt1 (ba1 w _) hb)
    clear hb
    cases d1 with
    | false =>
      go_wp2_with fail
      refine (hI1.out _).mono ?_; rintro e w2 ⟨rfl, rfl⟩
      go_wp2_with fail
      go_ret; exact ⟨rfl, hbw.out⟩
    | true =>
      go_wp2_with fail
      refine (hI1.out _).mono ?_; rintro e w2 ⟨rfl, rfl⟩
      go_wp2_with fail
      refine (hI2.out _).mono ?_; rintro e w2 ⟨rfl, rfl⟩
      go_wp2_with fail
      go_ret; exact ⟨rfl, hbw.out⟩
theorem hasPart_any (P S x : Int) (u : Value) (w : World) (b : Bool) (h : (decide (0 ≤ x) && decide (x < P)) = b) : Calls Try.prog 102 #[.agg #[.int .i64 P, .int .i64 S, u], .int .i64 x] w fun e w' => e = .returned (.bool b) ∧ Below w.heap.size w w' := by
  subst h
  by_cases h1 : 0 ≤ x
  · rw [decide_eq_true h1]
    have h2 : decide (0 ≤ x) = true := decide_eq_true h1
    go_enter Try.func102, Try.ntmps102
    go_wp2_with fail
    go_ret; exact ⟨rfl, ba1 w _⟩
  · rw [decide_eq_false h1]
    have h2 : decide (0 ≤ x) = false := decide_eq_false h1
    go_enter Try.func102, Try.ntmps102
    go_wp2_with fail
    go_ret; exact ⟨rfl, ba1 w _⟩
theorem hasRule_any (p s : Nat) (part side : Int) (u : Value) (w : World) (h3 : 2 ≤ s) (h4 : s ≤ 5) : Calls Try.prog 80 #[.agg #[.int .i64 p, .int .i64 s, u], .int .i64 part, .int .i64 side] w fun e w' => e = .returned (.bool (plB p s part side)) ∧ Below w.heap.size w w' := by
  obtain ⟨d1, hd1⟩ : ∃ d, (decide (0 ≤ part) && decide (part < (p : Int))) = d := ⟨_, rfl⟩
  obtain ⟨d2, hd2⟩ : ∃ d, (decide (0 ≤ side) && decide (side < (s : Int))) = d := ⟨_, rfl⟩
  have hA := Lib.hid (fun w => hasPart_any p s part u w _ hd1)
  have hB := Lib.hid (fun w => hasSide_any p s side u w _ hd2)
  obtain ⟨w1, hw1⟩ : ∃ w1, Hid (w1 = w.alloc (boxO p s u)) := ⟨_, Lib.hid rfl⟩
  have hb1 : Hid (Below w.heap.size w w1) := Lib.hid (by rw [hw1.out]; exact ba1 w _)
  have F1 := Lib.hid (show w1.heap[w.heap.size]? = some (boxO p s u) by rw [hw1.out]; exact hb_new _ _)
  have f0 : w1.cell? ⟨w.heap.size, 0, none⟩ = some (.int .i64 p) := hb_cell F1.out 0
  have f1 : w1.cell? ⟨w.heap.size, 1, none⟩ = some (.int .i64 s) := hb_cell F1.out 1
  have f2 : w1.cell? ⟨w.heap.size, 2, none⟩ = some u := hb_cell F1.out 2
  have l1 := hb_lt F1.out
  cases d1 with
  | false =>
    have hF : plB p s part side = false := by
      rw [← Bool.not_eq_true]; intro h
      obtain ⟨i, j, rfl, rfl, hi, hj⟩ := plB_nat h
      simp at hd1; omega
    rw [hF]
    clear hd1 hd2 hB hF
    go_enter Try.func80, Try.ntmps80
    go_wp2_with fail
    rw [← hw1.out]
    go_wp2_with fail
    refine (hA.out _).mono ?_; rintro e w2 ⟨rfl, hb⟩
    go_wp2_with fail
    go_ret; exact ⟨rfl, bt1 hb1.out hb⟩
  | true =>
    cases d2 with
    | false =>
      have hF : plB p s part side = false := by
        rw [← Bool.not_eq_true]; intro h
        obtain ⟨i, j, rfl, rfl, hi, hj⟩ := plB_nat h
        simp at hd2; omega
      rw [hF]
      clear hd1 hd2 hF
      go_enter Try.func80, Try.ntmps80
      go_wp2_with fail
      rw [← hw1.out]
      go_wp2_with fail
      refine (hA.out _).mono ?_; rintro e w2 ⟨rfl, hb⟩
      have F2 := Lib.hid (hb_below hb l1 F1.out)
      have g0 : w2.cell? ⟨w.heap.size, 0, none⟩ = some (.int .i64 p) := hb_cell F2.out 0
      have g1 : w2.cell? ⟨w.heap.size, 1, none⟩ = some (.int .i64 s) := hb_cell F2.out 1
      have g2 : w2.cell? ⟨w.heap.size, 2, none⟩ = some u := hb_cell F2.out 2
      have l2 := hb_lt F2.out
      replace hb := Lib.hid (bt1 hb1.out hb)
      go_wp2_with fail
      refine (hB.out _).mono ?_; rintro e w3 ⟨rfl, hb3⟩
      go_wp2_with fail
      go_ret; exact ⟨rfl, bt1 hb.out hb3⟩
    | true =>
      have hF : Hid (plB p s part side = (side != (s : Int) - 1)) := Lib.hid (by
        simp only [Bool.and_eq_true, decide_eq_true_eq] at hd1 hd2
        rw [Bool.eq_iff_iff]
        unfold plB
        simp only [Bool.and_eq_true, decide_eq_true_eq, bne_iff_ne, ne_eq]
        omega)
      rw [hF.out]
      clear hd1 hd2 hF
      go_enter Try.func80, Try.ntmps80
      go_wp2_with fail
      rw [← hw1.out]
      go_wp2_with fail
      refine (hA.out _).mono ?_; rintro e w2 ⟨rfl, hb⟩
      have F2 := Lib.hid (hb_below hb l1 F1.out)
      have g0 : w2.cell? ⟨w.heap.size, 0, none⟩ = some (.int .i64 p) := hb_cell F2.out 0
      have g1 : w2.cell? ⟨w.heap.size, 1, none⟩ = some (.int .i64 s) := hb_cell F2.out 1
      have g2 : w2.cell? ⟨w.heap.size, 2, none⟩ = some u := hb_cell F2.out 2
      have l2 := hb_lt F2.out
      replace hb := Lib.hid (bt1 hb1.out hb)
      go_wp2_with fail
      refine (hB.out _).mono ?_; rintro e w3 ⟨rfl, hb3⟩
      have F3 := Lib.hid (hb_below hb3 l2 F2.out)
      have k1 : w3.cell? ⟨w.heap.size, 1, none⟩ = some (.int .i64 s) := hb_cell F3.out 1
      replace hb3 := Lib.hid (bt1 hb.out hb3)
      go_wp2_with fail
      go_ret; exact ⟨rfl, hb3.out⟩
theorem ruleIx_any (p s i j : Nat) (u : Value) (w : World) (h3 : 2 ≤ s) (h4 : s ≤ 5) (hp : p ≤ 6) (hi : i < p) (hj : j + 1 < s) : Calls Try.prog 47 #[.agg #[.int .i64 p, .int .i64 s, u], .int .i64 i, .int .i64 j] w fun e w' => e = .returned (.int .i64 ((i * (s - 1) + j : Nat) : Int)) ∧ Below w.heap.size w w' := by
  have hix := idx_lt hi hj
  have h24 := mul24 (p := p) (s := s) hp h4
  have hms := mulsub (p := i) (s := s) (by omega)
  have hI : Hid ((i : Int) * ((s : Int) - 1) + (j : Int) = ((i * (s - 1) + j : Nat) : Int)) := Lib.hid (by rw [hms]; simp)
  have hm0 : 0 ≤ (i : Int) * ((s : Int) - 1) := by rw [hms]; omega
  have hm1 : (i : Int) * ((s : Int) - 1) ≤ 24 := by rw [hms]; omega
  clear hms hix h24
  go_enter Try.func47, Try.ntmps47
  go_wp2_with fail
  go_ret; exact ⟨ret_int hI.out, ba1 w _⟩
end Go.Proofs.Ytjlecipeoaohiaa
