/- Whether there is a clue, whether a hidden state fits it, both sides. -/
import Derived.Test.YtnfonoaojkhnkaaDoorPzG
import Derived.Test.YtnfonoaojkhnkaaDoorPz5
namespace Go.Proofs.YtnfonoaojkhnkaaDoor
open Go Go.RowKit RM
theorem goodZ_one (R : Int) (c : Clu) : goodZ R [c] = (inB R 1 7 && cluOk R.toNat c) := by unfold goodZ; simp
theorem iIsClue (R k a b : Int) (w : World) (hT : TabOk w) :
    Calls Tryd.prog 13 #[.int .i64 R, .agg #[.int .i64 k, .int .i64 a, .int .i64 b]] w fun e w' => e = .returned (.bool (inB R 1 7 && cluOk R.toNat ⟨k, a, b⟩)) ∧ Below w.heap.size w w' := by
  rw [← goodZ_one]
  obtain ⟨w2, hw2⟩ : ∃ w2, Hid (w2 = (w.alloc (cluO k a b)).alloc (cluO k a b)) := ⟨_, Lib.hid rfl⟩
  have hb2 : Hid (Below w.heap.size w w2) := Lib.hid (by rw [hw2.out]; exact (ba1 w _).alloc (by simp) _)
  have C2 : w2.heap[w.heap.size + 1]? = some (cluO k a b) := by rw [hw2.out]; exact hb_new' _ _ _ (by simp)
  have hRd : RdZ w2 (.agg #[.int .i64 R, .slice (some ⟨w.heap.size + 1, 0, none⟩) 1 1]) R [⟨k, a, b⟩] := by
    refine ⟨_, rfl, _, _, rfl, by simp [maxLen], fun _ => ⟨_, rfl, hb_lt C2, fun i hi o ho => ?_⟩⟩
    have hi0 : i = 0 := by simp at hi; omega
    subst hi0
    rw [hb_cell C2]
    have ho3 : o < 3 := ho
    match o, ho3 with
    | 0, _ => rfl
    | 1, _ => rfl
    | 2, _ => rfl
  have hP := Lib.hid (iIsPuzzle R [⟨k, a, b⟩] _ w2 hRd (hT.below hb2.out))
  generalize goodZ R [⟨k, a, b⟩] = G at *
  clear hRd C2 hT
  go_enter Tryd.func13, Tryd.ntmps13
  go_wp2_with fail
  rw [← hw2.out]
  refine hP.out.mono ?_; rintro e w3 ⟨rfl, hb3⟩
  replace hb3 := Lib.hid (bt1 hb2.out hb3)
  go_wp2_with fail
  go_ret; exact ⟨rfl, hb3.out⟩

theorem sIsClue (R k a b : Int) (w : World) :
    Calls Tryd.prog 11 #[.int .i64 R, .agg #[.int .i64 k, .int .i64 a, .int .i64 b]] w fun e w' => e = .returned (.bool (inB R 1 7 && cluOk R.toNat ⟨k, a, b⟩)) ∧ Below w.heap.size w w' := by
  have hR := Lib.hid fun w => pzRings_any R w
  cases hb : inB R 1 7 with
  | false =>
    rw [hb] at hR
    clear hb
    go_enter Tryd.func11, Tryd.ntmps11
    go_wp2_with fail
    refine (hR.out _).mono ?_; rintro e w' ⟨rfl, rfl⟩
    go_wp2_with fail
    go_ret; exact ⟨rfl, ba1 w _⟩
  | true =>
    rw [hb] at hR
    obtain ⟨h1, h7⟩ := inB_yes hb
    clear hb
    obtain ⟨n, rfl⟩ : ∃ n : Nat, R = (n : Int) := ⟨R.toNat, by omega⟩
    have hC := Lib.hid fun w => pzClue_any n k a b w (by omega) (by omega)
    rw [Int.toNat_natCast]
    generalize cluOk n ⟨k, a, b⟩ = G at *
    go_enter Tryd.func11, Tryd.ntmps11
    go_wp2_with fail
    refine (hR.out _).mono ?_; rintro e w' ⟨rfl, rfl⟩
    go_wp2_with fail
    refine (hC.out _).mono ?_; rintro e w3 ⟨rfl, hb3⟩
    replace hb3 := Lib.hid (bt1 (ba1 w _) hb3)
    go_wp2_with fail
    go_ret; exact ⟨by cases G <;> rfl, hb3.out⟩

theorem sFit_no (k a b : Int) (s : ByteArray) (w : World) (hs : s.size ≤ maxLen) (h : hidB s = false) :
    Calls Tryd.prog 19 #[.agg #[.int .i64 k, .int .i64 a, .int .i64 b], .string s] w fun e w' => e = .returned (.tuple #[.bool false, .bool false]) ∧ Below w.heap.size w w' := by
  have hH := Lib.hid fun w => pzHidden_any s w hs
  rw [h] at hH
  clear h
  go_enter Tryd.func19, Tryd.ntmps19
  go_wp2_with fail
  refine (hH.out _).mono ?_; rintro e w' ⟨rfl, rfl⟩
  go_wp2_with fail
  go_ret2; exact ⟨rfl, ba1 w _⟩

theorem sFit_ST (n x : Nat) (k a b : Int) (w : World) (h1 : 1 ≤ n) (h7 : n ≤ 7) (hx : x < 2 ^ n) :
    Calls Tryd.prog 19 #[.agg #[.int .i64 k, .int .i64 a, .int .i64 b], .string (ST n x)] w fun e w' => e = .returned (.tuple #[.bool (cluOk n ⟨k, a, b⟩ && fitZ n x ⟨k, a, b⟩), .bool (cluOk n ⟨k, a, b⟩)]) ∧ Below w.heap.size w w' := by
  have hH := Lib.hid fun w => pzHidden_any (ST n x) w (by rw [ST_size]; unfold maxLen; omega)
  rw [hidB_ST n x h1 h7] at hH
  have hC := Lib.hid fun w => pzClue_any n k a b w h1 h7
  obtain ⟨w2, hw2⟩ : ∃ w2, Hid (w2 = w.alloc (cluO k a b)) := ⟨_, Lib.hid rfl⟩
  have hb2 : Hid (Below w.heap.size w w2) := Lib.hid (by rw [hw2.out]; exact ba1 w _)
  have C2 := Lib.hid (show w2.heap[w.heap.size]? = some (cluO k a b) by rw [hw2.out]; exact hb_new _ _)
  have c0 : w2.cell? ⟨w.heap.size, 0, none⟩ = some (.int .i64 k) := hb_cell C2.out 0
  have c1 : w2.cell? ⟨w.heap.size, 1, none⟩ = some (.int .i64 a) := hb_cell C2.out 1
  have c2 : w2.cell? ⟨w.heap.size, 2, none⟩ = some (.int .i64 b) := hb_cell C2.out 2
  have hsz := ST_size n x
  cases hok : cluOk n ⟨k, a, b⟩ with
  | false =>
    rw [hok] at hC
    generalize ST n x = s at *
    clear hok hx
    go_enter Tryd.func19, Tryd.ntmps19
    go_wp2_with fail
    rw [← hw2.out]
    refine (hH.out _).mono ?_; rintro e w' ⟨rfl, rfl⟩
    go_wp2_with fail
    refine (hC.out _).mono ?_; rintro e w3 ⟨rfl, hb3⟩
    replace hb3 := Lib.hid (bt1 hb2.out hb3)
    go_wp2_with fail
    go_ret2; exact ⟨rfl, hb3.out⟩
  | true =>
    rw [hok] at hC
    have hF := Lib.hid fun w => pzFits_any n x k a b w h1 h7 hx hok
    generalize fitZ n x ⟨k, a, b⟩ = F at *
    generalize ST n x = s at *
    clear hok hx
    go_enter Tryd.func19, Tryd.ntmps19
    go_wp2_with fail
    rw [← hw2.out]
    refine (hH.out _).mono ?_; rintro e w' ⟨rfl, rfl⟩
    go_wp2_with fail
    refine (hC.out _).mono ?_; rintro e w3 ⟨rfl, hb3⟩
    have C3 := Lib.hid (hb_below hb3 (hb_lt C2.out) C2.out)
    replace hb3 := Lib.hid (bt1 hb2.out hb3)
    clear c0 c1 c2
    have c0 : w3.cell? ⟨w.heap.size, 0, none⟩ = some (.int .i64 k) := hb_cell C3.out 0
    have c1 : w3.cell? ⟨w.heap.size, 1, none⟩ = some (.int .i64 a) := hb_cell C3.out 1
    have c2 : w3.cell? ⟨w.heap.size, 2, none⟩ = some (.int .i64 b) := hb_cell C3.out 2
    go_wp2_with fail
    refine (hF.out _).mono ?_; rintro e w4 ⟨rfl, hb4⟩
    replace hb4 := Lib.hid (bt1 hb3.out hb4)
    go_wp2_with fail
    go_ret2; exact ⟨by cases F <;> rfl, hb4.out⟩

theorem iFit_no (k a b : Int) (s : ByteArray) (w : World)
    (hB : Hid (∀ W, Below w.heap.size w W → Calls Tryd.prog 44 #[.string s] W fun e w' => e = .returned (.tuple #[(.agg #[.int .i64 ((ctz (0) : Nat) : Int), .bool (onB (0)), .int .i64 ((0 : Nat) : Int), .int .u64 ((0 : Nat) : Int)]), .bool false]) ∧ Below W.heap.size W w')) :
    Calls Tryd.prog 20 #[.agg #[.int .i64 k, .int .i64 a, .int .i64 b], .string s] w fun e w' => e = .returned (.tuple #[.bool false, .bool false]) ∧ Below w.heap.size w w' := by
  go_enter Tryd.func20, Tryd.ntmps20
  go_wp2_with fail
  refine (hB.out _ (ba1 w _)).mono ?_; rintro e w3 ⟨rfl, hb3⟩
  replace hb3 := Lib.hid (bt1 (ba1 w _) hb3)
  go_wp2_with fail
  go_ret2; exact ⟨rfl, bt1 hb3.out (ba1 _ _)⟩

theorem iFit_ST (n x : Nat) (k a b : Int) (w : World) (h1 : 1 ≤ n) (h7 : n ≤ 7) (hx : x < 2 ^ n) (hT : TabOk w) :
    Calls Tryd.prog 20 #[.agg #[.int .i64 k, .int .i64 a, .int .i64 b], .string (ST n x)] w fun e w' => e = .returned (.tuple #[.bool (cluOk n ⟨k, a, b⟩ && fitZ n x ⟨k, a, b⟩), .bool (cluOk n ⟨k, a, b⟩)]) ∧ Below w.heap.size w w' := by
  obtain ⟨w2, hw2⟩ : ∃ w2, Hid (w2 = w.alloc (cluO k a b)) := ⟨_, Lib.hid rfl⟩
  have hb2 : Hid (Below w.heap.size w w2) := Lib.hid (by rw [hw2.out]; exact ba1 w _)
  have C2 := Lib.hid (show w2.heap[w.heap.size]? = some (cluO k a b) by rw [hw2.out]; exact hb_new _ _)
  have hB := Lib.hid (hidBar_yes n x w2 h1 h7 hx (hT.below hb2.out))
  have hC := Lib.hid fun W (hb : Below w.heap.size w W) => iIsClue n k a b W (hT.below hb)
  rw [inB_of (show (1 : Int) ≤ n by omega) (by omega), Bool.true_and, Int.toNat_natCast] at hC
  have hF := Lib.hid fun (hok : cluOk n ⟨k, a, b⟩ = true) W (hb : Below w.heap.size w W) => fits_any n x k a b W h1 h7 hx (hT.below hb) hok
  generalize ST n x = s at *
  generalize fitZ n x ⟨k, a, b⟩ = F at *
  generalize cluOk n ⟨k, a, b⟩ = G at *
  clear hx hT
  go_enter Tryd.func20, Tryd.ntmps20
  go_wp2_with fail
  rw [← hw2.out]
  refine hB.out.mono ?_; rintro e w3 ⟨rfl, hb3⟩
  obtain ⟨w4, hw4⟩ : ∃ w4, Hid (w4 = w3.alloc (barO n x)) := ⟨_, Lib.hid rfl⟩
  have C4 := Lib.hid (show w4.heap[w.heap.size]? = some (cluO k a b) by rw [hw4.out]; exact hb_old _ (hb_below hb3 (hb_lt C2.out) C2.out))
  have B4 := Lib.hid (show w4.heap[w3.heap.size]? = some (barO n x) by rw [hw4.out]; exact hb_new _ _)
  replace hb3 := Lib.hid (show Below w.heap.size w w4 by rw [hw4.out]; exact bt1 (bt1 hb2.out hb3) (ba1 _ _))
  have b0 : w4.cell? ⟨w3.heap.size, 0, none⟩ = some (.int .i64 ((ctz x : Nat) : Int)) := hb_cell B4.out 0
  have b1 : w4.cell? ⟨w3.heap.size, 1, none⟩ = some (.bool (onB x)) := hb_cell B4.out 1
  have b2 : w4.cell? ⟨w3.heap.size, 2, none⟩ = some (.int .i64 ((n : Nat) : Int)) := hb_cell B4.out 2
  have b3 : w4.cell? ⟨w3.heap.size, 3, none⟩ = some (.int .u64 ((x : Nat) : Int)) := hb_cell B4.out 3
  have c0 : w4.cell? ⟨w.heap.size, 0, none⟩ = some (.int .i64 k) := hb_cell C4.out 0
  have c1 : w4.cell? ⟨w.heap.size, 1, none⟩ = some (.int .i64 a) := hb_cell C4.out 1
  have c2 : w4.cell? ⟨w.heap.size, 2, none⟩ = some (.int .i64 b) := hb_cell C4.out 2
  go_upto_region 2 with fail
  rw [← hw4.out]
  go_wp2_with fail
  refine (hC.out _ hb3.out).mono ?_; rintro e w5 ⟨rfl, hb5⟩
  have C5 := Lib.hid (hb_below hb5 (hb_lt C4.out) C4.out)
  have B5 := Lib.hid (hb_below hb5 (hb_lt B4.out) B4.out)
  replace hb5 := Lib.hid (bt1 hb3.out hb5)
  clear b0 b1 b2 b3 c0 c1 c2
  cases G with
  | false =>
    go_wp2_with fail
    go_ret2; exact ⟨rfl, hb5.out⟩
  | true =>
    have b0 : w5.cell? ⟨w3.heap.size, 0, none⟩ = some (.int .i64 ((ctz x : Nat) : Int)) := hb_cell B5.out 0
    have b1 : w5.cell? ⟨w3.heap.size, 1, none⟩ = some (.bool (onB x)) := hb_cell B5.out 1
    have b2 : w5.cell? ⟨w3.heap.size, 2, none⟩ = some (.int .i64 ((n : Nat) : Int)) := hb_cell B5.out 2
    have b3 : w5.cell? ⟨w3.heap.size, 3, none⟩ = some (.int .u64 ((x : Nat) : Int)) := hb_cell B5.out 3
    have c0 : w5.cell? ⟨w.heap.size, 0, none⟩ = some (.int .i64 k) := hb_cell C5.out 0
    have c1 : w5.cell? ⟨w.heap.size, 1, none⟩ = some (.int .i64 a) := hb_cell C5.out 1
    have c2 : w5.cell? ⟨w.heap.size, 2, none⟩ = some (.int .i64 b) := hb_cell C5.out 2
    have hF5 := Lib.hid (hF.out (by first | rfl | trivial) w5 hb5.out)
    go_wp2_with fail
    refine hF5.out.mono ?_; rintro e w6 ⟨rfl, hb6⟩
    replace hb6 := Lib.hid (bt1 hb5.out hb6)
    go_wp2_with fail
    go_ret2; exact ⟨by cases F <;> rfl, hb6.out⟩

theorem DoesFit_both (k a b : Int) (s : ByteArray) (hs : s.size ≤ maxLen) : ∃ r0 r1 : Bool,
    (∀ w, Calls Tryd.prog 19 #[.agg #[.int .i64 k, .int .i64 a, .int .i64 b], .string s] w fun e w' => e = .returned (.tuple #[.bool r0, .bool r1]) ∧ Below w.heap.size w w') ∧
    (∀ w, TabOk w → Calls Tryd.prog 20 #[.agg #[.int .i64 k, .int .i64 a, .int .i64 b], .string s] w fun e w' => e = .returned (.tuple #[.bool r0, .bool r1]) ∧ Below w.heap.size w w') := by
  rcases text_cases s with h | ⟨n, x, h1, h2, h3, rfl⟩
  · have hh : hidB s = false := by unfold hidB; rw [h]; rfl
    exact ⟨false, false, fun w => sFit_no k a b s w hs hh, fun w hT => iFit_no k a b s w (Lib.hid fun W hb => hidBar_bad s W hs h (hT.below hb))⟩
  · by_cases h7 : n ≤ 7
    · exact ⟨_, _, fun w => sFit_ST n x k a b w h1 h7 h3, fun w hT => iFit_ST n x k a b w h1 h7 h3 hT⟩
    · have hh : hidB (ST n x) = false := by unfold hidB; rw [ST_size, decide_eq_false h7]; simp
      exact ⟨false, false, fun w => sFit_no k a b _ w hs hh, fun w hT => iFit_no k a b _ w (Lib.hid fun W hb => hidBar_long n x W h1 h2 h3 (by omega) (hT.below hb))⟩

theorem IsClue_both (R k a b : Int) : ∃ r0 : Bool,
    (∀ w, Calls Tryd.prog 11 #[.int .i64 R, .agg #[.int .i64 k, .int .i64 a, .int .i64 b]] w fun e w' => e = .returned (.bool r0) ∧ Below w.heap.size w w') ∧
    (∀ w, TabOk w → Calls Tryd.prog 13 #[.int .i64 R, .agg #[.int .i64 k, .int .i64 a, .int .i64 b]] w fun e w' => e = .returned (.bool r0) ∧ Below w.heap.size w w') :=
  ⟨_, fun w => sIsClue R k a b w, fun w hT => iIsClue R k a b w hT⟩

end Go.Proofs.YtnfonoaojkhnkaaDoor
