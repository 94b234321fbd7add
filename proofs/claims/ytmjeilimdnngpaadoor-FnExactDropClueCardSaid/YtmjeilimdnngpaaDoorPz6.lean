/- Clues by the program: which there are, what a bar tells, whether it fits. -/
import Derived.Test.YtmjeilimdnngpaaDoorPz2
import Derived.Test.YtmjeilimdnngpaaDoorA3
import Derived.Laws.StructEq
import Derived.Deep.DeepCutAuto
namespace Go.Proofs.YtmjeilimdnngpaaDoor
open Go Go.RowKit RM
theorem isWithin_any (n lo hi : Int) (w : World) : Calls Tryd.prog 58 #[.int .i64 n, .int .i64 lo, .int .i64 hi] w fun e w' => e = .returned (.bool (inB n lo hi)) ∧ w = w' := by
  have hE : Hid (inB n lo hi = (decide (n ≥ lo) && decide (n ≤ hi))) := Lib.hid rfl
  generalize inB n lo hi = R at *
  cases h1 : decide (n ≥ lo) with
  | false =>
    have h2 := Lib.hid h1
    go_enter Tryd.func58, Tryd.ntmps58
    go_wp2_with fail
    go_ret; exact ⟨ret_bool (by rw [hE.out, h2.out]; rfl), rfl⟩
  | true =>
    have h2 := Lib.hid h1
    go_enter Tryd.func58, Tryd.ntmps58
    go_wp2_with fail
    go_ret; exact ⟨ret_bool (by rw [hE.out, h2.out]; simp), rfl⟩

theorem isHid_any (R : Int) (w : World) : Calls Tryd.prog 76 #[.int .i64 R] w fun e w' => e = .returned (.bool (inB R 1 7)) ∧ w = w' := by
  have hL := Lib.hid fun w => isWithin_any R 1 7 w
  generalize inB R 1 7 = ok at *
  go_enter Tryd.func76, Tryd.ntmps76
  go_wp2_with fail
  refine (hL.out _).mono ?_; rintro e w' ⟨rfl, rfl⟩
  go_wp2_with fail
  go_ret; exact ⟨rfl, rfl⟩

theorem isOf_0 (n : Nat) (a b : Int) (A B : Bool) (w : World) (h1 : 1 ≤ n) (h7 : n ≤ 7) (hA : inB a 0 ((n : Int) - 1) = A) (hB : inB b 0 1 = B) :
    Calls Tryd.prog 103 #[.agg #[.int .i64 0, .int .i64 a, .int .i64 b], .int .i64 n] w fun e w' => e = .returned (.bool (A && B)) ∧ Below w.heap.size w w' := by
  have LA := Lib.hid fun w => isWithin_any a 0 ((n : Int) - 1) w
  rw [hA] at LA
  have LB := Lib.hid fun w => isWithin_any b 0 1 w
  rw [hB] at LB
  cases A with
  | false =>
    clear hA hB
    go_enter Tryd.func103, Tryd.ntmps103
    go_wp2_with fail
    refine (LA.out _).mono ?_; rintro e w' ⟨rfl, rfl⟩
    go_wp2_with fail
    go_ret; exact ⟨rfl, ba1 w _⟩
  | true =>
    clear hA hB
    go_enter Tryd.func103, Tryd.ntmps103
    go_wp2_with fail
    refine (LA.out _).mono ?_; rintro e w' ⟨rfl, rfl⟩
    go_wp2_with fail
    refine (LB.out _).mono ?_; rintro e w' ⟨rfl, rfl⟩
    go_wp2_with fail
    go_ret; exact ⟨rfl, ba1 w _⟩

theorem isOf_4 (n : Nat) (a b : Int) (A B : Bool) (w : World) (h1 : 1 ≤ n) (h7 : n ≤ 7) (hA : inB a 0 ((n : Int) - 1) = A) (hB : inB b 0 1 = B) :
    Calls Tryd.prog 103 #[.agg #[.int .i64 4, .int .i64 a, .int .i64 b], .int .i64 n] w fun e w' => e = .returned (.bool (A && B)) ∧ Below w.heap.size w w' := by
  have LA := Lib.hid fun w => isWithin_any a 0 ((n : Int) - 1) w
  rw [hA] at LA
  have LB := Lib.hid fun w => isWithin_any b 0 1 w
  rw [hB] at LB
  cases A with
  | false =>
    clear hA hB
    go_enter Tryd.func103, Tryd.ntmps103
    go_wp2_with fail
    refine (LA.out _).mono ?_; rintro e w' ⟨rfl, rfl⟩
    go_wp2_with fail
    go_ret; exact ⟨rfl, ba1 w _⟩
  | true =>
    clear hA hB
    go_enter Tryd.func103, Tryd.ntmps103
    go_wp2_with fail
    refine (LA.out _).mono ?_; rintro e w' ⟨rfl, rfl⟩
    go_wp2_with fail
    refine (LB.out _).mono ?_; rintro e w' ⟨rfl, rfl⟩
    go_wp2_with fail
    go_ret; exact ⟨rfl, ba1 w _⟩

theorem isOf_1 (n : Nat) (a b : Int) (A B : Bool) (w : World) (h1 : 1 ≤ n) (h7 : n ≤ 7) (hA : inB a 0 (n : Int) = A) (hB : (b == 0) = B) :
    Calls Tryd.prog 103 #[.agg #[.int .i64 1, .int .i64 a, .int .i64 b], .int .i64 n] w fun e w' => e = .returned (.bool (A && B)) ∧ Below w.heap.size w w' := by
  have LA := Lib.hid fun w => isWithin_any a 0 (n : Int) w
  rw [hA] at LA
  cases A with
  | false =>
    clear hA
    go_enter Tryd.func103, Tryd.ntmps103
    go_wp2_with fail
    refine (LA.out _).mono ?_; rintro e w' ⟨rfl, rfl⟩
    go_wp2_with fail
    go_ret; exact ⟨rfl, ba1 w _⟩
  | true =>
    clear hA
    go_enter Tryd.func103, Tryd.ntmps103
    go_wp2_with fail
    refine (LA.out _).mono ?_; rintro e w' ⟨rfl, rfl⟩
    go_wp2_with fail
    go_ret; exact ⟨rfl, ba1 w _⟩

theorem isOf_2 (n : Nat) (a b : Int) (A B : Bool) (w : World) (h1 : 1 ≤ n) (h7 : n ≤ 7) (hA : inB a 2 9 = A) (hB : inB b 0 (a - 1) = B) (ha : A = true → 2 ≤ a ∧ a ≤ 9) :
    Calls Tryd.prog 103 #[.agg #[.int .i64 2, .int .i64 a, .int .i64 b], .int .i64 n] w fun e w' => e = .returned (.bool (A && B)) ∧ Below w.heap.size w w' := by
  have LA := Lib.hid fun w => isWithin_any a 2 9 w
  rw [hA] at LA
  have LB := Lib.hid fun w => isWithin_any b 0 (a - 1) w
  rw [hB] at LB
  cases A with
  | false =>
    clear hA hB ha
    go_enter Tryd.func103, Tryd.ntmps103
    go_wp2_with fail
    refine (LA.out _).mono ?_; rintro e w' ⟨rfl, rfl⟩
    go_wp2_with fail
    go_ret; exact ⟨rfl, ba1 w _⟩
  | true =>
    obtain ⟨a2, a9⟩ := ha rfl
    clear hA hB ha
    go_enter Tryd.func103, Tryd.ntmps103
    go_wp2_with fail
    refine (LA.out _).mono ?_; rintro e w' ⟨rfl, rfl⟩
    go_wp2_with fail
    refine (LB.out _).mono ?_; rintro e w' ⟨rfl, rfl⟩
    go_wp2_with fail
    go_ret; exact ⟨rfl, ba1 w _⟩

theorem isOf_3 (n : Nat) (a b : Int) (A B : Bool) (X : Nat) (hX : Hid (∀ w, Calls Tryd.prog 82 #[.int .i64 n] w fun e w' => e = .returned (.int .i64 ((X : Int) - 1)) ∧ w = w')) (hX1 : 1 ≤ X) (hX2 : X ≤ 128) (w : World) (h1 : 1 ≤ n) (h7 : n ≤ 7) (hA : inB a 0 ((X : Int) - 1) = A) (hB : inB b 0 127 = B) :
    Calls Tryd.prog 103 #[.agg #[.int .i64 3, .int .i64 a, .int .i64 b], .int .i64 n] w fun e w' => e = .returned (.bool (A && B)) ∧ Below w.heap.size w w' := by
  have LA := Lib.hid fun w => isWithin_any a 0 ((X : Int) - 1) w
  rw [hA] at LA
  have LB := Lib.hid fun w => isWithin_any b 0 127 w
  rw [hB] at LB
  cases A with
  | false =>
    clear hA hB
    go_enter Tryd.func103, Tryd.ntmps103
    go_wp2_with fail
    go_quiet ((first | (go_at_call 82; with_reducible exact Calls.quiet_of_same ((hX.out _).mono fun _ _ h => ⟨h.1, h.2.symm⟩)) | (go_at_call 58; first | with_reducible exact Calls.quiet_of_same ((LA.out _).mono fun _ _ h => ⟨h.1, h.2.symm⟩))))
    go_wp2_with fail
    go_ret; exact ⟨rfl, by first | exact ba1 w _ | exact (ba1 w _).drew | exact below_drewN (ba1 w _) _⟩
  | true =>
    clear hA hB
    go_enter Tryd.func103, Tryd.ntmps103
    go_wp2_with fail
    go_quiet ((first | (go_at_call 82; with_reducible exact Calls.quiet_of_same ((hX.out _).mono fun _ _ h => ⟨h.1, h.2.symm⟩)) | (go_at_call 58; first | with_reducible exact Calls.quiet_of_same ((LA.out _).mono fun _ _ h => ⟨h.1, h.2.symm⟩) | with_reducible exact Calls.quiet_of_same ((LB.out _).mono fun _ _ h => ⟨h.1, h.2.symm⟩))))
    go_wp2_with fail
    go_ret; exact ⟨rfl, by first | exact ba1 w _ | exact (ba1 w _).drew | exact below_drewN (ba1 w _) _⟩

theorem isOf_no (n : Nat) (k a b : Int) (w : World) (h0 : (k == 0) = false) (h1 : (k == 1) = false) (h2 : (k == 2) = false) (h3 : (k == 3) = false) (h4 : (k == 4) = false) :
    Calls Tryd.prog 103 #[.agg #[.int .i64 k, .int .i64 a, .int .i64 b], .int .i64 n] w fun e w' => e = .returned (.bool false) ∧ Below w.heap.size w w' := by
  go_enter Tryd.func103, Tryd.ntmps103
  go_wp2_with fail
  go_ret; exact ⟨rfl, ba1 w _⟩

theorem isOf_any (n : Nat) (k a b : Int) (w : World) (h1 : 1 ≤ n) (h7 : n ≤ 7) :
    Calls Tryd.prog 103 #[.agg #[.int .i64 k, .int .i64 a, .int .i64 b], .int .i64 n] w fun e w' => e = .returned (.bool (cluOk n ⟨k, a, b⟩)) ∧ Below w.heap.size w w' := by
  by_cases k0 : k = 0
  · subst k0; exact isOf_0 n a b _ _ w h1 h7 rfl rfl
  by_cases k1 : k = 1
  · subst k1; exact isOf_1 n a b _ _ w h1 h7 rfl rfl
  by_cases k2 : k = 2
  · subst k2; exact isOf_2 n a b _ _ w h1 h7 rfl rfl (fun h => inB_yes h)
  by_cases k3 : k = 3
  · subst k3; exact isOf_3 n a b _ _ (2 ^ n) (Lib.hid fun w => by
      have := greatest_any n w (by omega)
      have h2 := Nat.two_pow_pos n
      rw [show ((2 ^ n - 1 : Nat) : Int) = ((2 ^ n : Nat) : Int) - 1 by omega] at this
      exact this) (Nat.two_pow_pos n) (pow7 h7) w h1 h7 rfl rfl
  by_cases k4 : k = 4
  · subst k4; exact isOf_4 n a b _ _ w h1 h7 rfl rfl
  rw [cluOk_none n k a b k0 k1 k2 k3 k4]
  exact isOf_no n k a b w (by simpa using k0) (by simpa using k1) (by simpa using k2) (by simpa using k3) (by simpa using k4)

theorem uCl : Tryd.prog.underlying 44 = some (.struct (Tryd.prog.fieldsOf 44)) := by kernel_rfl
theorem hCl : Tryd.prog.stoodInHeld 44 = false := by kernel_rfl
theorem gCl : Tryd.prog.eqGuardType Tryd.prog.depth 44 = false := by kernel_rfl
theorem eqg_cl (w : World) (op : BinOp) (x y : Operand) (xs ys : Array Value) : (eqGuard op 44 x y (.agg xs) (.agg ys)).run Tryd.prog w = .ok () w := run_eqGuard_agg w op _ x y xs ys gCl
theorem fCl : (Tryd.prog.fieldsOf 44).toList.map (fun f => (f.name, f.type, f.offset)) = [("Kind", 3, 0), ("A", 3, 1), ("B", 3, 2)] := by kernel_rfl
theorem eq_cl (w : World) (a b c d e f : Int) : (binOp .eql 44 (.agg #[.int .i64 a, .int .i64 b, .int .i64 c]) (.agg #[.int .i64 d, .int .i64 e, .int .i64 f])).run Tryd.prog w = .ok (.bool (a == d && (b == e && c == f))) w := by
  rw [run_eql_struct, run_equalIn_agg w _ _ _ _ uCl hCl]
  have hf := fCl
  generalize (Tryd.prog.fieldsOf 44).toList = fs at hf ⊢
  rcases fs with _ | ⟨f1, _ | ⟨f2, _ | ⟨f3, _ | ⟨f4, fs⟩⟩⟩⟩
  · simp at hf
  · simp at hf
  · simp at hf
  · simp at hf
    obtain ⟨⟨n1, t1, o1⟩, ⟨n2, t2, o2⟩, n3, t3, o3⟩ := hf
    cases ha : (a == d) <;> cases hb : (b == e) <;> cases hc : (c == f) <;> simp_all [Op.eqFields, go_sem, Tryd.underlying3]
  · simp at hf
abbrev cluO (k a b : Int) : Obj := .cells #[.int .i64 k, .int .i64 a, .int .i64 b] 44
abbrev barO (n x : Nat) : Obj := .cells #[.int .i64 (ctz x), .bool (onB x), .int .i64 n, .int .u64 x] 77
/-- what a bar's clue makes first -/
structure ClW (n x : Nat) (k a : Int) (w w2 : World) : Prop where
  b : Below w.heap.size w w2
  B : w2.heap[w.heap.size]? = some (barO n x)
  R : w2.heap[w.heap.size + 1]? = some (cluO 0 0 0)
  C : w2.heap[w.heap.size + 1 + 1]? = some (cluO k a 0)
theorem clW (n x : Nat) (k a : Int) (w : World) : ClW n x k a w (((w.alloc (barO n x)).alloc (cluO 0 0 0)).alloc (cluO k a 0)) :=
  ⟨((ba1 w _).alloc (by simp) _).alloc (by simp; omega) _, hb_old _ (hb_old _ (hb_new _ _)), hb_old _ (hb_new' _ _ _ (by simp)), hb_new' _ _ _ (by simp)⟩
theorem ClW.below {n x : Nat} {k a : Int} {w w2 w3 : World} (h : ClW n x k a w w2) (hb : Below w2.heap.size w2 w3) : ClW n x k a w w3 :=
  ⟨bt1 h.b hb, hb_below hb (hb_lt h.B) h.B, hb_below hb (hb_lt h.R) h.R, hb_below hb (hb_lt h.C) h.C⟩
theorem clue_0 (n x : Nat) (A : Nat) (hA : A < n) (w : World) (h1 : 1 ≤ n) (h7 : n ≤ 7) (hx : x < 2 ^ n) :
    Calls Tryd.prog 60 #[(.agg #[.int .i64 ((ctz (x) : Nat) : Int), .bool (onB (x)), .int .i64 ((n : Nat) : Int), .int .u64 ((x : Nat) : Int)]), .int .i64 0, .int .i64 A] w fun e w' => e = .returned (cluV (cluOf n x 0 A)) ∧ Below w.heap.size w w' := by
  have hx20 : x < 1048576 := Nat.lt_of_lt_of_le hx (Nat.le_trans (pow7 h7) (by omega))
  have hv := and_bit_u64 x A hx20
  have hE : Hid (cluV (cluOf n x 0 A) = .agg #[.int .i64 0, .int .i64 A, .int .i64 (bitN x A : Nat)]) := Lib.hid rfl
  have hb1 : bitN x A ≤ 1 := by unfold bitN; split <;> omega
  have hwv : wrap64 ((bitN x A : Nat) : Int) = ((bitN x A : Nat) : Int) := by unfold wrap64; omega
  have hmn : min A 64 = A := by omega
  generalize cluV (cluOf n x 0 A) = E at *
  generalize bitN x A = T at *
  obtain ⟨w2, hw2⟩ : ∃ w2, Hid (w2 = ((w.alloc (barO n x)).alloc (cluO 0 0 0)).alloc (cluO 0 A 0)) := ⟨_, Lib.hid rfl⟩
  have hW := Lib.hid (show ClW n x 0 A w w2 by rw [hw2.out]; exact clW n x 0 A w)
  go_enter Tryd.func60, Tryd.ntmps60
  go_upto_region 2 with fail
  rw [← hw2.out]
  have b0 : w2.cell? ⟨w.heap.size, 0, none⟩ = some (.int .i64 (ctz x)) := hb_cell hW.out.B 0
  have b1 : w2.cell? ⟨w.heap.size, 1, none⟩ = some (.bool (onB x)) := hb_cell hW.out.B 1
  have b2 : w2.cell? ⟨w.heap.size, 2, none⟩ = some (.int .i64 n) := hb_cell hW.out.B 2
  have b3 : w2.cell? ⟨w.heap.size, 3, none⟩ = some (.int .u64 x) := hb_cell hW.out.B 3
  have r0 : w2.cell? ⟨w.heap.size + 1, 0, none⟩ = some (.int .i64 0) := hb_cell hW.out.R 0
  have r1 : w2.cell? ⟨w.heap.size + 1, 1, none⟩ = some (.int .i64 0) := hb_cell hW.out.R 1
  have r2 : w2.cell? ⟨w.heap.size + 1, 2, none⟩ = some (.int .i64 0) := hb_cell hW.out.R 2
  have c0 : w2.cell? ⟨w.heap.size + 1 + 1, 0, none⟩ = some (.int .i64 0) := hb_cell hW.out.C 0
  have c1 : w2.cell? ⟨w.heap.size + 1 + 1, 1, none⟩ = some (.int .i64 A) := hb_cell hW.out.C 1
  have c2 : w2.cell? ⟨w.heap.size + 1 + 1, 2, none⟩ = some (.int .i64 0) := hb_cell hW.out.C 2
  have zr := hb_frozen hW.out.R
  have zc := hb_frozen hW.out.C
  have lr := hb_lt hW.out.R
  have lc := hb_lt hW.out.C
  have hm1 : ¬ w.heap.size + 1 + 1 = w.heap.size + 1 := by omega
  have hbf := hW.out.b
  replace hbf := Lib.hid hbf
  go_wp2_with fail
  refine bodyPost_ret (v := .agg #[.int .i64 0, .int .i64 A, .int .i64 (T : Nat)]) ?_ rfl ⟨?_, ?_⟩
  · simp [results, Tryd.results60, go_sem, lr, lc, r0, r1, r2, hm1]
  · first | (rw [hE.out]; done) | (rw [hE.out]; rfl)
  · have h0 := hbf.out
    repeat (first | (with_reducible exact h0) | (with_reducible refine Below.setCell ?_ ?_ _; rotate_left; (first | (show w.heap.size ≤ w.heap.size + 1 + 1; omega) | (show w.heap.size ≤ w.heap.size + 1; omega))))

theorem clue_1 (n x : Nat) (a : Int) (w : World) (h1 : 1 ≤ n) (h7 : n ≤ 7) (hx : x < 2 ^ n) :
    Calls Tryd.prog 60 #[(.agg #[.int .i64 ((ctz (x) : Nat) : Int), .bool (onB (x)), .int .i64 ((n : Nat) : Int), .int .u64 ((x : Nat) : Int)]), .int .i64 1, .int .i64 a] w fun e w' => e = .returned (cluV (cluOf n x 1 a)) ∧ Below w.heap.size w w' := by
  have hx20 : x < 1048576 := Nat.lt_of_lt_of_le hx (Nat.le_trans (pow7 h7) (by omega))
  have hO := Lib.hid fun w => countOn_any n x w hx20
  have hE : Hid (cluV (cluOf n x 1 a) = .agg #[.int .i64 1, .int .i64 (pop x : Nat), .int .i64 0]) := Lib.hid rfl
  generalize cluV (cluOf n x 1 a) = E at *
  generalize pop x = T at *
  obtain ⟨w2, hw2⟩ : ∃ w2, Hid (w2 = ((w.alloc (barO n x)).alloc (cluO 0 0 0)).alloc (cluO 1 a 0)) := ⟨_, Lib.hid rfl⟩
  have hW := Lib.hid (show ClW n x 1 a w w2 by rw [hw2.out]; exact clW n x 1 a w)
  go_enter Tryd.func60, Tryd.ntmps60
  go_upto_region 2 with fail
  rw [← hw2.out]
  have b0 : w2.cell? ⟨w.heap.size, 0, none⟩ = some (.int .i64 (ctz x)) := hb_cell hW.out.B 0
  have b1 : w2.cell? ⟨w.heap.size, 1, none⟩ = some (.bool (onB x)) := hb_cell hW.out.B 1
  have b2 : w2.cell? ⟨w.heap.size, 2, none⟩ = some (.int .i64 n) := hb_cell hW.out.B 2
  have b3 : w2.cell? ⟨w.heap.size, 3, none⟩ = some (.int .u64 x) := hb_cell hW.out.B 3
  go_wp2_with fail
  refine (hO.out _).mono ?_; rintro e w3 ⟨rfl, hb3⟩
  replace hW := Lib.hid (hW.out.below hb3)
  clear b0 b1 b2 b3 hb3
  have r0 : w3.cell? ⟨w.heap.size + 1, 0, none⟩ = some (.int .i64 0) := hb_cell hW.out.R 0
  have r1 : w3.cell? ⟨w.heap.size + 1, 1, none⟩ = some (.int .i64 0) := hb_cell hW.out.R 1
  have r2 : w3.cell? ⟨w.heap.size + 1, 2, none⟩ = some (.int .i64 0) := hb_cell hW.out.R 2
  have c0 : w3.cell? ⟨w.heap.size + 1 + 1, 0, none⟩ = some (.int .i64 1) := hb_cell hW.out.C 0
  have c1 : w3.cell? ⟨w.heap.size + 1 + 1, 1, none⟩ = some (.int .i64 a) := hb_cell hW.out.C 1
  have c2 : w3.cell? ⟨w.heap.size + 1 + 1, 2, none⟩ = some (.int .i64 0) := hb_cell hW.out.C 2
  have zr := hb_frozen hW.out.R
  have zc := hb_frozen hW.out.C
  have lr := hb_lt hW.out.R
  have lc := hb_lt hW.out.C
  have hm1 : ¬ w.heap.size + 1 + 1 = w.heap.size + 1 := by omega
  have hbf := hW.out.b
  replace hbf := Lib.hid hbf
  go_wp2_with fail
  refine bodyPost_ret (v := .agg #[.int .i64 1, .int .i64 (T : Nat), .int .i64 0]) ?_ rfl ⟨?_, ?_⟩
  · simp [results, Tryd.results60, go_sem, lr, lc, r0, r1, r2, hm1]
  · first | (rw [hE.out]; done) | (rw [hE.out]; rfl)
  · have h0 := hbf.out
    repeat (first | (with_reducible exact h0) | (with_reducible refine Below.setCell ?_ ?_ _; rotate_left; (first | (show w.heap.size ≤ w.heap.size + 1 + 1; omega) | (show w.heap.size ≤ w.heap.size + 1; omega))))

theorem clue_2 (n x : Nat) (a : Int) (h2 : 2 ≤ a) (h9 : a ≤ 9) (w : World) (h1 : 1 ≤ n) (h7 : n ≤ 7) (hx : x < 2 ^ n) :
    Calls Tryd.prog 60 #[(.agg #[.int .i64 ((ctz (x) : Nat) : Int), .bool (onB (x)), .int .i64 ((n : Nat) : Int), .int .u64 ((x : Nat) : Int)]), .int .i64 2, .int .i64 a] w fun e w' => e = .returned (cluV (cluOf n x 2 a)) ∧ Below w.heap.size w w' := by
  have hx20 : x < 1048576 := Nat.lt_of_lt_of_le hx (Nat.le_trans (pow7 h7) (by omega))
  have hO := Lib.hid fun w => number_any n x w hx20
  have hnx := num_lt n x hx
  have hp := pow7 h7
  have hE : Hid (cluV (cluOf n x 2 a) = .agg #[.int .i64 2, .int .i64 a, .int .i64 (((num x : Nat) : Int) % a)]) := Lib.hid rfl
  generalize cluV (cluOf n x 2 a) = E at *
  generalize num x = X at *
  have h0 : 0 ≤ (X : Int) := by omega
  have h8 : (X : Int) < 128 := by omega
  have hz : ¬ a = 0 := by omega
  have ht : (X : Int).tmod a = (X : Int) % a := Int.tmod_eq_emod_of_nonneg h0
  have h1a : 0 ≤ (X : Int) % a := Int.emod_nonneg _ hz
  have h3 : (X : Int) % a < a := Int.emod_lt_of_pos _ (by omega)
  obtain ⟨w2, hw2⟩ : ∃ w2, Hid (w2 = ((w.alloc (barO n x)).alloc (cluO 0 0 0)).alloc (cluO 2 a 0)) := ⟨_, Lib.hid rfl⟩
  have hW := Lib.hid (show ClW n x 2 a w w2 by rw [hw2.out]; exact clW n x 2 a w)
  go_enter Tryd.func60, Tryd.ntmps60
  go_upto_region 2 with fail
  rw [← hw2.out]
  have b0 : w2.cell? ⟨w.heap.size, 0, none⟩ = some (.int .i64 (ctz x)) := hb_cell hW.out.B 0
  have b1 : w2.cell? ⟨w.heap.size, 1, none⟩ = some (.bool (onB x)) := hb_cell hW.out.B 1
  have b2 : w2.cell? ⟨w.heap.size, 2, none⟩ = some (.int .i64 n) := hb_cell hW.out.B 2
  have b3 : w2.cell? ⟨w.heap.size, 3, none⟩ = some (.int .u64 x) := hb_cell hW.out.B 3
  go_wp2_with fail
  refine (hO.out _).mono ?_; rintro e w3 ⟨rfl, hb3⟩
  replace hW := Lib.hid (hW.out.below hb3)
  clear b0 b1 b2 b3 hb3
  have r0 : w3.cell? ⟨w.heap.size + 1, 0, none⟩ = some (.int .i64 0) := hb_cell hW.out.R 0
  have r1 : w3.cell? ⟨w.heap.size + 1, 1, none⟩ = some (.int .i64 0) := hb_cell hW.out.R 1
  have r2 : w3.cell? ⟨w.heap.size + 1, 2, none⟩ = some (.int .i64 0) := hb_cell hW.out.R 2
  have c0 : w3.cell? ⟨w.heap.size + 1 + 1, 0, none⟩ = some (.int .i64 2) := hb_cell hW.out.C 0
  have c1 : w3.cell? ⟨w.heap.size + 1 + 1, 1, none⟩ = some (.int .i64 a) := hb_cell hW.out.C 1
  have c2 : w3.cell? ⟨w.heap.size + 1 + 1, 2, none⟩ = some (.int .i64 0) := hb_cell hW.out.C 2
  have zr := hb_frozen hW.out.R
  have zc := hb_frozen hW.out.C
  have lr := hb_lt hW.out.R
  have lc := hb_lt hW.out.C
  have hm1 : ¬ w.heap.size + 1 + 1 = w.heap.size + 1 := by omega
  have hbf := hW.out.b
  replace hbf := Lib.hid hbf
  go_wp2_with fail
  refine bodyPost_ret (v := .agg #[.int .i64 2, .int .i64 a, .int .i64 ((X : Int) % a)]) ?_ rfl ⟨?_, ?_⟩
  · simp [results, Tryd.results60, go_sem, lr, lc, r0, r1, r2, hm1]
  · first | (rw [hE.out]; done) | (rw [hE.out]; rfl)
  · have h0 := hbf.out
    repeat (first | (with_reducible exact h0) | (with_reducible refine Below.setCell ?_ ?_ _; rotate_left; (first | (show w.heap.size ≤ w.heap.size + 1 + 1; omega) | (show w.heap.size ≤ w.heap.size + 1; omega))))

theorem clue_4 (n x : Nat) (a : Int) (w : World) (h1 : 1 ≤ n) (h7 : n ≤ 7) (hx : x < 2 ^ n) :
    Calls Tryd.prog 60 #[(.agg #[.int .i64 ((ctz (x) : Nat) : Int), .bool (onB (x)), .int .i64 ((n : Nat) : Int), .int .u64 ((x : Nat) : Int)]), .int .i64 4, .int .i64 a] w fun e w' => e = .returned (cluV (cluOf n x 4 a)) ∧ Below w.heap.size w w' := by
  have hO := Lib.hid fun w => canMove_any n x a w h1 (by omega)
  have hE : Hid (cluV (cluOf n x 4 a) = .agg #[.int .i64 4, .int .i64 a, .int .i64 (if canB n x a then 1 else 0)]) := Lib.hid rfl
  generalize cluV (cluOf n x 4 a) = E at *
  generalize canB n x a = T at *
  obtain ⟨w2, hw2⟩ : ∃ w2, Hid (w2 = ((w.alloc (barO n x)).alloc (cluO 0 0 0)).alloc (cluO 4 a 0)) := ⟨_, Lib.hid rfl⟩
  have hW := Lib.hid (show ClW n x 4 a w w2 by rw [hw2.out]; exact clW n x 4 a w)
  cases T with
  | false =>
    go_enter Tryd.func60, Tryd.ntmps60
    go_upto_region 2 with fail
    rw [← hw2.out]
    have b0 : w2.cell? ⟨w.heap.size, 0, none⟩ = some (.int .i64 (ctz x)) := hb_cell hW.out.B 0
    have b1 : w2.cell? ⟨w.heap.size, 1, none⟩ = some (.bool (onB x)) := hb_cell hW.out.B 1
    have b2 : w2.cell? ⟨w.heap.size, 2, none⟩ = some (.int .i64 n) := hb_cell hW.out.B 2
    have b3 : w2.cell? ⟨w.heap.size, 3, none⟩ = some (.int .u64 x) := hb_cell hW.out.B 3
    go_wp2_with fail
    refine (hO.out _).mono ?_; rintro e w3 ⟨rfl, hb3⟩
    replace hW := Lib.hid (hW.out.below hb3)
    clear b0 b1 b2 b3 hb3
    have r0 : w3.cell? ⟨w.heap.size + 1, 0, none⟩ = some (.int .i64 0) := hb_cell hW.out.R 0
    have r1 : w3.cell? ⟨w.heap.size + 1, 1, none⟩ = some (.int .i64 0) := hb_cell hW.out.R 1
    have r2 : w3.cell? ⟨w.heap.size + 1, 2, none⟩ = some (.int .i64 0) := hb_cell hW.out.R 2
    have c0 : w3.cell? ⟨w.heap.size + 1 + 1, 0, none⟩ = some (.int .i64 4) := hb_cell hW.out.C 0
    have c1 : w3.cell? ⟨w.heap.size + 1 + 1, 1, none⟩ = some (.int .i64 a) := hb_cell hW.out.C 1
    have c2 : w3.cell? ⟨w.heap.size + 1 + 1, 2, none⟩ = some (.int .i64 0) := hb_cell hW.out.C 2
    have zr := hb_frozen hW.out.R
    have zc := hb_frozen hW.out.C
    have lr := hb_lt hW.out.R
    have lc := hb_lt hW.out.C
    have hm1 : ¬ w.heap.size + 1 + 1 = w.heap.size + 1 := by omega
    have hbf := hW.out.b
    replace hbf := Lib.hid hbf
    go_wp2_with fail
    refine bodyPost_ret (v := .agg #[.int .i64 4, .int .i64 a, .int .i64 0]) ?_ rfl ⟨?_, ?_⟩
    · simp [results, Tryd.results60, go_sem, lr, lc, r0, r1, r2, hm1]
    · first | (rw [hE.out]; done) | (rw [hE.out]; rfl)
    · have h0 := hbf.out
      repeat (first | (with_reducible exact h0) | (with_reducible refine Below.setCell ?_ ?_ _; rotate_left; (first | (show w.heap.size ≤ w.heap.size + 1 + 1; omega) | (show w.heap.size ≤ w.heap.size + 1; omega))))
  | true =>
    go_enter Tryd.func60, Tryd.ntmps60
    go_upto_region 2 with fail
    rw [← hw2.out]
    have b0 : w2.cell? ⟨w.heap.size, 0, none⟩ = some (.int .i64 (ctz x)) := hb_cell hW.out.B 0
    have b1 : w2.cell? ⟨w.heap.size, 1, none⟩ = some (.bool (onB x)) := hb_cell hW.out.B 1
    have b2 : w2.cell? ⟨w.heap.size, 2, none⟩ = some (.int .i64 n) := hb_cell hW.out.B 2
    have b3 : w2.cell? ⟨w.heap.size, 3, none⟩ = some (.int .u64 x) := hb_cell hW.out.B 3
    go_wp2_with fail
    refine (hO.out _).mono ?_; rintro e w3 ⟨rfl, hb3⟩
    replace hW := Lib.hid (hW.out.below hb3)
    clear b0 b1 b2 b3 hb3
    have r0 : w3.cell? ⟨w.heap.size + 1, 0, none⟩ = some (.int .i64 0) := hb_cell hW.out.R 0
    have r1 : w3.cell? ⟨w.heap.size + 1, 1, none⟩ = some (.int .i64 0) := hb_cell hW.out.R 1
    have r2 : w3.cell? ⟨w.heap.size + 1, 2, none⟩ = some (.int .i64 0) := hb_cell hW.out.R 2
    have c0 : w3.cell? ⟨w.heap.size + 1 + 1, 0, none⟩ = some (.int .i64 4) := hb_cell hW.out.C 0
    have c1 : w3.cell? ⟨w.heap.size + 1 + 1, 1, none⟩ = some (.int .i64 a) := hb_cell hW.out.C 1
    have c2 : w3.cell? ⟨w.heap.size + 1 + 1, 2, none⟩ = some (.int .i64 0) := hb_cell hW.out.C 2
    have zr := hb_frozen hW.out.R
    have zc := hb_frozen hW.out.C
    have lr := hb_lt hW.out.R
    have lc := hb_lt hW.out.C
    have hm1 : ¬ w.heap.size + 1 + 1 = w.heap.size + 1 := by omega
    have hbf := hW.out.b
    replace hbf := Lib.hid hbf
    go_wp2_with fail
    refine bodyPost_ret (v := .agg #[.int .i64 4, .int .i64 a, .int .i64 1]) ?_ rfl ⟨?_, ?_⟩
    · simp [results, Tryd.results60, go_sem, lr, lc, r0, r1, r2, hm1]
    · first | (rw [hE.out]; done) | (rw [hE.out]; rfl)
    · have h0 := hbf.out
      repeat (first | (with_reducible exact h0) | (with_reducible refine Below.setCell ?_ ?_ _; rotate_left; (first | (show w.heap.size ≤ w.heap.size + 1 + 1; omega) | (show w.heap.size ≤ w.heap.size + 1; omega))))

end Go.Proofs.YtmjeilimdnngpaaDoor
