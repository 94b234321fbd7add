/- Chapter 7: ChanceBefore, both ways. -/
import Derived.Test.YtkcoabdngjbhdadDoorZ2
import Derived.Test.YtkcoabdngjbhdadDoorZ4
namespace Go.Proofs.YtkcoabdngjbhdadDoor
open Go Go.RowKit RM
theorem low_dist_self (A B : Nat) (h : A ≠ B) : lowP (distN A B) (distN A B) = 1 ∧ lowQ (distN A B) (distN A B) = 1 := low_same _ (dist_pos h)
theorem sCB_no (s a b : ByteArray) (c1 c2 c3 : Bool) (w : World) (hc : (c1 && c2 && !c3) = false) (h3 : (a.toList == b.toList) = c3)
    (hA : Hid (∀ w, Calls Tryd.prog 6 #[.string s, .string a] w fun e w' => e = .returned (.bool c1) ∧ w = w'))
    (hB : Hid (∀ w, Calls Tryd.prog 6 #[.string s, .string b] w fun e w' => e = .returned (.bool c2) ∧ w = w')) :
    Calls Tryd.prog 4 #[.string s, .string a, .string b] w fun e w' => AnsI2 w 0 0 false e w' := by
  cases c1
  · go_enter Tryd.func4, Tryd.ntmps4
    go_wp2_with fail
    refine (hA.out _).mono ?_; rintro e w' ⟨rfl, rfl⟩
    go_wp2_with fail
    refine bodyPost_ret (v := .tuple #[.int .i64 0, .int .i64 0, .bool false]) ?_ rfl ⟨rfl, Below.refl _ _⟩
    simp [results, Tryd.results4, go_sem]
  · cases c2
    · go_enter Tryd.func4, Tryd.ntmps4
      go_wp2_with fail
      refine (hA.out _).mono ?_; rintro e w' ⟨rfl, rfl⟩
      go_wp2_with fail
      refine (hB.out _).mono ?_; rintro e w' ⟨rfl, rfl⟩
      go_wp2_with fail
      refine bodyPost_ret (v := .tuple #[.int .i64 0, .int .i64 0, .bool false]) ?_ rfl ⟨rfl, Below.refl _ _⟩
      simp [results, Tryd.results4, go_sem]
    · obtain rfl : c3 = true := by simpa using hc
      go_enter Tryd.func4, Tryd.ntmps4
      go_wp2_with fail
      refine (hA.out _).mono ?_; rintro e w' ⟨rfl, rfl⟩
      go_wp2_with fail
      refine (hB.out _).mono ?_; rintro e w' ⟨rfl, rfl⟩
      go_wp2_with fail
      refine bodyPost_ret (v := .tuple #[.int .i64 0, .int .i64 0, .bool false]) ?_ rfl ⟨rfl, Below.refl _ _⟩
      simp [results, Tryd.results4, go_sem]
set_option maxHeartbeats 4000000 in
theorem sCB_yes (s a b : ByteArray) (X A B : Nat) (P Q : Nat) (w : World) (hAB : A ≠ B) (h3 : (a.toList == b.toList) = false) (hX : X < 1048576) (hA2 : A < 1048576) (hB2 : B < 1048576)
    (hA : Hid (∀ w, Calls Tryd.prog 6 #[.string s, .string a] w fun e w' => e = .returned (.bool true) ∧ w = w'))
    (hB : Hid (∀ w, Calls Tryd.prog 6 #[.string s, .string b] w fun e w' => e = .returned (.bool true) ∧ w = w'))
    (hNs : Hid (∀ w, Calls Tryd.prog 7 #[.string s] w fun e w' => e = .returned (.int .i64 (X : Int)) ∧ w = w'))
    (hNa : Hid (∀ w, Calls Tryd.prog 7 #[.string a] w fun e w' => e = .returned (.int .i64 (A : Int)) ∧ w = w'))
    (hNb : Hid (∀ w, Calls Tryd.prog 7 #[.string b] w fun e w' => e = .returned (.int .i64 (B : Int)) ∧ w = w'))
    (h1 : Hid ((X ≤ A ∧ A < B ∨ A ≤ X ∧ B < A) → P = 1 ∧ Q = 1)) (h2 : Hid ((X ≤ B ∧ B < A ∨ B ≤ X ∧ A < B) → P = 0 ∧ Q = 1))
    (hL : Hid (¬ (X ≤ A ∧ A < B ∨ A ≤ X ∧ B < A) → ¬ (X ≤ B ∧ B < A ∨ B ≤ X ∧ A < B) → ∀ w, Calls Tryd.prog 8 #[.int .i64 (max ((B : Int) - X) (-((B : Int) - X))), .int .i64 (max ((B : Int) - A) (-((B : Int) - A)))] w fun e w' => e = .returned (.tuple #[.int .i64 (P : Int), .int .i64 (Q : Int)]) ∧ Below w.heap.size w w')) :
    Calls Tryd.prog 4 #[.string s, .string a, .string b] w fun e w' => AnsI2 w P Q true e w' := by
  obtain ⟨d1, k1⟩ : ∃ d, decide (X ≤ A) = d := ⟨_, rfl⟩
  have m1 : decide ((X : Int) ≤ A) = d1 := by rw [← k1]; simp
  obtain ⟨d2, k2⟩ : ∃ d, decide (A < B) = d := ⟨_, rfl⟩
  have m2 : decide ((A : Int) < B) = d2 := by rw [← k2]; simp
  obtain ⟨d3, k3⟩ : ∃ d, decide (A ≤ X) = d := ⟨_, rfl⟩
  have m3 : decide ((A : Int) ≤ X) = d3 := by rw [← k3]; simp
  obtain ⟨d4, k4⟩ : ∃ d, decide (B < A) = d := ⟨_, rfl⟩
  have m4 : decide ((B : Int) < A) = d4 := by rw [← k4]; simp
  obtain ⟨d5, k5⟩ : ∃ d, decide (X ≤ B) = d := ⟨_, rfl⟩
  have m5 : decide ((X : Int) ≤ B) = d5 := by rw [← k5]; simp
  obtain ⟨d6, k6⟩ : ∃ d, decide (B ≤ X) = d := ⟨_, rfl⟩
  have m6 : decide ((B : Int) ≤ X) = d6 := by rw [← k6]; simp
  go_enter Tryd.func4, Tryd.ntmps4
  go_wp2_with fail
  refine (hA.out _).mono ?_; rintro e w' ⟨rfl, rfl⟩
  go_wp2_with fail
  refine (hB.out _).mono ?_; rintro e w' ⟨rfl, rfl⟩
  go_wp2_with fail
  refine (hNs.out _).mono ?_; rintro e w' ⟨rfl, rfl⟩
  go_wp2_with fail
  refine (hNa.out _).mono ?_; rintro e w' ⟨rfl, rfl⟩
  go_wp2_with fail
  refine (hNb.out _).mono ?_; rintro e w' ⟨rfl, rfl⟩
  cases d1 <;> cases d2 <;> cases d3 <;> cases d4 <;> cases d5 <;> cases d6
  all_goals
    have q1 := k1
    have q2 := k2
    have q3 := k3
    have q4 := k4
    have q5 := k5
    have q6 := k6
    simp only [decide_eq_true_eq, decide_eq_false_iff_not] at q1 q2 q3 q4 q5 q6
    try (exfalso; omega)
  all_goals
    by_cases g1 : X ≤ A ∧ A < B ∨ A ≤ X ∧ B < A
    · first
      | (exfalso; omega)
      | (have h1' := h1.out g1
         obtain ⟨rfl, rfl⟩ := h1'
         clear q1 q2 q3 q4 q5 q6 g1 h1 h2 hL
         go_wp2_with fail
         refine bodyPost_ret (v := .tuple #[.int .i64 1, .int .i64 1, .bool true]) ?_ rfl ⟨rfl, Below.refl _ _⟩
         simp [results, Tryd.results4, go_sem])
    · by_cases g2 : X ≤ B ∧ B < A ∨ B ≤ X ∧ A < B
      · first
        | (exfalso; omega)
        | (have h2' := h2.out g2
           obtain ⟨rfl, rfl⟩ := h2'
           clear q1 q2 q3 q4 q5 q6 g1 g2 h1 h2 hL
           go_wp2_with fail
           refine bodyPost_ret (v := .tuple #[.int .i64 0, .int .i64 1, .bool true]) ?_ rfl ⟨rfl, Below.refl _ _⟩
           simp [results, Tryd.results4, go_sem])
      · first
        | (exfalso; omega)
        | (have hL' := Lib.hid (hL.out g1 g2)
           clear q1 q2 q3 q4 q5 q6 g1 g2 h1 h2 hL
           go_wp2_with fail
           refine (l1Abs_any _ _ (by omega) (by omega)).mono ?_; rintro e w' ⟨rfl, rfl⟩
           go_wp2_with fail
           refine (l1Abs_any _ _ (by omega) (by omega)).mono ?_; rintro e w' ⟨rfl, rfl⟩
           go_wp2_with fail
           refine (hL'.out _).mono ?_; rintro e w2 ⟨rfl, hb2⟩
           go_wp2_with fail
           refine bodyPost_ret (v := .tuple #[.int .i64 P, .int .i64 Q, .bool true]) ?_ rfl ⟨rfl, hb2⟩
           simp [results, Tryd.results4, go_sem])

theorem set4 {w : World} {g : Nat} {t : TypeId} {a b c d a' b' c' d' : Value} (h : w.heap[g]? = some (.cells #[a, b, c, d] t)) : ((((w.setCell ⟨g, 0, none⟩ a').setCell ⟨g, 1, none⟩ b').setCell ⟨g, 2, none⟩ c').setCell ⟨g, 3, none⟩ d').heap[g]? = some (.cells #[a', b', c', d'] t) :=
  hb_set (hb_set (hb_set (hb_set h _) _) _) _
theorem mp_of {p q : Prop} (h : p) (k : p → q) : q := k h
theorem cell_two {v : World} {d k o : Nat} {p q : Value} (h : ¬ k = d) : ((v.setCell ⟨d, 0, none⟩ p).setCell ⟨d, 1, none⟩ q).cell? ⟨k, o, none⟩ = v.cell? ⟨k, o, none⟩ := by
  unfold World.cell?
  show (match ((v.setCell ⟨d, 0, none⟩ p).setCell ⟨d, 1, none⟩ q).heap[k]? with | _ => _) = _
  rw [hb_ne _ h, hb_ne _ h]
theorem b3_two {n x y z a b c d N B : Nat} {W v : World} {p q : Value} (ha : ¬ a = d) (hb : ¬ b = d) (hc : ¬ c = d) (hB : B ≤ d) (h : B3 n x y z a b c N B W v) : B3 n x y z a b c N B W ((v.setCell ⟨d, 0, none⟩ p).setCell ⟨d, 1, none⟩ q) := by
  obtain ⟨⟨a0, a1, a2, a3⟩, ⟨b0, b1, b2, b3⟩, ⟨c0, c1, c2, c3⟩, hN, hW⟩ := h
  exact ⟨⟨(cell_two ha).trans a0, (cell_two ha).trans a1, (cell_two ha).trans a2, (cell_two ha).trans a3⟩, ⟨(cell_two hb).trans b0, (cell_two hb).trans b1, (cell_two hb).trans b2, (cell_two hb).trans b3⟩, ⟨(cell_two hc).trans c0, (cell_two hc).trans c1, (cell_two hc).trans c2, (cell_two hc).trans c3⟩, by simpa using hN, (hW.setCell hB _).setCell hB _⟩
theorem b3_drew {n x y z a b c N B : Nat} {W v : World} (h : B3 n x y z a b c N B W v) : B3 n x y z a b c N B W v.drew := by
  obtain ⟨a1, a2, a3, a4, a5⟩ := h
  exact ⟨a1, a2, a3, a4, a5.drew⟩
theorem kpB3 {A B C : Prop} {N M : Nat} {w v : World} (h : A ∧ B ∧ C ∧ N ≤ v.heap.size ∧ Below M w v) : N ≤ v.heap.size := h.2.2.2.1
set_option maxRecDepth 100000 in
set_option maxHeartbeats 40000000 in
theorem chance_core (n s a b E M : Nat) (num : Nat → Nat) (D : Nat → Nat → Nat) (P Q : Nat) (w : World) (hT : TabOk w)
    (hs : s < M) (ha : a < M) (hb : b < M) (he : E < M) (C : Int) (hC : max (min (num a : Int) (num b)) (min (num s : Int) (max (num a) (num b))) = C)
    (hN : Hid (∀ w x, x < M → Calls Tryd.prog 16 #[(.agg #[.int .i64 ((ctz (x) : Nat) : Int), .bool (onB (x)), .int .i64 ((n : Nat) : Int), .int .u64 ((x : Nat) : Int)])] w fun e w' => e = .returned (.int .i64 (num x : Nat)) ∧ Below w.heap.size w w'))
    (hA : Hid (∀ w z t, z < M → t < M → Calls Tryd.prog 19 #[(.agg #[.int .i64 ((ctz (z) : Nat) : Int), .bool (onB (z)), .int .i64 ((n : Nat) : Int), .int .u64 ((z : Nat) : Int)]), (.agg #[.int .i64 ((ctz (t) : Nat) : Int), .bool (onB (t)), .int .i64 ((n : Nat) : Int), .int .u64 ((t : Nat) : Int)])] w fun e w' => e = .returned (.int .i64 (D z t : Nat)) ∧ Below w.heap.size w w'))
    (hR : Hid (∀ w, Calls Tryd.prog 18 #[.int .i64 (D E b : Nat), .int .i64 (D a b : Nat)] w fun e w' => e = .returned (RA P Q) ∧ Below w.heap.size w w'))
    (hE : Hid (∀ w, TabOk w → Calls Tryd.prog 17 #[.int .i64 n, .int .i64 C] w fun e w' => e = .returned (.agg #[.int .i64 ((ctz (E) : Nat) : Int), .bool (onB (E)), .int .i64 ((n : Nat) : Int), .int .u64 ((E : Nat) : Int)]) ∧ Below w.heap.size w w')) :
    Calls Tryd.prog 11 #[(.agg #[.int .i64 ((ctz (s) : Nat) : Int), .bool (onB (s)), .int .i64 ((n : Nat) : Int), .int .u64 ((s : Nat) : Int)]), (.agg #[.int .i64 ((ctz (a) : Nat) : Int), .bool (onB (a)), .int .i64 ((n : Nat) : Int), .int .u64 ((a : Nat) : Int)]), (.agg #[.int .i64 ((ctz (b) : Nat) : Int), .bool (onB (b)), .int .i64 ((n : Nat) : Int), .int .u64 ((b : Nat) : Int)])] w fun e w' => e = .returned (RA P Q) ∧ Below w.heap.size w w' := by
  have hT := Lib.hid hT
  have hRA : RA P Q = .agg #[.int .i64 (P : Int), .int .i64 (Q : Int)] := rfl
  rw [hRA] at hR ⊢
  clear hRA
  go_enter Tryd.func11, Tryd.ntmps11
  go_upto_region 1 with fail
  obtain ⟨W, hW⟩ : ∃ W, W = (((w.alloc (.cells #[.int .i64 (ctz s), .bool (onB s), .int .i64 n, .int .u64 s] 34)).alloc (.cells #[.int .i64 (ctz a), .bool (onB a), .int .i64 n, .int .u64 a] 34)).alloc (.cells #[.int .i64 (ctz b), .bool (onB b), .int .i64 n, .int .u64 b] 34)).alloc (.cells #[.int .i64 0, .int .i64 0] 38) := ⟨_, rfl⟩
  rw [← hW]
  have hWz : W.heap.size = w.heap.size + 4 := by rw [hW]; simp
  have hWT := Lib.hid (show TabOk W by rw [hW]; repeat (first | exact hT.out | apply TabOk.alloc))
  have hWb := Lib.hid (show Below w.heap.size w W by rw [hW]; exact bt1 (bt1 (bt1 (ba1 _ _) (ba1 _ _)) (ba1 _ _)) (ba1 _ _))
  have k0 := (show W.heap[w.heap.size]? = some (barO n s) by rw [hW]; exact hb_old _ (hb_old _ (hb_old _ (hb_new _ _))))
  have k1 := (show W.heap[w.heap.size + 1]? = some (barO n a) by rw [hW]; exact hb_old _ (hb_old _ (hb_new' _ _ _ (by simp))))
  have k2 := (show W.heap[w.heap.size + 2]? = some (barO n b) by rw [hW]; exact hb_old _ (hb_new' _ _ _ (by simp)))
  have k3 := Lib.hid (show W.heap[w.heap.size + 3]? = some (.cells #[.int .i64 0, .int .i64 0] 38) by rw [hW]; exact hb_new' _ _ _ (by simp))
  clear hW
  obtain ⟨⟨p0, p1, p2, p3⟩, _⟩ := bar_cells k0
  obtain ⟨⟨q0, q1, q2, q3⟩, _⟩ := bar_cells k1
  obtain ⟨⟨r0, r1, r2, r3⟩, _⟩ := bar_cells k2
  have k0 := Lib.hid k0
  have k1 := Lib.hid k1
  have k2 := Lib.hid k2
  have l0 : w.heap.size < W.heap.size := by omega
  have l1 : w.heap.size + 1 < W.heap.size := by omega
  have l2 : w.heap.size + 2 < W.heap.size := by omega
  have hrf : Below W.heap.size W W := Below.refl _ _
  go_cut [7, 8] (fun t7 t8 wx => t7 = .int .i64 (min (num a : Int) (num b)) ∧ t8 = .int .i64 (max (num a : Int) (num b)) ∧ Below W.heap.size W wx)
  case first =>
    go_region_held3 (fun v => B3 n s a b w.heap.size (w.heap.size + 1) (w.heap.size + 2) W.heap.size W.heap.size W v) (first | assumption | (refine ⟨⟨?_, ?_, ?_, ?_⟩, ⟨?_, ?_, ?_, ?_⟩, ⟨?_, ?_, ?_, ?_⟩, ?_, ?_⟩ <;> first | assumption | (refine Below.drew ?_; assumption) | go_keep | omega))
      (first | (go_at_call 16; refine (hN.out _ _ ?_).mono ?_; (with_reducible assumption); rintro e w' ⟨rfl, hb2⟩; have hbn := kp12 l0 l1 l2 (Nat.le_refl _) hb2 (by assumption)))
    all_goals
      go_wp2_with fail
      go_meet
      rename_i hBf
      exact ⟨rfl, rfl, kpE hBf⟩
  case rest =>
    obtain ⟨rfl, rfl, hbx⟩ := hcut
    obtain ⟨⟨p0, p1, p2, p3⟩, _⟩ := bar_cells ((hbx.block _ l0).trans k0.out)
    obtain ⟨⟨q0, q1, q2, q3⟩, _⟩ := bar_cells ((hbx.block _ l1).trans k1.out)
    obtain ⟨⟨r0, r1, r2, r3⟩, _⟩ := bar_cells ((hbx.block _ l2).trans k2.out)
    have hxT := Lib.hid (hWT.out.below hbx)
    have hxl := hbx.size
    have hbx := Lib.hid hbx
    go_upto_region 2 with fail
    go_cut [9] (fun t9 wx => ∃ g : Nat, t9 = .pointer (some ⟨g, 0, none⟩) ∧ W.heap.size ≤ g ∧ wx.heap[g]? = some (barO n E) ∧ Below W.heap.size W wx)
    case first =>
      have lx0 : w.heap.size < wc.heap.size := by omega
      have lx1 : w.heap.size < wc.heap.size + 1 := by omega
      have lx2 : ¬ w.heap.size = wc.heap.size := by omega
      have S0 := Lib.hid ((hbx.out.block _ l0).trans k0.out)
      have hWx := Lib.hid hbx.out.size
      go_region_with (first
        | (go_at_call 16; refine (hN.out _ _ ?_).mono ?_; (with_reducible assumption); rintro e w9 ⟨rfl, hb5⟩
           refine mp_of (p := w9.heap[w.heap.size]? = some (barO n s)) ?_ ?_; · (first | exact (hb5.block _ (by simp; omega)).trans S0.out | exact (hb5.block _ (by simp; omega)).trans (hb_old _ S0.out))
           intro S9
           have s0 := hb_cell S9 0
           have s1 := hb_cell S9 1
           have s2 := hb_cell S9 2
           have s3 := hb_cell S9 3
           have hlt9 := hb_lt S9
           have hz5 := hb5.size
           (try simp only [World.size_drew, World.size_alloc] at hz5)
           replace S9 := Lib.hid S9
           have hne9 : ¬ w.heap.size = w9.heap.size := (by omega)
           (try (refine mp_of (p := w9.heap[wc.heap.size]? = some (.cells #[.int .i64 0, .bool false, .int .i64 0, .int .u64 0] 34)) ?_ ?_; · (exact (hb5.block _ (by simp)).trans (hb_new _ _))
                 intro N9
                 have n0 := hb_cell N9 0
                 have n1 := hb_cell N9 1
                 have n2 := hb_cell N9 2
                 have n3 := hb_cell N9 3
                 have nf := hb_frozen N9
                 have nl := hb_lt N9
                 replace N9 := Lib.hid N9))
           refine mp_of (p := Below W.heap.size W w9) ?_ ?_; · (first | exact hbx.out.drew.trans (hb5.mono hWx.out) | exact ((hbx.out.alloc hWx.out _).drew).trans (hb5.mono (by have := hWx.out; simp; omega)) | exact ((hbx.out.drew).alloc hWx.out _).trans (hb5.mono (by have := hWx.out; simp; omega)))
           intro hB9
           replace hB9 := Lib.hid hB9
           replace hb5 := Lib.hid hb5)
        | (go_at_call 17; refine (hE.out _ ?_).mono ?_; (repeat (first | (with_reducible exact hxT.out) | (with_reducible apply TabOk.alloc) | (with_reducible apply TabOk.drew) | (with_reducible refine TabOk.below ?_ hb5.out))); rintro e w8 ⟨rfl, hb6⟩
           (try (refine mp_of (p := w8.heap[wc.heap.size]? = some (.cells #[.int .i64 0, .bool false, .int .i64 0, .int .u64 0] 34)) ?_ ?_; · (exact (hb6.block _ (by first | exact nl | (simp; omega))).trans (by first | exact N9.out | exact hb_old _ N9.out))
                 intro M8
                 have m0 := hb_cell M8 0
                 have m1 := hb_cell M8 1
                 have m2 := hb_cell M8 2
                 have m3 := hb_cell M8 3
                 have mf := hb_frozen M8
                 have ml := hb_lt M8
                 replace M8 := Lib.hid M8))
           (try (refine mp_of (p := w8.heap[w9.heap.size]? = some (.cells #[.int .i64 0, .bool false, .int .i64 0, .int .u64 0] 34)) ?_ ?_; · (exact (hb6.block _ (by simp)).trans (hb_new _ _))
                 intro L8
                 have o0 := hb_cell L8 0
                 have o1 := hb_cell L8 1
                 have o2 := hb_cell L8 2
                 have o3 := hb_cell L8 3
                 have of := hb_frozen L8
                 have ol := hb_lt L8
                 replace L8 := Lib.hid L8))
           have hz6 := hb6.size
           (try simp only [World.size_drew, World.size_alloc] at hz6)
           refine mp_of (p := Below W.heap.size W w8) ?_ ?_; · (first | exact hB9.out.trans (hb6.mono hB9.out.size) | exact (hB9.out.alloc hB9.out.size _).trans (hb6.mono (by have := hB9.out.size; simp; omega)))
           intro hB8
           replace hB8 := Lib.hid hB8
           replace hb6 := Lib.hid hb6))
      all_goals
        go_wp2_with fail
        go_meet
        first
        | (have L8' := set4 (a' := .int .i64 (ctz E)) (b' := .bool (onB E)) (c' := .int .i64 n) (d' := .int .u64 E) L8.out
           refine ⟨_, rfl, hB9.out.size, L8', ?_⟩
           exact (((hB8.out.setCell (by exact hB9.out.size) _).setCell (by exact hB9.out.size) _).setCell (by exact hB9.out.size) _).setCell (by exact hB9.out.size) _)
        | (have M8' := set4 (a' := .int .i64 (ctz E)) (b' := .bool (onB E)) (c' := .int .i64 n) (d' := .int .u64 E) M8.out
           refine ⟨_, rfl, hWx.out, M8', ?_⟩
           exact (((hB8.out.setCell (by exact hWx.out) _).setCell (by exact hWx.out) _).setCell (by exact hWx.out) _).setCell (by exact hWx.out) _)
        | (refine ⟨_, rfl, hB8.out.size, hb_new _ _, ?_⟩
           exact hB8.out.alloc hB8.out.size _)
    case rest =>
      obtain ⟨g, rfl, hgW, hgb, hbg⟩ := hcut
      have R0 := Lib.hid ((hbg.block _ l0).trans k0.out)
      have R1 := Lib.hid ((hbg.block _ l1).trans k1.out)
      have R2 := Lib.hid ((hbg.block _ l2).trans k2.out)
      have R3 := Lib.hid ((hbg.block (w.heap.size + 3) (by omega)).trans k3.out)
      obtain ⟨⟨p0, p1, p2, p3⟩, _⟩ := bar_cells hgb
      obtain ⟨⟨q0, q1, q2, q3⟩, _⟩ := bar_cells R1.out
      obtain ⟨⟨r0, r1, r2, r3⟩, _⟩ := bar_cells R2.out
      have hgl := hb_lt hgb
      have hl1 := hb_lt R1.out
      have hl2 := hb_lt R2.out
      have hl3 := hb_lt R3.out
      have hbg := Lib.hid hbg
      have hrg : Below w.heap.size w wc := hWb.out.trans (hbg.out.mono (by omega))
      have hST : B3 n E a b g (w.heap.size + 1) (w.heap.size + 1 + 1) wc.heap.size w.heap.size w wc := ⟨⟨p0, p1, p2, p3⟩, ⟨q0, q1, q2, q3⟩, ⟨r0, r1, r2, r3⟩, Nat.le_refl _, hrg⟩
      have hd := Lib.hid (show wc.heap[w.heap.size + 1 + 1 + 1]? = some (.cells #[.int .i64 0, .int .i64 0] 38) from R3.out)
      have hdl : w.heap.size + 1 + 1 + 1 < wc.heap.size := hl3
      have nd0 : ¬ g = w.heap.size + 1 + 1 + 1 := by omega
      have nd1 : ¬ w.heap.size + 1 = w.heap.size + 1 + 1 + 1 := by omega
      have nd2 : ¬ w.heap.size + 1 + 1 = w.heap.size + 1 + 1 + 1 := by omega
      have nd3 : w.heap.size ≤ w.heap.size + 1 + 1 + 1 := by omega
      go_upto_region 3 with fail
      go_region_held3 (fun v => B3 n E a b g (w.heap.size + 1) (w.heap.size + 1 + 1) wc.heap.size w.heap.size w v) (first | assumption | exact b3_drew (by assumption) | exact b3_two nd0 nd1 nd2 nd3 (by assumption))
        (first
          | (go_at_call 19; (first | (with_reducible refine (hA.out _ E b he hb).mono ?_; rintro e w' ⟨rfl, hb9⟩) | (with_reducible refine (hA.out _ a b ha hb).mono ?_; rintro e w' ⟨rfl, hb9⟩)); have hbn := kp12 (B := w.heap.size) hgl hl1 hl2 (by omega) hb9 (by assumption); have hd := Lib.hid (hb_below hb9 (by have := hbn.2.2.2.1; first | exact hb_lt hd.out | (simp; exact hb_lt hd.out)) hd.out))
          | (go_at_call 18; with_reducible refine (hR.out _).mono ?_; rintro e w' ⟨rfl, hb9⟩; have hbn := kp12 (B := w.heap.size) hgl hl1 hl2 (by omega) hb9 (by assumption); have hd := Lib.hid (hb_below hb9 (by first | exact hb_lt hd.out | (simp; exact hb_lt hd.out)) hd.out); have d0 := hb_cell hd.out 0; have d1 := hb_cell hd.out 1; have d2 := hb_frozen hd.out; have d3 := hb_lt hd.out))
      all_goals
        go_wp2_with fail
        rename_i hBf
        refine bodyPost_ret (v := .agg #[.int .i64 (P : Int), .int .i64 (Q : Int)]) ?_ rfl ⟨rfl, kpE hBf⟩
        simp [results, Tryd.results11, go_sem, d0, d1, d3]
end Go.Proofs.YtkcoabdngjbhdadDoor
