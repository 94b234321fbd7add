/- Bolts as values: how they read in memory; the law's helpers and the model's and the program's checks of them. -/
import Derived.Test.YtcfeaaakfjilgaaG2
import Derived.Test.YtcfeaaakfjilgaaG3
import Derived.Test.YtcfeaaakfjilgaaS1
namespace Go.Proofs.Ytcfeaaakfjilgaa
open Go Go.RowKit RM
/-- blocks as elements of a row -/
def blkE : Elt Blk where
  e := 51
  n := 4
  bytes := 32
  z := .agg #[.int .i64 0, .int .i64 0, .int .i64 0, .int .i64 0]
  d := ⟨0, 0, 0, 0⟩
  cells k := [.int .i64 k.a, .int .i64 k.i, .int .i64 k.b, .int .i64 k.j]
  len _ := rfl
  one x u hu := by simp at hu; rcases hu with rfl | rfl | rfl | rfl <;> rfl
  pos := by decide
  zs := rfl
  info := by kernel_rfl
  small := by decide
/-- how a bolts' value reads -/
def Bo (w : World) (v : Value) (ps : List Int) (bs : List Blk) : Prop := ∃ pv bv, v = .agg #[pv, bv] ∧ RdI w pv ps ∧ RdG blkE w bv bs
theorem Bo.below {w w' : World} {v : Value} {ps : List Int} {bs : List Blk} (h : Bo w v ps bs) (hb : Below w.heap.size w w') : Bo w' v ps bs := by
  obtain ⟨pv, bv, rfl, h1, h2⟩ := h
  exact ⟨pv, bv, rfl, h1.below hb, h2.below hb⟩
theorem blk_cells {w : World} {g : Nat} {bs : List Blk} (h : ∀ k (hk : k < bs.length) o, o < blkE.n → w.cell? ⟨g, k * blkE.n + o, none⟩ = (blkE.cells bs[k])[o]?) (k : Nat) (hk : k < bs.length) :
    w.cell? ⟨g, k * 4, none⟩ = some (.int .i64 bs[k].a) ∧ w.cell? ⟨g, k * 4 + 1, none⟩ = some (.int .i64 bs[k].i) ∧ w.cell? ⟨g, k * 4 + 2, none⟩ = some (.int .i64 bs[k].b) ∧ w.cell? ⟨g, k * 4 + 3, none⟩ = some (.int .i64 bs[k].j) :=
  ⟨h k hk 0 (by decide), h k hk 1 (by decide), h k hk 2 (by decide), h k hk 3 (by decide)⟩
theorem ba1 (w : World) (o : Obj) : Below w.heap.size w (w.alloc o) := (Below.refl _ _).alloc (Nat.le_refl _) o
theorem bt1 {w a b : World} (h : Below w.heap.size w a) (k : Below a.heap.size a b) : Below w.heap.size w b := h.trans (k.mono h.size)
theorem RG.blk {w : World} {p : Option Addr} {bs : List Blk} (h : RG blkE w p bs) {k : Nat} (hk : k < bs.length) : ∃ g, p = some ⟨g, 0, none⟩ ∧ g < w.heap.size ∧
    w.cell? ⟨g, k * 4, none⟩ = some (.int .i64 bs[k].a) ∧ w.cell? ⟨g, k * 4 + 1, none⟩ = some (.int .i64 bs[k].i) ∧ w.cell? ⟨g, k * 4 + 2, none⟩ = some (.int .i64 bs[k].b) ∧ w.cell? ⟨g, k * 4 + 3, none⟩ = some (.int .i64 bs[k].j) := by
  obtain ⟨g, rfl, hl, hc⟩ := h (fun e => by rw [e] at hk; simp at hk)
  exact ⟨g, rfl, hl, blk_cells hc k hk⟩
/-- the list of numbers is all between -/
def allIn (xs : List Int) (lo hi : Int) : Bool := xs.all fun x => decide (lo ≤ x) && decide (x ≤ hi)
theorem allIn_no (xs : List Int) (lo hi : Int) (k : Nat) (hk : k < xs.length) (h : xs[k] < lo ∨ hi < xs[k]) : allIn xs lo hi = false := by
  unfold allIn
  rw [← Bool.not_eq_true]; intro ht
  rw [List.all_eq_true] at ht
  have := ht xs[k] (List.getElem_mem _)
  simp at this; omega
theorem allIn_snoc (xs : List Int) (lo hi : Int) (k : Nat) (hk : k < xs.length) (h : allIn (xs.take k) lo hi = true) (h1 : lo ≤ xs[k]) (h2 : xs[k] ≤ hi) : allIn (xs.take (k + 1)) lo hi = true := by
  unfold allIn at *
  rw [List.take_succ_eq_append_getElem hk, List.all_append, h]
  simp [h1, h2]
theorem l1All_any (p : Option Addr) (n c : Nat) (xs : List Int) (lo hi : Int) (w : World) (hn : xs.length = n) (hm : n ≤ maxLen) (h : RI w p xs) :
    Calls Try.prog 88 #[.slice p n c, .int .i64 lo, .int .i64 hi] w fun e w' => e = .returned (.bool (allIn xs lo hi)) ∧ w = w' := by
  have h := Lib.hid h
  unfold maxLen at hm
  have hn := Lib.hid hn
  go_enter Try.func88, Try.ntmps88
  go_wp2_with fail
  go_loop [8, 11] (fun _ i => ∃ k : Nat, k ≤ n ∧ i = .int .i64 k ∧ Hid (allIn (xs.take k) lo hi = true)) (fun _ i => n - (intOf i).toNat)
  case atStart => exact ⟨0, Nat.zero_le _, rfl, Lib.hid rfl⟩
  case round =>
    obtain ⟨k, hk, rfl, ha⟩ := hrel
    by_cases hlt : k < n
    · have hkx : k < xs.length := by rw [hn.out]; exact hlt
      obtain ⟨g, rfl, -, hc⟩ := h.out.at hkx
      have hno := Lib.hid (allIn_no xs lo hi k hkx)
      have hye := Lib.hid (allIn_snoc xs lo hi k hkx)
      clear h
      generalize xs[k] = x at *
      by_cases hin : lo ≤ x ∧ x ≤ hi
      · obtain ⟨h1, h2⟩ := hin
        go_wp2_with fail
        refine (l1In_yes _ _ _ _ h1 h2).mono ?_; rintro e w' ⟨rfl, rfl⟩
        go_wp2_with fail
        go_round
        case rel => exact ⟨k + 1, by omega, by go_num, Lib.hid (hye.out ha.out h1 h2)⟩
        all_goals (simp [intOf] <;> omega)
      · have HF := Lib.hid (hno.out (by omega))
        go_wp2_with fail
        refine (l1In_no _ _ _ _ (by omega)).mono ?_; rintro e w' ⟨rfl, rfl⟩
        go_wp2_with fail
        go_ret; exact ⟨ret_bool HF.out.symm, rfl⟩
    · have HF : Hid (allIn xs lo hi = true) := Lib.hid (by
        have := ha.out; rwa [List.take_of_length_le (by rw [hn.out]; omega)] at this)
      go_wp2_with fail
      go_ret; exact ⟨ret_bool HF.out.symm, rfl⟩
theorem pr_snoc (xs : List Int) (k : Nat) (hk : k < xs.length) : prI (xs.take (k + 1)) = prI (xs.take k) * xs[k] := by
  unfold prI
  rw [List.take_succ_eq_append_getElem hk, List.foldl_append]; rfl
theorem boCount_any (v : Value) (ps : List Int) (bs : List Blk) (w : World) (h : Bo w v ps bs) (hl : ps.length ≤ 6) (hp : allIn ps 2 5 = true) :
    Calls Try.prog 62 #[v] w fun e w' => e = .returned (.int .i64 (prI ps)) ∧ Below w.heap.size w w' := by
  obtain ⟨pv, bv, rfl, ⟨p, c, rfl, -, hr⟩, -⟩ := h
  have hr := Lib.hid hr
  obtain ⟨n, hn⟩ : ∃ n, ps.length = n := ⟨_, rfl⟩
  rw [hn] at hl ⊢
  have hn := Lib.hid hn
  have hp := Lib.hid hp
  have hb0 := Lib.hid (ba1 w (.cells #[.slice p n c, bv] 31))
  go_enter Try.func62, Try.ntmps62
  go_wp2_with fail
  go_loop [3, 5, 9] (fun m _ i => ∃ (k : Nat) (q : Int), k ≤ n ∧ i = .int .i64 k ∧ m = .int .i64 q ∧ Hid (q = prI (ps.take k)) ∧ 0 ≤ q ∧ q ≤ 5 ^ k) (fun _ _ i => n - (intOf i).toNat)
  case atStart => exact ⟨0, 1, Nat.zero_le _, rfl, rfl, Lib.hid rfl, by omega, by simp⟩
  case round =>
    obtain ⟨k, q, hk, rfl, rfl, hq, hq0, hq5⟩ := hrel
    by_cases hlt : k < n
    · have hkx : k < ps.length := by rw [hn.out]; exact hlt
      obtain ⟨g, rfl, hgl, hc⟩ := hr.out.at hkx
      have hs := Lib.hid (pr_snoc ps k hkx)
      have hx : 2 ≤ ps[k] ∧ ps[k] ≤ 5 := by
        have := hp.out
        unfold allIn at this
        rw [List.all_eq_true] at this
        have := this ps[k] (List.getElem_mem _)
        simpa using this
      have hpw : (5 : Int) ^ k ≤ 5 ^ 5 := by
        have : (5 : Nat) ^ k ≤ 5 ^ 5 := Nat.pow_le_pow_right (by omega) (by omega)
        exact_mod_cast this
      have hpk : (5 : Int) ^ (k + 1) = 5 ^ k * 5 := Int.pow_succ _ _
      generalize ps[k] = x at *
      have hmul : q * x ≤ 5 ^ k * 5 := Int.mul_le_mul hq5 hx.2 (by omega) (Int.le_trans hq0 hq5)
      have hmul0 : 0 ≤ q * x := Int.mul_nonneg hq0 (by omega)
      have hm3 : q * x ≤ 15625 := by omega
      have hpk := Lib.hid hpk
      have hmul := Lib.hid hmul
      clear hq5 hpw
      go_wp2_with fail
      go_round
      case rel => exact ⟨k + 1, q * x, by omega, by go_num, rfl, Lib.hid (by rw [hs.out, ← hq.out]), hmul0, by rw [hpk.out]; exact hmul.out⟩
      all_goals (simp [intOf] <;> omega)
    · have HF : Hid (q = prI ps) := Lib.hid (by
        have := hq.out; rwa [List.take_of_length_le (by rw [hn.out]; omega)] at this)
      clear hq5
      go_wp2_with fail
      go_ret; exact ⟨ret_int HF.out, hb0.out⟩
/-- which of the five conditions of a block fails first -/
theorem okBlk_cases (ps : List Int) (a i b j : Int) :
    ((a < 0 ∨ (ps.length : Int) ≤ a) ∧ okBlk ps ⟨a, i, b, j⟩ = false) ∨
    ∃ A : Nat, a = A ∧ A < ps.length ∧ (((b < 0 ∨ (ps.length : Int) ≤ b) ∧ okBlk ps ⟨a, i, b, j⟩ = false) ∨
    ∃ B : Nat, b = B ∧ B < ps.length ∧ ((a = b ∧ okBlk ps ⟨a, i, b, j⟩ = false) ∨ (a ≠ b ∧ ∃ x y, ps[A]? = some x ∧ ps[B]? = some y ∧ (((i < 0 ∨ x ≤ i) ∧ okBlk ps ⟨a, i, b, j⟩ = false) ∨ (0 ≤ i ∧ i < x ∧ (((j < 0 ∨ y ≤ j) ∧ okBlk ps ⟨a, i, b, j⟩ = false) ∨ (0 ≤ j ∧ j < y ∧ okBlk ps ⟨a, i, b, j⟩ = true))))))) := by
  have key : okBlk ps ⟨a, i, b, j⟩ = (!(decide (a = b)) && (decide (0 ≤ a) && decide (a < ps.length) && decide (0 ≤ i) && decide (i < ps.getD a.toNat 0)) && (decide (0 ≤ b) && decide (b < ps.length) && decide (0 ≤ j) && decide (j < ps.getD b.toNat 0))) := rfl
  by_cases h1 : a < 0 ∨ (ps.length : Int) ≤ a
  · left; refine ⟨h1, ?_⟩
    rw [key, ← Bool.not_eq_true]; simp only [Bool.and_eq_true, decide_eq_true_eq]; omega
  · right; refine ⟨a.toNat, by omega, by omega, ?_⟩
    by_cases h2 : b < 0 ∨ (ps.length : Int) ≤ b
    · left; refine ⟨h2, ?_⟩
      rw [key, ← Bool.not_eq_true]; simp only [Bool.and_eq_true, decide_eq_true_eq]; omega
    · right; refine ⟨b.toNat, by omega, by omega, ?_⟩
      by_cases h3 : a = b
      · left; refine ⟨h3, ?_⟩
        rw [key, ← Bool.not_eq_true]; simp only [Bool.and_eq_true, decide_eq_true_eq, Bool.not_eq_true', decide_eq_false_iff_not]; omega
      · right
        have la : a.toNat < ps.length := by omega
        have lb : b.toNat < ps.length := by omega
        have ea := getD_eq ps a.toNat 0 la
        have eb := getD_eq ps b.toNat 0 lb
        refine ⟨h3, ps[a.toNat], ps[b.toNat], List.getElem?_eq_getElem la, List.getElem?_eq_getElem lb, ?_⟩
        rw [key, ea, eb]
        generalize ps[a.toNat] = x at *
        generalize ps[b.toNat] = y at *
        by_cases h4 : i < 0 ∨ x ≤ i
        · left; refine ⟨h4, ?_⟩
          rw [← Bool.not_eq_true]; simp only [Bool.and_eq_true, decide_eq_true_eq]; omega
        · right; refine ⟨by omega, by omega, ?_⟩
          by_cases h5 : j < 0 ∨ y ≤ j
          · left; refine ⟨h5, ?_⟩
            rw [← Bool.not_eq_true]; simp only [Bool.and_eq_true, decide_eq_true_eq]; omega
          · right; refine ⟨by omega, by omega, ?_⟩
            simp only [Bool.and_eq_true, decide_eq_true_eq, Bool.not_eq_true', decide_eq_false_iff_not]
            omega
set_option maxHeartbeats 1000000 in
theorem boBlock_any (v : Value) (a i b j : Int) (ps : List Int) (bs : List Blk) (w : World) (h : Bo w v ps bs) (hp : allIn ps 2 5 = true) :
    Calls Try.prog 68 #[v, .agg #[.int .i64 a, .int .i64 i, .int .i64 b, .int .i64 j]] w fun e w' => e = .returned (.bool (okBlk ps ⟨a, i, b, j⟩)) ∧ Below w.heap.size w w' := by
  obtain ⟨pv, bv, rfl, ⟨p, c, rfl, hm, hr⟩, -⟩ := h
  have hr := Lib.hid hr
  have hcs := okBlk_cases ps a i b j
  have hp := Lib.hid hp
  generalize okBlk ps ⟨a, i, b, j⟩ = ok at *
  obtain ⟨n, hn⟩ : ∃ n, ps.length = n := ⟨_, rfl⟩
  rw [hn] at hcs hm ⊢
  have hn := Lib.hid hn
  unfold maxLen at hm
  rcases hcs with ⟨h1, rfl⟩ | ⟨A, rfl, hA, ⟨h1, rfl⟩ | ⟨B, rfl, hB, ⟨h1, rfl⟩ | ⟨h1, x, y, hx, hy, hcs⟩⟩⟩
  · clear hr hn
    obtain ⟨w2, hw2⟩ : ∃ w2, Hid (w2 = (w.alloc (.cells #[.slice p n c, bv] 31)).alloc (.cells #[.int .i64 a, .int .i64 i, .int .i64 b, .int .i64 j] 51)) := ⟨_, Lib.hid rfl⟩
    have hb2 : Hid (Below w.heap.size w w2) := Lib.hid (by rw [hw2.out]; exact (ba1 w _).alloc (by simp) _)
    have f0 : w2.cell? ⟨w.heap.size, 0, none⟩ = some (.slice p n c) := by rw [hw2.out]; simp
    have g0 : w2.cell? ⟨w.heap.size + 1, 0, none⟩ = some (.int .i64 a) := by rw [hw2.out]; simp
    have g1 : w2.cell? ⟨w.heap.size + 1, 1, none⟩ = some (.int .i64 i) := by rw [hw2.out]; simp
    have g2 : w2.cell? ⟨w.heap.size + 1, 2, none⟩ = some (.int .i64 b) := by rw [hw2.out]; simp
    have g3 : w2.cell? ⟨w.heap.size + 1, 3, none⟩ = some (.int .i64 j) := by rw [hw2.out]; simp
    go_enter Try.func68, Try.ntmps68
    go_wp2_with fail
    rw [← hw2.out]
    go_quiet ((go_at_call 75; first | refine Calls.quiet_of_same ((l1In_yes _ _ _ _ (by omega) (by omega)).mono fun _ _ h => ⟨h.1, h.2.symm⟩) | refine Calls.quiet_of_same ((l1In_no _ _ _ _ (by omega)).mono fun _ _ h => ⟨h.1, h.2.symm⟩)))
    go_wp2_with fail
    go_ret; exact ⟨rfl, below_drewN hb2.out _⟩
  · clear hr hn
    obtain ⟨w2, hw2⟩ : ∃ w2, Hid (w2 = (w.alloc (.cells #[.slice p n c, bv] 31)).alloc (.cells #[.int .i64 (A : Int), .int .i64 i, .int .i64 b, .int .i64 j] 51)) := ⟨_, Lib.hid rfl⟩
    have hb2 : Hid (Below w.heap.size w w2) := Lib.hid (by rw [hw2.out]; exact (ba1 w _).alloc (by simp) _)
    have f0 : w2.cell? ⟨w.heap.size, 0, none⟩ = some (.slice p n c) := by rw [hw2.out]; simp
    have g0 : w2.cell? ⟨w.heap.size + 1, 0, none⟩ = some (.int .i64 (A : Int)) := by rw [hw2.out]; simp
    have g1 : w2.cell? ⟨w.heap.size + 1, 1, none⟩ = some (.int .i64 i) := by rw [hw2.out]; simp
    have g2 : w2.cell? ⟨w.heap.size + 1, 2, none⟩ = some (.int .i64 b) := by rw [hw2.out]; simp
    have g3 : w2.cell? ⟨w.heap.size + 1, 3, none⟩ = some (.int .i64 j) := by rw [hw2.out]; simp
    go_enter Try.func68, Try.ntmps68
    go_wp2_with fail
    rw [← hw2.out]
    go_quiet ((go_at_call 75; first | refine Calls.quiet_of_same ((l1In_yes _ _ _ _ (by omega) (by omega)).mono fun _ _ h => ⟨h.1, h.2.symm⟩) | refine Calls.quiet_of_same ((l1In_no _ _ _ _ (by omega)).mono fun _ _ h => ⟨h.1, h.2.symm⟩)))
    go_wp2_with fail
    go_ret; exact ⟨rfl, below_drewN hb2.out _⟩
  · clear hr hn
    obtain rfl : A = B := by omega
    clear h1
    have hne : ((A : Int) != (A : Int)) = false := by simp
    obtain ⟨w2, hw2⟩ : ∃ w2, Hid (w2 = (w.alloc (.cells #[.slice p n c, bv] 31)).alloc (.cells #[.int .i64 (A : Int), .int .i64 i, .int .i64 (A : Int), .int .i64 j] 51)) := ⟨_, Lib.hid rfl⟩
    have hb2 : Hid (Below w.heap.size w w2) := Lib.hid (by rw [hw2.out]; exact (ba1 w _).alloc (by simp) _)
    have f0 : w2.cell? ⟨w.heap.size, 0, none⟩ = some (.slice p n c) := by rw [hw2.out]; simp
    have g0 : w2.cell? ⟨w.heap.size + 1, 0, none⟩ = some (.int .i64 (A : Int)) := by rw [hw2.out]; simp
    have g1 : w2.cell? ⟨w.heap.size + 1, 1, none⟩ = some (.int .i64 i) := by rw [hw2.out]; simp
    have g2 : w2.cell? ⟨w.heap.size + 1, 2, none⟩ = some (.int .i64 (A : Int)) := by rw [hw2.out]; simp
    have g3 : w2.cell? ⟨w.heap.size + 1, 3, none⟩ = some (.int .i64 j) := by rw [hw2.out]; simp
    go_enter Try.func68, Try.ntmps68
    go_wp2_with fail
    rw [← hw2.out]
    go_quiet ((go_at_call 75; first | refine Calls.quiet_of_same ((l1In_yes _ _ _ _ (by omega) (by omega)).mono fun _ _ h => ⟨h.1, h.2.symm⟩) | refine Calls.quiet_of_same ((l1In_no _ _ _ _ (by omega)).mono fun _ _ h => ⟨h.1, h.2.symm⟩)))
    go_wp2_with fail
    go_ret; exact ⟨rfl, below_drewN hb2.out _⟩
  · have hne : ((A : Int) != (B : Int)) = true := by simp; omega
    obtain ⟨g, rfl, hgl, hcA⟩ := hr.out.at (k := A) (by rw [hn.out]; exact hA)
    obtain ⟨g', hg', -, hcB⟩ := hr.out.at (k := B) (by rw [hn.out]; exact hB)
    obtain rfl : g = g' := by simpa using hg'
    have hx1 : ps[A]'(by rw [hn.out]; exact hA) = x := by rw [List.getElem?_eq_getElem (by rw [hn.out]; exact hA)] at hx; exact Option.some.inj hx
    have hy1 : ps[B]'(by rw [hn.out]; exact hB) = y := by rw [List.getElem?_eq_getElem (by rw [hn.out]; exact hB)] at hy; exact Option.some.inj hy
    rw [hx1] at hcA
    rw [hy1] at hcB
    have wx : -9223372036854775807 ≤ x ∧ x ≤ 9223372036854775807 := by
      have := List.all_eq_true.1 hp.out x (by rw [← hx1]; exact List.getElem_mem _)
      simp at this; omega
    have wy : -9223372036854775807 ≤ y ∧ y ≤ 9223372036854775807 := by
      have := List.all_eq_true.1 hp.out y (by rw [← hy1]; exact List.getElem_mem _)
      simp at this; omega
    have ex : IntKind.i64.wrap (x - 1) = x - 1 := by rw [IntKind.wrap_i64]; omega
    have ey : IntKind.i64.wrap (y - 1) = y - 1 := by rw [IntKind.wrap_i64]; omega
    clear wx wy
    clear hg' hx hy hx1 hy1 hr hn
    have iA : (A : Int) < (n : Int) := by omega
    have iB : (B : Int) < (n : Int) := by omega
    have iA0 : (0 : Int) ≤ (A : Int) := by omega
    have iB0 : (0 : Int) ≤ (B : Int) := by omega
    obtain ⟨w2, hw2⟩ : ∃ w2, Hid (w2 = (w.alloc (.cells #[.slice (some ⟨g, 0, none⟩) n c, bv] 31)).alloc (.cells #[.int .i64 (A : Int), .int .i64 i, .int .i64 (B : Int), .int .i64 j] 51)) := ⟨_, Lib.hid rfl⟩
    have hb2 : Hid (Below w.heap.size w w2) := Lib.hid (by rw [hw2.out]; exact (ba1 w _).alloc (by simp) _)
    have f0 : w2.cell? ⟨w.heap.size, 0, none⟩ = some (.slice (some ⟨g, 0, none⟩) n c) := by rw [hw2.out]; simp
    have g0 : w2.cell? ⟨w.heap.size + 1, 0, none⟩ = some (.int .i64 (A : Int)) := by rw [hw2.out]; simp
    have g1 : w2.cell? ⟨w.heap.size + 1, 1, none⟩ = some (.int .i64 i) := by rw [hw2.out]; simp
    have g2 : w2.cell? ⟨w.heap.size + 1, 2, none⟩ = some (.int .i64 (B : Int)) := by rw [hw2.out]; simp
    have g3 : w2.cell? ⟨w.heap.size + 1, 3, none⟩ = some (.int .i64 j) := by rw [hw2.out]; simp
    have hA2 : w2.cell? ⟨g, A, none⟩ = some (.int .i64 x) := by rw [hb2.out.cell (p := ⟨g, A, none⟩) hgl]; exact hcA
    have hB2 : w2.cell? ⟨g, B, none⟩ = some (.int .i64 y) := by rw [hb2.out.cell (p := ⟨g, B, none⟩) hgl]; exact hcB
    clear hcA hcB
    rcases hcs with ⟨h2, rfl⟩ | ⟨h2, h3, ⟨h4, rfl⟩ | ⟨h4, h5, rfl⟩⟩
    all_goals
      go_enter Try.func68, Try.ntmps68
      go_wp2_with fail
      rw [← hw2.out]
      go_quiet ((go_at_call 75; first | refine Calls.quiet_of_same ((l1In_yes _ _ _ _ (by omega) (by omega)).mono fun _ _ h => ⟨h.1, h.2.symm⟩) | refine Calls.quiet_of_same ((l1In_no _ _ _ _ (by omega)).mono fun _ _ h => ⟨h.1, h.2.symm⟩)))
      go_wp2_with fail
      go_ret; exact ⟨rfl, below_drewN hb2.out _⟩
end Go.Proofs.Ytcfeaaakfjilgaa
