/- FewestTurns, both sides. -/
import Derived.Test.YtjlecipeoaohiaaYB
namespace Go.Proofs.Ytjlecipeoaohiaa
set_option linter.unusedSimpArgs false
set_option linter.unusedVariables false
open Go Go.RowKit RM Go.Maps Go.WideMaps Go.ChangeMaps
/-- a box and two states of it -/
def askT (P S : Int) (rs : List ByteArray) (x y : ByteArray) : Bool := goodX P S rs && stB P.toNat S.toNat x && stB P.toNat S.toNat y
theorem askT_nat {P S : Int} {rs : List ByteArray} {x y : ByteArray} (h : askT P S rs x y = true) : ∃ (p s : Nat) (d e : List Nat), P = p ∧ S = s ∧ GX p s rs ∧ s ^ p ≤ 1000 ∧ stOk p s d ∧ x = tS d ∧ stOk p s e ∧ y = tS e := by
  unfold askT at h
  rw [Bool.and_eq_true] at h
  obtain ⟨p, s, d, rfl, rfl, hG, hsp, hd, rfl⟩ := askS_nat (show askS P S rs x = true from h.1)
  have h2 := h.2
  simp only [Int.toNat_natCast] at h2
  have := hG.s5
  obtain ⟨e, he, rfl⟩ := stB_nat (by omega) h2
  exact ⟨p, s, d, e, rfl, rfl, hG, hsp, hd, rfl, he, rfl⟩
theorem askT_two (P S : Int) (rs : List ByteArray) (x y : ByteArray) : askT P S rs x y = (askS P S rs x && askS P S rs y) := by
  unfold askT askS
  cases goodX P S rs <;> simp
set_option maxRecDepth 100000 in
theorem bxTwo_any (v : Value) (P S : Int) (rs : List ByteArray) (x y : ByteArray) (w : World) (hz : ∀ s ∈ rs, s.size ≤ maxLen) (hx : x.size ≤ maxLen) (hy : y.size ≤ maxLen) (h : RdX w v P S rs) :
    Calls Try.prog 62 #[v, .string x, .string y] w fun e w' => e = .returned (.bool (askT P S rs x y)) ∧ Below w.heap.size w w' := by
  have hQ := Lib.hid (fun w' (hb : Below w.heap.size w w') => bxGood_any v P S rs w' hz (h.below hb))
  have e9 : askT P S rs x y = (goodX P S rs && stB P.toNat S.toNat x && stB P.toNat S.toNat y) := rfl
  rw [e9]
  clear e9
  obtain ⟨u, rfl, -⟩ := h
  obtain ⟨w1, hw1⟩ : ∃ w1, Hid (w1 = w.alloc (boxO P S u)) := ⟨_, Lib.hid rfl⟩
  have hb1 : Hid (Below w.heap.size w w1) := Lib.hid (by rw [hw1.out]; exact ba1 w _)
  have F1 := Lib.hid (show w1.heap[w.heap.size]? = some (boxO P S u) by rw [hw1.out]; exact hb_new _ _)
  have f0 : w1.cell? ⟨w.heap.size, 0, none⟩ = some (.int .i64 P) := hb_cell F1.out 0
  have f1 : w1.cell? ⟨w.heap.size, 1, none⟩ = some (.int .i64 S) := hb_cell F1.out 1
  have f2 : w1.cell? ⟨w.heap.size, 2, none⟩ = some u := hb_cell F1.out 2
  cases hg : goodX P S rs with
  | false =>
    rw [hg] at hQ
    rw [Bool.false_and, Bool.false_and]
    clear hg
    go_enter Try.func62, Try.ntmps62
    go_wp2_with fail
    rw [← hw1.out]
    go_wp2_with fail
    refine (hQ.out _ hb1.out).mono ?_; rintro e w2 ⟨rfl, hb⟩
    go_wp2_with fail
    go_ret; exact ⟨rfl, bt1 hb1.out hb⟩
  | true =>
    rw [hg] at hQ
    obtain ⟨p, s, rfl, rfl, hG, -⟩ := GX.of hg
    rw [Bool.true_and, Int.toNat_natCast, Int.toNat_natCast]
    have hSx := Lib.hid (fun w => bxState_any p s u x w hx hG.p6 hG.s2 hG.s5)
    have hSy := Lib.hid (fun w => bxState_any p s u y w hy hG.p6 hG.s2 hG.s5)
    generalize stB p s x = bx at *
    generalize stB p s y = bY at *
    clear hg
    cases bx with
    | false =>
      rw [Bool.false_and]
      go_enter Try.func62, Try.ntmps62
      go_wp2_with fail
      rw [← hw1.out]
      go_wp2_with fail
      refine (hQ.out _ hb1.out).mono ?_; rintro e w2 ⟨rfl, hb⟩
      have F2 := Lib.hid (hb_below hb (hb_lt F1.out) F1.out)
      have g0 : w2.cell? ⟨w.heap.size, 0, none⟩ = some (.int .i64 p) := hb_cell F2.out 0
      have g1 : w2.cell? ⟨w.heap.size, 1, none⟩ = some (.int .i64 s) := hb_cell F2.out 1
      have g2 : w2.cell? ⟨w.heap.size, 2, none⟩ = some u := hb_cell F2.out 2
      replace hb := Lib.hid (bt1 hb1.out hb)
      go_wp2_with fail
      refine (hSx.out _).mono ?_; rintro e w3 ⟨rfl, hb3⟩
      go_wp2_with fail
      go_ret; exact ⟨rfl, bt1 hb.out hb3⟩
    | true =>
      rw [Bool.true_and]
      go_enter Try.func62, Try.ntmps62
      go_wp2_with fail
      rw [← hw1.out]
      go_wp2_with fail
      refine (hQ.out _ hb1.out).mono ?_; rintro e w2 ⟨rfl, hb⟩
      have F2 := Lib.hid (hb_below hb (hb_lt F1.out) F1.out)
      have g0 : w2.cell? ⟨w.heap.size, 0, none⟩ = some (.int .i64 p) := hb_cell F2.out 0
      have g1 : w2.cell? ⟨w.heap.size, 1, none⟩ = some (.int .i64 s) := hb_cell F2.out 1
      have g2 : w2.cell? ⟨w.heap.size, 2, none⟩ = some u := hb_cell F2.out 2
      replace hb := Lib.hid (bt1 hb1.out hb)
      go_wp2_with fail
      refine (hSx.out _).mono ?_; rintro e w3 ⟨rfl, hb3⟩
      have F3 := Lib.hid (hb_below hb3 (hb_lt F2.out) F2.out)
      have k0 : w3.cell? ⟨w.heap.size, 0, none⟩ = some (.int .i64 p) := hb_cell F3.out 0
      have k1 : w3.cell? ⟨w.heap.size, 1, none⟩ = some (.int .i64 s) := hb_cell F3.out 1
      have k2 : w3.cell? ⟨w.heap.size, 2, none⟩ = some u := hb_cell F3.out 2
      replace hb3 := Lib.hid (bt1 hb.out hb3)
      go_wp2_with fail
      refine (hSy.out _).mono ?_; rintro e w4 ⟨rfl, hb4⟩
      go_wp2_with fail
      go_ret; exact ⟨rfl, bt1 hb3.out hb4⟩
theorem fX_neg (o : Option Nat) : decide (fX o < 0) = o.isNone := by
  cases o with
  | none => rfl
  | some d => show decide ((d : Int) < 0) = false; rw [decide_eq_false]; omega
set_option maxRecDepth 100000 in
theorem bxFewest_any (v : Value) (p s : Nat) (rs : List ByteArray) (d e : List Nat) (w : World) (hG : GX p s rs) (hsp : s ^ p ≤ 1000) (hd : stOk p s d) (he : stOk p s e) (h : RdX w v p s rs) :
    Calls Try.prog 63 #[v, .string (tS d), .string (tS e)] w fun en w' => en = .returned (.tuple #[.int .i64 ((((fin 1 (nbX p s rs) (allX p s) d).far e).getD 0 : Nat) : Int), .bool ((fin 1 (nbX p s rs) (allX p s) d).far e).isSome]) ∧ Below w.heap.size w w' := by
  have hFar := Lib.hid (fun w' (hb : Below w.heap.size w w') => bxFar_any 1 v p s rs d w' hG hsp (h.below hb) hd (Nat.le_refl _))
  obtain ⟨u, rfl, -⟩ := h
  have h6 := hG.p6
  have h5 := hG.s5
  have h2 := hG.s2
  have hNum := Lib.hid (fun w => bxNumber_any p s u e w h6 h2 h5 he)
  have hlt := nX_st he
  have hget := Lib.hid (fun h => mX_get he (fin 1 (nbX p s rs) (allX p s) d).far h)
  have hml := Lib.hid (mX_len p s (fin 1 (nbX p s rs) (allX p s) d).far)
  obtain ⟨o, ho⟩ : ∃ o, (fin 1 (nbX p s rs) (allX p s) d).far e = o := ⟨_, rfl⟩
  rw [ho] at hget ⊢
  generalize mX p s (fin 1 (nbX p s rs) (allX p s) d).far = mm at *
  generalize nX s e = n at *
  generalize s ^ p = N at *
  clear ho
  obtain ⟨w1, hw1⟩ : ∃ w1, Hid (w1 = w.alloc (boxO p s u)) := ⟨_, Lib.hid rfl⟩
  have hb1 : Hid (Below w.heap.size w w1) := Lib.hid (by rw [hw1.out]; exact ba1 w _)
  have F1 := Lib.hid (show w1.heap[w.heap.size]? = some (boxO p s u) by rw [hw1.out]; exact hb_new _ _)
  have f0 : w1.cell? ⟨w.heap.size, 0, none⟩ = some (.int .i64 p) := hb_cell F1.out 0
  have f1 : w1.cell? ⟨w.heap.size, 1, none⟩ = some (.int .i64 s) := hb_cell F1.out 1
  have f2 : w1.cell? ⟨w.heap.size, 2, none⟩ = some u := hb_cell F1.out 2
  go_enter Try.func63, Try.ntmps63
  go_wp2_with fail
  rw [← hw1.out]
  go_wp2_with fail
  refine (hFar.out _ hb1.out).mono ?_; rintro e w2 ⟨gm, rfl, how, hb⟩
  have F2 := Lib.hid (hb_below hb (hb_lt F1.out) F1.out)
  have g0 : w2.cell? ⟨w.heap.size, 0, none⟩ = some (.int .i64 p) := hb_cell F2.out 0
  have g1 : w2.cell? ⟨w.heap.size, 1, none⟩ = some (.int .i64 s) := hb_cell F2.out 1
  have g2 : w2.cell? ⟨w.heap.size, 2, none⟩ = some u := hb_cell F2.out 2
  replace how := Lib.hid how
  replace hb := Lib.hid (bt1 hb1.out hb)
  go_wp2_with fail
  refine (hNum.out _).mono ?_; rintro e w3 ⟨rfl, hb3⟩
  have how3 := how.out.below hb3
  obtain ⟨c0, -⟩ := how3.cell hml.out n (by rw [hml.out]; exact hlt)
  rw [hget.out] at c0
  replace hb3 := Lib.hid (bt1 hb.out hb3)
  clear how3
  cases o with
  | none =>
    have c0 : w3.cell? ⟨gm, n, none⟩ = some (.int .i64 (-1)) := c0
    go_wp2_with fail
    go_ret2; exact ⟨rfl, hb3.out⟩
  | some x =>
    have c0 : w3.cell? ⟨gm, n, none⟩ = some (.int .i64 (x : Int)) := c0
    go_wp2_with fail
    go_ret2; exact ⟨rfl, hb3.out⟩
theorem sFT_any (v : Value) (P S : Int) (rs : List ByteArray) (x y : ByteArray) (r0 : Int) (r1 : Bool) (w : World) (hz : ∀ s ∈ rs, s.size ≤ maxLen) (hx : x.size ≤ maxLen) (hy : y.size ≤ maxLen) (h : RdX w v P S rs) (A : Bool) (hA : askT P S rs x y = A)
    (h0 : A = false → r0 = 0 ∧ r1 = false) (h1 : A = true → ∀ w' , Below w.heap.size w w' → Calls Try.prog 63 #[v, .string x, .string y] w' fun e w2 => e = .returned (.tuple #[.int .i64 r0, .bool r1]) ∧ Below w'.heap.size w' w2) :
    Calls Try.prog 25 #[v, .string x, .string y] w fun e w' => e = .returned (.tuple #[.int .i64 r0, .bool r1]) ∧ Below w.heap.size w w' := by
  have hQ := Lib.hid (fun w' (hb : Below w.heap.size w w') => bxTwo_any v P S rs x y w' hz hx hy (h.below hb))
  rw [hA] at hQ
  replace h1 := Lib.hid h1
  obtain ⟨u, rfl, -⟩ := h
  obtain ⟨w1, hw1⟩ : ∃ w1, Hid (w1 = w.alloc (boxO P S u)) := ⟨_, Lib.hid rfl⟩
  have hb1 : Hid (Below w.heap.size w w1) := Lib.hid (by rw [hw1.out]; exact ba1 w _)
  have F1 := Lib.hid (show w1.heap[w.heap.size]? = some (boxO P S u) by rw [hw1.out]; exact hb_new _ _)
  have f0 : w1.cell? ⟨w.heap.size, 0, none⟩ = some (.int .i64 P) := hb_cell F1.out 0
  have f1 : w1.cell? ⟨w.heap.size, 1, none⟩ = some (.int .i64 S) := hb_cell F1.out 1
  have f2 : w1.cell? ⟨w.heap.size, 2, none⟩ = some u := hb_cell F1.out 2
  clear hA
  cases A with
  | false =>
    obtain ⟨rfl, rfl⟩ := h0 rfl
    go_enter Try.func25, Try.ntmps25
    go_wp2_with fail
    rw [← hw1.out]
    go_wp2_with fail
    refine (hQ.out _ hb1.out).mono ?_; rintro e w2 ⟨rfl, hb⟩
    go_wp2_with fail
    go_ret2; exact ⟨rfl, bt1 hb1.out hb⟩
  | true =>
    have h2 := Lib.hid (h1.out rfl)
    clear h0 h1
    go_enter Try.func25, Try.ntmps25
    go_wp2_with fail
    rw [← hw1.out]
    go_wp2_with fail
    refine (hQ.out _ hb1.out).mono ?_; rintro e w2 ⟨rfl, hb⟩
    have F2 := Lib.hid (hb_below hb (hb_lt F1.out) F1.out)
    have g0 : w2.cell? ⟨w.heap.size, 0, none⟩ = some (.int .i64 P) := hb_cell F2.out 0
    have g1 : w2.cell? ⟨w.heap.size, 1, none⟩ = some (.int .i64 S) := hb_cell F2.out 1
    have g2 : w2.cell? ⟨w.heap.size, 2, none⟩ = some u := hb_cell F2.out 2
    replace hb := Lib.hid (bt1 hb1.out hb)
    go_wp2_with fail
    refine (h2.out _ hb.out).mono ?_; rintro e w3 ⟨rfl, hb3⟩
    go_wp2_with fail
    go_ret2; exact ⟨rfl, bt1 hb.out hb3⟩
set_option maxRecDepth 1000000 in
theorem iFT_no (v : Value) (P S : Int) (rs : List ByteArray) (x y : ByteArray) (w : World) (hz : ∀ s ∈ rs, s.size ≤ maxLen) (hx : x.size ≤ maxLen) (hy : y.size ≤ maxLen) (hA : askT P S rs x y = false) (h : RdX w v P S rs) :
    Calls Try.prog 26 #[v, .string x, .string y] w fun e w' => e = .returned (.tuple #[.int .i64 0, .bool false]) ∧ Below w.heap.size w w' := by
  rw [askT_two] at hA
  have hQ := Lib.hid (fun w' (hb : Below w.heap.size w w') => twoSO_no v P S rs x y _ _ _ _ hA w' (h.below hb)
    (Lib.hid (fun w v h => stateOf_core v P S rs x w hz hx h (askS P S rs x) rfl)) (Lib.hid (fun w v h => stateOf_core v P S rs y w hz hy h (askS P S rs y) rfl)))
  obtain ⟨u, rfl, -⟩ := h
  obtain ⟨w1, hw1⟩ : ∃ w1, Hid (w1 = w.alloc (boxO P S u)) := ⟨_, Lib.hid rfl⟩
  have hb1 : Hid (Below w.heap.size w w1) := Lib.hid (by rw [hw1.out]; exact ba1 w _)
  have F1 := Lib.hid (show w1.heap[w.heap.size]? = some (boxO P S u) by rw [hw1.out]; exact hb_new _ _)
  have f0 : w1.cell? ⟨w.heap.size, 0, none⟩ = some (.int .i64 P) := hb_cell F1.out 0
  have f1 : w1.cell? ⟨w.heap.size, 1, none⟩ = some (.int .i64 S) := hb_cell F1.out 1
  have f2 : w1.cell? ⟨w.heap.size, 2, none⟩ = some u := hb_cell F1.out 2
  clear hA hz hx hy
  go_enter Try.func26, Try.ntmps26
  go_wp2_with fail
  rw [← hw1.out]
  go_wp2_with fail
  refine (hQ.out _ hb1.out).mono ?_; rintro e w2 ⟨rfl, hb⟩
  go_wp2_with fail
  go_ret2; exact ⟨rfl, ((bt1 hb1.out hb).alloc (by have h1 := hb1.out.size; have h2 := hb.size; omega) _).alloc (by have h1 := hb1.out.size; have h2 := hb.size; simp; omega) _⟩
/-- what the last region loads: the box, and two states -/
abbrev XT (f g h B : Nat) (P S : Int) (u : Value) (a b : Nat → Int) (W w : World) : Prop :=
  (w.cell? ⟨f, 0, none⟩ = some (.int .i64 P) ∧ w.cell? ⟨f, 1, none⟩ = some (.int .i64 S) ∧ w.cell? ⟨f, 2, none⟩ = some u) ∧
  (w.cell? ⟨g, 0, none⟩ = some (.int .i64 (a 0)) ∧ w.cell? ⟨g, 1, none⟩ = some (.int .i64 (a 1)) ∧ w.cell? ⟨g, 2, none⟩ = some (.int .i64 (a 2)) ∧ w.cell? ⟨g, 3, none⟩ = some (.int .i64 (a 3)) ∧ w.cell? ⟨g, 4, none⟩ = some (.int .i64 (a 4)) ∧ w.cell? ⟨g, 5, none⟩ = some (.int .i64 (a 5))) ∧
  (w.cell? ⟨h, 0, none⟩ = some (.int .i64 (b 0)) ∧ w.cell? ⟨h, 1, none⟩ = some (.int .i64 (b 1)) ∧ w.cell? ⟨h, 2, none⟩ = some (.int .i64 (b 2)) ∧ w.cell? ⟨h, 3, none⟩ = some (.int .i64 (b 3)) ∧ w.cell? ⟨h, 4, none⟩ = some (.int .i64 (b 4)) ∧ w.cell? ⟨h, 5, none⟩ = some (.int .i64 (b 5))) ∧
  f < w.heap.size ∧ g < w.heap.size ∧ h < w.heap.size ∧ Below B W w
theorem keepT {f g h : Nat} {P S : Int} {u : Value} {p q : Nat → Int} {W a b : World} (kk : Below a.heap.size a b) (hx : XT f g h W.heap.size P S u p q W a) : XT f g h W.heap.size P S u p q W b := by
  obtain ⟨⟨a0, a1, a2⟩, ⟨b0, b1, b2, b3, b4, b5⟩, ⟨c0, c1, c2, c3, c4, c5⟩, hf, hg, hh, hb⟩ := hx
  have e : ∀ g o, g < a.heap.size → b.cell? ⟨g, o, none⟩ = a.cell? ⟨g, o, none⟩ := fun g o hg => kk.cell (p := ⟨g, o, none⟩) hg
  have hs := kk.size
  exact ⟨⟨by rw [e _ _ hf]; exact a0, by rw [e _ _ hf]; exact a1, by rw [e _ _ hf]; exact a2⟩,
    ⟨by rw [e _ _ hg]; exact b0, by rw [e _ _ hg]; exact b1, by rw [e _ _ hg]; exact b2, by rw [e _ _ hg]; exact b3, by rw [e _ _ hg]; exact b4, by rw [e _ _ hg]; exact b5⟩,
    ⟨by rw [e _ _ hh]; exact c0, by rw [e _ _ hh]; exact c1, by rw [e _ _ hh]; exact c2, by rw [e _ _ hh]; exact c3, by rw [e _ _ hh]; exact c4, by rw [e _ _ hh]; exact c5⟩, by omega, by omega, by omega, bt1 hb kk⟩
theorem keepTB {f g h : Nat} {P S : Int} {u : Value} {p q : Nat → Int} {W w : World} (hx : XT f g h W.heap.size P S u p q W w) : Below W.heap.size W w := hx.2.2.2.2.2.2
set_option maxRecDepth 1000000 in
set_option maxHeartbeats 4000000 in
theorem iFT_yes (v : Value) (p s : Nat) (rs : List ByteArray) (d e : List Nat) (w : World) (hz : ∀ s ∈ rs, s.size ≤ maxLen) (hA : askT p s rs (tS d) (tS e) = true) (hG : GX p s rs) (hsp : s ^ p ≤ 1000) (hd : stOk p s d) (he : stOk p s e) (h : RdX w v p s rs) :
    Calls Try.prog 26 #[v, .string (tS d), .string (tS e)] w fun en w' => en = .returned (.tuple #[.int .i64 ((((fin 1 (nbX p s rs) (allX p s) d).far e).getD 0 : Nat) : Int), .bool ((fin 1 (nbX p s rs) (allX p s) d).far e).isSome]) ∧ Below w.heap.size w w' := by
  rw [askT_two, Bool.and_eq_true] at hA
  have h6 := hG.p6
  have h5 := hG.s5
  have ht1 : (tS d).size ≤ maxLen := by rw [tS_size, hd.1]; unfold maxLen; omega
  have ht2 : (tS e).size ≤ maxLen := by rw [tS_size, he.1]; unfold maxLen; omega
  have hQ := Lib.hid (fun w' (hb : Below w.heap.size w w') => twoSO_yes v p s rs (tS d) (tS e) (dF d) (dF e) w' (h.below hb)
    (Lib.hid (fun w v h => by have := stateOf_core v p s rs (tS d) w hz ht1 h true hA.1; rw [if_pos rfl, tF_end (by omega) hd] at this; exact this))
    (Lib.hid (fun w v h => by have := stateOf_core v p s rs (tS e) w hz ht2 h true hA.2; rw [if_pos rfl, tF_end (by omega) he] at this; exact this)))
  have hSe := Lib.hid (fun w' (hb : Below w.heap.size w w') => searchT_any v p s rs d 1 w' hG hsp hd (Nat.le_refl _) (h.below hb))
  obtain ⟨o, ho⟩ : ∃ o, (fin 1 (nbX p s rs) (allX p s) d).far e = o := ⟨_, rfl⟩
  have hLk := Lib.hid (fun W b (hm : MM hG.ks b (fin 1 (nbX p s rs) (allX p s) d).far W) => show (Instr.lookup 77 (.map (some b)) (bsV (dF e)) true).run Try.prog W = .ok (.tuple #[.int .i64 ((o.getD 0 : Nat) : Int), .bool o.isSome]) W by
    obtain ⟨D, h1, h2⟩ := hm.ex
    rw [← ho]; exact mlkO (K := hG.ks) humX he h1 h2)
  rw [ho]
  clear ho
  obtain ⟨u, rfl, -⟩ := h
  obtain ⟨fa, hfa⟩ : ∃ f, Hid (f = dF d) := ⟨_, Lib.hid rfl⟩
  obtain ⟨fb, hfb⟩ : ∃ f, Hid (f = dF e) := ⟨_, Lib.hid rfl⟩
  rw [← hfa.out] at hQ hSe
  rw [← hfb.out] at hQ hLk
  generalize tS d = x at *
  generalize tS e = y at *
  clear hA ht1 ht2
  obtain ⟨w1, hw1⟩ : ∃ w1, Hid (w1 = w.alloc (boxO p s u)) := ⟨_, Lib.hid rfl⟩
  have hb1 : Hid (Below w.heap.size w w1) := Lib.hid (by rw [hw1.out]; exact ba1 w _)
  have F1 := Lib.hid (show w1.heap[w.heap.size]? = some (boxO p s u) by rw [hw1.out]; exact hb_new _ _)
  have f0 : w1.cell? ⟨w.heap.size, 0, none⟩ = some (.int .i64 p) := hb_cell F1.out 0
  have f1 : w1.cell? ⟨w.heap.size, 1, none⟩ = some (.int .i64 s) := hb_cell F1.out 1
  have f2 : w1.cell? ⟨w.heap.size, 2, none⟩ = some u := hb_cell F1.out 2
  have l1 := hb_lt F1.out
  go_enter Try.func26, Try.ntmps26
  go_wp2_with fail
  rw [← hw1.out]
  go_wp2_with fail
  refine (hQ.out _ hb1.out).mono ?_; rintro e w2 ⟨rfl, hb⟩
  have F2 := Lib.hid (hb_below hb l1 F1.out)
  have l2 := hb_lt F2.out
  obtain ⟨w3, hw3⟩ : ∃ w3, Hid (w3 = (w2.alloc (bsO fa)).alloc (bsO fb)) := ⟨_, Lib.hid rfl⟩
  have hb3 : Hid (Below w.heap.size w w3) := Lib.hid (by rw [hw3.out]; exact ((bt1 hb1.out hb).alloc (by omega) _).alloc (by simp; omega) _)
  have F3 := Lib.hid (show w3.heap[w.heap.size]? = some (boxO p s u) by rw [hw3.out]; exact hb_old _ (hb_old _ F2.out))
  have G3 := Lib.hid (show w3.heap[w2.heap.size]? = some (bsO fa) by rw [hw3.out]; exact hb_old _ (hb_new _ _))
  have H3 := Lib.hid (show w3.heap[w2.heap.size + 1]? = some (bsO fb) by rw [hw3.out]; exact hb_new' _ _ _ (by simp))
  clear hb f0 f1 f2
  have hSS : XT w.heap.size w2.heap.size (w2.heap.size + 1) w3.heap.size p s u fa fb w3 w3 := ⟨⟨hb_cell F3.out 0, hb_cell F3.out 1, hb_cell F3.out 2⟩, ⟨hb_cell G3.out 0, hb_cell G3.out 1, hb_cell G3.out 2, hb_cell G3.out 3, hb_cell G3.out 4, hb_cell G3.out 5⟩, ⟨hb_cell H3.out 0, hb_cell H3.out 1, hb_cell H3.out 2, hb_cell H3.out 3, hb_cell H3.out 4, hb_cell H3.out 5⟩, hb_lt F3.out, hb_lt G3.out, hb_lt H3.out, Below.refl _ _⟩
  go_upto_region 4 with fail
  rw [← hw3.out]
  go_region_held3 (fun v => XT w.heap.size w2.heap.size (w2.heap.size + 1) w3.heap.size p s u fa fb w3 v) ((first | assumption | (refine ⟨⟨?_, ?_, ?_⟩, ⟨?_, ?_, ?_, ?_, ?_, ?_⟩, ⟨?_, ?_, ?_, ?_, ?_, ?_⟩, ?_, ?_, ?_, ?_⟩ <;> first | assumption | go_keep | omega | exact (Below.refl _ _).drew)))
    (first | (go_at_call 65; refine (hSe.out _ ?_).mono ?_; (exact bt1 hb3.out (keepTB (by assumption))); rintro e w' ⟨b1, rfl, hm, -, hb11⟩; have hlk := hLk.out _ _ hm; have hbn2 := keepT hb11 (by assumption)))
  all_goals
    have hfin := keepTB (by assumption)
    go_wp2_with fail
    go_ret2; exact ⟨rfl, bt1 hb3.out hfin⟩
theorem FewestTurns_both (P S : Int) (rs : List ByteArray) (hz : ∀ s ∈ rs, s.size ≤ maxLen) (x y : ByteArray) (hx : x.size ≤ maxLen) (hy : y.size ≤ maxLen) : ∃ (r0 : Int) (r1 : Bool),
    (∀ w v, RdX w v P S rs → Calls Try.prog 25 #[v, .string x, .string y] w fun e w' => e = .returned (.tuple #[.int .i64 r0, .bool r1]) ∧ Below w.heap.size w w') ∧
    (∀ w v, RdX w v P S rs → Calls Try.prog 26 #[v, .string x, .string y] w fun e w' => e = .returned (.tuple #[.int .i64 r0, .bool r1]) ∧ Below w.heap.size w w') := by
  cases hA : askT P S rs x y with
  | false => exact ⟨0, false, fun w v h => sFT_any v P S rs x y _ _ w hz hx hy h false hA (fun _ => ⟨rfl, rfl⟩) (fun h => by cases h), fun w v h => iFT_no v P S rs x y w hz hx hy hA h⟩
  | true =>
    obtain ⟨p, s, d, e, rfl, rfl, hG, hsp, hd, rfl, he, rfl⟩ := askT_nat hA
    exact ⟨_, _, fun w v h => sFT_any v p s rs _ _ _ _ w hz hx hy h true hA (fun h => by cases h) (fun _ w' hb => bxFewest_any v p s rs d e w' hG hsp hd he (h.below hb)), fun w v h => iFT_yes v p s rs d e w hz hA hG hsp hd he h⟩
end Go.Proofs.Ytjlecipeoaohiaa
