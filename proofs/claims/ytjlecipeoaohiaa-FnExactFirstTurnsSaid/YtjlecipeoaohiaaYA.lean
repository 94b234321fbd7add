/- CountBoxed, both sides. -/
import Derived.Test.YtjlecipeoaohiaaXW2
import Derived.Test.YtjlecipeoaohiaaXZ
import Derived.Test.YtjlecipeoaohiaaXP
namespace Go.Proofs.Ytjlecipeoaohiaa
set_option linter.unusedSimpArgs false
set_option linter.unusedVariables false
open Go Go.RowKit RM Go.Maps Go.WideMaps Go.ChangeMaps
/-- a box and a state of it -/
def askS (P S : Int) (rs : List ByteArray) (t : ByteArray) : Bool := goodX P S rs && stB P.toNat S.toNat t
theorem askS_nat {P S : Int} {rs : List ByteArray} {t : ByteArray} (h : askS P S rs t = true) : ∃ (p s : Nat) (d : List Nat), P = p ∧ S = s ∧ GX p s rs ∧ s ^ p ≤ 1000 ∧ stOk p s d ∧ t = tS d := by
  unfold askS at h
  rw [Bool.and_eq_true] at h
  obtain ⟨p, s, rfl, rfl, hG, hsp⟩ := GX.of h.1
  have h2 := h.2
  simp only [Int.toNat_natCast] at h2
  have := hG.s5
  obtain ⟨d, hd, rfl⟩ := stB_nat (by omega) h2
  exact ⟨p, s, d, rfl, rfl, hG, hsp, hd, rfl⟩
/-- how many entries a map of a search has -/
theorem MM.size {p s : Nat} {rs : List ByteArray} (hG : GX p s rs) (hs : 1 ≤ s) {M : Nat} (hM1 : 1 ≤ M) {d : List Nat} (hd : stOk p s d) {w : World} {b : Nat} (h : MM hG.ks b (fin M (nbX p s rs) (allX p s) d).far w) :
    ∃ D, MapI hG.ks w b D ∧ MI hG.ks D (fin M (nbX p s rs) (allX p s) d).far ∧ Maps.size D = (fin M (nbX p s rs) (allX p s) d).q.length := by
  obtain ⟨D, h1, h2⟩ := h.ex
  have hS := sb_run (M := M) hM1 hG.univ ((mem_X hs).2 hd) (allX p s).length
  exact ⟨D, h1, h2, h2.size h1 _ hS.nd hS.mem (fun t ht => (mem_X hs).1 (hS.sub t ht))⟩
set_option maxRecDepth 100000 in
theorem sCB_no (v : Value) (P S : Int) (rs : List ByteArray) (t : ByteArray) (w : World) (hz : ∀ s ∈ rs, s.size ≤ maxLen) (ht : t.size ≤ maxLen) (hA : askS P S rs t = false) (h : RdX w v P S rs) :
    Calls Try.prog 29 #[v, .string t] w fun e w' => e = .returned (.tuple #[.int .i64 0, .bool false]) ∧ Below w.heap.size w w' := by
  have hQ := Lib.hid (fun w' (hb : Below w.heap.size w w') => bxGood_any v P S rs w' hz (h.below hb))
  unfold askS at hA
  obtain ⟨u, rfl, -⟩ := h
  obtain ⟨w1, hw1⟩ : ∃ w1, Hid (w1 = w.alloc (boxO P S u)) := ⟨_, Lib.hid rfl⟩
  have hb1 : Hid (Below w.heap.size w w1) := Lib.hid (by rw [hw1.out]; exact ba1 w _)
  have F1 := Lib.hid (show w1.heap[w.heap.size]? = some (boxO P S u) by rw [hw1.out]; exact hb_new _ _)
  have f0 : w1.cell? ⟨w.heap.size, 0, none⟩ = some (.int .i64 P) := hb_cell F1.out 0
  have f1 : w1.cell? ⟨w.heap.size, 1, none⟩ = some (.int .i64 S) := hb_cell F1.out 1
  have f2 : w1.cell? ⟨w.heap.size, 2, none⟩ = some u := hb_cell F1.out 2
  cases hg : goodX P S rs with
  | false =>
    rw [hg] at hQ
    clear hA hg
    go_enter Try.func29, Try.ntmps29
    go_wp2_with fail
    rw [← hw1.out]
    go_wp2_with fail
    refine (hQ.out _ hb1.out).mono ?_; rintro e w2 ⟨rfl, hb⟩
    go_wp2_with fail
    go_ret2; exact ⟨rfl, bt1 hb1.out hb⟩
  | true =>
    rw [hg] at hQ hA
    obtain ⟨p, s, rfl, rfl, hG, -⟩ := GX.of hg
    rw [Bool.true_and, Int.toNat_natCast, Int.toNat_natCast] at hA
    have hSt := Lib.hid (fun w => bxState_any p s u t w ht hG.p6 hG.s2 hG.s5)
    rw [hA] at hSt
    clear hA hg
    go_enter Try.func29, Try.ntmps29
    go_wp2_with fail
    rw [← hw1.out]
    go_wp2_with fail
    refine (hQ.out _ hb1.out).mono ?_; rintro e w2 ⟨rfl, hb⟩
    have F2 := Lib.hid (hb_below hb (hb_lt F1.out) F1.out)
    have g0 : w2.cell? ⟨w.heap.size, 0, none⟩ = some (.int .i64 p) := hb_cell F2.out 0
    have g1 : w2.cell? ⟨w.heap.size, 1, none⟩ = some (.int .i64 s) := hb_cell F2.out 1
    have g2 : w2.cell? ⟨w.heap.size, 2, none⟩ = some u := hb_cell F2.out 2
    replace hb := Lib.hid (bt1 hb1.out hb)
    go_wp2_with fail
    refine (hSt.out _).mono ?_; rintro e w3 ⟨rfl, hb3⟩
    go_wp2_with fail
    go_ret2; exact ⟨rfl, bt1 hb.out hb3⟩
set_option maxRecDepth 100000 in
theorem sCB_yes (v : Value) (p s : Nat) (rs : List ByteArray) (d : List Nat) (w : World) (hz : ∀ s ∈ rs, s.size ≤ maxLen) (hg : goodX p s rs = true) (hG : GX p s rs) (hsp : s ^ p ≤ 1000) (hd : stOk p s d) (h : RdX w v p s rs) :
    Calls Try.prog 29 #[v, .string (tS d)] w fun e w' => e = .returned (.tuple #[.int .i64 (((fin 1 (nbX p s rs) (allX p s) d).q.length : Nat) : Int), .bool true]) ∧ Below w.heap.size w w' := by
  have hQ := Lib.hid (fun w' (hb : Below w.heap.size w w') => bxGood_any v p s rs w' hz (h.below hb))
  rw [hg] at hQ
  have hFar := Lib.hid (fun w' (hb : Below w.heap.size w w') => bxFar_any 1 v p s rs d w' hG hsp (h.below hb) hd (Nat.le_refl _))
  have hts : (tS d).size ≤ maxLen := by rw [tS_size, hd.1]; have := hG.p6; unfold maxLen; omega
  have hstb := stB_tS (p := p) (s := s) (d := d) (by have := hG.s5; omega) hd
  obtain ⟨u, rfl, -⟩ := h
  have hSt := Lib.hid (fun w => bxState_any p s u (tS d) w hts hG.p6 hG.s2 hG.s5)
  rw [hstb] at hSt
  generalize (fin 1 (nbX p s rs) (allX p s) d).q.length = L at *
  generalize (fin 1 (nbX p s rs) (allX p s) d).far = FF at *
  generalize tS d = t at *
  clear hstb hts
  obtain ⟨w1, hw1⟩ : ∃ w1, Hid (w1 = w.alloc (boxO p s u)) := ⟨_, Lib.hid rfl⟩
  have hb1 : Hid (Below w.heap.size w w1) := Lib.hid (by rw [hw1.out]; exact ba1 w _)
  have F1 := Lib.hid (show w1.heap[w.heap.size]? = some (boxO p s u) by rw [hw1.out]; exact hb_new _ _)
  have f0 : w1.cell? ⟨w.heap.size, 0, none⟩ = some (.int .i64 p) := hb_cell F1.out 0
  have f1 : w1.cell? ⟨w.heap.size, 1, none⟩ = some (.int .i64 s) := hb_cell F1.out 1
  have f2 : w1.cell? ⟨w.heap.size, 2, none⟩ = some u := hb_cell F1.out 2
  go_enter Try.func29, Try.ntmps29
  go_wp2_with fail
  rw [← hw1.out]
  go_wp2_with fail
  refine (hQ.out _ hb1.out).mono ?_; rintro e w2 ⟨rfl, hb⟩
  have F2 := Lib.hid (hb_below hb (hb_lt F1.out) F1.out)
  have g0 : w2.cell? ⟨w.heap.size, 0, none⟩ = some (.int .i64 p) := hb_cell F2.out 0
  have g1 : w2.cell? ⟨w.heap.size, 1, none⟩ = some (.int .i64 s) := hb_cell F2.out 1
  have g2 : w2.cell? ⟨w.heap.size, 2, none⟩ = some u := hb_cell F2.out 2
  replace hb := Lib.hid (bt1 hb1.out hb)
  go_wp2_with fail
  refine (hSt.out _).mono ?_; rintro e w3 ⟨rfl, hb3⟩
  have F3 := Lib.hid (hb_below hb3 (hb_lt F2.out) F2.out)
  have k0 : w3.cell? ⟨w.heap.size, 0, none⟩ = some (.int .i64 p) := hb_cell F3.out 0
  have k1 : w3.cell? ⟨w.heap.size, 1, none⟩ = some (.int .i64 s) := hb_cell F3.out 1
  have k2 : w3.cell? ⟨w.heap.size, 2, none⟩ = some u := hb_cell F3.out 2
  replace hb3 := Lib.hid (bt1 hb.out hb3)
  go_wp2_with fail
  refine (hFar.out _ hb3.out).mono ?_; rintro e w4 ⟨gm, rfl, -, hb4⟩
  go_wp2_with fail
  go_ret2; exact ⟨rfl, bt1 hb3.out hb4⟩
set_option maxRecDepth 1000000 in
theorem iCB_no (v : Value) (P S : Int) (rs : List ByteArray) (t : ByteArray) (w : World) (hz : ∀ s ∈ rs, s.size ≤ maxLen) (ht : t.size ≤ maxLen) (hA : askS P S rs t = false) (h : RdX w v P S rs) :
    Calls Try.prog 30 #[v, .string t] w fun e w' => e = .returned (.tuple #[.int .i64 0, .bool false]) ∧ Below w.heap.size w w' := by
  have hQ := Lib.hid (fun w' (hb : Below w.heap.size w w') => stateOf_core v P S rs t w' hz ht (h.below hb) false hA)
  obtain ⟨u, rfl, -⟩ := h
  obtain ⟨w1, hw1⟩ : ∃ w1, Hid (w1 = w.alloc (boxO P S u)) := ⟨_, Lib.hid rfl⟩
  have hb1 : Hid (Below w.heap.size w w1) := Lib.hid (by rw [hw1.out]; exact ba1 w _)
  have F1 := Lib.hid (show w1.heap[w.heap.size]? = some (boxO P S u) by rw [hw1.out]; exact hb_new _ _)
  have f0 : w1.cell? ⟨w.heap.size, 0, none⟩ = some (.int .i64 P) := hb_cell F1.out 0
  have f1 : w1.cell? ⟨w.heap.size, 1, none⟩ = some (.int .i64 S) := hb_cell F1.out 1
  have f2 : w1.cell? ⟨w.heap.size, 2, none⟩ = some u := hb_cell F1.out 2
  clear hA hz ht
  go_enter Try.func30, Try.ntmps30
  go_wp2_with fail
  rw [← hw1.out]
  go_wp2_with fail
  refine (hQ.out _ hb1.out).mono ?_; rintro e w2 ⟨rfl, hb⟩
  go_wp2_with fail
  go_ret2; exact ⟨rfl, (bt1 hb1.out hb).alloc (by have h1 := hb1.out.size; have h2 := hb.size; omega) _⟩
set_option maxRecDepth 1000000 in
theorem iCB_yes (v : Value) (p s : Nat) (rs : List ByteArray) (d : List Nat) (w : World) (hz : ∀ s ∈ rs, s.size ≤ maxLen) (hA : askS p s rs (tS d) = true) (hG : GX p s rs) (hsp : s ^ p ≤ 1000) (hd : stOk p s d) (h : RdX w v p s rs) :
    Calls Try.prog 30 #[v, .string (tS d)] w fun e w' => e = .returned (.tuple #[.int .i64 (((fin 1 (nbX p s rs) (allX p s) d).q.length : Nat) : Int), .bool true]) ∧ Below w.heap.size w w' := by
  have hts : (tS d).size ≤ maxLen := by rw [tS_size, hd.1]; have := hG.p6; unfold maxLen; omega
  have hQ := Lib.hid (fun w' (hb : Below w.heap.size w w') => stateOf_core v p s rs (tS d) w' hz hts (h.below hb) true hA)
  rw [if_pos rfl, tF_end (by have := hG.s5; omega) hd] at hQ
  have hSe := Lib.hid (fun w' (hb : Below w.heap.size w w') => searchT_any v p s rs d 1 w' hG hsp hd (Nat.le_refl _) (h.below hb))
  have hsz := Lib.hid (fun W b (hm : MM hG.ks b (fin 1 (nbX p s rs) (allX p s) d).far W) => MM.size hG (by have := hG.s2; omega) (Nat.le_refl 1) hd hm)
  obtain ⟨u, rfl, -⟩ := h
  obtain ⟨L, hL⟩ : ∃ L, (fin 1 (nbX p s rs) (allX p s) d).q.length = L := ⟨_, rfl⟩
  rw [hL] at hsz ⊢
  obtain ⟨f, hf⟩ : ∃ f, Hid (f = dF d) := ⟨_, Lib.hid rfl⟩
  rw [← hf.out] at hQ hSe
  clear hL hts hA
  generalize tS d = t at *
  obtain ⟨w1, hw1⟩ : ∃ w1, Hid (w1 = w.alloc (boxO p s u)) := ⟨_, Lib.hid rfl⟩
  have hb1 : Hid (Below w.heap.size w w1) := Lib.hid (by rw [hw1.out]; exact ba1 w _)
  have F1 := Lib.hid (show w1.heap[w.heap.size]? = some (boxO p s u) by rw [hw1.out]; exact hb_new _ _)
  have f0 : w1.cell? ⟨w.heap.size, 0, none⟩ = some (.int .i64 p) := hb_cell F1.out 0
  have f1 : w1.cell? ⟨w.heap.size, 1, none⟩ = some (.int .i64 s) := hb_cell F1.out 1
  have f2 : w1.cell? ⟨w.heap.size, 2, none⟩ = some u := hb_cell F1.out 2
  have l1 := hb_lt F1.out
  go_enter Try.func30, Try.ntmps30
  go_wp2_with fail
  rw [← hw1.out]
  go_wp2_with fail
  refine (hQ.out _ hb1.out).mono ?_; rintro e w2 ⟨rfl, hb⟩
  have F2 := Lib.hid (hb_below hb l1 F1.out)
  obtain ⟨w3, hw3⟩ : ∃ w3, Hid (w3 = w2.alloc (bsO f)) := ⟨_, Lib.hid rfl⟩
  have hs2 : w.heap.size < w2.heap.size := hb_lt F2.out
  have hb3 : Hid (Below w.heap.size w w3) := Lib.hid (by rw [hw3.out]; exact (bt1 hb1.out hb).alloc (by omega) _)
  have F3 := Lib.hid (show w3.heap[w.heap.size]? = some (boxO p s u) by rw [hw3.out]; exact hb_old _ F2.out)
  have G3 := Lib.hid (show w3.heap[w2.heap.size]? = some (bsO f) by rw [hw3.out]; exact hb_new _ _)
  clear hb f0 f1 f2
  have f0 : w3.cell? ⟨w.heap.size, 0, none⟩ = some (.int .i64 p) := hb_cell F3.out 0
  have f1 : w3.cell? ⟨w.heap.size, 1, none⟩ = some (.int .i64 s) := hb_cell F3.out 1
  have f2 : w3.cell? ⟨w.heap.size, 2, none⟩ = some u := hb_cell F3.out 2
  have h0 : w3.cell? ⟨w2.heap.size, 0, none⟩ = some (.int .i64 (f 0)) := hb_cell G3.out 0
  have h1 : w3.cell? ⟨w2.heap.size, 1, none⟩ = some (.int .i64 (f 1)) := hb_cell G3.out 1
  have h2 : w3.cell? ⟨w2.heap.size, 2, none⟩ = some (.int .i64 (f 2)) := hb_cell G3.out 2
  have h3 : w3.cell? ⟨w2.heap.size, 3, none⟩ = some (.int .i64 (f 3)) := hb_cell G3.out 3
  have h4 : w3.cell? ⟨w2.heap.size, 4, none⟩ = some (.int .i64 (f 4)) := hb_cell G3.out 4
  have h5 : w3.cell? ⟨w2.heap.size, 5, none⟩ = some (.int .i64 (f 5)) := hb_cell G3.out 5
  go_upto_region 2 with fail
  rw [← hw3.out]
  go_wp2_with fail
  refine (hSe.out _ hb3.out).mono ?_; rintro e w5 ⟨b1, rfl, hmm, -, hb5⟩
  obtain ⟨D, hD1, -, hD2⟩ := hsz.out _ _ hmm
  have hlen := fun ty => hD1.len Try.underlying77 ty
  rw [hD2] at hlen
  clear hmm hD1 hD2
  go_wp2_with fail
  go_ret2; exact ⟨rfl, bt1 hb3.out hb5⟩
theorem CountBoxed_both (P S : Int) (rs : List ByteArray) (hz : ∀ s ∈ rs, s.size ≤ maxLen) (t : ByteArray) (ht : t.size ≤ maxLen) : ∃ (r0 : Int) (r1 : Bool),
    (∀ w v, RdX w v P S rs → Calls Try.prog 29 #[v, .string t] w fun e w' => e = .returned (.tuple #[.int .i64 r0, .bool r1]) ∧ Below w.heap.size w w') ∧
    (∀ w v, RdX w v P S rs → Calls Try.prog 30 #[v, .string t] w fun e w' => e = .returned (.tuple #[.int .i64 r0, .bool r1]) ∧ Below w.heap.size w w') := by
  cases hA : askS P S rs t with
  | false => exact ⟨0, false, fun w v h => sCB_no v P S rs t w hz ht hA h, fun w v h => iCB_no v P S rs t w hz ht hA h⟩
  | true =>
    obtain ⟨p, s, d, rfl, rfl, hG, hsp, hd, rfl⟩ := askS_nat hA
    have hg : goodX p s rs = true := by unfold askS at hA; rw [Bool.and_eq_true] at hA; exact hA.1
    exact ⟨_, true, fun w v h => sCB_yes v p s rs d w hz hg hG hsp hd h, fun w v h => iCB_yes v p s rs d w hz hA hG hsp hd h⟩
end Go.Proofs.Ytjlecipeoaohiaa
