/- The laws' helpers for bolts: sized, compared, marked, held. -/
import Derived.Test.YtcfeaaakfjilgaaD4
import Derived.Deep.RegionHeld3
import Derived.BigRegion
namespace Go.Proofs.Ytcfeaaakfjilgaa
open Go Go.RowKit RM
theorem szI_any (a : Option Addr) (n c : Nat) (l : Int) (w : World) (hn : n ≤ maxLen) (h0 : 0 ≤ l) (hl : l ≤ 1048576) :
    Calls Try.prog 39 #[.slice a n c, .int .i64 l] w fun e w' => e = .returned (.int .i64 (if l < (n : Int) then -1 else l - n)) ∧ w = w' := by
  unfold maxLen at hn
  by_cases h : l < (n : Int)
  · rw [if_pos h]
    have h2 : l - (n : Int) < 0 := by omega
    go_enter Try.func39, Try.ntmps39
    go_wp2_with fail
    go_ret; exact ⟨rfl, rfl⟩
  · rw [if_neg h]
    go_enter Try.func39, Try.ntmps39
    go_wp2_with fail
    go_ret; exact ⟨rfl, rfl⟩
theorem szK_any (a : Option Addr) (n c : Nat) (l : Int) (w : World) (hn : n ≤ maxLen) (h0 : 0 ≤ l) (hl : l ≤ 1048576) :
    Calls Try.prog 40 #[.slice a n c, .int .i64 l] w fun e w' => e = .returned (.int .i64 (if l < (n : Int) then -1 else l - n)) ∧ w = w' := by
  unfold maxLen at hn
  by_cases h : l < (n : Int)
  · rw [if_pos h]
    have h2 : l - (n : Int) < 0 := by omega
    go_enter Try.func40, Try.ntmps40
    go_wp2_with fail
    go_ret; exact ⟨rfl, rfl⟩
  · rw [if_neg h]
    go_enter Try.func40, Try.ntmps40
    go_wp2_with fail
    go_ret; exact ⟨rfl, rfl⟩
theorem szBolts_big (a1 a2 : Option Addr) (n c m c2 : Nat) (w : World) (hn : n ≤ maxLen) (hm : m ≤ maxLen) (h : 1048576 < n + m) :
    Calls Try.prog 12 #[.agg #[.slice a1 n c, .slice a2 m c2], .int .i64 1048576] w fun e w' => e = .returned (.int .i64 (-1)) ∧ Below w.heap.size w w' := by
  have H1 := Lib.hid fun w => szI_any a1 n c 1048576 w hn (by omega) (by omega)
  by_cases h1 : 1048576 < n
  · rw [if_pos (by omega)] at H1
    go_enter Try.func12, Try.ntmps12
    go_wp2_with fail
    refine (H1.out _).mono ?_; rintro e w' ⟨rfl, rfl⟩
    go_wp2_with fail
    go_ret; exact ⟨rfl, ba1 w _⟩
  · have H2 := Lib.hid fun w => szK_any a2 m c2 (1048576 - (n : Int)) w hm (by omega) (by omega)
    rw [if_neg (by omega)] at H1
    rw [if_pos (by omega)] at H2
    have hneg : ¬ (1048576 : Int) - (n : Int) < 0 := by omega
    go_enter Try.func12, Try.ntmps12
    go_wp2_with fail
    refine (H1.out _).mono ?_; rintro e w' ⟨rfl, rfl⟩
    go_wp2_with fail
    refine (H2.out _).mono ?_; rintro e w' ⟨rfl, rfl⟩
    go_wp2_with fail
    go_ret; exact ⟨rfl, ba1 w _⟩
theorem szBolts_ok (a1 a2 : Option Addr) (n c m c2 : Nat) (w : World) (h : n + m ≤ 1048576) :
    Calls Try.prog 12 #[.agg #[.slice a1 n c, .slice a2 m c2], .int .i64 1048576] w fun e w' => e = .returned (.int .i64 (1048576 - (n : Int) - (m : Int))) ∧ Below w.heap.size w w' := by
  have H1 := Lib.hid fun w => szI_any a1 n c 1048576 w (by unfold maxLen; omega) (by omega) (by omega)
  have H2 := Lib.hid fun w => szK_any a2 m c2 (1048576 - (n : Int)) w (by unfold maxLen; omega) (by omega) (by omega)
  rw [if_neg (by omega)] at H1
  rw [if_neg (by omega)] at H2
  have hneg : ¬ (1048576 : Int) - (n : Int) < 0 := by omega
  have hneg2 : ¬ (1048576 : Int) - (n : Int) - (m : Int) < 0 := by omega
  go_enter Try.func12, Try.ntmps12
  go_wp2_with fail
  refine (H1.out _).mono ?_; rintro e w' ⟨rfl, rfl⟩
  go_wp2_with fail
  refine (H2.out _).mono ?_; rintro e w' ⟨rfl, rfl⟩
  go_wp2_with fail
  go_ret; exact ⟨rfl, ba1 w _⟩
theorem eqBlock_same (a i b j : Int) (w : World) :
    Calls Try.prog 80 #[.agg #[.int .i64 a, .int .i64 i, .int .i64 b, .int .i64 j], .agg #[.int .i64 a, .int .i64 i, .int .i64 b, .int .i64 j]] w fun e w' => e = .returned (.bool true) ∧ Below w.heap.size w w' := by
  have na : (a != a) = false := by simp
  have ni : (i != i) = false := by simp
  have nb : (b != b) = false := by simp
  have nj : (j != j) = false := by simp
  go_enter Try.func80, Try.ntmps80
  go_wp2_with fail
  go_ret; exact ⟨rfl, (ba1 w _).alloc (by simp) _⟩
theorem keepB {W a b : World} {g g' k : Nat} {v0 v1 v2 v3 u0 u1 u2 u3 : Value} (hb : Below a.heap.size a b)
    (h : (a.cell? ⟨g, k * 4, none⟩ = some v0 ∧ a.cell? ⟨g, k * 4 + 1, none⟩ = some v1 ∧ a.cell? ⟨g, k * 4 + 2, none⟩ = some v2 ∧ a.cell? ⟨g, k * 4 + 3, none⟩ = some v3) ∧ (a.cell? ⟨g', k * 4, none⟩ = some u0 ∧ a.cell? ⟨g', k * 4 + 1, none⟩ = some u1 ∧ a.cell? ⟨g', k * 4 + 2, none⟩ = some u2 ∧ a.cell? ⟨g', k * 4 + 3, none⟩ = some u3) ∧ g < a.heap.size ∧ g' < a.heap.size ∧ Below W.heap.size W a) :
    (b.cell? ⟨g, k * 4, none⟩ = some v0 ∧ b.cell? ⟨g, k * 4 + 1, none⟩ = some v1 ∧ b.cell? ⟨g, k * 4 + 2, none⟩ = some v2 ∧ b.cell? ⟨g, k * 4 + 3, none⟩ = some v3) ∧ (b.cell? ⟨g', k * 4, none⟩ = some u0 ∧ b.cell? ⟨g', k * 4 + 1, none⟩ = some u1 ∧ b.cell? ⟨g', k * 4 + 2, none⟩ = some u2 ∧ b.cell? ⟨g', k * 4 + 3, none⟩ = some u3) ∧ g < b.heap.size ∧ g' < b.heap.size ∧ Below W.heap.size W b := by
  obtain ⟨⟨h0, h1, h2, h3⟩, ⟨h4, h5, h6, h7⟩, l1, l2, hB⟩ := h
  have c : ∀ o, b.cell? ⟨g, o, none⟩ = a.cell? ⟨g, o, none⟩ := fun o => hb.cell (p := ⟨g, o, none⟩) l1
  have c' : ∀ o, b.cell? ⟨g', o, none⟩ = a.cell? ⟨g', o, none⟩ := fun o => hb.cell (p := ⟨g', o, none⟩) l2
  exact ⟨⟨by rw [c]; exact h0, by rw [c]; exact h1, by rw [c]; exact h2, by rw [c]; exact h3⟩, ⟨by rw [c']; exact h4, by rw [c']; exact h5, by rw [c']; exact h6, by rw [c']; exact h7⟩, Nat.lt_of_lt_of_le l1 hb.size, Nat.lt_of_lt_of_le l2 hb.size, bt1 hB hb⟩
theorem keepBF {W a : World} {g g' k : Nat} {v0 v1 v2 v3 u0 u1 u2 u3 : Value}
    (h : (a.cell? ⟨g, k * 4, none⟩ = some v0 ∧ a.cell? ⟨g, k * 4 + 1, none⟩ = some v1 ∧ a.cell? ⟨g, k * 4 + 2, none⟩ = some v2 ∧ a.cell? ⟨g, k * 4 + 3, none⟩ = some v3) ∧ (a.cell? ⟨g', k * 4, none⟩ = some u0 ∧ a.cell? ⟨g', k * 4 + 1, none⟩ = some u1 ∧ a.cell? ⟨g', k * 4 + 2, none⟩ = some u2 ∧ a.cell? ⟨g', k * 4 + 3, none⟩ = some u3) ∧ g < a.heap.size ∧ g' < a.heap.size ∧ Below W.heap.size W a) : Below W.heap.size W a := h.2.2.2.2
theorem eqBlockS_any (p p' : Option Addr) (n c c' : Nat) (bs : List Blk) (w : World) (hn : bs.length = n) (hm : n ≤ maxLen) (h : RG blkE w p bs) (h' : RG blkE w p' bs) :
    Calls Try.prog 49 #[.slice p n c, .slice p' n c'] w fun e w' => e = .returned (.bool true) ∧ Below w.heap.size w w' := by
  replace h := Lib.hid h
  replace h' := Lib.hid h'
  replace hn := Lib.hid hn
  unfold maxLen at hm
  have hne : ((n : Int) != (n : Int)) = false := by simp
  go_enter Try.func49, Try.ntmps49
  go_wp2_with fail
  go_loopw [5] (fun i wr => ∃ k : Nat, k ≤ n ∧ i = .int .i64 k ∧ Hid (Below w.heap.size w wr)) (fun i _ => n - (intOf i).toNat)
  case atStart => exact ⟨0, Nat.zero_le _, rfl, Lib.hid (Below.refl _ _)⟩
  case round =>
    obtain ⟨k, hk, rfl, hb⟩ := hrel
    by_cases hlt : k < n
    · have hkx : k < bs.length := by rw [hn.out]; exact hlt
      obtain ⟨g, rfl, hgl, e0, e1, e2, e3⟩ := (h.out.below hb.out).blk hkx
      obtain ⟨g', rfl, hgl', e0', e1', e2', e3'⟩ := (h'.out.below hb.out).blk hkx
      obtain ⟨ka, ki, kb, kj, hke⟩ : ∃ a i b j, bs[k] = ⟨a, i, b, j⟩ := ⟨_, _, _, _, rfl⟩
      rw [hke] at e0 e1 e2 e3 e0' e1' e2' e3'
      clear hke hkx
      have HE := Lib.hid fun w => eqBlock_same ka ki kb kj w
      go_wp2_with fail
      go_region_held3 (fun v => (v.cell? ⟨g, k * 4, none⟩ = some (.int .i64 ka) ∧ v.cell? ⟨g, k * 4 + 1, none⟩ = some (.int .i64 ki) ∧ v.cell? ⟨g, k * 4 + 2, none⟩ = some (.int .i64 kb) ∧ v.cell? ⟨g, k * 4 + 3, none⟩ = some (.int .i64 kj)) ∧ (v.cell? ⟨g', k * 4, none⟩ = some (.int .i64 ka) ∧ v.cell? ⟨g', k * 4 + 1, none⟩ = some (.int .i64 ki) ∧ v.cell? ⟨g', k * 4 + 2, none⟩ = some (.int .i64 kb) ∧ v.cell? ⟨g', k * 4 + 3, none⟩ = some (.int .i64 kj)) ∧ g < v.heap.size ∧ g' < v.heap.size ∧ Below wr.heap.size wr v) ((first | assumption | (refine ⟨⟨?_, ?_, ?_, ?_⟩, ⟨?_, ?_, ?_, ?_⟩, ?_, ?_, ?_⟩ <;> first | assumption | go_keep | omega | exact (Below.refl _ _).drew)))
        (first | (go_at_call 80; refine (HE.out _).mono ?_; rintro e w' ⟨rfl, hb2⟩; have hbn := keepB hb2 (by assumption)))
      all_goals
        have hfin := keepBF (by assumption)
        go_wp2_with fail
        go_roundw
        case rel => exact ⟨k + 1, by omega, by go_num, Lib.hid (bt1 hb.out hfin)⟩
        all_goals (simp [intOf] <;> omega)
    · go_wp2_with fail
      go_ret; exact ⟨rfl, hb.out⟩
theorem eqBolts_any (v v' : Value) (ps : List Int) (bs : List Blk) (A B : Nat) (w : World) (h : OwnBo w A v ps bs) (h' : OwnBo w B v' ps bs) :
    Calls Try.prog 16 #[v, v'] w fun e w' => e = .returned (.bool true) ∧ Below w.heap.size w w' := by
  obtain ⟨pv, bv, rfl, h1, h2⟩ := h
  obtain ⟨pv', bv', rfl, h1', h2'⟩ := h'
  obtain ⟨w2, hw2⟩ : ∃ w2, Hid (w2 = ((w.alloc (.cells #[pv, bv] 31)).alloc (.cells #[pv', bv'] 31))) := ⟨_, Lib.hid rfl⟩
  have hb2 : Hid (Below w.heap.size w w2) := Lib.hid (by rw [hw2.out]; exact (ba1 w _).alloc (by simp) _)
  have F := Lib.hid (show w2.heap[w.heap.size]? = some (.cells #[pv, bv] 31) by rw [hw2.out]; exact hb_old _ (hb_new _ _))
  have G := Lib.hid (show w2.heap[w.heap.size + 1]? = some (.cells #[pv', bv'] 31) by rw [hw2.out]; exact hb_new' _ _ _ (by simp))
  have f0 : w2.cell? ⟨w.heap.size, 0, none⟩ = some pv := hb_cell F.out 0
  have g0 : w2.cell? ⟨w.heap.size + 1, 0, none⟩ = some pv' := hb_cell G.out 0
  have HI := Lib.hid (eqIntS_same pv pv' ps A B w2 (h1.below hb2.out) (h1'.below hb2.out))
  go_enter Try.func16, Try.ntmps16
  go_wp2_with fail
  rw [← hw2.out]
  refine HI.out.mono ?_; rintro e w3 ⟨rfl, q, rfl⟩
  have hb3 := Lib.hid (below_drewN hb2.out q)
  have F3 := Lib.hid (show (w2.drewN q).heap[w.heap.size]? = _ from F.out)
  have G3 := Lib.hid (show (w2.drewN q).heap[w.heap.size + 1]? = _ from G.out)
  obtain ⟨w3, hw3⟩ : ∃ w3, Hid (w3 = w2.drewN q) := ⟨_, Lib.hid rfl⟩
  rw [← hw3.out] at hb3 F3 G3 ⊢
  have f1 : w3.cell? ⟨w.heap.size, 1, none⟩ = some bv := hb_cell F3.out 1
  have g1 : w3.cell? ⟨w.heap.size + 1, 1, none⟩ = some bv' := hb_cell G3.out 1
  obtain ⟨p, c, rfl, hm, r1⟩ := (h2.below hb3.out).rd
  obtain ⟨p', c', rfl, hm', r2⟩ := (h2'.below hb3.out).rd
  have HK := Lib.hid (eqBlockS_any p p' _ c c' bs w3 rfl hm r1 r2)
  generalize bs.length = m at *
  clear r1 r2 h2 h2'
  go_wp2_with fail
  refine HK.out.mono ?_; rintro e w4 ⟨rfl, hb4⟩
  go_wp2_with fail
  go_ret; exact ⟨rfl, bt1 hb3.out hb4⟩
end Go.Proofs.Ytcfeaaakfjilgaa
