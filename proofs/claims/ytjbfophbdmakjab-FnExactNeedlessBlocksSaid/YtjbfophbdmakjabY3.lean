/- Needless blocks, on both sides. -/
import Derived.Test.YtjbfophbdmakjabY2
import Derived.Test.YtjbfophbdmakjabF2
import Derived.Test.YtjbfophbdmakjabF3
import Derived.Test.YtjbfophbdmakjabMB4
namespace Go.Proofs.Ytjbfophbdmakjab
open Go Go.RowKit RM
/-- the needless ones among the first blocks -/
def nlK (ps : List Nat) (bs : List Blk) : Nat → List Int
  | 0 => []
  | k + 1 => nlK ps bs k ++ (if (al ps ps.length).any (lone bs k) then [] else [(k : Int)])
theorem nlK_len (ps : List Nat) (bs : List Blk) (k : Nat) : (nlK ps bs k).length ≤ k := by
  induction k with
  | zero => simp [nlK]
  | succ k ih =>
    rw [nlK, List.length_append]
    split <;> simp <;> omega
theorem nlK_no (ps : List Nat) (bs : List Blk) (k : Nat) (h : (al ps ps.length).any (lone bs k) = true) : nlK ps bs (k + 1) = nlK ps bs k := by rw [nlK, if_pos h, List.append_nil]
theorem nlK_yes (ps : List Nat) (bs : List Blk) (k : Nat) (h : (al ps ps.length).any (lone bs k) = false) : nlK ps bs (k + 1) = nlK ps bs k ++ [(k : Int)] := by rw [nlK, if_neg (by rw [h]; simp)]
theorem OwnT.sl {w : World} {B : Nat} {v : Value} {xs : List ByteArray} (h : OwnT w B v xs) : ∃ p c, v = .slice p xs.length c := by
  rcases h.form with ⟨rfl, rfl⟩ | ⟨g, cap, rfl, _⟩
  · exact ⟨_, _, rfl⟩
  · exact ⟨_, _, rfl⟩
/-- a call hands back integers in memory of its own, and whether it succeeds -/
theorem len_ne {a b : Nat} (h : a ≠ b) : ((a : Int) == (b : Int)) = false := by simp; omega
theorem sNB_bad (v : Value) (psI : List Int) (bs : List Blk) (w : World) (h : Bo w v psI bs) (hg : goodBo psI bs = false) :
    Calls Try.prog 22 #[v] w fun e w' => RetI w [] false e w' := by
  have h0 := Lib.hid h
  obtain ⟨pv, bv, rfl, -, -⟩ := h
  obtain ⟨w2, hw2⟩ : ∃ w2, Hid (w2 = w.alloc (.cells #[pv, bv] 31)) := ⟨_, Lib.hid rfl⟩
  have hb2 : Hid (Below w.heap.size w w2) := Lib.hid (by rw [hw2.out]; exact ba1 w _)
  have F := Lib.hid (show w2.heap[w.heap.size]? = some (.cells #[pv, bv] 31) by rw [hw2.out]; exact hb_new _ _)
  have hA := Lib.hid (boGood_any _ psI bs w2 (h0.out.below hb2.out))
  rw [hg] at hA
  have f0 : w2.cell? ⟨w.heap.size, 0, none⟩ = some pv := hb_cell F.out 0
  have f1 : w2.cell? ⟨w.heap.size, 1, none⟩ = some bv := hb_cell F.out 1
  go_enter Try.func22, Try.ntmps22
  go_wp2_with fail
  rw [← hw2.out]
  go_wp2_with fail
  refine hA.out.mono ?_; rintro e w3 ⟨rfl, hb3⟩
  replace hb3 := Lib.hid (bt1 hb2.out hb3)
  go_wp2_with fail
  go_ret2; exact ⟨_, rfl, OwnI.nil _ _, hb3.out⟩
set_option maxHeartbeats 1000000 in
theorem sNB_yes (v : Value) (ps : List Nat) (bs : List Blk) (w : World) (hG : GB ps bs) (h : Bo w v (ints ps) bs) (hg : goodBo (ints ps) bs = true) :
    Calls Try.prog 22 #[v] w fun e w' => RetI w (nlK ps bs bs.length) true e w' := by
  have h0 := Lib.hid h
  obtain ⟨pv, bv, rfl, -, p, c, rfl, -, -⟩ := h
  obtain ⟨m, hmm⟩ : ∃ m, bs.length = m := ⟨_, rfl⟩
  rw [hmm] at h0 ⊢
  obtain ⟨w2, hw2⟩ : ∃ w2, Hid (w2 = w.alloc (.cells #[pv, .slice p m c] 31)) := ⟨_, Lib.hid rfl⟩
  have hb2 : Hid (Below w.heap.size w w2) := Lib.hid (by rw [hw2.out]; exact ba1 w _)
  have F := Lib.hid (show w2.heap[w.heap.size]? = some (.cells #[pv, .slice p m c] 31) by rw [hw2.out]; exact hb_new _ _)
  have hA := Lib.hid (boGood_any _ (ints ps) bs w2 (h0.out.below hb2.out))
  rw [hg] at hA
  have f0 : w2.cell? ⟨w.heap.size, 0, none⟩ = some pv := hb_cell F.out 0
  have f1 : w2.cell? ⟨w.heap.size, 1, none⟩ = some (.slice p m c) := hb_cell F.out 1
  have hT := Lib.hid (fun w' hb => boAll_any _ ps bs w' hG (h0.out.below hb))
  have hW := Lib.hid (fun w' (k : Int) hb => boWithout_any _ (ints ps) bs k w' (by simpa using hG.l1) (by have := hG.l6; simp; omega) (by have := hG.b; omega) (h0.out.below hb))
  have hT2 := Lib.hid (fun w' v (k : Int) (hv : Bo w' v (ints ps) (woK bs k bs.length)) => boAll_any v ps (woK bs k bs.length) w' (gb_wo hG k) hv)
  have hnd := Lib.hid (fun k hk => needless_iff ps bs k hk)
  have hm := hG.b
  have hN0 : (allU ps bs).length ≤ 1000 := U_len hG
  have hN1 := Lib.hid (fun k : Int => U_len (gb_wo hG k))
  rw [hmm] at hm hW hT2 hnd hN1
  clear hG hmm hg
  obtain ⟨N0, hN⟩ : ∃ n, (allU ps bs).length = n := ⟨_, rfl⟩
  rw [hN] at hN0 hnd
  replace hN := Lib.hid hN
  go_enter Try.func22, Try.ntmps22
  go_wp2_with fail
  rw [← hw2.out]
  go_wp2_with fail
  refine hA.out.mono ?_; rintro e w3 ⟨rfl, hb3⟩
  have F3 := Lib.hid (hb_below hb3 (hb_lt F.out) F.out)
  replace hb3 := Lib.hid (bt1 hb2.out hb3)
  clear f0 f1
  have f0 : w3.cell? ⟨w.heap.size, 0, none⟩ = some pv := hb_cell F3.out 0
  have f1 : w3.cell? ⟨w.heap.size, 1, none⟩ = some (.slice p m c) := hb_cell F3.out 1
  go_wp2_with fail
  refine (hT.out w3 hb3.out).mono ?_; rintro e w4 ⟨u, rfl, ho4, hb4⟩
  obtain ⟨q, cq, rfl⟩ := ho4.sl
  rw [List.length_map, hN.out]
  have F4 := Lib.hid (hb_below hb4 (hb_lt F3.out) F3.out)
  replace hb4 := Lib.hid (bt1 hb3.out hb4)
  clear f0 f1 ho4
  have f1 : w4.cell? ⟨w.heap.size, 1, none⟩ = some (.slice p m c) := hb_cell F4.out 1
  go_wp2_with fail
  go_loopw [4, 16] (fun o i wr => ∃ k : Nat, k ≤ m ∧ i = .int .i64 k ∧ Hid (OwnI wr w4.heap.size o (nlK ps bs k)) ∧ Hid (Below w4.heap.size w4 wr)) (fun _ i _ => m - (intOf i).toNat)
  case atStart => exact ⟨0, Nat.zero_le _, rfl, Lib.hid (OwnI.nil _ _), Lib.hid (Below.refl _ _)⟩
  case round =>
    obtain ⟨k, hk, rfl, ho, hbr⟩ := hrel
    obtain ⟨wA, rfl⟩ : ∃ x, x = wr := ⟨_, rfl⟩
    have Fr := Lib.hid (hb_below hbr.out (hb_lt F4.out) F4.out)
    have hbwr := Lib.hid (bt1 hb4.out hbr.out)
    by_cases hlt : k < m
    · have g0 : wA.cell? ⟨w.heap.size, 0, none⟩ = some pv := hb_cell Fr.out 0
      have g1 : wA.cell? ⟨w.heap.size, 1, none⟩ = some (.slice p m c) := hb_cell Fr.out 1
      have hlen := Lib.hid (nlK_len ps bs k)
      have hndk := Lib.hid (hnd.out k hlt)
      go_wp2_with fail
      refine (hW.out wA (k : Int) hbwr.out).mono ?_; rintro e w5 ⟨u5, rfl, hu5, hb5⟩
      have ho5 := Lib.hid (ho.out.below hb5)
      have hbr5 := Lib.hid (bt2 hbr.out hb5 hbr.out.size)
      go_wp2_with fail
      refine (hT2.out w5 u5 (k : Int) hu5.bo).mono ?_; rintro e w6 ⟨u6, rfl, hu6, hb6⟩
      obtain ⟨q6, c6, rfl⟩ := hu6.sl
      have ho6 := Lib.hid (ho5.out.below hb6)
      have hbr6 := Lib.hid (bt2 hbr5.out hb6 hbr5.out.size)
      rw [List.length_map]
      have hN6 := hN1.out (k : Int)
      generalize (allU ps (woK bs (k : Int) m)).length = N1 at *
      clear hu6 hu5
      cases hc : (al ps ps.length).any (lone bs k) with
      | true =>
        have hne : N1 ≠ N0 := fun e => by have h9 := hndk.out.1 e; rw [hc] at h9; exact Bool.noConfusion h9
        have hneq := len_ne hne
        have hS := Lib.hid (nlK_no ps bs k hc)
        clear hc hndk hne
        go_wp2_with fail
        go_roundw
        case rel => exact ⟨k + 1, by omega, by go_num, by rw [hS.out]; exact ho6, hbr6⟩
        all_goals (simp [intOf] <;> omega)
      | false =>
        obtain rfl : N1 = N0 := hndk.out.2 hc
        have hneq : ((N1 : Int) == (N1 : Int)) = true := by simp
        have hS := Lib.hid (nlK_yes ps bs k hc)
        clear hc hndk
        go_wp2_with (at_builtin; refine app_int _ rfl _ _ rfl w4.heap.size _ _ rfl (ho6.out.alloc _) w6.heap.size _ rfl (by simp; rfl) (by have := hlen.out; omega) (by have := hbr6.out.size; simp; omega) ?_; intro v' w7 ho7 hg7; have hb7 := Lib.hid (bel_own (hbr6.out.alloc hbr6.out.size _) (ho6.out.alloc _) hg7 (by have := hbr6.out.size; simp; omega)); replace ho7 := Lib.hid ho7; clear hg7)
        go_roundw
        case rel => exact ⟨k + 1, by omega, by go_num, by rw [hS.out]; exact ho7, hb7⟩
        all_goals (simp [intOf] <;> omega)
    · obtain rfl : k = m := by omega
      have ho2 := Lib.hid (ho.out.mono hb4.out.size)
      go_wp2_with fail
      go_ret2; exact ⟨_, rfl, ho2.out, hbwr.out⟩
end Go.Proofs.Ytjbfophbdmakjab
