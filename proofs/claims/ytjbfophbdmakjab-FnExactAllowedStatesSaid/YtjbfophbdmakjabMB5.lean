/- All allowed states, on both sides. -/
import Derived.Test.YtjbfophbdmakjabE7
import Derived.Test.YtjbfophbdmakjabF4
import Derived.Test.YtjbfophbdmakjabStrs4
namespace Go.Proofs.Ytjbfophbdmakjab
open Go Go.RowKit RM
theorem sAS_bad (v : Value) (psI : List Int) (bs : List Blk) (w : World) (h : Bo w v psI bs) (hg : goodBo psI bs = false) :
    Calls Try.prog 14 #[v] w fun e w' => RetT w [] false e w' := by
  have h0 := Lib.hid h
  obtain ⟨pv, bv, rfl, -, -⟩ := h
  obtain ⟨w2, hw2⟩ : ∃ w2, Hid (w2 = w.alloc (.cells #[pv, bv] 31)) := ⟨_, Lib.hid rfl⟩
  have hb2 : Hid (Below w.heap.size w w2) := Lib.hid (by rw [hw2.out]; exact ba1 w _)
  have F := Lib.hid (show w2.heap[w.heap.size]? = some (.cells #[pv, bv] 31) by rw [hw2.out]; exact hb_new _ _)
  have hA := Lib.hid (boGood_any _ psI bs w2 (h0.out.below hb2.out))
  rw [hg] at hA
  have f0 : w2.cell? ⟨w.heap.size, 0, none⟩ = some pv := hb_cell F.out 0
  have f1 : w2.cell? ⟨w.heap.size, 1, none⟩ = some bv := hb_cell F.out 1
  go_enter Try.func14, Try.ntmps14
  go_wp2_with fail
  rw [← hw2.out]
  go_wp2_with fail
  refine hA.out.mono ?_; rintro e w3 ⟨rfl, hb3⟩
  replace hb3 := Lib.hid (bt1 hb2.out hb3)
  go_wp2_with fail
  go_ret2; exact ⟨_, rfl, OwnT.nil _ _, hb3.out⟩
theorem sAS_yes (v : Value) (ps : List Nat) (bs : List Blk) (w : World) (hG : GB ps bs) (h : Bo w v (ints ps) bs) (hg : goodBo (ints ps) bs = true) :
    Calls Try.prog 14 #[v] w fun e w' => RetT w ((allU ps bs).map tS) true e w' := by
  have h0 := Lib.hid h
  obtain ⟨pv, bv, rfl, -, -⟩ := h
  obtain ⟨w2, hw2⟩ : ∃ w2, Hid (w2 = w.alloc (.cells #[pv, bv] 31)) := ⟨_, Lib.hid rfl⟩
  have hb2 : Hid (Below w.heap.size w w2) := Lib.hid (by rw [hw2.out]; exact ba1 w _)
  have F := Lib.hid (show w2.heap[w.heap.size]? = some (.cells #[pv, bv] 31) by rw [hw2.out]; exact hb_new _ _)
  have hA := Lib.hid (boGood_any _ (ints ps) bs w2 (h0.out.below hb2.out))
  rw [hg] at hA
  have f0 : w2.cell? ⟨w.heap.size, 0, none⟩ = some pv := hb_cell F.out 0
  have f1 : w2.cell? ⟨w.heap.size, 1, none⟩ = some bv := hb_cell F.out 1
  have hT := Lib.hid (fun w' hb => boAll_any _ ps bs w' hG (h0.out.below hb))
  generalize (allU ps bs).map tS = T at *
  go_enter Try.func14, Try.ntmps14
  go_wp2_with fail
  rw [← hw2.out]
  go_wp2_with fail
  refine hA.out.mono ?_; rintro e w3 ⟨rfl, hb3⟩
  have F3 := Lib.hid (hb_below hb3 (hb_lt F.out) F.out)
  replace hb3 := Lib.hid (bt1 hb2.out hb3)
  clear f0 f1
  have f0 : w3.cell? ⟨w.heap.size, 0, none⟩ = some pv := hb_cell F3.out 0
  have f1 : w3.cell? ⟨w.heap.size, 1, none⟩ = some bv := hb_cell F3.out 1
  go_wp2_with fail
  refine (hT.out w3 hb3.out).mono ?_; rintro e w4 ⟨u, rfl, ho4, hb4⟩
  replace ho4 := Lib.hid (ho4.mono hb3.out.size)
  replace hb4 := Lib.hid (bt1 hb3.out hb4)
  go_wp2_with fail
  go_ret2; exact ⟨_, rfl, ho4.out, hb4.out⟩
theorem iAS_bad (v : Value) (psI : List Int) (bs : List Blk) (w : World) (h : Bo w v psI bs) (hg : goodBo psI bs = false) :
    Calls Try.prog 15 #[v] w fun e w' => RetT w [] false e w' := by
  have h0 := Lib.hid h
  obtain ⟨pv, bv, rfl, -, -⟩ := h
  obtain ⟨w2, hw2⟩ : ∃ w2, Hid (w2 = w.alloc (.cells #[pv, bv] 31)) := ⟨_, Lib.hid rfl⟩
  have hb2 : Hid (Below w.heap.size w w2) := Lib.hid (by rw [hw2.out]; exact ba1 w _)
  have F := Lib.hid (show w2.heap[w.heap.size]? = some (.cells #[pv, bv] 31) by rw [hw2.out]; exact hb_new _ _)
  have hA := Lib.hid (AreBolts_any _ psI bs w2 (h0.out.below hb2.out))
  rw [hg] at hA
  have f0 : w2.cell? ⟨w.heap.size, 0, none⟩ = some pv := hb_cell F.out 0
  have f1 : w2.cell? ⟨w.heap.size, 1, none⟩ = some bv := hb_cell F.out 1
  go_enter Try.func15, Try.ntmps15
  go_wp2_with fail
  rw [← hw2.out]
  go_wp2_with fail
  refine hA.out.mono ?_; rintro e w3 ⟨rfl, hb3⟩
  replace hb3 := Lib.hid (bt1 hb2.out hb3)
  go_wp2_with fail
  go_ret2; exact ⟨_, rfl, OwnT.nil _ _, hb3.out⟩
set_option maxHeartbeats 1000000 in
theorem iAS_yes (v : Value) (ps : List Nat) (bs : List Blk) (w : World) (hG : GB ps bs) (h : Bo w v (ints ps) bs) (hg : goodBo (ints ps) bs = true) :
    Calls Try.prog 15 #[v] w fun e w' => RetT w ((allU ps bs).map tS) true e w' := by
  have h0 := Lib.hid h
  obtain ⟨pv, bv, rfl, -, -⟩ := h
  obtain ⟨w2, hw2⟩ : ∃ w2, Hid (w2 = w.alloc (.cells #[pv, bv] 31)) := ⟨_, Lib.hid rfl⟩
  have hb2 : Hid (Below w.heap.size w w2) := Lib.hid (by rw [hw2.out]; exact ba1 w _)
  have F := Lib.hid (show w2.heap[w.heap.size]? = some (.cells #[pv, bv] 31) by rw [hw2.out]; exact hb_new _ _)
  have hA := Lib.hid (AreBolts_any _ (ints ps) bs w2 (h0.out.below hb2.out))
  rw [hg] at hA
  have f0 : w2.cell? ⟨w.heap.size, 0, none⟩ = some pv := hb_cell F.out 0
  have f1 : w2.cell? ⟨w.heap.size, 1, none⟩ = some bv := hb_cell F.out 1
  have hP := Lib.hid (fun w' hb => allowedP_any _ ps bs w' hG (h0.out.below hb))
  have hst : Hid (∀ d ∈ allU ps bs, isSt ps d) := Lib.hid (fun d hd => ((mem_U hG).1 hd).1)
  have hTx := Lib.hid (fun w' hb d hd => text_any _ ps bs bs d w' hG hd (h0.out.below hb))
  have hN : (allU ps bs).length ≤ 1000 := U_len hG
  generalize allU ps bs = AL at *
  obtain ⟨n, hn⟩ : ∃ n, AL.length = n := ⟨_, rfl⟩
  rw [hn] at hN
  replace hn := Lib.hid hn
  go_enter Try.func15, Try.ntmps15
  go_wp2_with fail
  rw [← hw2.out]
  go_wp2_with fail
  refine hA.out.mono ?_; rintro e w3 ⟨rfl, hb3⟩
  have F3 := Lib.hid (hb_below hb3 (hb_lt F.out) F.out)
  replace hb3 := Lib.hid (bt1 hb2.out hb3)
  clear f0 f1
  have f0 : w3.cell? ⟨w.heap.size, 0, none⟩ = some pv := hb_cell F3.out 0
  have f1 : w3.cell? ⟨w.heap.size, 1, none⟩ = some bv := hb_cell F3.out 1
  go_wp2_with fail
  refine (hP.out w3 hb3.out).mono ?_; rintro e w4 ⟨st, rfl, hso, hb4⟩
  obtain ⟨sp, sc, rfl⟩ : ∃ p c, st = .slice p n c := by
    obtain ⟨p, c, e, _⟩ := hso.rd
    exact ⟨p, c, by rw [e, hn.out]⟩
  replace hso := Lib.hid hso
  have F4 := Lib.hid (hb_below hb4 (hb_lt F3.out) F3.out)
  have hl4 := hb_lt F4.out
  replace hb4 := Lib.hid (bt1 hb3.out hb4)
  clear f0 f1
  go_wp2_with fail
  go_loopw [4, 6, 13] (fun o _ i wr => ∃ k : Nat, k ≤ n ∧ i = .int .i64 k ∧ Hid (OwnT wr w4.heap.size o ((AL.take k).map tS)) ∧ Hid (Below w4.heap.size w4 wr)) (fun _ _ i _ => n - (intOf i).toNat)
  case atStart => exact ⟨0, Nat.zero_le _, rfl, Lib.hid (OwnT.nil _ _), Lib.hid (Below.refl _ _)⟩
  case round =>
    obtain ⟨k, hk, rfl, ho, hbr⟩ := hrel
    have hbw := Lib.hid (bt1 hb4.out hbr.out)
    have Fr := Lib.hid (hb_below hbr.out hl4 F4.out)
    by_cases hlt : k < n
    · have hkx : k < AL.length := by rw [hn.out]; exact hlt
      obtain ⟨gs, rfl, hgs, e0, e1, e2, e3, e4, e5⟩ := (hso.out.below hbr.out).rg.plc hkx
      have hsk := hst.out AL[k] (List.getElem_mem _)
      have hap : Hid ((AL.take (k + 1)).map tS = (AL.take k).map tS ++ [tS AL[k]]) := Lib.hid (by rw [List.take_succ_eq_append_getElem hkx, List.map_append]; rfl)
      have hlk : ((AL.take k).map tS).length ≤ 2000000 := by simp; omega
      generalize AL[k] = d at *
      obtain ⟨w5, hw5⟩ : ∃ w5, Hid (w5 = wr.alloc (.cells #[.int .i64 ((pl (d) 0 : Nat) : Int), .int .i64 ((pl (d) 1 : Nat) : Int), .int .i64 ((pl (d) 2 : Nat) : Int), .int .i64 ((pl (d) 3 : Nat) : Int), .int .i64 ((pl (d) 4 : Nat) : Int), .int .i64 ((pl (d) 5 : Nat) : Int)] 66)) := ⟨_, Lib.hid rfl⟩
      have hb5 := Lib.hid (show Below wr.heap.size wr w5 by rw [hw5.out]; exact ba1 wr _)
      have A5 := Lib.hid (show w5.heap[wr.heap.size]? = some (.cells #[.int .i64 ((pl (d) 0 : Nat) : Int), .int .i64 ((pl (d) 1 : Nat) : Int), .int .i64 ((pl (d) 2 : Nat) : Int), .int .i64 ((pl (d) 3 : Nat) : Int), .int .i64 ((pl (d) 4 : Nat) : Int), .int .i64 ((pl (d) 5 : Nat) : Int)] 66) by rw [hw5.out]; exact hb_new _ _)
      have F5 := Lib.hid (hb_below hb5.out (hb_lt Fr.out) Fr.out)
      have f0 : wr.cell? ⟨w.heap.size, 0, none⟩ = some pv := hb_cell Fr.out 0
      have f1 : wr.cell? ⟨w.heap.size, 1, none⟩ = some bv := hb_cell Fr.out 1
      have lw := hb_lt Fr.out
      have mw : ¬ w.heap.size = wr.heap.size := by omega
      have ho5 := Lib.hid (ho.out.below hb5.out)
      have hb45 := Lib.hid (bt2 hbr.out hb5.out hbr.out.size)
      have hT5 := Lib.hid (hTx.out w5 (bt1 hbw.out hb5.out) d hsk)
      generalize tS d = tx at *
      go_wp2_with fail
      rw [← hw5.out]
      refine hT5.out.mono ?_; rintro e w8 ⟨rfl, hb8⟩
      have ho8 := Lib.hid (ho5.out.below hb8)
      have hb48 := Lib.hid (bt2 hb45.out hb8 hb45.out.size)
      go_wp2_with (at_builtin; refine app_txt _ rfl _ _ rfl w4.heap.size _ _ rfl (ho8.out.alloc _) w8.heap.size _ rfl (by simp; rfl) hlk (by have := hb48.out.size; simp; omega) ?_; intro v' w9 ho9 hg9; have hb9 := Lib.hid (bel_ownT (hb48.out.alloc hb48.out.size _) (ho8.out.alloc _) hg9 (by have := hb48.out.size; simp; omega)); replace ho9 := Lib.hid ho9; clear hg9)
      go_roundw
      case rel => exact ⟨k + 1, by omega, by go_num, by rw [hap.out]; exact ho9, hb9⟩
      all_goals (simp [intOf] <;> omega)
    · have hfin : AL.take k = AL := List.take_of_length_le (by rw [hn.out]; omega)
      rw [hfin] at ho
      have ho2 := Lib.hid (ho.out.mono hb4.out.size)
      go_wp2_with fail
      go_ret2; exact ⟨_, rfl, ho2.out, hbw.out⟩
theorem AllowedStates_both (psI : List Int) (bs : List Blk) : ∃ (r : List ByteArray) (ok : Bool), r.length ≤ 1000 ∧
    (∀ w v, Bo w v psI bs → Calls Try.prog 14 #[v] w fun e w' => RetT w r ok e w') ∧
    (∀ w v, Bo w v psI bs → Calls Try.prog 15 #[v] w fun e w' => RetT w r ok e w') := by
  rcases good_cases psI bs with hg | ⟨ps, rfl, hG, hg⟩
  · exact ⟨[], false, by simp, fun w v h => sAS_bad v psI bs w h hg, fun w v h => iAS_bad v psI bs w h hg⟩
  · exact ⟨(allU ps bs).map tS, true, by rw [List.length_map]; exact U_len hG, fun w v h => sAS_yes v ps bs w hG h hg, fun w v h => iAS_yes v ps bs w hG h hg⟩
end Go.Proofs.Ytjbfophbdmakjab
