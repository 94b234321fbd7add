/- All allowed states: the model's list of texts, the program's list of places. -/
import Derived.Test.YtcfeaaakfjilgaaF1
import Derived.Test.YtcfeaaakfjilgaaStrs4
namespace Go.Proofs.Ytcfeaaakfjilgaa
open Go Go.RowKit RM
/-- the allowed ones of the first k states -/
def uK (ps : List Nat) (bs : List Blk) (k : Nat) : List (List Nat) := ((List.range k).map (dg ps ps.length)).filter (fr bs)
theorem uK_yes (ps : List Nat) (bs : List Blk) (k : Nat) (h : fr bs (dg ps ps.length k) = true) : uK ps bs (k + 1) = uK ps bs k ++ [dg ps ps.length k] := by
  unfold uK; rw [List.range_succ, List.map_append, List.filter_append]; simp [h]
theorem uK_no (ps : List Nat) (bs : List Blk) (k : Nat) (h : fr bs (dg ps ps.length k) = false) : uK ps bs (k + 1) = uK ps bs k := by
  unfold uK; rw [List.range_succ, List.map_append, List.filter_append]; simp [h]
theorem uK_all {ps : List Nat} {bs : List Blk} (hG : GB ps bs) : uK ps bs (pr ps ps.length) = allU ps bs := by unfold uK allU; rw [al_eq hG]
theorem uK_len (ps : List Nat) (bs : List Blk) (k : Nat) : (uK ps bs k).length ≤ k := by
  unfold uK
  have := List.length_filter_le (fr bs) ((List.range k).map (dg ps ps.length))
  simpa using this
theorem gb_allIn {ps : List Nat} {bs : List Blk} (hG : GB ps bs) : allIn (ints ps) 2 5 = true := by
  unfold allIn
  rw [List.all_eq_true]
  intro x hx
  obtain ⟨p, hp, rfl⟩ := List.mem_map.1 hx
  have := hG.mem hp
  simp; omega
theorem boCount_good (v : Value) (ps : List Nat) (bs cs : List Blk) (w : World) (hG : GB ps bs) (h : Bo w v (ints ps) cs) :
    Calls Try.prog 62 #[v] w fun e w' => e = .returned (.int .i64 ((pr ps ps.length : Nat) : Int)) ∧ Below w.heap.size w w' := by
  have := boCount_any v (ints ps) cs w h (by simpa using hG.l6) (gb_allIn hG)
  rwa [prI_ints] at this
theorem boAll_any (v : Value) (ps : List Nat) (bs : List Blk) (w : World) (hG : GB ps bs) (h : Bo w v (ints ps) bs) :
    Calls Try.prog 63 #[v] w fun e w' => ∃ u, e = .returned u ∧ OwnT w' w.heap.size u ((allU ps bs).map tS) ∧ Below w.heap.size w w' := by
  have h0 := Lib.hid h
  obtain ⟨pv, bv, rfl, -, -⟩ := h
  have hN := hG.n
  have hAll := Lib.hid (uK_all hG)
  have hCnt := Lib.hid (fun w' hb => boCount_good _ ps bs bs w' hG (h0.out.below hb))
  have hSt := Lib.hid (fun w' hb n hn => boState_any _ ps bs n w' hG (h0.out.below hb) hn)
  have hFr := Lib.hid (fun w' hb n => boFree_any _ ps bs (dg ps ps.length n) w' hG (h0.out.below hb) (dg_st hG n))
  have hyes := Lib.hid (uK_yes ps bs)
  have hno := Lib.hid (uK_no ps bs)
  have hlen := Lib.hid (uK_len ps bs)
  have hsz := Lib.hid (fun n => (tS_size (dg ps ps.length n)).trans (dg_len ps.length n))
  have h6 := hG.l6
  generalize pr ps ps.length = N at *
  obtain ⟨w2, hw2⟩ : ∃ w2, Hid (w2 = w.alloc (.cells #[pv, bv] 31)) := ⟨_, Lib.hid rfl⟩
  have hb2 : Hid (Below w.heap.size w w2) := Lib.hid (by rw [hw2.out]; exact ba1 w _)
  have F := Lib.hid (show w2.heap[w.heap.size]? = some (.cells #[pv, bv] 31) by rw [hw2.out]; exact hb_new _ _)
  have hl2 : w.heap.size < w2.heap.size := hb_lt F.out
  have hz0 : Hid ((uK ps bs 0).map tS = []) := Lib.hid rfl
  go_enter Try.func63, Try.ntmps63
  go_wp2_with fail
  rw [← hw2.out]
  go_loopw [3, 4, 5] (fun o i _ wr => ∃ k : Nat, k ≤ N ∧ i = .int .i64 k ∧ Hid (OwnT wr w2.heap.size o ((uK ps bs k).map tS)) ∧ Hid (Below w2.heap.size w2 wr)) (fun _ i _ _ => N - (intOf i).toNat)
  case atStart => exact ⟨0, Nat.zero_le _, rfl, Lib.hid (by rw [hz0.out]; exact OwnT.nil _ _), Lib.hid (Below.refl _ _)⟩
  case round =>
    obtain ⟨k, hk, rfl, ho, hbr⟩ := hrel
    have Fr := Lib.hid (hb_below hbr.out hl2 F.out)
    have f0 : wr.cell? ⟨w.heap.size, 0, none⟩ = some pv := hb_cell Fr.out 0
    have f1 : wr.cell? ⟨w.heap.size, 1, none⟩ = some bv := hb_cell Fr.out 1
    have hbw := Lib.hid (bt1 hb2.out hbr.out)
    go_wp2_with fail
    refine (hCnt.out wr hbw.out).mono ?_; rintro e w3 ⟨rfl, hb3⟩
    have F3 := Lib.hid (hb_below hb3 (hb_lt Fr.out) Fr.out)
    have ho3 := Lib.hid (ho.out.below hb3)
    have hb23 := Lib.hid (bt2 hbr.out hb3 hbr.out.size)
    have hbw3 := Lib.hid (bt1 hbw.out hb3)
    clear f0 f1 hb3
    have f0 : w3.cell? ⟨w.heap.size, 0, none⟩ = some pv := hb_cell F3.out 0
    have f1 : w3.cell? ⟨w.heap.size, 1, none⟩ = some bv := hb_cell F3.out 1
    by_cases hlt : k < N
    · have hSk := Lib.hid (hSt.out w3 hbw3.out k (by omega))
      have hFk := Lib.hid (fun w' hb => hFr.out w' hb k)
      have hyk := Lib.hid (hyes.out k)
      have hnk := Lib.hid (hno.out k)
      have hlk := Lib.hid (hlen.out k)
      have hsk := Lib.hid (hsz.out k)
      have hts : (tS (dg ps ps.length k)).size ≤ 6 := by rw [hsk.out]; exact h6
      generalize hdk : dg ps ps.length k = d at *
      clear hdk
      have hap : Hid ((uK ps bs k ++ [d]).map tS = (uK ps bs k).map tS ++ [tS d]) := Lib.hid (by simp)
      generalize fr bs d = G at *
      generalize tS d = t at *
      go_wp2_with fail
      refine hSk.out.mono ?_; rintro e w4 ⟨rfl, hb4⟩
      have F4 := Lib.hid (hb_below hb4 (hb_lt F3.out) F3.out)
      have ho4 := Lib.hid (ho3.out.below hb4)
      have hb24 := Lib.hid (bt2 hb23.out hb4 hb23.out.size)
      have hbw4 := Lib.hid (bt1 hbw3.out hb4)
      clear f0 f1 hb4
      have f0 : w4.cell? ⟨w.heap.size, 0, none⟩ = some pv := hb_cell F4.out 0
      have f1 : w4.cell? ⟨w.heap.size, 1, none⟩ = some bv := hb_cell F4.out 1
      cases G
      · go_wp2_with fail
        refine (hFk.out w4 hbw4.out).mono ?_; rintro e w5 ⟨rfl, hb5⟩
        have ho5 := Lib.hid (ho4.out.below hb5)
        have hb25 := Lib.hid (bt2 hb24.out hb5 hb24.out.size)
        go_wp2_with fail
        go_roundw
        case rel => exact ⟨k + 1, by omega, by go_num, by rw [hnk.out trivial]; exact ho5, hb25⟩
        all_goals (simp [intOf] <;> omega)
      · go_wp2_with fail
        refine (hFk.out w4 hbw4.out).mono ?_; rintro e w5 ⟨rfl, hb5⟩
        have ho5 := Lib.hid (ho4.out.below hb5)
        have hb25 := Lib.hid (bt2 hb24.out hb5 hb24.out.size)
        go_wp2_with (at_builtin; refine app_txt _ rfl _ _ rfl w2.heap.size _ _ rfl (ho5.out.alloc _) w5.heap.size _ rfl (by simp; rfl) (by rw [List.length_map]; have := hlk.out; omega) (by have := hb25.out.size; simp; omega) ?_; intro v' w7 ho7 hg7; have hb7 := Lib.hid (bel_ownT (hb25.out.alloc hb25.out.size _) (ho5.out.alloc _) hg7 (by have := hb25.out.size; simp; omega)); replace ho7 := Lib.hid ho7; replace hg7 := Lib.hid hg7)
        go_roundw
        case rel => exact ⟨k + 1, by omega, by go_num, by rw [hyk.out trivial, hap.out]; exact ho7, hb7⟩
        all_goals (simp [intOf] <;> omega)
    · obtain rfl : k = N := by omega
      have ho9 := Lib.hid ho3.out
      rw [hAll.out] at ho9
      go_wp2_with fail
      go_ret; exact ⟨_, rfl, ho9.out.mono (by omega), bt1 hb2.out hb23.out⟩
end Go.Proofs.Ytcfeaaakfjilgaa
