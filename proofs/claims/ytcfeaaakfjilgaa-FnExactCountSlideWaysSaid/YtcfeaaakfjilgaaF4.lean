/- All allowed states, by the program; how many they are. -/
import Derived.Test.YtcfeaaakfjilgaaF3
namespace Go.Proofs.Ytcfeaaakfjilgaa
open Go Go.RowKit RM
def afK (ps : List Nat) (bs : List Blk) (k : Nat) : List (List Nat) := ((al ps ps.length).take k).filter (fr bs)
theorem afK_yes (ps : List Nat) (bs : List Blk) (k : Nat) (hk : k < (al ps ps.length).length) (h : fr bs (al ps ps.length)[k] = true) : afK ps bs (k + 1) = afK ps bs k ++ [(al ps ps.length)[k]] := by
  unfold afK; rw [List.take_succ_eq_append_getElem hk, List.filter_append]; simp [h]
theorem afK_no (ps : List Nat) (bs : List Blk) (k : Nat) (hk : k < (al ps ps.length).length) (h : fr bs (al ps ps.length)[k] = false) : afK ps bs (k + 1) = afK ps bs k := by
  unfold afK; rw [List.take_succ_eq_append_getElem hk, List.filter_append]; simp [h]
theorem afK_all (ps : List Nat) (bs : List Blk) (k : Nat) (hk : (al ps ps.length).length ≤ k) : afK ps bs k = allU ps bs := by
  unfold afK allU; rw [List.take_of_length_le hk]
theorem afK_len (ps : List Nat) (bs : List Blk) (k : Nat) : (afK ps bs k).length ≤ k := by
  unfold afK
  have := List.length_filter_le (fr bs) ((al ps ps.length).take k)
  rw [List.length_take] at this; omega
set_option maxHeartbeats 1000000 in
theorem allowedP_any (v : Value) (ps : List Nat) (bs : List Blk) (w : World) (hG : GB ps bs) (h : Bo w v (ints ps) bs) :
    Calls Try.prog 65 #[v] w fun e w' => ∃ u, e = .returned u ∧ OwnG plcE w' w.heap.size u (allU ps bs) ∧ Below w.heap.size w w' := by
  have h0 := Lib.hid h
  obtain ⟨pv, bv, rfl, -, -⟩ := h
  have hAll := Lib.hid (fun w' hb => allPlaces_any _ ps bs bs w' hG (h0.out.below hb))
  have hAlw := Lib.hid (fun w' hb d => allows_any _ ps bs d w' hG (h0.out.below hb))
  have hyes := Lib.hid (afK_yes ps bs)
  have hno := Lib.hid (afK_no ps bs)
  have hfin := Lib.hid (afK_all ps bs)
  have hlen := Lib.hid (afK_len ps bs)
  have hN : (al ps ps.length).length ≤ 1000 := by rw [al_len hG]; exact hG.n
  have ha0 : Hid (afK ps bs 0 = []) := Lib.hid rfl
  clear hG
  generalize al ps ps.length = AL at *
  obtain ⟨n, hn⟩ : ∃ n, AL.length = n := ⟨_, rfl⟩
  rw [hn] at hN
  replace hn := Lib.hid hn
  obtain ⟨w2, hw2⟩ : ∃ w2, Hid (w2 = w.alloc (.cells #[pv, bv] 31)) := ⟨_, Lib.hid rfl⟩
  have hb2 : Hid (Below w.heap.size w w2) := Lib.hid (by rw [hw2.out]; exact ba1 w _)
  have F := Lib.hid (show w2.heap[w.heap.size]? = some (.cells #[pv, bv] 31) by rw [hw2.out]; exact hb_new _ _)
  have hl2 : w.heap.size < w2.heap.size := hb_lt F.out
  go_enter Try.func65, Try.ntmps65
  go_wp2_with fail
  rw [← hw2.out]
  refine (hAll.out w2 hb2.out).mono ?_; rintro e w3 ⟨st, rfl, hso, hb3⟩
  obtain ⟨sp, sc, rfl⟩ : ∃ p c, st = .slice p n c := by
    obtain ⟨p, c, e, _⟩ := hso.rd
    exact ⟨p, c, by rw [e, hn.out]⟩
  replace hso := Lib.hid hso
  have F3 := Lib.hid (hb_below hb3 hl2 F.out)
  have hl3 : w.heap.size < w3.heap.size := hb_lt F3.out
  replace hb3 := Lib.hid (bt1 hb2.out hb3)
  go_wp2_with fail
  go_loopw [3, 9] (fun o i wr => ∃ k : Nat, k ≤ n ∧ i = .int .i64 k ∧ Hid (OwnG plcE wr w3.heap.size o (afK ps bs k)) ∧ Hid (Below w3.heap.size w3 wr)) (fun _ i _ => n - (intOf i).toNat)
  case atStart => exact ⟨0, Nat.zero_le _, rfl, Lib.hid (by rw [ha0.out]; exact OwnG.nil _ _), Lib.hid (Below.refl _ _)⟩
  case round =>
    obtain ⟨k, hk, rfl, ho, hbr⟩ := hrel
    have hbw := Lib.hid (bt1 hb3.out hbr.out)
    have Fr := Lib.hid (hb_below hbr.out hl3 F3.out)
    by_cases hlt : k < n
    · have hkx : k < AL.length := by rw [hn.out]; exact hlt
      obtain ⟨gs, rfl, hgs, e0, e1, e2, e3, e4, e5⟩ := (hso.out.below hbr.out).rg.plc hkx
      have hyk := Lib.hid (hyes.out k hkx)
      have hnk := Lib.hid (hno.out k hkx)
      have hlk := Lib.hid (hlen.out k)
      generalize AL[k] = d at *
      obtain ⟨w5, hw5⟩ : ∃ w5, Hid (w5 = wr.alloc (.cells #[.int .i64 ((pl (d) 0 : Nat) : Int), .int .i64 ((pl (d) 1 : Nat) : Int), .int .i64 ((pl (d) 2 : Nat) : Int), .int .i64 ((pl (d) 3 : Nat) : Int), .int .i64 ((pl (d) 4 : Nat) : Int), .int .i64 ((pl (d) 5 : Nat) : Int)] 68)) := ⟨_, Lib.hid rfl⟩
      have hb5 := Lib.hid (show Below wr.heap.size wr w5 by rw [hw5.out]; exact ba1 wr _)
      have A5 := Lib.hid (show w5.heap[wr.heap.size]? = some (.cells #[.int .i64 ((pl (d) 0 : Nat) : Int), .int .i64 ((pl (d) 1 : Nat) : Int), .int .i64 ((pl (d) 2 : Nat) : Int), .int .i64 ((pl (d) 3 : Nat) : Int), .int .i64 ((pl (d) 4 : Nat) : Int), .int .i64 ((pl (d) 5 : Nat) : Int)] 68) by rw [hw5.out]; exact hb_new _ _)
      have F5 := Lib.hid (hb_below hb5.out (hb_lt Fr.out) Fr.out)
      have f0 : wr.cell? ⟨w.heap.size, 0, none⟩ = some pv := hb_cell Fr.out 0
      have f1 : wr.cell? ⟨w.heap.size, 1, none⟩ = some bv := hb_cell Fr.out 1
      have lw := hb_lt Fr.out
      have mw : ¬ w.heap.size = wr.heap.size := by omega
      have hA := Lib.hid (hAlw.out w5 (bt1 hbw.out hb5.out) d)
      have ho5 := Lib.hid (ho.out.below hb5.out)
      have hb35 := Lib.hid (bt2 hbr.out hb5.out hbr.out.size)
      have hne5 : Hid (∀ x c, OwnG plcE wr w3.heap.size x c → x.ownBlock ≠ some wr.heap.size) := Lib.hid (fun x c hx e => by have := (hx.lt _ e).2; omega)
      generalize fr bs d = G at *
      cases G
      · go_wp2_with fail
        rw [← hw5.out]
        refine hA.out.mono ?_; rintro e w6 ⟨rfl, hb6⟩
        have ho6 := Lib.hid (ho5.out.below hb6)
        have hb36 := Lib.hid (bt2 hb35.out hb6 hb35.out.size)
        go_wp2_with fail
        go_roundw
        case rel => exact ⟨k + 1, by omega, by go_num, by rw [hnk.out trivial]; exact ho6, hb36⟩
        all_goals (simp [intOf] <;> omega)
      · go_wp2_with fail
        rw [← hw5.out]
        refine hA.out.mono ?_; rintro e w6 ⟨rfl, hb6⟩
        have ho6 := Lib.hid (ho5.out.below hb6)
        have hb36 := Lib.hid (bt2 hb35.out hb6 hb35.out.size)
        have A6 := Lib.hid (hb_below hb6 (hb_lt A5.out) A5.out)
        have ca := hb_cell A6.out
        have la := hb_lt A6.out
        have hs36 := hb36.out.size
        clear hb6
        go_wp2_with (at_builtin; refine app_plc _ rfl _ _ rfl w3.heap.size _ _ rfl (ho6.out.alloc _) w6.heap.size d rfl (hb_new _ _) (by have := hlk.out; omega) (by simp; omega) ?_; intro v' w7 ho7 hg7 _; have hb7 := Lib.hid (bel_ownG (hb36.out.alloc hs36 _) (ho6.out.alloc _) hg7 (by simp; omega)); replace ho7 := Lib.hid ho7; clear hg7)
        go_roundw
        case rel => exact ⟨k + 1, by omega, by go_num, by rw [hyk.out trivial]; exact ho7, hb7⟩
        all_goals (simp [intOf] <;> omega)
    · have ho9 := Lib.hid ho.out
      rw [hfin.out k (by rw [hn.out]; omega)] at ho9
      go_wp2_with fail
      go_ret; exact ⟨_, rfl, ho9.out.mono (by omega), hbw.out⟩
end Go.Proofs.Ytcfeaaakfjilgaa
