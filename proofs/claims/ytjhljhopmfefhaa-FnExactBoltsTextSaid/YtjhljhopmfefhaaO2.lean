/- The text of bolts, by the model. -/
import Derived.Test.YtjhljhopmfefhaaO1
import Derived.Deep.RegionHeld3
import Derived.BigRegion
namespace Go.Proofs.Ytjhljhopmfefhaa
open Go Go.RowKit RM
theorem ps_dig {ps : List Nat} {bs : List Blk} (hG : GB ps bs) (k : Nat) (hk : k < ps.length) : ps[k] ≤ 9 := by
  have := (hG.p k hk).2
  rw [getD_eq _ _ _ hk] at this; omega
/-- what is kept while one block's text is made: the block's box, and all below -/
theorem keepQ {W a b : World} {g : Nat} {v0 v1 v2 v3 : Value} (hb : Below a.heap.size a b)
    (h : (a.cell? ⟨g, 0, none⟩ = some v0 ∧ a.cell? ⟨g, 1, none⟩ = some v1 ∧ a.cell? ⟨g, 2, none⟩ = some v2 ∧ a.cell? ⟨g, 3, none⟩ = some v3) ∧ g < a.heap.size ∧ Below W.heap.size W a) :
    (b.cell? ⟨g, 0, none⟩ = some v0 ∧ b.cell? ⟨g, 1, none⟩ = some v1 ∧ b.cell? ⟨g, 2, none⟩ = some v2 ∧ b.cell? ⟨g, 3, none⟩ = some v3) ∧ g < b.heap.size ∧ Below W.heap.size W b := by
  obtain ⟨⟨h0, h1, h2, h3⟩, l1, hB⟩ := h
  have e : ∀ o, b.cell? ⟨g, o, none⟩ = a.cell? ⟨g, o, none⟩ := fun o => hb.cell (p := ⟨g, o, none⟩) l1
  exact ⟨⟨by rw [e]; exact h0, by rw [e]; exact h1, by rw [e]; exact h2, by rw [e]; exact h3⟩, Nat.lt_of_lt_of_le l1 hb.size, bt1 hB hb⟩
theorem keepQF {W a : World} {g : Nat} {v0 v1 v2 v3 : Value}
    (h : (a.cell? ⟨g, 0, none⟩ = some v0 ∧ a.cell? ⟨g, 1, none⟩ = some v1 ∧ a.cell? ⟨g, 2, none⟩ = some v2 ∧ a.cell? ⟨g, 3, none⟩ = some v3) ∧ g < a.heap.size ∧ Below W.heap.size W a) : Below W.heap.size W a := h.2.2
set_option maxHeartbeats 1000000 in
theorem boText_any (v : Value) (ps : List Nat) (bs : List Blk) (w : World) (hG : GB ps bs) (h : Bo w v (ints ps) bs) :
    Calls Try.prog 44 #[v] w fun e w' => e = .returned (.string (txB (tS ps) bs)) ∧ Below w.heap.size w w' := by
  obtain ⟨pv, bv, rfl, ⟨p, c, rfl, -, hr⟩, ⟨p2, c2, rfl, hml, hr2⟩⟩ := h
  have hln : (ints ps).length = ps.length := by simp
  rw [hln]; clear hln
  have h6 := hG.l6
  have h40 := hG.b
  obtain ⟨n, hn⟩ : ∃ n, ps.length = n := ⟨_, rfl⟩
  obtain ⟨m, hm⟩ : ∃ m, bs.length = m := ⟨_, rfl⟩
  rw [hn] at h6 ⊢
  rw [hm] at h40 hml ⊢
  replace hn := Lib.hid hn
  replace hm := Lib.hid hm
  replace hG := Lib.hid hG
  obtain ⟨w2, hw2⟩ : ∃ w2, Hid (w2 = w.alloc (.cells #[.slice p n c, .slice p2 m c2] 30)) := ⟨_, Lib.hid rfl⟩
  have hb2 : Hid (Below w.heap.size w w2) := Lib.hid (by rw [hw2.out]; exact ba1 w _)
  have F := Lib.hid (show w2.heap[w.heap.size]? = some (.cells #[.slice p n c, .slice p2 m c2] 30) by rw [hw2.out]; exact hb_new _ _)
  have hl2 : w.heap.size < w2.heap.size := hb_lt F.out
  have hrr := Lib.hid (hr.below hb2.out)
  have hrr2 := Lib.hid (hr2.below hb2.out)
  have f0 : w2.cell? ⟨w.heap.size, 0, none⟩ = some (.slice p n c) := hb_cell F.out 0
  clear hr hr2
  go_enter Try.func44, Try.ntmps44
  go_wp2_with fail
  rw [← hw2.out]
  go_wp2_with fail
  go_loopw [3, 5, 11] (fun o _ i wr => ∃ k : Nat, k ≤ n ∧ i = .int .i64 k ∧ o = .string (tS (ps.take k)) ∧ Hid (Below w2.heap.size w2 wr)) (fun _ _ i _ => n - (intOf i).toNat)
  case atStart => exact ⟨0, Nat.zero_le _, rfl, rfl, Lib.hid (Below.refl _ _)⟩
  case round =>
    obtain ⟨k, hk, rfl, rfl, hbr⟩ := hrel
    by_cases hlt : k < n
    · have hkx : k < ps.length := by rw [hn.out]; exact hlt
      obtain ⟨g, rfl, hgl, hc⟩ := hrr.out.at (k := k) (by simpa using hkx)
      have hx : (ints ps)[k]'(by simpa using hkx) = ((ps[k] : Nat) : Int) := by simp
      rw [hx] at hc
      have hcr : wr.cell? ⟨g, k, none⟩ = some (.int .i64 ((ps[k] : Nat) : Int)) := by rw [hbr.out.cell (p := ⟨g, k, none⟩) hgl]; exact hc
      have h9 := ps_dig hG.out k hkx
      have hap : Hid (tS (ps.take k) ++ tS [ps[k]] = tS (ps.take (k + 1))) := Lib.hid (by rw [← tS_app, List.take_succ_eq_append_getElem hkx])
      have hs1 : (tS (ps.take k)).size ≤ 6 := by rw [tS_size, List.length_take]; omega
      have hs2 : (tS [ps[k]]).size = 1 := tS_size _
      clear hx hc
      generalize ps[k] = x at *
      have hN := Lib.hid fun w' => l1Num_dig x w' h9
      go_wp2_with fail
      refine (hN.out wr).mono ?_; rintro e w4 ⟨rfl, hb4⟩
      replace hb4 := Lib.hid (bt2 hbr.out hb4 hbr.out.size)
      go_wp2_with fail
      rw [hap.out]
      go_roundw
      case rel => exact ⟨k + 1, by omega, by go_num, rfl, hb4⟩
      all_goals (simp [intOf] <;> omega)
    · obtain rfl : k = n := by omega
      have hall : Hid (ps.take k = ps) := Lib.hid (List.take_of_length_le (by rw [hn.out]; exact Nat.le_refl _))
      rw [hall.out]
      have hts : Hid ((tS ps).size = k) := Lib.hid ((tS_size ps).trans hn.out)
      have f1 : wr.cell? ⟨w.heap.size, 1, none⟩ = some (.slice p2 m c2) := hb_cell (hb_below hbr.out hl2 F.out) 1
      obtain ⟨wA, rfl⟩ : ∃ x, x = wr := ⟨_, rfl⟩
      have hbA := hbr
      clear hbr f0
      go_wp2_with fail
      go_loopw [3, 7, 23] (fun o _ i wr => ∃ q : Nat, q ≤ m ∧ i = .int .i64 q ∧ o = .string (txB (tS ps) (bs.take q)) ∧ Hid (Below w2.heap.size w2 wr)) (fun _ _ i _ => m - (intOf i).toNat)
      case atStart => exact ⟨0, Nat.zero_le _, rfl, rfl, hbA⟩
      case round =>
        obtain ⟨q, hq, rfl, rfl, hbr⟩ := hrel
        by_cases hlt : q < m
        · have hqx : q < bs.length := by rw [hm.out]; exact hlt
          obtain ⟨g, rfl, hgl, e0, e1, e2, e3⟩ := (hrr2.out.below hbr.out).blk hqx
          obtain ⟨A, I, B, J, hke, -, hA, hB, hI, hJ⟩ := hG.out.k bs[q] (List.getElem_mem _)
          have hA5 := (hG.out.p A hA).2
          have hB5 := (hG.out.p B hB).2
          have hl6 := hG.out.l6
          have hsn := Lib.hid (txB_snoc (tS ps) bs q hqx)
          have hkt := Lib.hid (kD_text A I B J)
          rw [hke] at e0 e1 e2 e3 hsn
          rw [← hkt.out] at hsn
          clear hke
          have NA := Lib.hid fun w' => l1Num_dig A w' (by omega)
          have NI := Lib.hid fun w' => l1Num_dig I w' (by omega)
          have NB := Lib.hid fun w' => l1Num_dig B w' (by omega)
          have NJ := Lib.hid fun w' => l1Num_dig J w' (by omega)
          have sA : (tS [A]).size = 1 := tS_size _
          have sI : (tS [I]).size = 1 := tS_size _
          have sB : (tS [B]).size = 1 := tS_size _
          have sJ : (tS [J]).size = 1 := tS_size _
          have sS : sepB.size = 1 := rfl
          have hT : (txB (tS ps) (bs.take q)).size ≤ 300 := by
            rw [txB_size, hts.out, List.length_take]; omega
          have hsE : sepB = ⟨#[59]⟩ := rfl
          rw [hsE] at hsn sS
          clear hA5 hB5 hA hB hI hJ hsE hkt
          generalize txB (tS ps) (bs.take q) = T at *
          generalize tS [A] = tA at *
          generalize tS [I] = tI at *
          generalize tS [B] = tB at *
          generalize tS [J] = tJ at *
          have hTi : (T.size : Int) ≤ 8388608 := by omega
          have hXs : ((⟨#[59]⟩ : ByteArray) ++ tA ++ tI ++ tB ++ tJ).size = 5 := by
            rw [ByteArray.size_append, ByteArray.size_append, ByteArray.size_append, ByteArray.size_append, sA, sI, sB, sJ, sS]
          have hR17 : ∀ W, (Op.stringOp .add T ((⟨#[59]⟩ : ByteArray) ++ tA ++ tI ++ tB ++ tJ)).run Try.prog W = .ok (.string (T ++ ((⟨#[59]⟩ : ByteArray) ++ tA ++ tI ++ tB ++ tJ))) W := fun W => run_string_add_sum W _ _ (by omega)
          obtain ⟨w5, hw5⟩ : ∃ w5, Hid (w5 = wr.alloc (.cells #[.int .i64 (A : Int), .int .i64 (I : Int), .int .i64 (B : Int), .int .i64 (J : Int)] 41)) := ⟨_, Lib.hid rfl⟩
          have hb5 := Lib.hid (show Below wr.heap.size wr w5 by rw [hw5.out]; exact ba1 wr _)
          have K5 := Lib.hid (show w5.heap[wr.heap.size]? = some (.cells #[.int .i64 (A : Int), .int .i64 (I : Int), .int .i64 (B : Int), .int .i64 (J : Int)] 41) by rw [hw5.out]; exact hb_new _ _)
          have k0 : w5.cell? ⟨wr.heap.size, 0, none⟩ = some (.int .i64 (A : Int)) := hb_cell K5.out 0
          have k1 : w5.cell? ⟨wr.heap.size, 1, none⟩ = some (.int .i64 (I : Int)) := hb_cell K5.out 1
          have k2 : w5.cell? ⟨wr.heap.size, 2, none⟩ = some (.int .i64 (B : Int)) := hb_cell K5.out 2
          have k3 : w5.cell? ⟨wr.heap.size, 3, none⟩ = some (.int .i64 (J : Int)) := hb_cell K5.out 3
          have hl5 := hb_lt K5.out
          replace hb5 := Lib.hid (bt2 hbr.out hb5.out hbr.out.size)
          go_wp2_with fail
          rw [← hw5.out]
          go_region_held3 (fun v => (v.cell? ⟨wr.heap.size, 0, none⟩ = some (.int .i64 (A : Int)) ∧ v.cell? ⟨wr.heap.size, 1, none⟩ = some (.int .i64 (I : Int)) ∧ v.cell? ⟨wr.heap.size, 2, none⟩ = some (.int .i64 (B : Int)) ∧ v.cell? ⟨wr.heap.size, 3, none⟩ = some (.int .i64 (J : Int))) ∧ wr.heap.size < v.heap.size ∧ Below w5.heap.size w5 v) ((first | assumption | (refine ⟨⟨?_, ?_, ?_, ?_⟩, ?_, ?_⟩ <;> first | assumption | go_keep | omega | exact (Below.refl _ _).drew)))
            (first | (go_at_call 55; (first | (with_reducible refine (NA.out _).mono ?_) | (with_reducible refine (NI.out _).mono ?_) | (with_reducible refine (NB.out _).mono ?_) | (with_reducible refine (NJ.out _).mono ?_)); rintro e w' ⟨rfl, hb9⟩; have hbn := keepQ hb9 (by assumption)))
          all_goals
            have hfin := Lib.hid (bt2 hb5.out (keepQF (by assumption)) hb5.out.size)
            go_wp2_with fail
            rw [← hsn.out]
            go_roundw
            case rel => exact ⟨q + 1, by omega, by go_num, rfl, hfin⟩
            all_goals (simp [intOf] <;> omega)
        · have hfin : Hid (bs.take q = bs) := Lib.hid (List.take_of_length_le (by rw [hm.out]; omega))
          rw [hfin.out]
          go_wp2_with fail
          go_ret; exact ⟨rfl, bt1 hb2.out hbr.out⟩
end Go.Proofs.Ytjhljhopmfefhaa
