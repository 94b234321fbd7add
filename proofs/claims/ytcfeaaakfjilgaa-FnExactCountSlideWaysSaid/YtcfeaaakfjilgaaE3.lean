/- States of bolts as places, by the program. -/
import Derived.Test.YtcfeaaakfjilgaaE2
namespace Go.Proofs.Ytcfeaaakfjilgaa
open Go Go.RowKit RM
/-- the digits of a text, others as other numbers -/
def dgI (s : ByteArray) : List Int := s.data.toList.map fun c => (c.toNat : Int) - 48
theorem dgI_len (s : ByteArray) : (dgI s).length = s.size := by unfold dgI; rw [List.length_map]; exact Array.length_toList
theorem dgI_get (s : ByteArray) (k : Nat) (h : k < s.size) : (dgI s)[k]'(by rw [dgI_len]; exact h) = (s[k].toNat : Int) - 48 := by
  unfold dgI
  simp only [List.getElem_map]
  rfl
theorem dgI_snoc (s : ByteArray) (k : Nat) (h : k < s.size) : (dgI s).take (k + 1) = (dgI s).take k ++ [(s[k].toNat : Int) - 48] := by
  rw [List.take_succ_eq_append_getElem (by rw [dgI_len]; exact h), dgI_get s k h]
theorem digitsOf_any (s : ByteArray) (w : World) (hs : s.size ≤ 1048576) :
    Calls Try.prog 98 #[.string s] w fun e w' => ∃ v, e = .returned v ∧ OwnI w' w.heap.size v (dgI s) ∧ Below w.heap.size w w' := by
  obtain ⟨n, hn⟩ : ∃ n, s.size = n := ⟨_, rfl⟩
  have hlen := Lib.hid (dgI_len s)
  have hsn := Lib.hid (dgI_snoc s)
  go_enter Try.func98, Try.ntmps98
  go_wp2_with (at_make; refine make_int _ rfl _ _ rfl _ _ n rfl rfl (by omega) ?_; intro w1 hown1 hb1)
  replace hown1 := Lib.hid hown1
  replace hb1 := Lib.hid hb1
  go_loopw [4, 10] (fun _ i wr => ∃ k : Nat, k ≤ n ∧ i = .int .i64 k ∧ Hid (OwnI wr w.heap.size (.slice (some ⟨w.heap.size, 0, none⟩) n n) ((dgI s).take k ++ List.replicate (n - k) 0)) ∧ Hid (Below w.heap.size w wr)) (fun _ i _ => n - (intOf i).toNat)
  case atStart => exact ⟨0, Nat.zero_le _, rfl, Lib.hid (by simpa using hown1.out), hb1⟩
  case round =>
    obtain ⟨k, hk, rfl, ho, hb⟩ := hrel
    clear hown1 hb1
    by_cases hlt : k < n
    · have hks : k < s.size := by omega
      have hlk : Hid (((dgI s).take k ++ List.replicate (n - k) 0).length = n) := Lib.hid (by rw [List.length_append, List.length_take, hlen.out, List.length_replicate]; omega)
      have hsp : Hid (List.replicate (n - k) (0 : Int) = 0 :: List.replicate (n - (k + 1)) 0) := Lib.hid (by
        rw [show n - k = (n - (k + 1)) + 1 from by omega]; rfl)
      have htl : Hid (((dgI s).take k).length = k) := Lib.hid (by rw [List.length_take, hlen.out]; omega)
      have hsk := Lib.hid (hsn.out k hks)
      obtain ⟨hce, hfr⟩ := ho.out.cell hlk.out k (by rw [hlk.out]; exact hlt)
      have hst := Lib.hid (ho.out.stored hlk.out k ((s[k].toNat : Int) - 48))
      generalize ((dgI s).take k ++ List.replicate (n - k) 0)[k]'(by rw [hlk.out]; exact hlt) = y at hce
      have hb8 := s[k].toNat_lt
      generalize hcv : s[k].toNat = z at *
      go_wp2_with fail
      go_roundw
      case rel =>
        refine ⟨k + 1, by omega, by go_num, Lib.hid ?_, Lib.hid ?_⟩
        · have h3 := hst.out.1
          rw [hsp.out, List.set_append_right _ _ (by rw [htl.out]; exact Nat.le_refl _), htl.out, Nat.sub_self, List.set_cons_zero] at h3
          rw [hsk.out, List.append_assoc]; exact h3
        · exact hb.out.grown hst.out.2 hb.out.size (fun j e => by cases e; exact Nat.le_refl _)
      all_goals (simp [intOf] <;> omega)
    · obtain rfl : k = n := by omega
      have ho2 := ho.out
      rw [List.take_of_length_le (by rw [hlen.out]; omega)] at ho2
      simp only [Nat.sub_self, List.replicate_zero, List.append_nil] at ho2
      replace ho2 := Lib.hid ho2
      go_wp2_with fail
      go_ret
      exact ⟨_, rfl, ho2.out, hb.out⟩
theorem getD_take (d : List Nat) (k i : Nat) : (d.take k).getD i 0 = if i < k then d.getD i 0 else 0 := by
  simp only [List.getD]
  by_cases h : i < k
  · rw [List.getElem?_take_of_lt h, if_pos h]
  · rw [if_neg h, List.getElem?_eq_none (by rw [List.length_take]; omega)]; rfl
theorem arc_nil : (#[.int .i64 ((pl (([] : List Nat)) 0 : Nat) : Int), .int .i64 ((pl (([] : List Nat)) 1 : Nat) : Int), .int .i64 ((pl (([] : List Nat)) 2 : Nat) : Int), .int .i64 ((pl (([] : List Nat)) 3 : Nat) : Int), .int .i64 ((pl (([] : List Nat)) 4 : Nat) : Int), .int .i64 ((pl (([] : List Nat)) 5 : Nat) : Int)] : Array Value) = #[.int .i64 0, .int .i64 0, .int .i64 0, .int .i64 0, .int .i64 0, .int .i64 0] := rfl
theorem arc_zero (d : List Nat) : (#[.int .i64 ((pl ((d.take 0)) 0 : Nat) : Int), .int .i64 ((pl ((d.take 0)) 1 : Nat) : Int), .int .i64 ((pl ((d.take 0)) 2 : Nat) : Int), .int .i64 ((pl ((d.take 0)) 3 : Nat) : Int), .int .i64 ((pl ((d.take 0)) 4 : Nat) : Int), .int .i64 ((pl ((d.take 0)) 5 : Nat) : Int)] : Array Value) = #[.int .i64 0, .int .i64 0, .int .i64 0, .int .i64 0, .int .i64 0, .int .i64 0] := rfl
theorem pl_take (d : List Nat) (k i : Nat) : pl (d.take k) i = if i < k then pl d i else 0 := getD_take d k i
theorem arc_set (d : List Nat) (k : Nat) (hk : k < 6) : (#[.int .i64 ((pl ((d.take k)) 0 : Nat) : Int), .int .i64 ((pl ((d.take k)) 1 : Nat) : Int), .int .i64 ((pl ((d.take k)) 2 : Nat) : Int), .int .i64 ((pl ((d.take k)) 3 : Nat) : Int), .int .i64 ((pl ((d.take k)) 4 : Nat) : Int), .int .i64 ((pl ((d.take k)) 5 : Nat) : Int)] : Array Value).setIfInBounds k (.int .i64 ((pl d k : Nat) : Int)) = #[.int .i64 ((pl ((d.take (k + 1))) 0 : Nat) : Int), .int .i64 ((pl ((d.take (k + 1))) 1 : Nat) : Int), .int .i64 ((pl ((d.take (k + 1))) 2 : Nat) : Int), .int .i64 ((pl ((d.take (k + 1))) 3 : Nat) : Int), .int .i64 ((pl ((d.take (k + 1))) 4 : Nat) : Int), .int .i64 ((pl ((d.take (k + 1))) 5 : Nat) : Int)] := by
  simp only [pl_take]
  match k, hk with
  | 0, _ => simp
  | 1, _ => simp
  | 2, _ => simp
  | 3, _ => simp
  | 4, _ => simp
  | 5, _ => simp
theorem arc_take (d : List Nat) (k : Nat) (h : d.length ≤ k) : (#[.int .i64 ((pl ((d.take k)) 0 : Nat) : Int), .int .i64 ((pl ((d.take k)) 1 : Nat) : Int), .int .i64 ((pl ((d.take k)) 2 : Nat) : Int), .int .i64 ((pl ((d.take k)) 3 : Nat) : Int), .int .i64 ((pl ((d.take k)) 4 : Nat) : Int), .int .i64 ((pl ((d.take k)) 5 : Nat) : Int)] : Array Value) = #[.int .i64 ((pl (d) 0 : Nat) : Int), .int .i64 ((pl (d) 1 : Nat) : Int), .int .i64 ((pl (d) 2 : Nat) : Int), .int .i64 ((pl (d) 3 : Nat) : Int), .int .i64 ((pl (d) 4 : Nat) : Int), .int .i64 ((pl (d) 5 : Nat) : Int)] := by rw [List.take_of_length_le h]
theorem arc_get (d : List Nat) (o : Nat) (ho : o < 6) : (#[.int .i64 ((pl (d) 0 : Nat) : Int), .int .i64 ((pl (d) 1 : Nat) : Int), .int .i64 ((pl (d) 2 : Nat) : Int), .int .i64 ((pl (d) 3 : Nat) : Int), .int .i64 ((pl (d) 4 : Nat) : Int), .int .i64 ((pl (d) 5 : Nat) : Int)] : Array Value)[o]? = some (.int .i64 ((pl d o : Nat) : Int)) := by
  match o, ho with
  | 0, _ => rfl
  | 1, _ => rfl
  | 2, _ => rfl
  | 3, _ => rfl
  | 4, _ => rfl
  | 5, _ => rfl
theorem arc_cell {w : World} {g : Nat} {d : List Nat} (h : w.heap[g]? = some (.cells #[.int .i64 ((pl (d) 0 : Nat) : Int), .int .i64 ((pl (d) 1 : Nat) : Int), .int .i64 ((pl (d) 2 : Nat) : Int), .int .i64 ((pl (d) 3 : Nat) : Int), .int .i64 ((pl (d) 4 : Nat) : Int), .int .i64 ((pl (d) 5 : Nat) : Int)] 68)) (o : Nat) (ho : o < 6) : w.cell? ⟨g, o, none⟩ = some (.int .i64 ((pl d o : Nat) : Int)) := by
  rw [hb_cell h, arc_get d o ho]
theorem six_at {w : World} {g : Nat} {a0 a1 a2 a3 a4 a5 : Value} {t : TypeId} (h : w.heap[g]? = some (.cells #[a0, a1, a2, a3, a4, a5] t (0, 0))) (v0 v1 v2 v3 v4 v5 : Value) :
    ((((((w.setCell ⟨g, 0, none⟩ v0).setCell ⟨g, 1, none⟩ v1).setCell ⟨g, 2, none⟩ v2).setCell ⟨g, 3, none⟩ v3).setCell ⟨g, 4, none⟩ v4).setCell ⟨g, 5, none⟩ v5).heap[g]? = some (.cells #[v0, v1, v2, v3, v4, v5] t (0, 0)) :=
  hb_set (hb_set (hb_set (hb_set (hb_set (hb_set h v0) v1) v2) v3) v4) v5
theorem six_ne {w : World} {g k : Nat} (hk : k ≠ g) (v0 v1 v2 v3 v4 v5 : Value) :
    ((((((w.setCell ⟨g, 0, none⟩ v0).setCell ⟨g, 1, none⟩ v1).setCell ⟨g, 2, none⟩ v2).setCell ⟨g, 3, none⟩ v3).setCell ⟨g, 4, none⟩ v4).setCell ⟨g, 5, none⟩ v5).heap[k]? = w.heap[k]? := by
  rw [hb_ne _ hk, hb_ne _ hk, hb_ne _ hk, hb_ne _ hk, hb_ne _ hk, hb_ne _ hk]
theorem six_below {B : Nat} {w w' : World} {g : Nat} (h : Below B w w') (hg : B ≤ g) (v0 v1 v2 v3 v4 v5 : Value) :
    Below B w ((((((w'.setCell ⟨g, 0, none⟩ v0).setCell ⟨g, 1, none⟩ v1).setCell ⟨g, 2, none⟩ v2).setCell ⟨g, 3, none⟩ v3).setCell ⟨g, 4, none⟩ v4).setCell ⟨g, 5, none⟩ v5) :=
  (((((h.setCell hg _).setCell hg _).setCell hg _).setCell hg _).setCell hg _).setCell hg _
theorem placesOf_bad (v : Value) (ps : List Int) (bs : List Blk) (s : ByteArray) (w : World) (hG : goodBo ps bs = false) (h : Bo w v ps bs) :
    Calls Try.prog 86 #[v, .string s] w fun e w' => e = .returned (.tuple #[(.agg #[.int .i64 0, .int .i64 0, .int .i64 0, .int .i64 0, .int .i64 0, .int .i64 0]), .bool false]) ∧ Below w.heap.size w w' := by
  have h0 := Lib.hid h
  obtain ⟨pv, bv, rfl, ⟨p, c, rfl, -, -⟩, ⟨p2, c2, rfl, -, -⟩⟩ := h
  obtain ⟨w2, hw2⟩ : ∃ w2, Hid (w2 = (w.alloc (.cells #[.slice p ps.length c, .slice p2 bs.length c2] 31)).alloc (.cells #[.int .i64 0, .int .i64 0, .int .i64 0, .int .i64 0, .int .i64 0, .int .i64 0] 68)) := ⟨_, Lib.hid rfl⟩
  have hb2 : Hid (Below w.heap.size w w2) := Lib.hid (by rw [hw2.out]; exact (ba1 w _).alloc (by simp) _)
  have R := Lib.hid (show w2.heap[w.heap.size + 1]? = some (.cells #[.int .i64 0, .int .i64 0, .int .i64 0, .int .i64 0, .int .i64 0, .int .i64 0] 68) by rw [hw2.out]; exact hb_new' _ _ _ (by simp))
  have hA := Lib.hid (AreBolts_any _ ps bs w2 (h0.out.below hb2.out))
  rw [hG] at hA
  clear hG
  generalize ps.length = n at *
  generalize bs.length = m at *
  go_enter Try.func86, Try.ntmps86
  go_wp2_with fail
  rw [← hw2.out]
  refine hA.out.mono ?_; rintro e w3 ⟨rfl, hb3⟩
  have R3 := Lib.hid (hb_below hb3 (hb_lt R.out) R.out)
  have r := hb_cell R3.out
  have z := hb_frozen R3.out
  have hl := hb_lt R3.out
  have hb3 := Lib.hid (bt1 hb2.out hb3)
  obtain ⟨w4, hw4⟩ : ∃ w4, Hid (w4 = ((((((w3.setCell ⟨w.heap.size + 1, 0, none⟩ (.int .i64 0)).setCell ⟨w.heap.size + 1, 1, none⟩ (.int .i64 0)).setCell ⟨w.heap.size + 1, 2, none⟩ (.int .i64 0)).setCell ⟨w.heap.size + 1, 3, none⟩ (.int .i64 0)).setCell ⟨w.heap.size + 1, 4, none⟩ (.int .i64 0)).setCell ⟨w.heap.size + 1, 5, none⟩ (.int .i64 0))) := ⟨_, Lib.hid rfl⟩
  have Z4 := Lib.hid (show w4.heap[w.heap.size + 1]? = some (.cells #[.int .i64 0, .int .i64 0, .int .i64 0, .int .i64 0, .int .i64 0, .int .i64 0] 68) by rw [hw4.out]; exact six_at R3.out _ _ _ _ _ _)
  have hb4 := Lib.hid (show Below w.heap.size w w4 by rw [hw4.out]; exact six_below hb3.out (by omega) _ _ _ _ _ _)
  go_wp2_with fail
  rw [← hw4.out]
  refine bodyPost_ret (v := .tuple #[(.agg #[.int .i64 0, .int .i64 0, .int .i64 0, .int .i64 0, .int .i64 0, .int .i64 0]), .bool false]) ?_ rfl ⟨rfl, hb4.out⟩
  have c := hb_cell Z4.out
  have l := hb_lt Z4.out
  simp [results, Try.results86, go_sem, c, l]
/-- the places that the signs of a text tell -/
def dN (s : ByteArray) : List Nat := s.data.toList.map fun c => c.toNat - 48
theorem dN_len (s : ByteArray) : (dN s).length = s.size := by unfold dN; rw [List.length_map]; exact Array.length_toList
theorem dN_get (s : ByteArray) (k : Nat) (h : k < s.size) : (dN s).getD k 0 = s[k].toNat - 48 := by
  rw [getD_eq _ _ _ (by rw [dN_len]; exact h)]
  unfold dN
  simp only [List.getElem_map]
  rfl
theorem dN_tS {ps : List Nat} {bs : List Blk} (hG : GB ps bs) {d : List Nat} (h : isSt ps d) : dN (tS d) = d := by
  apply List.ext_getElem
  · rw [dN_len, tS_size]
  · intro i h1 h2
    have hs : i < (tS d).size := by rwa [tS_size]
    have hi : i < ps.length := by rw [← h.1]; exact h2
    have := h.2 i hi
    have := (hG.p i hi).2
    rw [← getD_eq _ _ 0 h1, dN_get _ _ hs, tS_get, u8_dig _ (by omega), getD_eq _ _ _ h2]
    omega
theorem hasB_nat {ps : List Nat} (k : Nat) (hk : k < ps.length) (y : Int) : hasB (ints ps) (k : Int) y = (decide (0 ≤ y) && decide (y < ((ps.getD k 1 : Nat) : Int))) := by
  unfold hasB
  rw [show ((k : Int)).toNat = k from by omega, ints_getD _ _ _ hk, decide_eq_true (show (0 : Int) ≤ (k : Int) by omega), decide_eq_true (show (k : Int) < ((ints ps).length : Int) by simp; omega)]
  simp
theorem placesOf_len (v : Value) (ps : List Nat) (bs : List Blk) (s : ByteArray) (w : World) (hG : GB ps bs) (h : Bo w v (ints ps) bs) (hs : s.size ≤ maxLen) (hne : s.size ≠ ps.length) :
    Calls Try.prog 86 #[v, .string s] w fun e w' => e = .returned (.tuple #[(.agg #[.int .i64 0, .int .i64 0, .int .i64 0, .int .i64 0, .int .i64 0, .int .i64 0]), .bool false]) ∧ Below w.heap.size w w' := by
  have h0 := Lib.hid h
  obtain ⟨pv, bv, rfl, ⟨p, c, rfl, -, -⟩, ⟨p2, c2, rfl, -, -⟩⟩ := h
  unfold maxLen at hs
  have hln : (ints ps).length = ps.length := by simp
  rw [hln] at h0 ⊢; clear hln
  obtain ⟨w2, hw2⟩ : ∃ w2, Hid (w2 = (w.alloc (.cells #[.slice p ps.length c, .slice p2 bs.length c2] 31)).alloc (.cells #[.int .i64 0, .int .i64 0, .int .i64 0, .int .i64 0, .int .i64 0, .int .i64 0] 68)) := ⟨_, Lib.hid rfl⟩
  have hb2 : Hid (Below w.heap.size w w2) := Lib.hid (by rw [hw2.out]; exact (ba1 w _).alloc (by simp) _)
  have F := Lib.hid (show w2.heap[w.heap.size]? = some (.cells #[.slice p ps.length c, .slice p2 bs.length c2] 31) by rw [hw2.out]; exact hb_old _ (hb_new _ _))
  have R := Lib.hid (show w2.heap[w.heap.size + 1]? = some (.cells #[.int .i64 0, .int .i64 0, .int .i64 0, .int .i64 0, .int .i64 0, .int .i64 0] 68) by rw [hw2.out]; exact hb_new' _ _ _ (by simp))
  have hA := Lib.hid (AreBolts_any _ (ints ps) bs w2 (h0.out.below hb2.out))
  rw [hG.good] at hA
  have h6 := hG.l6
  have h40 := hG.b
  generalize ps.length = n at *
  generalize bs.length = m at *
  have hni : ((s.size : Int) != (n : Int)) = true := by simp; omega
  clear hG hne
  go_enter Try.func86, Try.ntmps86
  go_wp2_with fail
  rw [← hw2.out]
  refine hA.out.mono ?_; rintro e w3 ⟨rfl, hb3⟩
  have F3 := Lib.hid (hb_below hb3 (hb_lt F.out) F.out)
  have R3 := Lib.hid (hb_below hb3 (hb_lt R.out) R.out)
  have f0 : w3.cell? ⟨w.heap.size, 0, none⟩ = some (.slice p n c) := hb_cell F3.out 0
  have r := hb_cell R3.out
  have z := hb_frozen R3.out
  have hl := hb_lt R3.out
  replace hb3 := Lib.hid (bt1 hb2.out hb3)
  obtain ⟨w4, hw4⟩ : ∃ w4, Hid (w4 = ((((((w3.setCell ⟨w.heap.size + 1, 0, none⟩ (.int .i64 0)).setCell ⟨w.heap.size + 1, 1, none⟩ (.int .i64 0)).setCell ⟨w.heap.size + 1, 2, none⟩ (.int .i64 0)).setCell ⟨w.heap.size + 1, 3, none⟩ (.int .i64 0)).setCell ⟨w.heap.size + 1, 4, none⟩ (.int .i64 0)).setCell ⟨w.heap.size + 1, 5, none⟩ (.int .i64 0))) := ⟨_, Lib.hid rfl⟩
  have Z4 := Lib.hid (show w4.heap[w.heap.size + 1]? = some (.cells #[.int .i64 0, .int .i64 0, .int .i64 0, .int .i64 0, .int .i64 0, .int .i64 0] 68) by rw [hw4.out]; exact six_at R3.out _ _ _ _ _ _)
  have hb4 := Lib.hid (show Below w.heap.size w w4 by rw [hw4.out]; exact six_below hb3.out (by omega) _ _ _ _ _ _)
  go_wp2_with fail
  rw [← hw4.out]
  refine bodyPost_ret (v := .tuple #[(.agg #[.int .i64 0, .int .i64 0, .int .i64 0, .int .i64 0, .int .i64 0, .int .i64 0]), .bool false]) ?_ rfl ⟨rfl, hb4.out⟩
  have c := hb_cell Z4.out
  have l := hb_lt Z4.out
  simp [results, Try.results86, go_sem, c, l]
set_option maxHeartbeats 1000000 in
theorem placesOf_yes (v : Value) (ps : List Nat) (bs : List Blk) (s : ByteArray) (w : World) (hG : GB ps bs) (h : Bo w v (ints ps) bs) (hs : s.size = ps.length) (hI : isText ps s = true) :
    Calls Try.prog 86 #[v, .string s] w fun e w' => e = .returned (.tuple #[(.agg #[.int .i64 ((pl ((dN s)) 0 : Nat) : Int), .int .i64 ((pl ((dN s)) 1 : Nat) : Int), .int .i64 ((pl ((dN s)) 2 : Nat) : Int), .int .i64 ((pl ((dN s)) 3 : Nat) : Int), .int .i64 ((pl ((dN s)) 4 : Nat) : Int), .int .i64 ((pl ((dN s)) 5 : Nat) : Int)]), .bool true]) ∧ Below w.heap.size w w' := by
  have h0 := Lib.hid h
  obtain ⟨pv, bv, rfl, ⟨p, c, rfl, -, -⟩, ⟨p2, c2, rfl, -, -⟩⟩ := h
  have hln : (ints ps).length = ps.length := by simp
  rw [hln] at h0 ⊢; clear hln
  obtain ⟨w2, hw2⟩ : ∃ w2, Hid (w2 = (w.alloc (.cells #[.slice p ps.length c, .slice p2 bs.length c2] 31)).alloc (.cells #[.int .i64 0, .int .i64 0, .int .i64 0, .int .i64 0, .int .i64 0, .int .i64 0] 68)) := ⟨_, Lib.hid rfl⟩
  have hb2 : Hid (Below w.heap.size w w2) := Lib.hid (by rw [hw2.out]; exact (ba1 w _).alloc (by simp) _)
  have F := Lib.hid (show w2.heap[w.heap.size]? = some (.cells #[.slice p ps.length c, .slice p2 bs.length c2] 31) by rw [hw2.out]; exact hb_old _ (hb_new _ _))
  have R := Lib.hid (show w2.heap[w.heap.size + 1]? = some (.cells #[.int .i64 0, .int .i64 0, .int .i64 0, .int .i64 0, .int .i64 0, .int .i64 0] 68) by rw [hw2.out]; exact hb_new' _ _ _ (by simp))
  have hA := Lib.hid (AreBolts_any _ (ints ps) bs w2 (h0.out.below hb2.out))
  rw [hG.good] at hA
  have h6 := hG.l6
  have h40 := hG.b
  replace hs := Lib.hid hs
  have hyes := Lib.hid (isText_yes (ps := ps) (s := s) hs.out)
  have hno := Lib.hid (fun k hk => isText_no (ps := ps) (s := s) k hk hs.out)
  rw [hI] at hyes hno
  have hdig := Lib.hid (fun w' => digitsOf_any s w' (by have := hs.out; omega))
  obtain ⟨n, hn⟩ : ∃ n, ps.length = n := ⟨_, rfl⟩
  have hsz : s.size = n := by rw [← hn]; exact hs.out
  rw [hn] at h0 hw2 F hA h6 ⊢
  have hHas := Lib.hid (fun w' hb k (hk : k < n) y => (hasB_nat (ps := ps) k (by rw [hn]; exact hk) y) ▸ hasP_any _ (k : Int) y (ints ps) bs w' (h0.out.below hb))
  replace hn := Lib.hid hn
  have hdl := Lib.hid (dN_len s)
  have hdg := Lib.hid (dN_get s)
  have hil := Lib.hid (dgI_len s)
  have hig := Lib.hid (dgI_get s)
  generalize dN s = d at *
  replace hG := Lib.hid hG
  generalize bs.length = m at *
  have hni : ((n : Int) != (n : Int)) = false := by simp
  have hszn : (s.size : Int) = (n : Int) := by omega
  clear hI
  go_enter Try.func86, Try.ntmps86
  go_wp2_with fail
  rw [← hw2.out]
  refine hA.out.mono ?_; rintro e w3 ⟨rfl, hb3⟩
  have F3 := Lib.hid (hb_below hb3 (hb_lt F.out) F.out)
  have R3 := Lib.hid (hb_below hb3 (hb_lt R.out) R.out)
  have f0 : w3.cell? ⟨w.heap.size, 0, none⟩ = some (.slice p n c) := hb_cell F3.out 0
  replace hb3 := Lib.hid (bt1 hb2.out hb3)
  obtain ⟨w4, hw4⟩ : ∃ w4, Hid (w4 = w3.alloc (.cells #[.int .i64 0, .int .i64 0, .int .i64 0, .int .i64 0, .int .i64 0, .int .i64 0] 68)) := ⟨_, Lib.hid rfl⟩
  have hb4 := Lib.hid (show Below w3.heap.size w3 w4 by rw [hw4.out]; exact ba1 w3 _)
  have A4 := Lib.hid (show w4.heap[w3.heap.size]? = some (.cells #[.int .i64 0, .int .i64 0, .int .i64 0, .int .i64 0, .int .i64 0, .int .i64 0] 68) by rw [hw4.out]; exact hb_new _ _)
  go_wp2_with fail
  rw [← hw4.out]
  refine (hdig.out w4).mono ?_; rintro e w5 ⟨dv, rfl, ho5, hb5⟩
  have A5 := Lib.hid (hb_below hb5 (hb_lt A4.out) A4.out)
  have F5 := Lib.hid (hb_below (bt1 hb4.out hb5) (hb_lt F3.out) F3.out)
  have R5 := Lib.hid (hb_below (bt1 hb4.out hb5) (hb_lt R3.out) R3.out)
  have hb45 := Lib.hid (bt1 hb3.out (bt1 hb4.out hb5))
  obtain ⟨dp, dc, rfl⟩ : ∃ p c, dv = .slice p n c := by
    obtain ⟨p, c, e, _⟩ := ho5.rd
    exact ⟨p, c, by rw [e, hil.out, hsz]⟩
  replace ho5 := Lib.hid ho5
  have hl45 : w4.heap.size ≤ w5.heap.size := hb5.size
  have hl34 : w3.heap.size < w4.heap.size := hb_lt A4.out
  have hw34 : w3.heap.size < w5.heap.size := hb_lt A5.out
  have hwF : w.heap.size < w3.heap.size := hb_lt F3.out
  have hwR : w.heap.size + 1 < w3.heap.size := hb_lt R3.out
  clear f0 hb5
  go_wp2_with fail
  go_loopw [7, 8, 24] (fun _ _ i wr => ∃ k : Nat, k ≤ n ∧ i = .int .i64 k ∧ Hid (wr.heap[w3.heap.size]? = some (.cells #[.int .i64 ((pl ((d.take k)) 0 : Nat) : Int), .int .i64 ((pl ((d.take k)) 1 : Nat) : Int), .int .i64 ((pl ((d.take k)) 2 : Nat) : Int), .int .i64 ((pl ((d.take k)) 3 : Nat) : Int), .int .i64 ((pl ((d.take k)) 4 : Nat) : Int), .int .i64 ((pl ((d.take k)) 5 : Nat) : Int)] 68)) ∧ Hid (∀ j (hj : j < s.size), j < k → 48 ≤ s[j].toNat ∧ s[j].toNat < 48 + ps.getD j 1) ∧ Hid (w5.grownBy wr (some w3.heap.size))) (fun _ _ i _ => n - (intOf i).toNat)
  case atStart => exact ⟨0, Nat.zero_le _, rfl, Lib.hid (by rw [arc_zero]; exact A5.out), Lib.hid (fun j _ hj => by omega), Lib.hid (World.grownBy.refl _ _)⟩
  case round =>
    obtain ⟨k, hk, rfl, hat, ha, hbr⟩ := hrel
    have Fr := Lib.hid (grown_heap hbr.out (by omega) F5.out)
    have Rr := Lib.hid (grown_heap hbr.out (by omega) R5.out)
    have hbwr := Lib.hid (hb45.out.grown hbr.out hb45.out.size (fun j e => by cases e; omega))
    have hor := Lib.hid (ho5.out.grown hbr.out hl34)
    have hlA : w3.heap.size < wr.heap.size := hb_lt hat.out
    by_cases hlt : k < n
    · have hkp : k < ps.length := by rw [hn.out]; exact hlt
      have hks : k < s.size := by omega
      obtain ⟨g, rfl, hgl, hc⟩ := hor.out.ri.at (k := k) (by rw [hil.out]; exact hks)
      rw [hig.out k hks] at hc
      have f0 : wr.cell? ⟨w.heap.size, 0, none⟩ = some (.slice p n c) := hb_cell Fr.out 0
      have f1 : wr.cell? ⟨w.heap.size, 1, none⟩ = some (.slice p2 m c2) := hb_cell Fr.out 1
      have hpk := hG.out.p k hkp
      have hnk := Lib.hid (hno.out k hkp)
      have hdk := Lib.hid (hdg.out k hks)
      have hak := Lib.hid (fun (hh : 48 ≤ s[k].toNat ∧ s[k].toNat < 48 + ps.getD k 1) j (hj : j < s.size) (hjk : j < k + 1) => show 48 ≤ s[j].toNat ∧ s[j].toNat < 48 + ps.getD j 1 by
        by_cases e : j = k
        · subst e; exact hh
        · exact ha.out j hj (by omega))
      have hHk := Lib.hid (hHas.out wr hbwr.out k hlt ((s[k].toNat : Int) - 48))
      have hb8 := s[k].toNat_lt
      clear hno
      generalize ps.getD k 1 = x at *
      generalize hcv : s[k].toNat = y at *
      have hsetk := Lib.hid (arc_set d k (by omega))
      by_cases hin : 48 ≤ y ∧ y < 48 + x
      · obtain ⟨h1, h2⟩ := hin
        have hB : (decide ((0 : Int) ≤ (y : Int) - 48) && decide ((y : Int) - 48 < (x : Int))) = true := by simp; omega
        rw [hB] at hHk
        clear hB
        go_wp2_with fail
        refine hHk.out.mono ?_; rintro e w6 ⟨rfl, hb6⟩
        have A6 := Lib.hid (hb_below hb6 hlA hat.out)
        have z6 := hb_frozen A6.out
        have c6 := arc_cell A6.out k (by omega)
        have hl6 := hb_lt A6.out
        have hkA : w3.heap.size < w6.heap.size := hl6
        have hg6 := Lib.hid (hbr.out.trans (grown_any hb6 (some w3.heap.size)))
        have hset := Lib.hid (hb_set (i := k) A6.out (.int .i64 ((pl d k : Nat) : Int)))
        rw [hsetk.out] at hset
        have hdv : (y : Int) - 48 = ((pl d k : Nat) : Int) := by have h9 : pl d k = y - 48 := hdk.out; omega
        rw [← hdv] at hset
        replace hdv := Lib.hid hdv
        clear hb6
        generalize pl d k = zz at c6
        go_wp2_with fail
        go_roundw
        case rel => exact ⟨k + 1, by omega, by go_num, Lib.hid hset.out, Lib.hid (hak.out ⟨h1, h2⟩), Lib.hid (hg6.out.trans (grown_set _ _ _ _))⟩
        all_goals (simp [intOf] <;> omega)
      · exact absurd (hnk.out (by omega)) (by simp)
    · have hat2 := Lib.hid hat.out
      rw [arc_take d k (by rw [hdl.out]; omega)] at hat2
      have ca := hb_cell hat2.out
      have r := hb_cell Rr.out
      have z := hb_frozen Rr.out
      have hl := hb_lt Rr.out
      obtain ⟨w7, hw7⟩ : ∃ w7, Hid (w7 = ((((((wr.setCell ⟨w.heap.size + 1, 0, none⟩ (.int .i64 ((pl (d) 0 : Nat) : Int))).setCell ⟨w.heap.size + 1, 1, none⟩ (.int .i64 ((pl (d) 1 : Nat) : Int))).setCell ⟨w.heap.size + 1, 2, none⟩ (.int .i64 ((pl (d) 2 : Nat) : Int))).setCell ⟨w.heap.size + 1, 3, none⟩ (.int .i64 ((pl (d) 3 : Nat) : Int))).setCell ⟨w.heap.size + 1, 4, none⟩ (.int .i64 ((pl (d) 4 : Nat) : Int))).setCell ⟨w.heap.size + 1, 5, none⟩ (.int .i64 ((pl (d) 5 : Nat) : Int)))) := ⟨_, Lib.hid rfl⟩
      have Z7 := Lib.hid (show w7.heap[w.heap.size + 1]? = some (.cells #[.int .i64 ((pl (d) 0 : Nat) : Int), .int .i64 ((pl (d) 1 : Nat) : Int), .int .i64 ((pl (d) 2 : Nat) : Int), .int .i64 ((pl (d) 3 : Nat) : Int), .int .i64 ((pl (d) 4 : Nat) : Int), .int .i64 ((pl (d) 5 : Nat) : Int)] 68) by rw [hw7.out]; exact six_at Rr.out _ _ _ _ _ _)
      have hb7 := Lib.hid (show Below w.heap.size w w7 by rw [hw7.out]; exact six_below hbwr.out (by omega) _ _ _ _ _ _)
      go_wp2_with fail
      rw [← hw7.out]
      refine bodyPost_ret (v := .tuple #[(.agg #[.int .i64 ((pl (d) 0 : Nat) : Int), .int .i64 ((pl (d) 1 : Nat) : Int), .int .i64 ((pl (d) 2 : Nat) : Int), .int .i64 ((pl (d) 3 : Nat) : Int), .int .i64 ((pl (d) 4 : Nat) : Int), .int .i64 ((pl (d) 5 : Nat) : Int)]), .bool true]) ?_ rfl ⟨rfl, hb7.out⟩
      have c := hb_cell Z7.out
      have l := hb_lt Z7.out
      simp [results, Try.results86, go_sem, c, l]
set_option maxHeartbeats 1000000 in
theorem placesOf_no (v : Value) (ps : List Nat) (bs : List Blk) (s : ByteArray) (w : World) (hG : GB ps bs) (h : Bo w v (ints ps) bs) (hs : s.size = ps.length) (hI : isText ps s = false) :
    Calls Try.prog 86 #[v, .string s] w fun e w' => e = .returned (.tuple #[(.agg #[.int .i64 0, .int .i64 0, .int .i64 0, .int .i64 0, .int .i64 0, .int .i64 0]), .bool false]) ∧ Below w.heap.size w w' := by
  have h0 := Lib.hid h
  obtain ⟨pv, bv, rfl, ⟨p, c, rfl, -, -⟩, ⟨p2, c2, rfl, -, -⟩⟩ := h
  have hln : (ints ps).length = ps.length := by simp
  rw [hln] at h0 ⊢; clear hln
  obtain ⟨w2, hw2⟩ : ∃ w2, Hid (w2 = (w.alloc (.cells #[.slice p ps.length c, .slice p2 bs.length c2] 31)).alloc (.cells #[.int .i64 0, .int .i64 0, .int .i64 0, .int .i64 0, .int .i64 0, .int .i64 0] 68)) := ⟨_, Lib.hid rfl⟩
  have hb2 : Hid (Below w.heap.size w w2) := Lib.hid (by rw [hw2.out]; exact (ba1 w _).alloc (by simp) _)
  have F := Lib.hid (show w2.heap[w.heap.size]? = some (.cells #[.slice p ps.length c, .slice p2 bs.length c2] 31) by rw [hw2.out]; exact hb_old _ (hb_new _ _))
  have R := Lib.hid (show w2.heap[w.heap.size + 1]? = some (.cells #[.int .i64 0, .int .i64 0, .int .i64 0, .int .i64 0, .int .i64 0, .int .i64 0] 68) by rw [hw2.out]; exact hb_new' _ _ _ (by simp))
  have hA := Lib.hid (AreBolts_any _ (ints ps) bs w2 (h0.out.below hb2.out))
  rw [hG.good] at hA
  have h6 := hG.l6
  have h40 := hG.b
  replace hs := Lib.hid hs
  have hyes := Lib.hid (isText_yes (ps := ps) (s := s) hs.out)
  have hno := Lib.hid (fun k hk => isText_no (ps := ps) (s := s) k hk hs.out)
  rw [hI] at hyes hno
  have hdig := Lib.hid (fun w' => digitsOf_any s w' (by have := hs.out; omega))
  obtain ⟨n, hn⟩ : ∃ n, ps.length = n := ⟨_, rfl⟩
  have hsz : s.size = n := by rw [← hn]; exact hs.out
  rw [hn] at h0 hw2 F hA h6 ⊢
  have hHas := Lib.hid (fun w' hb k (hk : k < n) y => (hasB_nat (ps := ps) k (by rw [hn]; exact hk) y) ▸ hasP_any _ (k : Int) y (ints ps) bs w' (h0.out.below hb))
  replace hn := Lib.hid hn
  have hdl := Lib.hid (dN_len s)
  have hdg := Lib.hid (dN_get s)
  have hil := Lib.hid (dgI_len s)
  have hig := Lib.hid (dgI_get s)
  generalize dN s = d at *
  replace hG := Lib.hid hG
  generalize bs.length = m at *
  have hni : ((n : Int) != (n : Int)) = false := by simp
  have hszn : (s.size : Int) = (n : Int) := by omega
  clear hI
  go_enter Try.func86, Try.ntmps86
  go_wp2_with fail
  rw [← hw2.out]
  refine hA.out.mono ?_; rintro e w3 ⟨rfl, hb3⟩
  have F3 := Lib.hid (hb_below hb3 (hb_lt F.out) F.out)
  have R3 := Lib.hid (hb_below hb3 (hb_lt R.out) R.out)
  have f0 : w3.cell? ⟨w.heap.size, 0, none⟩ = some (.slice p n c) := hb_cell F3.out 0
  replace hb3 := Lib.hid (bt1 hb2.out hb3)
  obtain ⟨w4, hw4⟩ : ∃ w4, Hid (w4 = w3.alloc (.cells #[.int .i64 0, .int .i64 0, .int .i64 0, .int .i64 0, .int .i64 0, .int .i64 0] 68)) := ⟨_, Lib.hid rfl⟩
  have hb4 := Lib.hid (show Below w3.heap.size w3 w4 by rw [hw4.out]; exact ba1 w3 _)
  have A4 := Lib.hid (show w4.heap[w3.heap.size]? = some (.cells #[.int .i64 0, .int .i64 0, .int .i64 0, .int .i64 0, .int .i64 0, .int .i64 0] 68) by rw [hw4.out]; exact hb_new _ _)
  go_wp2_with fail
  rw [← hw4.out]
  refine (hdig.out w4).mono ?_; rintro e w5 ⟨dv, rfl, ho5, hb5⟩
  have A5 := Lib.hid (hb_below hb5 (hb_lt A4.out) A4.out)
  have F5 := Lib.hid (hb_below (bt1 hb4.out hb5) (hb_lt F3.out) F3.out)
  have R5 := Lib.hid (hb_below (bt1 hb4.out hb5) (hb_lt R3.out) R3.out)
  have hb45 := Lib.hid (bt1 hb3.out (bt1 hb4.out hb5))
  obtain ⟨dp, dc, rfl⟩ : ∃ p c, dv = .slice p n c := by
    obtain ⟨p, c, e, _⟩ := ho5.rd
    exact ⟨p, c, by rw [e, hil.out, hsz]⟩
  replace ho5 := Lib.hid ho5
  have hl45 : w4.heap.size ≤ w5.heap.size := hb5.size
  have hl34 : w3.heap.size < w4.heap.size := hb_lt A4.out
  have hw34 : w3.heap.size < w5.heap.size := hb_lt A5.out
  have hwF : w.heap.size < w3.heap.size := hb_lt F3.out
  have hwR : w.heap.size + 1 < w3.heap.size := hb_lt R3.out
  clear f0 hb5
  go_wp2_with fail
  go_loopw [7, 8, 24] (fun _ _ i wr => ∃ k : Nat, k ≤ n ∧ i = .int .i64 k ∧ Hid (wr.heap[w3.heap.size]? = some (.cells #[.int .i64 ((pl ((d.take k)) 0 : Nat) : Int), .int .i64 ((pl ((d.take k)) 1 : Nat) : Int), .int .i64 ((pl ((d.take k)) 2 : Nat) : Int), .int .i64 ((pl ((d.take k)) 3 : Nat) : Int), .int .i64 ((pl ((d.take k)) 4 : Nat) : Int), .int .i64 ((pl ((d.take k)) 5 : Nat) : Int)] 68)) ∧ Hid (∀ j (hj : j < s.size), j < k → 48 ≤ s[j].toNat ∧ s[j].toNat < 48 + ps.getD j 1) ∧ Hid (w5.grownBy wr (some w3.heap.size))) (fun _ _ i _ => n - (intOf i).toNat)
  case atStart => exact ⟨0, Nat.zero_le _, rfl, Lib.hid (by rw [arc_zero]; exact A5.out), Lib.hid (fun j _ hj => by omega), Lib.hid (World.grownBy.refl _ _)⟩
  case round =>
    obtain ⟨k, hk, rfl, hat, ha, hbr⟩ := hrel
    have Fr := Lib.hid (grown_heap hbr.out (by omega) F5.out)
    have Rr := Lib.hid (grown_heap hbr.out (by omega) R5.out)
    have hbwr := Lib.hid (hb45.out.grown hbr.out hb45.out.size (fun j e => by cases e; omega))
    have hor := Lib.hid (ho5.out.grown hbr.out hl34)
    have hlA : w3.heap.size < wr.heap.size := hb_lt hat.out
    by_cases hlt : k < n
    · have hkp : k < ps.length := by rw [hn.out]; exact hlt
      have hks : k < s.size := by omega
      obtain ⟨g, rfl, hgl, hc⟩ := hor.out.ri.at (k := k) (by rw [hil.out]; exact hks)
      rw [hig.out k hks] at hc
      have f0 : wr.cell? ⟨w.heap.size, 0, none⟩ = some (.slice p n c) := hb_cell Fr.out 0
      have f1 : wr.cell? ⟨w.heap.size, 1, none⟩ = some (.slice p2 m c2) := hb_cell Fr.out 1
      have hpk := hG.out.p k hkp
      have hnk := Lib.hid (hno.out k hkp)
      have hdk := Lib.hid (hdg.out k hks)
      have hak := Lib.hid (fun (hh : 48 ≤ s[k].toNat ∧ s[k].toNat < 48 + ps.getD k 1) j (hj : j < s.size) (hjk : j < k + 1) => show 48 ≤ s[j].toNat ∧ s[j].toNat < 48 + ps.getD j 1 by
        by_cases e : j = k
        · subst e; exact hh
        · exact ha.out j hj (by omega))
      have hHk := Lib.hid (hHas.out wr hbwr.out k hlt ((s[k].toNat : Int) - 48))
      have hb8 := s[k].toNat_lt
      clear hno
      generalize ps.getD k 1 = x at *
      generalize hcv : s[k].toNat = y at *
      have hsetk := Lib.hid (arc_set d k (by omega))
      by_cases hin : 48 ≤ y ∧ y < 48 + x
      · obtain ⟨h1, h2⟩ := hin
        have hB : (decide ((0 : Int) ≤ (y : Int) - 48) && decide ((y : Int) - 48 < (x : Int))) = true := by simp; omega
        rw [hB] at hHk
        clear hB
        go_wp2_with fail
        refine hHk.out.mono ?_; rintro e w6 ⟨rfl, hb6⟩
        have A6 := Lib.hid (hb_below hb6 hlA hat.out)
        have z6 := hb_frozen A6.out
        have c6 := arc_cell A6.out k (by omega)
        have hl6 := hb_lt A6.out
        have hkA : w3.heap.size < w6.heap.size := hl6
        have hg6 := Lib.hid (hbr.out.trans (grown_any hb6 (some w3.heap.size)))
        have hset := Lib.hid (hb_set (i := k) A6.out (.int .i64 ((pl d k : Nat) : Int)))
        rw [hsetk.out] at hset
        have hdv : (y : Int) - 48 = ((pl d k : Nat) : Int) := by have h9 : pl d k = y - 48 := hdk.out; omega
        rw [← hdv] at hset
        replace hdv := Lib.hid hdv
        clear hb6
        generalize pl d k = zz at c6
        go_wp2_with fail
        go_roundw
        case rel => exact ⟨k + 1, by omega, by go_num, Lib.hid hset.out, Lib.hid (hak.out ⟨h1, h2⟩), Lib.hid (hg6.out.trans (grown_set _ _ _ _))⟩
        all_goals (simp [intOf] <;> omega)
      · have hB : (decide ((0 : Int) ≤ (y : Int) - 48) && decide ((y : Int) - 48 < (x : Int))) = false := by
          rw [← Bool.not_eq_true, Bool.and_eq_true, decide_eq_true_eq, decide_eq_true_eq]; omega
        rw [hB] at hHk
        clear hB
        go_wp2_with fail
        refine hHk.out.mono ?_; rintro e w6 ⟨rfl, hb6⟩
        have R6 := Lib.hid (hb_below hb6 (hb_lt Rr.out) Rr.out)
        have r := hb_cell R6.out
        have z := hb_frozen R6.out
        have hl := hb_lt R6.out
        have hbw6 := Lib.hid (bt1 hbwr.out hb6)
        obtain ⟨w7, hw7⟩ : ∃ w7, Hid (w7 = ((((((w6.setCell ⟨w.heap.size + 1, 0, none⟩ (.int .i64 0)).setCell ⟨w.heap.size + 1, 1, none⟩ (.int .i64 0)).setCell ⟨w.heap.size + 1, 2, none⟩ (.int .i64 0)).setCell ⟨w.heap.size + 1, 3, none⟩ (.int .i64 0)).setCell ⟨w.heap.size + 1, 4, none⟩ (.int .i64 0)).setCell ⟨w.heap.size + 1, 5, none⟩ (.int .i64 0))) := ⟨_, Lib.hid rfl⟩
        have Z7 := Lib.hid (show w7.heap[w.heap.size + 1]? = some (.cells #[.int .i64 0, .int .i64 0, .int .i64 0, .int .i64 0, .int .i64 0, .int .i64 0] 68) by rw [hw7.out]; exact six_at R6.out _ _ _ _ _ _)
        have hb7 := Lib.hid (show Below w.heap.size w w7 by rw [hw7.out]; exact six_below hbw6.out (by omega) _ _ _ _ _ _)
        clear hb6
        go_wp2_with fail
        rw [← hw7.out]
        refine bodyPost_ret (v := .tuple #[(.agg #[.int .i64 0, .int .i64 0, .int .i64 0, .int .i64 0, .int .i64 0, .int .i64 0]), .bool false]) ?_ rfl ⟨rfl, hb7.out⟩
        have c := hb_cell Z7.out
        have l := hb_lt Z7.out
        simp [results, Try.results86, go_sem, c, l]
    · exact absurd (hyes.out (fun j hj => ha.out j (by have := hn.out; omega) (by have := hn.out; omega))) (by simp)
end Go.Proofs.Ytcfeaaakfjilgaa
