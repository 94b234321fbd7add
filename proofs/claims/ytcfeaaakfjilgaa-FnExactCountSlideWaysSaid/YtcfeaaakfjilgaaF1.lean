/- All states that are allowed, by the model. -/
import Derived.Test.YtcfeaaakfjilgaaE5
import Derived.Test.YtcfeaaakfjilgaaBytes
namespace Go.Proofs.Ytcfeaaakfjilgaa
open Go Go.RowKit RM
theorem own_dig (w : World) (x : Nat) (hx : x ≤ 9) : OwnB (w.alloc (.cells #[.int .u8 (48 + (x : Int))] 5)) w.heap.size (.slice (some ⟨w.heap.size, 0, none⟩) 1 1) [UInt8.ofNat (48 + x)] := by
  refine ⟨rfl, .inr ⟨_, 1, #[.int .u8 (48 + (x : Int))], rfl, Nat.le_refl _, hb_new _ _, Nat.le_refl _, by decide, rfl, ?_⟩⟩
  have e : ((UInt8.ofNat (48 + x)).toNat : Int) = 48 + (x : Int) := by rw [u8_dig x hx]; omega
  show [Value.int .u8 (48 + (x : Int))] = [Value.int .u8 ((UInt8.ofNat (48 + x)).toNat : Int)]
  rw [e]
theorem tS_app (d e : List Nat) : tS (d ++ e) = tS d ++ tS e := by
  apply ByteArray.ext
  simp [tS]
set_option maxRecDepth 100000 in
theorem l1Num_dig (x : Nat) (w : World) (hx : x ≤ 9) : Calls Try.prog 81 #[.int .i64 x] w fun e w' => e = .returned (.string (tS [x])) ∧ Below w.heap.size w w' := by
  have hcv := str_byte _ _ _ _ 1 _ (own_dig w x hx) rfl
  have hu : IntKind.u8.wrap (48 + (x : Int)) = 48 + (x : Int) := by rw [IntKind.wrap_u8]; omega
  go_enter Try.func81, Try.ntmps81
  go_wp2
  go_ret; exact ⟨ret_str (by simp [tS]), ba1 w _⟩
theorem dg_step {ps : List Nat} (k n : Nat) (suf : List Nat) : dg ps (k + 1) n ++ suf = dg ps k (n / ps.getD k 1) ++ (n % ps.getD k 1 :: suf) := by
  rw [dg, List.append_assoc]; rfl
theorem boState_any (v : Value) (ps : List Nat) (bs : List Blk) (n : Nat) (w : World) (hG : GB ps bs) (h : Bo w v (ints ps) bs) (hn : n < 1000) :
    Calls Try.prog 66 #[v, .int .i64 n] w fun e w' => e = .returned (.string (tS (dg ps ps.length n))) ∧ Below w.heap.size w w' := by
  obtain ⟨pv, bv, rfl, ⟨p, c, rfl, -, hr⟩, -⟩ := h
  have hln : (ints ps).length = ps.length := by simp
  rw [hln]; clear hln
  have h6 := hG.l6
  have h1 := hG.l1
  have hD := Lib.hid (show dg ps ps.length n ++ [] = dg ps ps.length n by simp)
  have hDl := Lib.hid (dg_len (ps := ps) ps.length n)
  obtain ⟨L, hL⟩ : ∃ L, ps.length = L := ⟨_, rfl⟩
  rw [hL] at h6 h1 hD hDl ⊢
  replace hL := Lib.hid hL
  replace hG := Lib.hid hG
  obtain ⟨w2, hw2⟩ : ∃ w2, Hid (w2 = w.alloc (.cells #[.slice p L c, bv] 31)) := ⟨_, Lib.hid rfl⟩
  have hb2 : Hid (Below w.heap.size w w2) := Lib.hid (by rw [hw2.out]; exact ba1 w _)
  have F := Lib.hid (show w2.heap[w.heap.size]? = some (.cells #[.slice p L c, bv] 31) by rw [hw2.out]; exact hb_new _ _)
  have f0 : w2.cell? ⟨w.heap.size, 0, none⟩ = some (.slice p L c) := hb_cell F.out 0
  have hl2 : w.heap.size < w2.heap.size := hb_lt F.out
  have hr2 := Lib.hid (hr.below hb2.out)
  clear hr
  obtain ⟨T, hT⟩ : ∃ T, Hid (T = dg ps L n) := ⟨_, Lib.hid rfl⟩
  rw [← hT.out] at hDl ⊢
  go_enter Try.func66, Try.ntmps66
  go_wp2_with fail
  rw [← hw2.out]
  go_loopw [1, 5, 6] (fun nn o i wr => ∃ (k n' : Nat) (suf : List Nat), k ≤ L ∧ i = .int .i64 ((k : Int) - 1) ∧ nn = .int .i64 n' ∧ n' < 1000 ∧ o = .string (tS suf) ∧ Hid (dg ps k n' ++ suf = T) ∧ Hid (Below w2.heap.size w2 wr)) (fun _ _ i _ => (intOf i + 1).toNat)
  case atStart => exact ⟨L, n, [], Nat.le_refl _, by first | rfl | simp, rfl, hn, rfl, Lib.hid (by rw [hT.out, List.append_nil]), Lib.hid (Below.refl _ _)⟩
  case round =>
    obtain ⟨k, n', suf, hk, rfl, rfl, hn', rfl, hD', hbr⟩ := hrel
    have hsl : suf.length ≤ 6 := by
      have e := congrArg List.length hD'.out
      rw [List.length_append, hDl.out] at e; omega
    have hts : (tS suf).size ≤ 6 := by rw [tS_size]; exact hsl
    by_cases h0 : k = 0
    · subst h0
      have HF : Hid (tS suf = tS T) := Lib.hid (by rw [← hD'.out]; rfl)
      go_wp2_with fail
      go_ret; exact ⟨ret_str HF.out, bt1 hb2.out hbr.out⟩
    · obtain ⟨j, rfl⟩ : ∃ j, k = j + 1 := ⟨k - 1, by omega⟩
      have hjp : j < ps.length := by rw [hL.out]; omega
      obtain ⟨g, rfl, hgl, hc⟩ := hr2.out.at (k := j) (by simpa using hjp)
      have hx : (ints ps)[j]'(by simpa using hjp) = ((ps.getD j 1 : Nat) : Int) := by simp [List.getD, List.getElem?_eq_getElem hjp]
      rw [hx] at hc
      have hcr : wr.cell? ⟨g, j, none⟩ = some (.int .i64 ((ps.getD j 1 : Nat) : Int)) := by rw [hbr.out.cell (p := ⟨g, j, none⟩) hgl]; exact hc
      have f0r : wr.cell? ⟨w.heap.size, 0, none⟩ = some (.slice (some ⟨g, 0, none⟩) L c) := hb_cell (hb_below hbr.out hl2 F.out) 0
      have hp := hG.out.p j hjp
      have hstep := Lib.hid (dg_step (ps := ps) j n' suf)
      clear hx hc
      generalize ps.getD j 1 = x at *
      have e1 : ((j + 1 : Nat) : Int) - 1 = (j : Int) := by omega
      have hmod : (n' : Int).tmod (x : Int) = ((n' % x : Nat) : Int) := by rw [Int.tmod_eq_emod_of_nonneg (by omega)]; exact (Int.natCast_emod _ _).symm
      have hdiv : (n' : Int).tdiv (x : Int) = ((n' / x : Nat) : Int) := by rw [Int.tdiv_eq_ediv_of_nonneg (by omega)]; exact (Int.natCast_ediv _ _).symm
      have hm9 : n' % x ≤ 9 := by have := Nat.mod_lt n' (show 0 < x by omega); omega
      have hd9 : n' / x < 1000 := Nat.lt_of_le_of_lt (Nat.div_le_self _ _) hn'
      have hne : ((x : Int) == 0) = false := by simp; omega
      have hN := Lib.hid fun w' => l1Num_dig (n' % x) w' hm9
      have ht1 : (tS [n' % x]).size = 1 := tS_size _
      have happ : Hid (tS [n' % x] ++ tS suf = tS (n' % x :: suf)) := Lib.hid (tS_app [n' % x] suf).symm
      have hDn : Hid (dg ps j (n' / x) ++ (n' % x :: suf) = T) := Lib.hid (by rw [← hstep.out]; exact hD'.out)
      clear hm9
      generalize hmz : n' % x = z at *
      generalize hdz : n' / x = y at *
      clear hmz hdz
      go_wp2_with fail
      refine (hN.out wr).mono ?_; rintro e w4 ⟨rfl, hb4⟩
      have f4 := hb_below hb4 (hb_lt (hb_below hbr.out hl2 F.out)) (hb_below hbr.out hl2 F.out)
      have f0r4 : w4.cell? ⟨w.heap.size, 0, none⟩ = some (.slice (some ⟨g, 0, none⟩) L c) := hb_cell f4 0
      have hlr : g < wr.heap.size := Nat.lt_of_lt_of_le hgl hbr.out.size
      have hcr4 : w4.cell? ⟨g, j, none⟩ = some (.int .i64 (x : Int)) := by rw [hb4.cell (p := ⟨g, j, none⟩) hlr]; exact hcr
      clear f4
      replace hb4 := Lib.hid (bt2 hbr.out hb4 hbr.out.size)
      go_wp2_with fail
      rw [happ.out]
      go_roundw
      case rel => exact ⟨j, y, z :: suf, by omega, (by first | rfl | trivial | go_num), rfl, hd9, rfl, hDn, hb4⟩
      all_goals (simp [intOf] <;> omega)
end Go.Proofs.Ytcfeaaakfjilgaa
