/- Keys of texts, by the program. -/
import Derived.Test.YtcfeaaakfjilgabDoorV3
namespace Go.Proofs.YtcfeaaakfjilgabDoor
open Go Go.RowKit RM
theorem b49 (c : UInt8) : (c == 49) = ((c.toNat : Int) == 49) := by
  rw [Bool.eq_iff_iff, beq_iff_eq, beq_iff_eq, ← UInt8.toNat_inj]
  show c.toNat = 49 ↔ _
  omega
theorem pow_int (k : Nat) : ((2 ^ k : Nat) : Int) = (2 : Int) ^ k := by simp
theorem bitor64 (a k : Nat) (ha : a < 2 ^ k) (hk : k < 20) : bits BinOp.or IntKind.u64 (a : Int) (2 ^ k) = ((a + 2 ^ k : Nat) : Int) := by
  have h1 : 2 ^ k < 1048576 := Nat.pow_lt_pow_right (a := 2) (by omega) hk
  rw [← pow_int, bits_or_u64_nat a (2 ^ k) (by omega) (by omega)]
  have := Nat.two_pow_add_eq_or_of_lt ha 1
  rw [Nat.mul_one] at this
  rw [Nat.or_comm, ← this, Nat.add_comm]
theorem wrap_pow (k : Nat) (hk : k < 20) : IntKind.u64.wrap (2 ^ k) = 2 ^ k := by
  have h1 : 2 ^ k < 1048576 := Nat.pow_lt_pow_right (a := 2) (by omega) hk
  rw [IntKind.wrap_u64, ← pow_int]; generalize 2 ^ k = X at *; omega
/-- keys as elements of a row -/
def keyE : Elt (Nat × Nat) where
  e := 90
  n := 2
  bytes := 16
  z := .agg #[.int .u64 0, .int .u64 0]
  d := (0, 0)
  cells k := [.int .u64 ((k.1 : Nat) : Int), .int .u64 ((k.2 : Nat) : Int)]
  len _ := rfl
  one x u hu := by simp at hu; rcases hu with rfl | rfl <;> rfl
  pos := by decide
  zs := rfl
  info := by kernel_rfl
  small := by decide
/-- whether a text has the signs of a key, and not too many -/
def okKey (s : ByteArray) : Bool := decide (s.size ≤ 10) && s.data.toList.all okq
abbrev kv (k : Nat × Nat) : Value := .agg #[.int .u64 ((k.1 : Nat) : Int), .int .u64 ((k.2 : Nat) : Int)]
set_option maxHeartbeats 1000000 in
theorem keyOf_any (s : ByteArray) (w : World) (hs : s.size ≤ maxLen) :
    Calls Tryd.prog 80 #[.string s] w fun e w' => e = .returned (.tuple #[kv (if okKey s then kp s else (0, 0)), .bool (okKey s)]) ∧ Below w.heap.size w w' := by
  unfold maxLen at hs
  by_cases hlong : 10 < s.size
  · have hF : Hid (okKey s = false) := Lib.hid (by unfold okKey; rw [decide_eq_false (by omega)]; rfl)
    rw [hF.out]
    go_enter Tryd.func80, Tryd.ntmps80
    go_wp2_with fail
    refine bodyPost_ret (v := .tuple #[kv (0, 0), .bool false]) ?_ rfl ⟨by simp, ?_⟩
    · simp [results, Tryd.results80, go_sem]
    · exact ba1 w _
  · have hT := Lib.hid (mod_step (tolX s.data.toList))
    have hO := Lib.hid (mod_step (onX s.data.toList))
    have hTb := Lib.hid (fun i (h : i < s.size) => show (tolX s.data.toList).testBit i = !(s[i] == 63) by
      have := tol_bit s.data.toList i (by rw [len_data]; exact h)
      rw [byte_at s i h] at this; exact this)
    have hOb := Lib.hid (fun i (h : i < s.size) => show (onX s.data.toList).testBit i = (s[i] == 49) by
      have := on_bit s.data.toList i (by rw [len_data]; exact h)
      rw [byte_at s i h] at this; exact this)
    have hTf : Hid (tolX s.data.toList % 2 ^ s.size = tolX s.data.toList) := Lib.hid (Nat.mod_eq_of_lt (by have := tol_lt s.data.toList; rwa [len_data] at this))
    have hOf : Hid (onX s.data.toList % 2 ^ s.size = onX s.data.toList) := Lib.hid (Nat.mod_eq_of_lt (by have := on_lt s.data.toList; rwa [len_data] at this))
    have hkp : Hid (kp s = (tolX s.data.toList, onX s.data.toList)) := Lib.hid rfl
    have hok : Hid (okKey s = s.data.toList.all okq) := Lib.hid (by unfold okKey; rw [decide_eq_true (by omega), Bool.true_and])
    have han := Lib.hid (all_no s)
    have hay := Lib.hid (all_yes s)
    rw [hkp.out, hok.out]
    clear hkp hok
    generalize tolX s.data.toList = TT at *
    generalize onX s.data.toList = OO at *
    generalize s.data.toList.all okq = G at *
    obtain ⟨RV, hRV⟩ : ∃ V : Nat × Nat, Hid (V = if G then (TT, OO) else (0, 0)) := ⟨_, Lib.hid rfl⟩
    rw [← hRV.out]
    obtain ⟨w2, hw2⟩ : ∃ w2, Hid (w2 = (w.alloc (.cells #[.int .u64 0, .int .u64 0] 90)).alloc (.cells #[.int .u64 0, .int .u64 0] 90)) := ⟨_, Lib.hid rfl⟩
    have hb2 : Hid (Below w.heap.size w w2) := Lib.hid (by rw [hw2.out]; exact (ba1 w _).alloc (by simp) _)
    have R2 := Lib.hid (show w2.heap[w.heap.size]? = some (.cells #[.int .u64 0, .int .u64 0] 90) by rw [hw2.out]; exact hb_old _ (hb_new _ _))
    have O2 := Lib.hid (show w2.heap[w.heap.size + 1]? = some (.cells #[.int .u64 0, .int .u64 0] 90) by rw [hw2.out]; exact hb_new' _ _ _ (by simp))
    go_enter Tryd.func80, Tryd.ntmps80
    go_wp2_with fail
    rw [← hw2.out]
    go_loopw [12] (fun i wr => ∃ k m1 m2 : Nat, k ≤ s.size ∧ i = .int .i64 k ∧ Hid (wr.heap[w.heap.size + 1]? = some (.cells #[.int .u64 m1, .int .u64 m2] 90)) ∧ Hid (TT % 2 ^ k = m1) ∧ Hid (OO % 2 ^ k = m2) ∧ Hid (∀ i (h : i < s.size), i < k → okq s[i] = true) ∧ Hid (Below (w.heap.size + 1) w2 wr)) (fun i _ => s.size - (intOf i).toNat)
    case atStart => exact ⟨0, 0, 0, Nat.zero_le _, rfl, O2, Lib.hid (by simp [Nat.mod_one]), Lib.hid (by simp [Nat.mod_one]), Lib.hid (fun j _ h => by omega), Lib.hid (Below.refl _ _)⟩
    case round =>
      obtain ⟨k, m1, m2, hk, rfl, hO1, e1, e2, hq, hbr⟩ := hrel
      have R1 := Lib.hid (hb_below hbr.out (by omega) R2.out)
      have lO := hb_lt hO1.out
      have lR := hb_lt R1.out
      have o0 : wr.cell? ⟨w.heap.size + 1, 0, none⟩ = some (.int .u64 m1) := hb_cell hO1.out 0
      have o1 : wr.cell? ⟨w.heap.size + 1, 1, none⟩ = some (.int .u64 m2) := hb_cell hO1.out 1
      have zo := hb_frozen hO1.out
      have r0 : wr.cell? ⟨w.heap.size, 0, none⟩ = some (.int .u64 0) := hb_cell R1.out 0
      have r1 : wr.cell? ⟨w.heap.size, 1, none⟩ = some (.int .u64 0) := hb_cell R1.out 1
      have zr := hb_frozen R1.out
      by_cases hlt : k < s.size
      · have h9T := Lib.hid (hT.out k)
        have h9O := Lib.hid (hO.out k)
        have hTk := Lib.hid (hTb.out k hlt)
        have hOk := Lib.hid (hOb.out k hlt)
        have hl1 : Hid (m1 < 2 ^ k) := Lib.hid (by rw [← e1.out]; exact Nat.mod_lt _ (Nat.two_pow_pos k))
        have hl2 : Hid (m2 < 2 ^ k) := Lib.hid (by rw [← e2.out]; exact Nat.mod_lt _ (Nat.two_pow_pos k))
        have hp := wrap_pow k (by omega)
        have hor1 := bitor64 m1 k hl1.out (by omega)
        have hor2 := bitor64 m2 k hl2.out (by omega)
        have h63 := Lib.hid (b63 s[k])
        have hst : Hid (okq s[k] = true → ∀ i (h : i < s.size), i < k + 1 → okq s[i] = true) := Lib.hid (fun h8 i hi h1 => by
          by_cases e : i = k
          · subst e; exact h8
          · exact hq.out i hi (by omega))
        have hqi := Lib.hid (okq_int s[k])
        have h49 := Lib.hid (b49 s[k])
        have hc1 : ((m1 + 2 ^ k : Nat) : Int) = (m1 : Int) + 2 ^ k := by simp
        have hc2 : ((m2 + 2 ^ k : Nat) : Int) = (m2 : Int) + 2 ^ k := by simp
        cases g2 : ((s[k].toNat : Int) == 48) with
        | true =>
          have hv : Hid (TT % 2 ^ (k + 1) = m1 + 2 ^ k ∧ OO % 2 ^ (k + 1) = m2 ∧ okq s[k] = true) := Lib.hid (by
            have g9 : (s[k].toNat : Int) = 48 := by simpa using g2
            refine ⟨?_, ?_, ?_⟩
            · rw [h9T.out, e1.out, if_pos (by rw [hTk.out, h63.out, g9]; rfl)]
            · rw [h9O.out, e2.out, if_neg (by rw [hOk.out, h49.out, g9]; simp)]; rfl
            · rw [hqi.out, g9]; rfl)
          go_wp2_with fail
          go_region
          go_wp2_with fail
          refine ⟨⟨k + 1, m1 + 2 ^ k, m2, by omega, by go_num, Lib.hid ?_, Lib.hid hv.out.1, Lib.hid hv.out.2.1, Lib.hid (hst.out hv.out.2.2), Lib.hid ?_⟩, by simp [intOf]; omega⟩
          · rw [hc1]; exact hb_set hO1.out _
          · exact (hbr.out.setCell (Nat.le_refl _) _).drew
        | false =>
          cases g3 : ((s[k].toNat : Int) == 49) with
          | true =>
            have hv : Hid (TT % 2 ^ (k + 1) = m1 + 2 ^ k ∧ OO % 2 ^ (k + 1) = m2 + 2 ^ k ∧ okq s[k] = true) := Lib.hid (by
              have g9 : (s[k].toNat : Int) = 49 := by simpa using g3
              refine ⟨?_, ?_, ?_⟩
              · rw [h9T.out, e1.out, if_pos (by rw [hTk.out, h63.out, g9]; rfl)]
              · rw [h9O.out, e2.out, if_pos (by rw [hOk.out, h49.out, g9]; rfl)]
              · rw [hqi.out, g9]; rfl)
            go_wp2_with fail
            go_region
            go_wp2_with fail
            go_region
            go_wp2_with fail
            refine ⟨⟨k + 1, m1 + 2 ^ k, m2 + 2 ^ k, by omega, by go_num, Lib.hid ?_, Lib.hid hv.out.1, Lib.hid hv.out.2.1, Lib.hid (hst.out hv.out.2.2), Lib.hid ?_⟩, by simp [intOf]; omega⟩
            · rw [hc1, hc2]; exact hb_set (hb_set hO1.out _) _
            · exact ((hbr.out.setCell (Nat.le_refl _) _).setCell (Nat.le_refl _) _).drew.drew
          | false =>
            have hb0 : (⟨#[63]⟩ : ByteArray)[0].toNat = 63 := rfl
            cases g1 : ((s[k].toNat : Int) == 63) with
            | true =>
              have hv : Hid (TT % 2 ^ (k + 1) = m1 ∧ OO % 2 ^ (k + 1) = m2 ∧ okq s[k] = true) := Lib.hid (by
                have g9 : (s[k].toNat : Int) = 63 := by simpa using g1
                refine ⟨?_, ?_, ?_⟩
                · rw [h9T.out, e1.out, if_neg (by rw [hTk.out, h63.out, g9]; simp)]; rfl
                · rw [h9O.out, e2.out, if_neg (by rw [hOk.out, h49.out, g9]; simp)]; rfl
                · rw [hqi.out, g9]; rfl)
              go_wp2_with fail
              go_roundw
              case rel => exact ⟨k + 1, m1, m2, by omega, by go_num, hO1, Lib.hid hv.out.1, Lib.hid hv.out.2.1, Lib.hid (hst.out hv.out.2.2), hbr⟩
              all_goals (simp [intOf] <;> omega)
            | false =>
              have hF : Hid (G = false) := Lib.hid (han.out k hlt (by rw [hqi.out]; simp only [bne]; rw [g1, g2, g3]; rfl))
              go_wp2_with fail
              refine bodyPost_ret (v := .tuple #[kv (0, 0), .bool false]) ?_ rfl ⟨by rw [hRV.out, hF.out]; rfl, ?_⟩
              · simp [results, Tryd.results80, go_sem, lR, r0, r1]
              · exact ((hb2.out.trans (hbr.out.mono (by omega))).setCell (Nat.le_refl _) _).setCell (Nat.le_refl _) _
      · obtain rfl : k = s.size := by omega
        have hG : Hid (G = true) := Lib.hid (hay.out (fun i hi => hq.out i hi hi))
        have hm1 : Hid (m1 = TT) := Lib.hid (by rw [← e1.out, hTf.out])
        have hm2 : Hid (m2 = OO) := Lib.hid (by rw [← e2.out, hOf.out])
        go_wp2_with fail
        refine bodyPost_ret (v := .tuple #[kv (m1, m2), .bool true]) ?_ rfl ⟨by rw [hRV.out, hG.out, ← hm1.out, ← hm2.out]; rfl, ?_⟩
        · simp [results, Tryd.results80, go_sem, lR, r0, r1]
        · exact ((hb2.out.trans (hbr.out.mono (by omega))).setCell (Nat.le_refl _) _).setCell (Nat.le_refl _) _
end Go.Proofs.YtcfeaaakfjilgabDoor
