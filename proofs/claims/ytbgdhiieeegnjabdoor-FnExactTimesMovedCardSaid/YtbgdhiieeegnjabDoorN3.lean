/- TimesMoved: both ways. -/
import Derived.Test.YtbgdhiieeegnjabDoorA3
import Derived.Test.YtbgdhiieeegnjabDoorA5
namespace Go.Proofs.YtbgdhiieeegnjabDoor
open Go Go.RowKit RM

/-- how many of 1, .., m can be halved just k times -/
def hv (m k : Nat) : Int := ((m / 2 ^ k : Nat) : Int) - ((m / 2 ^ (k + 1) : Nat) : Int)
def tmL (n x y : Nat) : List Int := (List.range n).map fun k => hv (max (num x) (num y)) k - hv (min (num x) (num y)) k
theorem tmL_len (n x y : Nat) : (tmL n x y).length = n := by simp [tmL]
theorem hv_small (m k : Nat) (hm : m < 1048576) : 0 ≤ hv m k ∧ hv m k ≤ 1048576 := by
  have b1 : m / 2 ^ k ≤ m := Nat.div_le_self _ _
  have b2 : m / 2 ^ (k + 1) ≤ m / 2 ^ k := by rw [Nat.pow_succ, ← Nat.div_div_eq_div_mul]; exact Nat.div_le_self _ _
  unfold hv; generalize m / 2 ^ k = A at *; generalize m / 2 ^ (k + 1) = B at *; omega
theorem keepAll2 {N : Nat} {w a b : World} {v0 v1 v2 v3 u0 u1 u2 u3 : Value} (k : Below a.heap.size a b) (h : (a.cell? ⟨N, 0, none⟩ = some v0 ∧ a.cell? ⟨N, 1, none⟩ = some v1 ∧ a.cell? ⟨N, 2, none⟩ = some v2 ∧ a.cell? ⟨N, 3, none⟩ = some v3) ∧ (a.cell? ⟨N + 1, 0, none⟩ = some u0 ∧ a.cell? ⟨N + 1, 1, none⟩ = some u1 ∧ a.cell? ⟨N + 1, 2, none⟩ = some u2 ∧ a.cell? ⟨N + 1, 3, none⟩ = some u3) ∧ N + 2 ≤ a.heap.size ∧ Below N w a) :
    (b.cell? ⟨N, 0, none⟩ = some v0 ∧ b.cell? ⟨N, 1, none⟩ = some v1 ∧ b.cell? ⟨N, 2, none⟩ = some v2 ∧ b.cell? ⟨N, 3, none⟩ = some v3) ∧ (b.cell? ⟨N + 1, 0, none⟩ = some u0 ∧ b.cell? ⟨N + 1, 1, none⟩ = some u1 ∧ b.cell? ⟨N + 1, 2, none⟩ = some u2 ∧ b.cell? ⟨N + 1, 3, none⟩ = some u3) ∧ N + 2 ≤ b.heap.size ∧ Below N w b := by
  have hs := h.2.2.1
  have hz := k.size
  refine ⟨⟨?_, ?_, ?_, ?_⟩, ⟨?_, ?_, ?_, ?_⟩, by omega, h.2.2.2.trans (k.mono (by omega))⟩
  · rw [k.cell (p := ⟨N, 0, none⟩) (by show N < a.heap.size; omega)]; exact h.1.1
  · rw [k.cell (p := ⟨N, 1, none⟩) (by show N < a.heap.size; omega)]; exact h.1.2.1
  · rw [k.cell (p := ⟨N, 2, none⟩) (by show N < a.heap.size; omega)]; exact h.1.2.2.1
  · rw [k.cell (p := ⟨N, 3, none⟩) (by show N < a.heap.size; omega)]; exact h.1.2.2.2
  · rw [k.cell (p := ⟨N + 1, 0, none⟩) (by show N + 1 < a.heap.size; omega)]; exact h.2.1.1
  · rw [k.cell (p := ⟨N + 1, 1, none⟩) (by show N + 1 < a.heap.size; omega)]; exact h.2.1.2.1
  · rw [k.cell (p := ⟨N + 1, 2, none⟩) (by show N + 1 < a.heap.size; omega)]; exact h.2.1.2.2.1
  · rw [k.cell (p := ⟨N + 1, 3, none⟩) (by show N + 1 < a.heap.size; omega)]; exact h.2.1.2.2.2
theorem timesUp_any (n k : Nat) (w : World) (hk : k < 20) (hn : n < 1048576) : Calls Tryd.prog 45 #[.int .i64 n, .int .i64 k] w fun e w' => e = .returned (.int .i64 (hv n k)) ∧ ∃ q, w' = w.drewN q := by
  unfold hv
  have e1 : ((n / 2 ^ k : Nat) : Int) = (n : Int) / 2 ^ k := by simp
  have e2 : ((n / 2 ^ (k + 1) : Nat) : Int) = (n : Int) / 2 ^ (k + 1) := by simp
  have b1 : n / 2 ^ k ≤ n := Nat.div_le_self _ _
  have b2 : n / 2 ^ (k + 1) ≤ n := Nat.div_le_self _ _
  have b3 : (0 : Int) ≤ (n : Int) / 2 ^ k := by rw [← e1]; exact Int.natCast_nonneg _
  have b4 : (0 : Int) ≤ (n : Int) / 2 ^ (k + 1) := by rw [← e2]; exact Int.natCast_nonneg _
  have c1 : n / 2 ^ k ≤ 1048576 := by omega
  have c2 : n / 2 ^ (k + 1) ≤ 1048576 := by omega
  have b5 : (n : Int) / 2 ^ k ≤ 1048576 := by rw [← e1]; exact Int.le_trans (Int.ofNat_le.2 c1) (by decide)
  have b6 : (n : Int) / 2 ^ (k + 1) ≤ 1048576 := by rw [← e2]; exact Int.le_trans (Int.ofNat_le.2 c2) (by decide)
  rw [e1, e2]
  clear e1 e2 b1 b2 c1 c2
  go_enter Tryd.func45, Tryd.ntmps45
  go_wp2
  go_quiet (fail)
  go_wp2
  go_ret; exact ⟨rfl, _, rfl⟩

theorem halved_any (n k : Nat) (w : World) (hk : k < 20) (hn : n < 1048576) : Calls Tryd.prog 43 #[.int .i64 n, .int .i64 k] w fun e w' => e = .returned (.int .i64 (hv n k)) ∧ ∃ q, w' = w.drewN q := riHalved_any n k w hk hn

set_option maxHeartbeats 2000000 in
set_option maxRecDepth 100000 in
theorem iTimes_core (a b : ByteArray) (n x y L G : Nat) (w : World) (hn : n ≤ 20) (hx : x < 1048576) (hy : y < 1048576) (hT : TabOk w)
    (hL : Hid (min (num x : Int) (num y) = (L : Int))) (hG : Hid (max (num x : Int) (num y) = (G : Int))) (hL2 : L < 1048576) (hG2 : G < 1048576) (xs : List Int) (hx9 : Hid (xs.length = n)) (hget : Hid (∀ k (h : k < xs.length), xs[k] = hv G k - hv L k))
    (hA : Hid (∀ w, TabOk w → Calls Tryd.prog 27 #[.string a, .string b] w fun e w' => e = .returned (.tuple #[(.agg #[.int .i64 ((ctz (x) : Nat) : Int), .bool (onB (x)), .int .i64 ((n : Nat) : Int), .int .u64 ((x : Nat) : Int)]), (.agg #[.int .i64 ((ctz (y) : Nat) : Int), .bool (onB (y)), .int .i64 ((n : Nat) : Int), .int .u64 ((y : Nat) : Int)]), .bool true]) ∧ Below w.heap.size w w')) :
    Calls Tryd.prog 23 #[.string a, .string b] w fun e w' => RetI w xs true e w' := by
  have hT := Lib.hid hT
  go_enter Tryd.func23, Tryd.ntmps23
  go_wp2_with fail
  refine (hA.out _ hT.out).mono ?_; rintro e w1 ⟨rfl, hb⟩
  have hb0 := Lib.hid hb
  clear hb
  go_wp2_with fail
  obtain ⟨W, hW⟩ : ∃ W, W = (w1.alloc (.cells #[.int .i64 (ctz x), .bool (onB x), .int .i64 n, .int .u64 x] 44)).alloc (.cells #[.int .i64 (ctz y), .bool (onB y), .int .i64 n, .int .u64 y] 44) := ⟨_, rfl⟩
  have hb : Below w1.heap.size w1 W := by subst hW; exact bt (ba _ _) (ba _ _)
  have hs : W.heap.size = w1.heap.size + 2 := by subst hW; simp
  have c0 : CellsOf W w1.heap.size n x := by subst hW; simp [CellsOf]
  have c1 : CellsOf W (w1.heap.size + 1) n y := by subst hW; simp [CellsOf]
  obtain ⟨p0, p1, p2, p3⟩ := c0
  obtain ⟨q0, q1, q2, q3⟩ := c1
  rw [← hW]
  clear hW
  go_region_held3 (fun w' => (w'.cell? ⟨w1.heap.size, 0, none⟩ = some (.int .i64 (ctz x)) ∧ w'.cell? ⟨w1.heap.size, 1, none⟩ = some (.bool (onB x)) ∧ w'.cell? ⟨w1.heap.size, 2, none⟩ = some (.int .i64 n) ∧ w'.cell? ⟨w1.heap.size, 3, none⟩ = some (.int .u64 x)) ∧ (w'.cell? ⟨w1.heap.size + 1, 0, none⟩ = some (.int .i64 (ctz y)) ∧ w'.cell? ⟨w1.heap.size + 1, 1, none⟩ = some (.bool (onB y)) ∧ w'.cell? ⟨w1.heap.size + 1, 2, none⟩ = some (.int .i64 n) ∧ w'.cell? ⟨w1.heap.size + 1, 3, none⟩ = some (.int .u64 y)) ∧ w1.heap.size + 2 ≤ w'.heap.size ∧ Below w1.heap.size w1 w') ((first | assumption | (refine ⟨⟨?_, ?_, ?_, ?_⟩, ⟨?_, ?_, ?_, ?_⟩, ?_, ?_⟩ <;> first | assumption | go_keep | omega | exact hb.drew)))
    (first | (go_at_call 44; refine (number_any _ _ _ ?_).mono ?_; (first | exact hx | exact hy); rintro e w' ⟨rfl, hb2⟩; obtain ⟨hc, hf⟩ := bcell hb2; have hz := hb2.size; have hbn := keepAll2 hb2 (by assumption); obtain ⟨hl0, hl1⟩ := keepL hb2 (by assumption)))
  rename_i z1 z2 z3 z4 z5 z6 z7 z8 z9
  clear p0 p1 p2 p3 q0 q1 q2 q3
  obtain ⟨⟨p0, p1, p2, p3⟩, ⟨q0, q1, q2, q3⟩, hsz, hbw⟩ := z9
  clear hl1 hl0 hbn hz hf hc hb2 z8 z7 z6 z5 z4 z3 z2 z1 hs hb W
  rw [hL.out]
  have hb := Lib.hid hbw
  have hz0 : w1.heap.size < w'.heap.size := by omega
  have hz1 : w1.heap.size + 1 < w'.heap.size := by omega
  go_wp2_with fail
  go_region_held3 (fun w' => (w'.cell? ⟨w1.heap.size, 0, none⟩ = some (.int .i64 (ctz x)) ∧ w'.cell? ⟨w1.heap.size, 1, none⟩ = some (.bool (onB x)) ∧ w'.cell? ⟨w1.heap.size, 2, none⟩ = some (.int .i64 n) ∧ w'.cell? ⟨w1.heap.size, 3, none⟩ = some (.int .u64 x)) ∧ (w'.cell? ⟨w1.heap.size + 1, 0, none⟩ = some (.int .i64 (ctz y)) ∧ w'.cell? ⟨w1.heap.size + 1, 1, none⟩ = some (.bool (onB y)) ∧ w'.cell? ⟨w1.heap.size + 1, 2, none⟩ = some (.int .i64 n) ∧ w'.cell? ⟨w1.heap.size + 1, 3, none⟩ = some (.int .u64 y)) ∧ w1.heap.size + 2 ≤ w'.heap.size ∧ Below w1.heap.size w1 w') ((first | assumption | (refine ⟨⟨?_, ?_, ?_, ?_⟩, ⟨?_, ?_, ?_, ?_⟩, ?_, ?_⟩ <;> first | assumption | go_keep | omega | exact hb.out.drew)))
    (first | (go_at_call 44; refine (number_any _ _ _ ?_).mono ?_; (first | exact hx | exact hy); rintro e w' ⟨rfl, hb2⟩; obtain ⟨hc, hf⟩ := bcell hb2; have hz := hb2.size; have hbn := keepAll2 hb2 (by assumption); obtain ⟨hl0, hl1⟩ := keepL hb2 (by assumption)))
  rw [hG.out]
  rename_i z1 z2 z3 z4 z5 z6 z7 z8 z9
  clear p0 p1 p2 p3 q0 q1 q2 q3
  obtain ⟨⟨p0, p1, p2, p3⟩, _, hsz2, hbw2⟩ := z9
  clear hl1 hl0 hbn hz hf hc hb2 z8 z7 z6 z5 z4 z3 z2 z1 hb
  have hb := Lib.hid hbw2
  clear hbw2
  go_wp2_with (at_make; refine make_int _ rfl _ _ rfl _ _ n rfl rfl (by omega) ?_; intro wm hown1 hb1)
  have hown1 := Lib.hid hown1
  have hb1 := Lib.hid hb1
  go_loopw [37] (fun i wr => ∃ k : Nat, k ≤ n ∧ i = .int .i64 k ∧ Hid (OwnI wr w'.heap.size (.slice (some ⟨w'.heap.size, 0, none⟩) n n) (xs.take k ++ List.replicate (n - k) 0)) ∧ Hid (Below w'.heap.size w' wr)) (fun i _ => n - (intOf i).toNat)
  case atStart => exact ⟨0, Nat.zero_le _, rfl, Lib.hid (by simpa using hown1.out), hb1⟩
  case round =>
    obtain ⟨k, hk, rfl, ho, hbr⟩ := hrel
    by_cases hlt : k < n
    · have hlk : Hid ((xs.take k ++ List.replicate (n - k) 0).length = n) := Lib.hid (by simp [hx9.out]; omega)
      have hkx : k < xs.length := by rw [hx9.out]; exact hlt
      have hsp : Hid (List.replicate (n - k) (0 : Int) = 0 :: List.replicate (n - (k + 1)) 0) := Lib.hid (by
        rw [show n - k = (n - (k + 1)) + 1 from by omega]; rfl)
      have hmt : Hid (xs.take (k + 1) = xs.take k ++ [xs[k]]) := Lib.hid (List.take_succ_eq_append_getElem hkx)
      have htl : Hid ((xs.take k).length = k) := Lib.hid (by rw [List.length_take]; omega)
      have hzz := hget.out k hkx
      have hkk : k < 20 := by omega
      have CG := Lib.hid fun w => timesUp_any G k w hkk hG2
      have CL := Lib.hid fun w => timesUp_any L k w hkk hL2
      have B1 := hv_small G k hG2
      have B2 := hv_small L k hL2
      generalize hv G k = gk at *
      generalize hv L k = lk at *
      have hzz := Lib.hid hzz
      go_wp2_with fail
      refine (CG.out _).mono ?_; rintro e v1 ⟨rfl, qa, rfl⟩
      go_wp2_with fail
      refine (CL.out _).mono ?_; rintro e v2 ⟨rfl, qb, rfl⟩
      have ho2 := Lib.hid (ho.out.drewN (qa + qb))
      obtain ⟨hce, hfr⟩ := ho.out.cell hlk.out k (by rw [hlk.out]; exact hlt)
      obtain ⟨y9, hy9⟩ : ∃ y9, y9 = (xs.take k ++ List.replicate (n - k) 0)[k]'(by rw [hlk.out]; exact hlt) := ⟨_, rfl⟩
      rw [← hy9] at hce
      clear hy9
      have hst := Lib.hid (ho2.out.stored hlk.out k (gk - lk))
      go_wp2_with fail
      go_roundw
      case rel =>
        refine ⟨k + 1, by omega, by go_num, Lib.hid ?_, Lib.hid ?_⟩
        · have h3 := hst.out.1
          rw [hsp.out, List.set_append_right _ _ (by rw [htl.out]; exact Nat.le_refl _), htl.out, Nat.sub_self, List.set_cons_zero] at h3
          rw [hmt.out, hzz.out, List.append_assoc]; exact h3
        · have h4 : Below w'.heap.size w' (wr.drewN (qa + qb)) := below_drewN hbr.out _
          exact h4.grown hst.out.2 h4.size (fun j e => by cases e; exact Nat.le_refl _)
      all_goals (simp [intOf] <;> omega)
    · obtain rfl : k = n := by omega
      have ho2 := ho.out
      rw [List.take_of_length_le (by rw [hx9.out]; omega)] at ho2
      simp only [Nat.sub_self, List.replicate_zero, List.append_nil] at ho2
      have ho2 := Lib.hid (ho2)
      go_wp2_with fail
      go_ret2
      have hle1 := hb0.out.size
      have hle2 := hb.out.size
      exact ⟨_, rfl, ho2.out.mono (by omega), bt (bt hb0.out (hb.out.mono (Nat.le_refl _))) hbr.out⟩

set_option maxRecDepth 100000 in
theorem sTimes_core (a b : ByteArray) (n X Y L G : Nat) (w : World) (hn : n ≤ 20) (hs : n = a.size)
    (hL : Hid (min (X : Int) (Y : Int) = (L : Int))) (hG : Hid (max (X : Int) (Y : Int) = (G : Int))) (hL2 : L < 1048576) (hG2 : G < 1048576) (xs : List Int) (hx9 : Hid (xs.length = n)) (hget : Hid (∀ k (h : k < xs.length), xs[k] = hv G k - hv L k))
    (hR : Hid (∀ w, Calls Tryd.prog 24 #[.string a, .string b] w fun e w' => e = .returned (.bool true) ∧ w = w'))
    (hA : Hid (∀ w, Calls Tryd.prog 30 #[.string a] w fun e w' => e = .returned (.int .i64 (X : Int)) ∧ w = w'))
    (hB : Hid (∀ w, Calls Tryd.prog 30 #[.string b] w fun e w' => e = .returned (.int .i64 (Y : Int)) ∧ w = w')) :
    Calls Tryd.prog 22 #[.string a, .string b] w fun e w' => RetI w xs true e w' := by
  subst hs
  go_enter Tryd.func22, Tryd.ntmps22
  go_wp2_with fail
  refine (hR.out _).mono ?_; rintro e w' ⟨rfl, rfl⟩
  go_wp2_with fail
  refine (hA.out _).mono ?_; rintro e w' ⟨rfl, rfl⟩
  go_wp2_with fail
  refine (hB.out _).mono ?_; rintro e w' ⟨rfl, rfl⟩
  go_wp2_with fail
  refine (l1Least_any _ _ _).mono ?_; rintro e w' ⟨rfl, rfl⟩
  rw [hL.out]
  go_wp2_with fail
  refine (hA.out _).mono ?_; rintro e w' ⟨rfl, rfl⟩
  go_wp2_with fail
  refine (hB.out _).mono ?_; rintro e w' ⟨rfl, rfl⟩
  go_wp2_with fail
  refine (l1Most_any _ _ _).mono ?_; rintro e w' ⟨rfl, rfl⟩
  rw [hG.out]
  go_wp2_with (at_make; refine make_int _ rfl _ _ rfl _ _ a.size rfl rfl (by omega) ?_; intro wm hown1 hb1)
  have hown1 := Lib.hid hown1
  have hb1 := Lib.hid hb1
  go_loopw [29] (fun i wr => ∃ k : Nat, k ≤ a.size ∧ i = .int .i64 k ∧ Hid (OwnI wr w.heap.size (.slice (some ⟨w.heap.size, 0, none⟩) a.size a.size) (xs.take k ++ List.replicate (a.size - k) 0)) ∧ Hid (Below w.heap.size w wr)) (fun i _ => a.size - (intOf i).toNat)
  case atStart => exact ⟨0, Nat.zero_le _, rfl, Lib.hid (by simpa using hown1.out), hb1⟩
  case round =>
    obtain ⟨k, hk, rfl, ho, hbr⟩ := hrel
    by_cases hlt : k < a.size
    · have hlk : Hid ((xs.take k ++ List.replicate (a.size - k) 0).length = a.size) := Lib.hid (by simp [hx9.out]; omega)
      have hkx : k < xs.length := by rw [hx9.out]; exact hlt
      have hsp : Hid (List.replicate (a.size - k) (0 : Int) = 0 :: List.replicate (a.size - (k + 1)) 0) := Lib.hid (by
        rw [show a.size - k = (a.size - (k + 1)) + 1 from by omega]; rfl)
      have hmt : Hid (xs.take (k + 1) = xs.take k ++ [xs[k]]) := Lib.hid (List.take_succ_eq_append_getElem hkx)
      have htl : Hid ((xs.take k).length = k) := Lib.hid (by rw [List.length_take]; omega)
      have hzz := hget.out k hkx
      have hkk : k < 20 := by omega
      have CG := Lib.hid fun w => halved_any G k w hkk hG2
      have CL := Lib.hid fun w => halved_any L k w hkk hL2
      have B1 := hv_small G k hG2
      have B2 := hv_small L k hL2
      generalize hv G k = gk at *
      generalize hv L k = lk at *
      have hzz := Lib.hid hzz
      go_wp2_with fail
      refine (CG.out _).mono ?_; rintro e v1 ⟨rfl, qa, rfl⟩
      go_wp2_with fail
      refine (CL.out _).mono ?_; rintro e v2 ⟨rfl, qb, rfl⟩
      have ho2 := Lib.hid (ho.out.drewN (qa + qb))
      obtain ⟨hce, hfr⟩ := ho.out.cell hlk.out k (by rw [hlk.out]; exact hlt)
      obtain ⟨y9, hy9⟩ : ∃ y9, y9 = (xs.take k ++ List.replicate (a.size - k) 0)[k]'(by rw [hlk.out]; exact hlt) := ⟨_, rfl⟩
      rw [← hy9] at hce
      clear hy9
      have hst := Lib.hid (ho2.out.stored hlk.out k (gk - lk))
      go_wp2_with fail
      go_roundw
      case rel =>
        refine ⟨k + 1, by omega, by go_num, Lib.hid ?_, Lib.hid ?_⟩
        · have h3 := hst.out.1
          rw [hsp.out, List.set_append_right _ _ (by rw [htl.out]; exact Nat.le_refl _), htl.out, Nat.sub_self, List.set_cons_zero] at h3
          rw [hmt.out, hzz.out, List.append_assoc]; exact h3
        · have h4 : Below w.heap.size w (wr.drewN (qa + qb)) := below_drewN hbr.out _
          exact h4.grown hst.out.2 h4.size (fun j e => by cases e; exact Nat.le_refl _)
      all_goals (simp [intOf] <;> omega)
    · have hka : k = a.size := by omega
      subst hka
      have ho2 := ho.out
      rw [List.take_of_length_le (by rw [hx9.out]; omega)] at ho2
      simp only [Nat.sub_self, List.replicate_zero, List.append_nil] at ho2
      have ho2 := Lib.hid (ho2)
      go_wp2_with fail
      go_ret2
      exact ⟨_, rfl, ho2.out, hbr.out⟩

theorem tm_facts (x y : Nat) (hx : x < 1048576) (hy : y < 1048576) : min (num x : Int) (num y) = ((min (num x) (num y) : Nat) : Int) ∧ max (num x : Int) (num y) = ((max (num x) (num y) : Nat) : Int) ∧ min (num x) (num y) < 1048576 ∧ max (num x) (num y) < 1048576 := by
  have a := num_lt 20 x hx
  have b := num_lt 20 y hy
  omega
theorem tmL_get (n x y : Nat) (k : Nat) (h : k < (tmL n x y).length) : (tmL n x y)[k] = hv (max (num x) (num y)) k - hv (min (num x) (num y)) k := by simp [tmL]
theorem iTimes_ST (n x y : Nat) (w : World) (h1 : 1 ≤ n) (hn : n ≤ 20) (hx : x < 2 ^ n) (hy : y < 2 ^ n) (hT : TabOk w) :
    Calls Tryd.prog 23 #[.string (ST n x), .string (ST n y)] w fun e w' => RetI w (tmL n x y) true e w' := by
  have lx := Nat.lt_of_lt_of_le hx (pow20 hn)
  have ly := Nat.lt_of_lt_of_le hy (pow20 hn)
  obtain ⟨e1, e2, e3, e4⟩ := tm_facts x y lx ly
  exact iTimes_core _ _ n x y _ _ w hn lx ly hT (Lib.hid e1) (Lib.hid e2) e3 e4 (tmL n x y) (Lib.hid (tmL_len n x y)) (Lib.hid (tmL_get n x y)) (Lib.hid fun w hw => two_yes n x y w h1 hn hx hy hw)

theorem sTimes_ST (n x y : Nat) (w : World) (h1 : 1 ≤ n) (hn : n ≤ 20) (hx : x < 2 ^ n) (hy : y < 2 ^ n) :
    Calls Tryd.prog 22 #[.string (ST n x), .string (ST n y)] w fun e w' => RetI w (tmL n x y) true e w' := by
  have lx := Nat.lt_of_lt_of_le hx (pow20 hn)
  have ly := Nat.lt_of_lt_of_le hy (pow20 hn)
  obtain ⟨e1, e2, e3, e4⟩ := tm_facts x y lx ly
  exact sTimes_core _ _ n (num x) (num y) _ _ w hn (ST_size n x).symm (Lib.hid e1) (Lib.hid e2) e3 e4 (tmL n x y) (Lib.hid (tmL_len n x y)) (Lib.hid (tmL_get n x y)) (Lib.hid fun w => by
    have := riTwo_any (ST n x) (ST n y) w (by rw [ST_size]; unfold maxLen; omega) (by rw [ST_size]; unfold maxLen; omega)
    rw [two_ST n x y h1 hn] at this; exact this) (Lib.hid fun w => riNumber_ST n x w hn hx) (Lib.hid fun w => riNumber_ST n y w hn hy)

theorem iTimes_no (a b : ByteArray) (w : World) (hT : TabOk w)
    (hA : Hid (∀ w, TabOk w → Calls Tryd.prog 27 #[.string a, .string b] w fun e w' => e = .returned (.tuple #[(.agg #[.int .i64 ((ctz (0) : Nat) : Int), .bool (onB (0)), .int .i64 ((0 : Nat) : Int), .int .u64 ((0 : Nat) : Int)]), (.agg #[.int .i64 ((ctz (0) : Nat) : Int), .bool (onB (0)), .int .i64 ((0 : Nat) : Int), .int .u64 ((0 : Nat) : Int)]), .bool false]) ∧ Below w.heap.size w w')) :
    Calls Tryd.prog 23 #[.string a, .string b] w fun e w' => RetI w [] false e w' := by
  have hT := Lib.hid hT
  go_enter Tryd.func23, Tryd.ntmps23
  go_wp2_with fail
  refine (hA.out _ hT.out).mono ?_; rintro e w1 ⟨rfl, hb⟩
  have hb := Lib.hid hb
  go_wp2_with fail
  go_ret2
  exact ⟨_, rfl, OwnI.nil _ _, bt (bt hb.out (ba _ _)) (ba _ _)⟩

theorem iTimes_bad (a b : ByteArray) (w : World) (ha : a.size ≤ maxLen) (hb : b.size ≤ maxLen) (h : twoB a b = false) (hT : TabOk w) :
    Calls Tryd.prog 23 #[.string a, .string b] w fun e w' => RetI w [] false e w' :=
  iTimes_no a b w hT (Lib.hid fun w hw => two_no a b w ha hb h hw)

theorem sTimes_bad (a b : ByteArray) (w : World) (ha : a.size ≤ maxLen) (hb : b.size ≤ maxLen) (h : twoB a b = false) :
    Calls Tryd.prog 22 #[.string a, .string b] w fun e w' => RetI w [] false e w' := by
  have hG := Lib.hid fun w => by
    have := riTwo_any a b w ha hb
    rw [h] at this; exact this
  clear h
  go_enter Tryd.func22, Tryd.ntmps22
  go_wp2_with fail
  refine (hG.out _).mono ?_; rintro e w1 ⟨rfl, rfl⟩
  go_wp2_with fail
  go_ret2
  exact ⟨_, rfl, OwnI.nil _ _, Below.refl _ _⟩

end Go.Proofs.YtbgdhiieeegnjabDoor
