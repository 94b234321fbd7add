/- Keys and the bar of a state, by the program. -/
import Derived.Test.YtcfeaaakfjilgabDoorV9
namespace Go.Proofs.YtcfeaaakfjilgabDoor
open Go Go.RowKit RM
theorem bz0 : (.agg #[.int .i64 0, .bool false, .int .i64 0, .int .u64 0] : Value) = (.agg #[.int .i64 ((ctz (0) : Nat) : Int), .bool (onB (0)), .int .i64 ((0 : Nat) : Int), .int .u64 ((0 : Nat) : Int)]) := by
  have h1 : ctz 0 = 0 := by rw [ctz]; simp
  have h2 : onB 0 = false := rfl
  rw [h1, h2]; rfl
theorem key_cases (ks : List ByteArray) (s : ByteArray) : askK ks s = false ∨ ∃ n x, 1 ≤ n ∧ n ≤ 10 ∧ x < 2 ^ n ∧ ks.length = n ∧ goodK ks = true ∧ s = ST n x ∧ askK ks s = true := by
  cases h : askK ks s with
  | false => left; rfl
  | true =>
    right
    have h0 := h
    unfold askK at h
    rw [Bool.and_eq_true, Bool.and_eq_true, decide_eq_true_eq] at h
    obtain ⟨⟨h1, h2⟩, h3⟩ := h
    obtain ⟨n, x, a1, a2, a3, rfl⟩ := of_good s h2
    rw [ST_size] at h3
    have := goodK_len ks h1
    exact ⟨n, x, a1, by omega, a3, h3.symm, h1, rfl, rfl⟩
theorem bar_all (s : ByteArray) (hs : s.size ≤ maxLen) : ∃ n x, x < 1048576 ∧ (goodB s.data.toList = true → n = s.size) ∧ ∀ w, TabOk w → Calls Tryd.prog 67 #[.string s] w fun e w' => e = .returned (.tuple #[(.agg #[.int .i64 ((ctz (x) : Nat) : Int), .bool (onB (x)), .int .i64 ((n : Nat) : Int), .int .u64 ((x : Nat) : Int)]), .bool (goodB s.data.toList)]) ∧ Below w.heap.size w w' := by
  cases h : goodB s.data.toList with
  | false => exact ⟨0, 0, by omega, (fun e => by cases e), fun w _ => by have := barOf_bad s w hs h; rw [bz0] at this; exact this⟩
  | true =>
    obtain ⟨n, x, a1, a2, a3, rfl⟩ := of_good s h
    exact ⟨n, x, Nat.lt_of_lt_of_le a3 (Nat.pow_le_pow_right (by decide) a2), fun _ => (ST_size n x).symm, fun w hw => barOf_ST n x w a1 a2 a3 hw⟩
set_option maxHeartbeats 1000000 in
theorem keyedBar_no (v : Value) (ks : List ByteArray) (s : ByteArray) (w : World) (hz : ∀ s ∈ ks, s.size ≤ maxLen) (hs : s.size ≤ maxLen) (h : RdT w v ks) (hT : TabOk w) (ha : askK ks s = false) :
    Calls Tryd.prog 41 #[v, .string s] w fun e w' => e = .returned (.tuple #[.slice none 0 0, (.agg #[.int .i64 ((ctz (0) : Nat) : Int), .bool (onB (0)), .int .i64 ((0 : Nat) : Int), .int .u64 ((0 : Nat) : Int)]), .bool false]) ∧ Below w.heap.size w w' := by
  obtain ⟨w2, hw2⟩ : ∃ w2, Hid (w2 = w.alloc (.cells #[.int .i64 0, .bool false, .int .i64 0, .int .u64 0] 58)) := ⟨_, Lib.hid rfl⟩
  have hb2 : Hid (Below w.heap.size w w2) := Lib.hid (by rw [hw2.out]; exact ba1 w _)
  have R2 := Lib.hid (show w2.heap[w.heap.size]? = some (.cells #[.int .i64 0, .bool false, .int .i64 0, .int .u64 0] 58) by rw [hw2.out]; exact hb_new _ _)
  have hKR := Lib.hid (keyringOf_any v ks w2 hz (h.below hb2.out))
  obtain ⟨m, x, hx, hm, hB⟩ := bar_all s hs
  unfold askK at ha
  rw [← bz0]
  replace hT := Lib.hid hT
  have hcs : Hid (goodK ks = false ∨ goodB s.data.toList = false ∨ (goodK ks = true ∧ goodB s.data.toList = true ∧ m ≠ ks.length)) := Lib.hid (by
    cases h1 : goodK ks with
    | false => left; rfl
    | true =>
      cases h2 : goodB s.data.toList with
      | false => right; left; rfl
      | true =>
        right; right
        rw [h1, h2, Bool.true_and, Bool.true_and, decide_eq_false_iff_not] at ha
        exact ⟨rfl, rfl, fun e => ha (by rw [← hm h2]; exact e)⟩)
  have hB := Lib.hid hB
  have hlen : (ks.map kp).length = ks.length := by simp
  clear ha hm h hz hs
  generalize goodK ks = G at *
  generalize goodB s.data.toList = R at *
  obtain ⟨KL, hKL⟩ : ∃ L, ks.map kp = L := ⟨_, rfl⟩
  rw [hKL] at hKR hlen
  obtain ⟨n, hn⟩ : ∃ n, ks.length = n := ⟨_, rfl⟩
  rw [hn] at hcs hlen
  clear hn hKL
  go_enter Tryd.func41, Tryd.ntmps41
  go_wp2_with fail
  rw [← hw2.out]
  refine hKR.out.mono ?_; rintro e w3 ⟨u, rfl, ho, hb3⟩
  obtain ⟨p, nn, c, rfl, hnn⟩ : ∃ p nn c, u = .slice p nn c ∧ nn = (if G = true then KL else []).length := by
    obtain ⟨p, c, e, _⟩ := ho.rd
    exact ⟨p, _, c, e, rfl⟩
  replace hnn := Lib.hid hnn
  have R3 := Lib.hid (hb_below hb3 (hb_lt R2.out) R2.out)
  replace hb3 := Lib.hid (bt1 hb2.out hb3)
  have hT3 := Lib.hid (hT.out.below hb3.out)
  clear ho
  go_wp2_with fail
  refine (hB.out w3 hT3.out).mono ?_; rintro e w4 ⟨rfl, hb4⟩
  have R4 := Lib.hid (hb_below hb4 (hb_lt R3.out) R3.out)
  replace hb4 := Lib.hid (bt1 hb3.out hb4)
  have lR := hb_lt R4.out
  have mR : ¬ w.heap.size = w4.heap.size := by omega
  have r0 : w4.cell? ⟨w.heap.size, 0, none⟩ = some (.int .i64 0) := hb_cell R4.out 0
  have r1 : w4.cell? ⟨w.heap.size, 1, none⟩ = some (.bool false) := hb_cell R4.out 1
  have r2 : w4.cell? ⟨w.heap.size, 2, none⟩ = some (.int .i64 0) := hb_cell R4.out 2
  have r3 : w4.cell? ⟨w.heap.size, 3, none⟩ = some (.int .u64 0) := hb_cell R4.out 3
  have zr := hb_frozen R4.out
  rcases hcs.out with rfl | rfl | ⟨rfl, rfl, hne⟩
  · go_wp2_with fail
    refine bodyPost_ret (v := .tuple #[.slice none 0 0, .agg #[.int .i64 0, .bool false, .int .i64 0, .int .u64 0], .bool false]) ?_ rfl ⟨rfl, ?_⟩
    · simp [results, Tryd.results41, go_sem, lR, mR, r0, r1, r2, r3]
    · exact ((((hb4.out.setCell (Nat.le_refl _) _).setCell (Nat.le_refl _) _).setCell (Nat.le_refl _) _).setCell (Nat.le_refl _) _).alloc (by have := hb4.out.size; simpa using this) _
  · clear hnn
    go_wp2_with fail
    all_goals
      refine bodyPost_ret (v := .tuple #[.slice none 0 0, .agg #[.int .i64 0, .bool false, .int .i64 0, .int .u64 0], .bool false]) ?_ rfl ⟨rfl, ?_⟩
      · simp [results, Tryd.results41, go_sem, lR, mR, r0, r1, r2, r3]
      · exact ((((hb4.out.setCell (Nat.le_refl _) _).setCell (Nat.le_refl _) _).setCell (Nat.le_refl _) _).setCell (Nat.le_refl _) _).alloc (by have := hb4.out.size; simpa using this) _
  · rw [if_pos rfl, hlen] at hnn
    have hne2 : ((m : Int) != (nn : Int)) = true := by rw [hnn.out]; simp; omega
    go_wp2_with fail
    refine bodyPost_ret (v := .tuple #[.slice none 0 0, .agg #[.int .i64 0, .bool false, .int .i64 0, .int .u64 0], .bool false]) ?_ rfl ⟨rfl, ?_⟩
    · simp [results, Tryd.results41, go_sem, lR, mR, r0, r1, r2, r3]
    · exact ((((hb4.out.setCell (Nat.le_refl _) _).setCell (Nat.le_refl _) _).setCell (Nat.le_refl _) _).setCell (Nat.le_refl _) _).alloc (by have := hb4.out.size; simpa using this) _
set_option maxHeartbeats 1000000 in
theorem keyedBar_yes (v : Value) (ks : List ByteArray) (n x : Nat) (w : World) (hz : ∀ s ∈ ks, s.size ≤ maxLen) (h : RdT w v ks) (hT : TabOk w) (h1 : 1 ≤ n) (h2 : n ≤ 10) (hx : x < 2 ^ n) (hn : ks.length = n) (hG : goodK ks = true) :
    Calls Tryd.prog 41 #[v, .string (ST n x)] w fun e w' => ∃ u, e = .returned (.tuple #[u, (.agg #[.int .i64 ((ctz (x) : Nat) : Int), .bool (onB (x)), .int .i64 ((n : Nat) : Int), .int .u64 ((x : Nat) : Int)]), .bool true]) ∧ OwnG keyE w' w.heap.size u (ks.map kp) ∧ Below w.heap.size w w' := by
  obtain ⟨w2, hw2⟩ : ∃ w2, Hid (w2 = w.alloc (.cells #[.int .i64 0, .bool false, .int .i64 0, .int .u64 0] 58)) := ⟨_, Lib.hid rfl⟩
  have hb2 : Hid (Below w.heap.size w w2) := Lib.hid (by rw [hw2.out]; exact ba1 w _)
  have hs2 : Hid (w2.heap.size = w.heap.size + 1) := Lib.hid (by rw [hw2.out]; simp)
  have R2 := Lib.hid (show w2.heap[w.heap.size]? = some (.cells #[.int .i64 0, .bool false, .int .i64 0, .int .u64 0] 58) by rw [hw2.out]; exact hb_new _ _)
  have hKR := Lib.hid (keyringOf_any v ks w2 hz (h.below hb2.out))
  rw [hG, if_pos rfl] at hKR
  have hB := Lib.hid (fun w hw => barOf_ST n x w h1 (by omega) hx hw)
  replace hT := Lib.hid hT
  have hlen : (ks.map kp).length = n := by simp [hn]
  generalize ks.map kp = KL at *
  generalize ST n x = s at *
  clear hG hn h hz hx
  go_enter Tryd.func41, Tryd.ntmps41
  go_wp2_with fail
  rw [← hw2.out]
  refine hKR.out.mono ?_; rintro e w3 ⟨u, rfl, ho, hb3⟩
  obtain ⟨p, c, rfl⟩ : ∃ p c, u = .slice p n c := by
    obtain ⟨p, c, e, _⟩ := ho.rd
    exact ⟨p, c, by rw [e, hlen]⟩
  have R3 := Lib.hid (hb_below hb3 (hb_lt R2.out) R2.out)
  replace ho := Lib.hid ho
  replace hb3 := Lib.hid (bt1 hb2.out hb3)
  have hT3 := Lib.hid (hT.out.below hb3.out)
  go_wp2_with fail
  refine (hB.out w3 hT3.out).mono ?_; rintro e w4 ⟨rfl, hb4⟩
  have R4 := Lib.hid (hb_below hb4 (hb_lt R3.out) R3.out)
  have ho4 := Lib.hid (ho.out.below hb4)
  replace hb4 := Lib.hid (bt1 hb3.out hb4)
  have lR := hb_lt R4.out
  have mR : ¬ w.heap.size = w4.heap.size := by omega
  have r0 : w4.cell? ⟨w.heap.size, 0, none⟩ = some (.int .i64 0) := hb_cell R4.out 0
  have r1 : w4.cell? ⟨w.heap.size, 1, none⟩ = some (.bool false) := hb_cell R4.out 1
  have r2 : w4.cell? ⟨w.heap.size, 2, none⟩ = some (.int .i64 0) := hb_cell R4.out 2
  have r3 : w4.cell? ⟨w.heap.size, 3, none⟩ = some (.int .u64 0) := hb_cell R4.out 3
  have zr := hb_frozen R4.out
  have hne2 : ((n : Int) != (n : Int)) = false := by simp
  clear hlen
  go_wp2_with fail
  go_region
  go_wp2_with fail
  refine bodyPost_ret (v := .tuple #[.slice p n c, (.agg #[.int .i64 ((ctz (x) : Nat) : Int), .bool (onB (x)), .int .i64 ((n : Nat) : Int), .int .u64 ((x : Nat) : Int)]), .bool true]) ?_ rfl ⟨_, rfl, ?_, ?_⟩
  · simp [results, Tryd.results41, go_sem, lR, mR, r0, r1, r2, r3]
  · have k : ∀ (W : World) (a : Addr) (u : Value), OwnG keyE W w2.heap.size (.slice p n c) KL → a.block < w2.heap.size → OwnG keyE (W.setCell a u) w2.heap.size (.slice p n c) KL := fun W a u h ha => ownsRow_setCell_below h ha u
    have hlt : w.heap.size < w2.heap.size := by rw [hs2.out]; omega
    exact (((k _ _ _ (k _ _ _ (k _ _ _ (k _ _ _ ho4.out hlt) hlt) hlt) hlt).alloc _).below (Below.refl _ _).drew).mono (Nat.le_of_lt hlt)
  · exact (((((hb4.out.setCell (Nat.le_refl _) _).setCell (Nat.le_refl _) _).setCell (Nat.le_refl _) _).setCell (Nat.le_refl _) _).alloc (by have := hb4.out.size; simpa using this) _).drew
end Go.Proofs.YtcfeaaakfjilgabDoor
