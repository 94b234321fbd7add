/- How many states are reached, on both sides: CountReachedBy. -/
import Derived.Test.YthddgnimkbjadabDoorV16
import Derived.Test.YthddgnimkbjadabDoorV10
namespace Go.Proofs.YthddgnimkbjadabDoor
set_option linter.unusedSimpArgs false
set_option linter.unusedVariables false
open Go Go.RowKit RM
/-- how many of the states are reached -/
def cntR (n : Nat) (D : Nat → Option Nat) : Nat := ((List.range (2 ^ n)).filter fun s => (D s).isSome).length
def cntG (D : Nat → Option Nat) (k : Nat) : Nat := ((List.range k).filter fun y => (D (gray y)).isSome).length
theorem cntG_yes (D : Nat → Option Nat) (k : Nat) (h : (D (gray k)).isSome = true) : cntG D (k + 1) = cntG D k + 1 := by
  unfold cntG; rw [List.range_succ, List.filter_append, List.filter_cons_of_pos (p := fun y => (D (gray y)).isSome) h]; simp
theorem cntG_no (D : Nat → Option Nat) (k : Nat) (h : (D (gray k)).isSome = false) : cntG D (k + 1) = cntG D k := by
  unfold cntG; rw [List.range_succ, List.filter_append, List.filter_cons_of_neg (p := fun y => (D (gray y)).isSome) (by rw [h]; simp)]; simp
theorem gray_perm (n : Nat) : ((List.range (2 ^ n)).map gray).Perm (List.range (2 ^ n)) := by
  refine (List.perm_ext_iff_of_nodup ?_ List.nodup_range).2 fun a => ?_
  · rw [List.nodup_iff_pairwise_ne, List.pairwise_map]
    exact (List.nodup_iff_pairwise_ne.1 List.nodup_range).imp fun {a b} h e => h (by rw [← num_gray a, ← num_gray b, e])
  · rw [List.mem_map]
    constructor
    · rintro ⟨y, hy, rfl⟩; exact List.mem_range.2 (gray_lt n y (List.mem_range.1 hy))
    · intro h; exact ⟨num a, List.mem_range.2 (num_lt n a (List.mem_range.1 h)), gray_num a⟩
theorem cnt_eq (n : Nat) (D : Nat → Option Nat) : cntG D (2 ^ n) = cntR n D := by
  unfold cntG cntR
  have e := ((gray_perm n).filter (fun s => (D s).isSome)).length_eq
  rw [List.filter_map, List.length_map] at e
  exact e
theorem cnt_stL (n : Nat) (D : Nat → Option Nat) (R : List (Nat × Nat)) (hl : R.length = 2 ^ n) (hR : ∀ s (hl : s < R.length), (∀ m, D s = some m → R[s].1 = m ∧ 1 ≤ R[s].2 ∧ R[s].2 ≤ 9223372036854775808) ∧ (D s = none → R[s] = (0, 0))) :
    (stL R (2 ^ n)).length = cntR n D := by
  unfold stL cntR
  congr 1
  apply List.filter_congr
  intro s hs
  have hs' : s < R.length := by rw [hl]; exact List.mem_range.1 hs
  rw [getD_at R s _ hs', Bool.eq_iff_iff, decide_eq_true_eq]
  cases hd : D s with
  | none => rw [(hR s hs').2 hd]; simp
  | some m => have := ((hR s hs').1 m hd).2.1; simp; omega
theorem fI_ge (o : Option Nat) : decide (fI o ≥ 0) = o.isSome := by
  cases o with
  | none => rfl
  | some d => show decide ((d : Int) ≥ 0) = true; rw [decide_eq_true_eq]; omega
set_option maxHeartbeats 1000000 in
theorem keReached_any (v : Value) (ks : List ByteArray) (n x : Nat) (w : World) (h : RdT w v ks) (h2 : n ≤ 10) (hx : x < 2 ^ n) (hn : ks.length = n) (hG : goodK ks = true) :
    Calls Tryd.prog 36 #[v, .string (ST n x)] w fun e w' => e = .returned (.int .i64 ((cntR n (kD n (fkS ks) x) : Nat) : Int)) ∧ Below w.heap.size w w' := by
  have hFar := Lib.hid (keFar_any v ks n x w h h2 hx hn hG)
  obtain ⟨N, hNd⟩ : ∃ N, Hid (N = 2 ^ n) := ⟨_, Lib.hid rfl⟩
  have hN : N ≤ 1024 := by rw [hNd.out]; exact Nat.pow_le_pow_right (n := 2) (by decide) h2
  rw [← cnt_eq, ← hNd.out]
  rw [← hNd.out] at hFar
  generalize ST n x = s at *
  generalize kD n (fkS ks) x = D at *
  have hge := Lib.hid (fun k => fI_ge (D (gray k)))
  have hy := Lib.hid (cntG_yes D)
  have hno := Lib.hid (cntG_no D)
  have h0 : Hid (cntG D 0 = 0) := Lib.hid rfl
  generalize cntG D = C at *
  clear h hx hn hG
  go_enter Tryd.func36, Tryd.ntmps36
  go_wp2_with fail
  refine hFar.out.mono ?_; rintro e w5 ⟨gm, gw, rfl, ho5, hb5⟩
  have hcell := Lib.hid (fun y (hy : y < N) => show w5.cell? ⟨gm, y, none⟩ = some (.int .i64 (fI (D (gray y)))) by
    have := (ho5.cell (by simp) y (by simpa using hy)).1
    simpa using this)
  replace hb5 := Lib.hid hb5
  clear ho5
  go_wp2_with fail
  go_loopw [7, 18] (fun o i wr => ∃ y : Nat, y ≤ N ∧ C y ≤ y ∧ i = .int .i64 y ∧ o = .int .i64 ((C y : Nat) : Int) ∧ wr = w5) (fun _ i _ => N - (intOf i).toNat)
  case atStart => exact ⟨0, Nat.zero_le _, by rw [h0.out]; exact Nat.le_refl _, rfl, by rw [h0.out]; rfl, by first | rfl | trivial⟩
  case round =>
    obtain ⟨y, hyN, hCy, rfl, rfl, rfl⟩ := hrel
    by_cases hyl : y < N
    · have c0 := hcell.out y hyl
      have hg := hge.out y
      cases hd : (D (gray y)).isSome with
      | true =>
        rw [hd] at hg
        have hS := hy.out y hd
        generalize fI (D (gray y)) = fi at *
        go_wp2_with fail
        go_roundw
        case rel => exact ⟨y + 1, by omega, by omega, by go_num, by rw [hS]; go_num, by first | rfl | trivial⟩
        all_goals (simp [intOf] <;> omega)
      | false =>
        rw [hd] at hg
        have hS := hno.out y hd
        generalize fI (D (gray y)) = fi at *
        go_wp2_with fail
        go_roundw
        case rel => exact ⟨y + 1, by omega, by omega, by go_num, by rw [hS], by first | rfl | trivial⟩
        all_goals (simp [intOf] <;> omega)
    · obtain rfl : y = N := by omega
      go_wp2_with fail
      go_ret; exact ⟨rfl, hb5.out⟩
theorem sCR_no (v : Value) (ks : List ByteArray) (s : ByteArray) (w : World) (hz : ∀ s ∈ ks, s.size ≤ maxLen) (hs : s.size ≤ maxLen) (h : RdT w v ks) (hk : askK ks s = false) :
    Calls Tryd.prog 21 #[v, .string s] w fun e w' => e = .returned (.tuple #[.int .i64 0, .bool false]) ∧ Below w.heap.size w w' := by
  have hA := Lib.hid (keAsked_any v ks s w hz hs h)
  rw [hk] at hA
  go_enter Tryd.func21, Tryd.ntmps21
  go_wp2_with fail
  refine hA.out.mono ?_; rintro e w' ⟨rfl, rfl⟩
  go_wp2_with fail
  go_ret2; exact ⟨rfl, Below.refl _ _⟩
theorem sCR_yes (v : Value) (ks : List ByteArray) (n x : Nat) (w : World) (hz : ∀ s ∈ ks, s.size ≤ maxLen) (h : RdT w v ks) (h2 : n ≤ 10) (hx : x < 2 ^ n) (hn : ks.length = n) (hG : goodK ks = true) (ha : askK ks (ST n x) = true) :
    Calls Tryd.prog 21 #[v, .string (ST n x)] w fun e w' => e = .returned (.tuple #[.int .i64 ((cntR n (kD n (fkS ks) x) : Nat) : Int), .bool true]) ∧ Below w.heap.size w w' := by
  have hA := Lib.hid (keAsked_any v ks (ST n x) w hz (by rw [ST_size]; unfold maxLen; omega) h)
  rw [ha] at hA
  have hM := Lib.hid (keReached_any v ks n x w h h2 hx hn hG)
  generalize cntR n (kD n (fkS ks) x) = L at *
  generalize ST n x = s at *
  clear h hz hx hn hG ha
  go_enter Tryd.func21, Tryd.ntmps21
  go_wp2_with fail
  refine hA.out.mono ?_; rintro e w' ⟨rfl, rfl⟩
  go_wp2_with fail
  refine hM.out.mono ?_; rintro e w' ⟨rfl, hb⟩
  go_wp2_with fail
  go_ret2; exact ⟨rfl, hb⟩
theorem iCR_no (v : Value) (ks : List ByteArray) (s : ByteArray) (w : World) (hz : ∀ s ∈ ks, s.size ≤ maxLen) (hs : s.size ≤ maxLen) (h : RdT w v ks) (hT : TabOk w) (hno : askK ks s = false) :
    Calls Tryd.prog 22 #[v, .string s] w fun e w' => e = .returned (.tuple #[.int .i64 0, .bool false]) ∧ Below w.heap.size w w' := by
  have hA := Lib.hid (keyedBar_no v ks s w hz hs h hT hno)
  rw [← bz0] at hA
  go_enter Tryd.func22, Tryd.ntmps22
  go_wp2_with fail
  refine hA.out.mono ?_; rintro e w' ⟨rfl, hb⟩
  go_wp2_with fail
  go_ret2; exact ⟨rfl, hb.alloc hb.size _⟩
theorem iCR_yes (v : Value) (ks : List ByteArray) (n x : Nat) (w : World) (hz : ∀ s ∈ ks, s.size ≤ maxLen) (h : RdT w v ks) (hT : TabOk w) (h1 : 1 ≤ n) (h2 : n ≤ 10) (hx : x < 2 ^ n) (hn : ks.length = n) (hG : goodK ks = true) :
    Calls Tryd.prog 22 #[v, .string (ST n x)] w fun e w' => e = .returned (.tuple #[.int .i64 ((cntR n (kD n (fkS ks) x) : Nat) : Int), .bool true]) ∧ Below w.heap.size w w' := by
  have hA := Lib.hid (keyedBar_yes v ks n x w hz h hT h1 h2 hx hn hG)
  have hSe := Lib.hid (fun u B w ho => search_any u ks B n x w ho h1 h2 hx hn hG)
  have hN : 2 ^ n ≤ 1024 := Nat.pow_le_pow_right (n := 2) (by decide) h2
  have hSt := Lib.hid (fun u B R w ho (hl : R.length = 2 ^ n) => statesIn_any u B (2 ^ n) R w ho hl hN)
  have hC := Lib.hid (fun R hl hR => cnt_stL n (kD n (fkS ks) x) R hl hR)
  generalize kD n (fkS ks) x = D at *
  generalize ks.map kp = KL at *
  generalize ST n x = s at *
  clear h hz hx hn hG hN
  go_enter Tryd.func22, Tryd.ntmps22
  go_wp2_with fail
  refine hA.out.mono ?_; rintro e w3 ⟨u, rfl, ho, hb⟩
  replace ho := Lib.hid ho
  replace hb := Lib.hid hb
  obtain ⟨w4, hw4⟩ : ∃ w4, Hid (w4 = w3.alloc (.cells #[.int .i64 ((ctz x : Nat) : Int), .bool (onB x), .int .i64 (n : Int), .int .u64 (x : Int)] 47)) := ⟨_, Lib.hid rfl⟩
  have hb4 := Lib.hid (show Below w3.heap.size w3 w4 by rw [hw4.out]; exact ba1 w3 _)
  have hM4 := Lib.hid (hSe.out u _ w4 (ho.out.below hb4.out))
  go_wp2_with fail
  rw [← hw4.out]
  refine hM4.out.mono ?_; rintro e w5 ⟨u5, R, rfl, ho5, hRl, hRR, hb5⟩
  have hS5 := Lib.hid (hSt.out u5 _ R w5 ho5 hRl)
  have hCR := Lib.hid (hC.out R hRl hRR)
  clear hRR ho5
  replace hb5 := Lib.hid (bt1 (bt1 hb.out hb4.out) hb5)
  go_wp2_with fail
  refine hS5.out.mono ?_; rintro e w6 ⟨u6, rfl, ho6, hb6⟩
  obtain ⟨p6, c6, rfl, -, -⟩ := ho6.rd
  rw [hCR.out]
  go_wp2_with fail
  go_ret2; exact ⟨rfl, bt1 hb5.out hb6⟩
theorem CountReachedBy_both (ks : List ByteArray) (hz : ∀ s ∈ ks, s.size ≤ maxLen) (s : ByteArray) (hs : s.size ≤ maxLen) : ∃ (r0 : Int) (r1 : Bool),
    (∀ w v, RdT w v ks → Calls Tryd.prog 21 #[v, .string s] w fun e w' => e = .returned (.tuple #[.int .i64 r0, .bool r1]) ∧ Below w.heap.size w w') ∧
    (∀ w v, TabOk w → RdT w v ks → Calls Tryd.prog 22 #[v, .string s] w fun e w' => e = .returned (.tuple #[.int .i64 r0, .bool r1]) ∧ Below w.heap.size w w') := by
  rcases key_cases ks s with ha | ⟨n, x, h1, h2, hx, hn, hG, rfl, ha⟩
  · exact ⟨0, false, fun w v h => sCR_no v ks s w hz hs h ha, fun w v hT h => iCR_no v ks s w hz hs h hT ha⟩
  · exact ⟨_, true, fun w v h => sCR_yes v ks n x w hz h h2 hx hn hG ha, fun w v hT h => iCR_yes v ks n x w hz h hT h1 h2 hx hn hG⟩
end Go.Proofs.YthddgnimkbjadabDoor
