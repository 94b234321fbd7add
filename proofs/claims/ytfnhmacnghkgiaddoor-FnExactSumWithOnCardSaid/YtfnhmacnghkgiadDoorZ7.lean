/- Chapter 7: CountWithOn, LeastWithOn, GreatestWithOn, SumWithOn, both ways. -/
import Derived.Test.YtfnhmacnghkgiadDoorZ6
namespace Go.Proofs.YtfnhmacnghkgiadDoor
open Go Go.RowKit RM
theorem iCW_no (n k : Int) (w : World) (hB : Hid (∀ w, Calls Tryd.prog 39 #[.int .i64 n, .int .i64 k] w fun e w' => e = .returned (.tuple #[.slice none 0 0, .bool false]) ∧ w = w')) :
    Calls Tryd.prog 17 #[.int .i64 n, .int .i64 k] w fun e w' => AnsI w 0 false e w' := by
  go_enter Tryd.func17, Tryd.ntmps17
  go_wp2_with fail
  refine (hB.out _).mono ?_; rintro e w' ⟨rfl, rfl⟩
  go_wp2_with fail
  go_ret2; exact ⟨rfl, Below.refl _ _⟩
theorem iCW_yes (n k : Nat) (xs : List (Nat × Nat)) (w : World) (hT : TabOk w) (hB : Hid (∀ w, TabOk w → Calls Tryd.prog 39 #[.int .i64 n, .int .i64 k] w fun e w' => ∃ v, e = .returned (.tuple #[v, .bool true]) ∧ OwnG brE w' w.heap.size v xs ∧ Below w.heap.size w w')) :
    Calls Tryd.prog 17 #[.int .i64 n, .int .i64 k] w fun e w' => AnsI w (xs.length : Int) true e w' := by
  go_enter Tryd.func17, Tryd.ntmps17
  go_wp2_with fail
  refine (hB.out _ hT).mono ?_; rintro e w2 ⟨v, rfl, ho, hb⟩
  obtain ⟨p, c, rfl, hc⟩ := ho.rd
  go_wp2_with fail
  go_ret2; exact ⟨rfl, hb⟩
theorem sCW_no (n k : Int) (w : World) (hB : Hid (∀ w, Calls Tryd.prog 37 #[.int .i64 n, .int .i64 k] w fun e w' => e = .returned (.bool false) ∧ w = w')) :
    Calls Tryd.prog 16 #[.int .i64 n, .int .i64 k] w fun e w' => AnsI w 0 false e w' := by
  go_enter Tryd.func16, Tryd.ntmps16
  go_wp2_with fail
  refine (hB.out _).mono ?_; rintro e w' ⟨rfl, rfl⟩
  go_wp2_with fail
  go_ret2; exact ⟨rfl, Below.refl _ _⟩
theorem sCW_yes (n k : Nat) (xs : List Int) (w : World) (hB : Hid (∀ w, Calls Tryd.prog 37 #[.int .i64 n, .int .i64 k] w fun e w' => e = .returned (.bool true) ∧ w = w'))
    (hW : Hid (∀ w, Calls Tryd.prog 38 #[.int .i64 n, .int .i64 k] w fun e w' => ∃ v, e = .returned v ∧ OwnI w' w.heap.size v xs ∧ Below w.heap.size w w')) :
    Calls Tryd.prog 16 #[.int .i64 n, .int .i64 k] w fun e w' => AnsI w (xs.length : Int) true e w' := by
  go_enter Tryd.func16, Tryd.ntmps16
  go_wp2_with fail
  refine (hB.out _).mono ?_; rintro e w' ⟨rfl, rfl⟩
  go_wp2_with fail
  refine (hW.out _).mono ?_; rintro e w2 ⟨v, rfl, ho, hb⟩
  obtain ⟨p, c, rfl, hc⟩ := ho.rd
  go_wp2_with fail
  go_ret2; exact ⟨rfl, hb⟩
theorem CountWithOn_both (n k : Int) (_ : (Lit.int .i64 n).wf = true) (_ : (Lit.int .i64 k).wf = true) : ∃ (r : Int) (ok : Bool),
    (∀ w, Calls Tryd.prog 16 #[.int .i64 n, .int .i64 k] w fun e w' => e = .returned (.tuple #[.int .i64 r, .bool ok]) ∧ Below w.heap.size w w') ∧
    (∀ w, TabOk w → Calls Tryd.prog 17 #[.int .i64 n, .int .i64 k] w fun e w' => e = .returned (.tuple #[.int .i64 r, .bool ok]) ∧ Below w.heap.size w w') := by
  rcases won_cases n k with h | ⟨m, j, rfl, rfl, h1, h2, h3⟩
  · exact ⟨0, false, fun w => sCW_no n k w (Lib.hid fun w => waOn_any n k w _ h), fun w _ => iCW_no n k w (Lib.hid fun w => bars_no n k w h)⟩
  · refine ⟨_, true, fun w => sCW_yes m j _ w (Lib.hid fun w => waOn_any m j w _ (by unfold wonB; simp; omega)) (Lib.hid fun w => with_any m j w h1 h2 h3), fun w hT => ?_⟩
    have := iCW_yes m j _ w hT (Lib.hid fun w hw => bars_any m j w h1 h2 h3 hw)
    rw [brL_len] at this
    rw [nI_len]; exact this
/-- a bar of a row, in memory -/
theorem br_at {w : World} {B : Nat} {v : Value} {xs : List (Nat × Nat)} (h : OwnG brE w B v xs) : ∃ p c, v = .slice p xs.length c ∧ ∀ w', Below w.heap.size w w' → ∀ k (hk : k < xs.length), ∃ g, p = some ⟨g, 0, none⟩ ∧ g < w.heap.size ∧
    w'.cell? ⟨g, k * 4, none⟩ = some (.int .i64 ((ctz xs[k].2 : Nat) : Int)) ∧ w'.cell? ⟨g, k * 4 + 1, none⟩ = some (.bool (onB xs[k].2)) ∧ w'.cell? ⟨g, k * 4 + 2, none⟩ = some (.int .i64 ((xs[k].1 : Nat) : Int)) ∧ w'.cell? ⟨g, k * 4 + 3, none⟩ = some (.int .u64 ((xs[k].2 : Nat) : Int)) := by
  obtain ⟨p, c, rfl, hl, hr⟩ := h.rd
  refine ⟨p, c, rfl, fun w' hb k hk => ?_⟩
  obtain ⟨g, rfl, hlt, hc⟩ := (hr.below hb) (fun e => by rw [e] at hk; simp at hk)
  obtain ⟨g2, e2, hlt2, _⟩ := hr (fun e => by rw [e] at hk; simp at hk)
  cases e2
  refine ⟨g, rfl, hlt2, ?_, ?_, ?_, ?_⟩
  · have := hc k hk 0 (by decide); simpa [brE] using this
  · have := hc k hk 1 (by decide); simpa [brE] using this
  · have := hc k hk 2 (by decide); simpa [brE] using this
  · have := hc k hk 3 (by decide); simpa [brE] using this
theorem iLW_no (n k : Int) (w : World) (hB : Hid (∀ w, Calls Tryd.prog 39 #[.int .i64 n, .int .i64 k] w fun e w' => e = .returned (.tuple #[.slice none 0 0, .bool false]) ∧ w = w')) :
    Calls Tryd.prog 19 #[.int .i64 n, .int .i64 k] w fun e w' => AnsS w ⟨#[]⟩ false e w' := by
  go_enter Tryd.func19, Tryd.ntmps19
  go_wp2_with fail
  refine (hB.out _).mono ?_; rintro e w' ⟨rfl, rfl⟩
  go_wp2_with fail
  go_ret2; exact ⟨rfl, Below.refl _ _⟩
theorem iLW_yes (n k N : Nat) (xs : List (Nat × Nat)) (t : ByteArray) (w : World) (hT : TabOk w) (hN : Hid (xs.length = N)) (h0 : 0 < N) (hN2 : N ≤ 4096) (hB : Hid (∀ w, TabOk w → Calls Tryd.prog 39 #[.int .i64 n, .int .i64 k] w fun e w' => ∃ v, e = .returned (.tuple #[v, .bool true]) ∧ OwnG brE w' w.heap.size v xs ∧ Below w.heap.size w w'))
    (hX : Hid (∀ w (h : 0 < xs.length), Calls Tryd.prog 41 #[(.agg #[.int .i64 ((ctz (xs[0].2) : Nat) : Int), .bool (onB (xs[0].2)), .int .i64 ((xs[0].1 : Nat) : Int), .int .u64 ((xs[0].2 : Nat) : Int)])] w fun e w' => e = .returned (.string t) ∧ Below w.heap.size w w')) :
    Calls Tryd.prog 19 #[.int .i64 n, .int .i64 k] w fun e w' => AnsS w t true e w' := by
  go_enter Tryd.func19, Tryd.ntmps19
  go_wp2_with fail
  refine (hB.out _ hT).mono ?_; rintro e w2 ⟨v, rfl, ho, hb⟩
  obtain ⟨p, c, rfl, hc⟩ := br_at ho
  have hlt : 0 < xs.length := by rw [hN.out]; exact h0
  obtain ⟨g, rfl, _, c0, c1, c2, c3⟩ := hc w2 (Below.refl _ _) 0 hlt
  have hX := Lib.hid fun w => hX.out w hlt
  rw [hN.out]
  generalize xs[0].1 = a at *
  generalize xs[0].2 = b at *
  clear hc
  simp only [Nat.zero_mul, Nat.zero_add] at c0 c1 c2 c3
  have hb := Lib.hid hb
  go_wp2_with fail
  refine (hX.out _).mono ?_; rintro e w3 ⟨rfl, hb3⟩
  go_wp2_with fail
  go_ret2; exact ⟨rfl, bt hb.out hb3⟩
theorem sLW_no (n k : Int) (w : World) (hB : Hid (∀ w, Calls Tryd.prog 37 #[.int .i64 n, .int .i64 k] w fun e w' => e = .returned (.bool false) ∧ w = w')) :
    Calls Tryd.prog 18 #[.int .i64 n, .int .i64 k] w fun e w' => AnsS w ⟨#[]⟩ false e w' := by
  go_enter Tryd.func18, Tryd.ntmps18
  go_wp2_with fail
  refine (hB.out _).mono ?_; rintro e w' ⟨rfl, rfl⟩
  go_wp2_with fail
  go_ret2; exact ⟨rfl, Below.refl _ _⟩
theorem sLW_yes (n k N : Nat) (xs : List Int) (t : ByteArray) (w : World) (hN : Hid (xs.length = N)) (h0 : 0 < N) (hN2 : N ≤ 4096) (hB : Hid (∀ w, Calls Tryd.prog 37 #[.int .i64 n, .int .i64 k] w fun e w' => e = .returned (.bool true) ∧ w = w'))
    (hW : Hid (∀ w, Calls Tryd.prog 38 #[.int .i64 n, .int .i64 k] w fun e w' => ∃ v, e = .returned v ∧ OwnI w' w.heap.size v xs ∧ Below w.heap.size w w'))
    (hX : Hid (∀ w (h : 0 < xs.length), Calls Tryd.prog 40 #[.int .i64 n, .int .i64 xs[0]] w fun e w' => e = .returned (.string t) ∧ ∃ q, w' = w.drewN q)) :
    Calls Tryd.prog 18 #[.int .i64 n, .int .i64 k] w fun e w' => AnsS w t true e w' := by
  go_enter Tryd.func18, Tryd.ntmps18
  go_wp2_with fail
  refine (hB.out _).mono ?_; rintro e w' ⟨rfl, rfl⟩
  go_wp2_with fail
  refine (hW.out _).mono ?_; rintro e w2 ⟨v, rfl, ho, hb⟩
  obtain ⟨p, c, rfl, _, hr⟩ := ho.rd
  have hlt : 0 < xs.length := by rw [hN.out]; exact h0
  obtain ⟨g, rfl, _, c0⟩ := hr.at hlt
  have hX := Lib.hid fun w => hX.out w hlt
  rw [hN.out]
  generalize xs[0] = a at *
  clear hr
  have hb := Lib.hid hb
  go_wp2_with fail
  refine (hX.out _).mono ?_; rintro e w3 ⟨rfl, q, rfl⟩
  go_wp2_with fail
  go_ret2; exact ⟨rfl, below_drewN hb.out q⟩
theorem LeastWithOn_both (n k : Int) (_ : (Lit.int .i64 n).wf = true) (_ : (Lit.int .i64 k).wf = true) : ∃ (r : ByteArray) (ok : Bool),
    (∀ w, Calls Tryd.prog 18 #[.int .i64 n, .int .i64 k] w fun e w' => e = .returned (.tuple #[.string r, .bool ok]) ∧ Below w.heap.size w w') ∧
    (∀ w, TabOk w → Calls Tryd.prog 19 #[.int .i64 n, .int .i64 k] w fun e w' => e = .returned (.tuple #[.string r, .bool ok]) ∧ Below w.heap.size w w') := by
  rcases won_cases n k with h | ⟨m, j, rfl, rfl, h1, h2, h3⟩
  · exact ⟨_, false, fun w => sLW_no n k w (Lib.hid fun w => waOn_any n k w _ h), fun w _ => iLW_no n k w (Lib.hid fun w => bars_no n k w h)⟩
  · have hne := onL_some m j h3
    have hpos : 0 < (onL j (2 ^ m)).length := List.length_pos_iff.2 hne
    have hle : (onL j (2 ^ m)).length ≤ 4096 := Nat.le_trans (onL_len _ _) (Nat.pow_le_pow_right (n := 2) (by omega) h2)
    have hm : (onL j (2 ^ m))[0] < 2 ^ m := onL_mem j _ _ (List.getElem_mem _)
    have hp := Nat.pow_le_pow_right (n := 2) (by omega) h2
    refine ⟨ST m (gray (onL j (2 ^ m))[0]), true, fun w => sLW_yes m j _ (nI (onL j (2 ^ m))) _ w (Lib.hid (nI_len _)) hpos hle (Lib.hid fun w => waOn_any m j w _ (by unfold wonB; simp; omega)) (Lib.hid fun w => with_any m j w h1 h2 h3) (Lib.hid fun w h => ?_), fun w hT => iLW_yes m j _ (brL m (onL j (2 ^ m))) _ w hT (Lib.hid (brL_len _ _)) hpos hle (Lib.hid fun w hw => bars_any m j w h1 h2 h3 hw) (Lib.hid fun w h => ?_)⟩
    · have e : (nI (onL j (2 ^ m)))[0] = ((onL j (2 ^ m))[0] : Int) := by simp [nI]
      rw [e]
      exact riState_any m _ w (by omega) (by omega)
    · have e1 : (brL m (onL j (2 ^ m)))[0] = (m, gray (onL j (2 ^ m))[0]) := by simp [brL]
      rw [e1]
      exact text_any m _ w (gray_lt 20 _ (by omega)) (by omega)
theorem iGW_no (n k : Int) (w : World) (hB : Hid (∀ w, Calls Tryd.prog 39 #[.int .i64 n, .int .i64 k] w fun e w' => e = .returned (.tuple #[.slice none 0 0, .bool false]) ∧ w = w')) :
    Calls Tryd.prog 21 #[.int .i64 n, .int .i64 k] w fun e w' => AnsS w ⟨#[]⟩ false e w' := by
  go_enter Tryd.func21, Tryd.ntmps21
  go_wp2_with fail
  refine (hB.out _).mono ?_; rintro e w' ⟨rfl, rfl⟩
  go_wp2_with fail
  go_ret2; exact ⟨rfl, Below.refl _ _⟩
theorem iGW_yes (n k N : Nat) (xs : List (Nat × Nat)) (t : ByteArray) (w : World) (hT : TabOk w) (hN : Hid (xs.length = N)) (h0 : 0 < N) (hN2 : N ≤ 4096) (hB : Hid (∀ w, TabOk w → Calls Tryd.prog 39 #[.int .i64 n, .int .i64 k] w fun e w' => ∃ v, e = .returned (.tuple #[v, .bool true]) ∧ OwnG brE w' w.heap.size v xs ∧ Below w.heap.size w w'))
    (hX : Hid (∀ w (h : N - 1 < xs.length), Calls Tryd.prog 41 #[(.agg #[.int .i64 ((ctz (xs[N - 1].2) : Nat) : Int), .bool (onB (xs[N - 1].2)), .int .i64 ((xs[N - 1].1 : Nat) : Int), .int .u64 ((xs[N - 1].2 : Nat) : Int)])] w fun e w' => e = .returned (.string t) ∧ Below w.heap.size w w')) :
    Calls Tryd.prog 21 #[.int .i64 n, .int .i64 k] w fun e w' => AnsS w t true e w' := by
  go_enter Tryd.func21, Tryd.ntmps21
  go_wp2_with fail
  refine (hB.out _ hT).mono ?_; rintro e w2 ⟨v, rfl, ho, hb⟩
  obtain ⟨p, c, rfl, hc⟩ := br_at ho
  have hlt : N - 1 < xs.length := by rw [hN.out]; omega
  obtain ⟨g, rfl, _, c0, c1, c2, c3⟩ := hc w2 (Below.refl _ _) (N - 1) hlt
  have hX2 := Lib.hid fun w => hX.out w hlt
  clear hX
  rw [hN.out]
  generalize xs[N - 1].1 = a at *
  generalize xs[N - 1].2 = b at *
  clear hc
  obtain ⟨M, rfl⟩ : ∃ M, N = M + 1 := ⟨N - 1, by omega⟩
  simp only [Nat.add_sub_cancel] at c0 c1 c2 c3 hlt
  have eM : ((M + 1 : Nat) : Int) - 1 = (M : Int) := by omega
  have hb := Lib.hid hb
  go_wp2_with fail
  refine (hX2.out _).mono ?_; rintro e w3 ⟨rfl, hb3⟩
  go_wp2_with fail
  go_ret2; exact ⟨rfl, bt hb.out hb3⟩
theorem sGW_no (n k : Int) (w : World) (hB : Hid (∀ w, Calls Tryd.prog 37 #[.int .i64 n, .int .i64 k] w fun e w' => e = .returned (.bool false) ∧ w = w')) :
    Calls Tryd.prog 20 #[.int .i64 n, .int .i64 k] w fun e w' => AnsS w ⟨#[]⟩ false e w' := by
  go_enter Tryd.func20, Tryd.ntmps20
  go_wp2_with fail
  refine (hB.out _).mono ?_; rintro e w' ⟨rfl, rfl⟩
  go_wp2_with fail
  go_ret2; exact ⟨rfl, Below.refl _ _⟩
theorem sGW_yes (n k N : Nat) (xs : List Int) (t : ByteArray) (w : World) (hN : Hid (xs.length = N)) (h0 : 0 < N) (hN2 : N ≤ 4096) (hB : Hid (∀ w, Calls Tryd.prog 37 #[.int .i64 n, .int .i64 k] w fun e w' => e = .returned (.bool true) ∧ w = w'))
    (hW : Hid (∀ w, Calls Tryd.prog 38 #[.int .i64 n, .int .i64 k] w fun e w' => ∃ v, e = .returned v ∧ OwnI w' w.heap.size v xs ∧ Below w.heap.size w w'))
    (hX : Hid (∀ w (h : N - 1 < xs.length), Calls Tryd.prog 40 #[.int .i64 n, .int .i64 xs[N - 1]] w fun e w' => e = .returned (.string t) ∧ ∃ q, w' = w.drewN q)) :
    Calls Tryd.prog 20 #[.int .i64 n, .int .i64 k] w fun e w' => AnsS w t true e w' := by
  go_enter Tryd.func20, Tryd.ntmps20
  go_wp2_with fail
  refine (hB.out _).mono ?_; rintro e w' ⟨rfl, rfl⟩
  go_wp2_with fail
  refine (hW.out _).mono ?_; rintro e w2 ⟨v, rfl, ho, hb⟩
  obtain ⟨p, c, rfl, _, hr⟩ := ho.rd
  have hlt : N - 1 < xs.length := by rw [hN.out]; omega
  obtain ⟨g, rfl, _, c0⟩ := hr.at hlt
  have hX2 := Lib.hid fun w => hX.out w hlt
  clear hX
  rw [hN.out]
  generalize xs[N - 1] = a at *
  clear hr
  obtain ⟨M, rfl⟩ : ∃ M, N = M + 1 := ⟨N - 1, by omega⟩
  simp only [Nat.add_sub_cancel] at c0 hlt
  have eM : ((M + 1 : Nat) : Int) - 1 = (M : Int) := by omega
  have hb := Lib.hid hb
  go_wp2_with fail
  refine (hX2.out _).mono ?_; rintro e w3 ⟨rfl, q, rfl⟩
  go_wp2_with fail
  go_ret2; exact ⟨rfl, below_drewN hb.out q⟩
theorem GreatestWithOn_both (n k : Int) (_ : (Lit.int .i64 n).wf = true) (_ : (Lit.int .i64 k).wf = true) : ∃ (r : ByteArray) (ok : Bool),
    (∀ w, Calls Tryd.prog 20 #[.int .i64 n, .int .i64 k] w fun e w' => e = .returned (.tuple #[.string r, .bool ok]) ∧ Below w.heap.size w w') ∧
    (∀ w, TabOk w → Calls Tryd.prog 21 #[.int .i64 n, .int .i64 k] w fun e w' => e = .returned (.tuple #[.string r, .bool ok]) ∧ Below w.heap.size w w') := by
  rcases won_cases n k with h | ⟨m, j, rfl, rfl, h1, h2, h3⟩
  · exact ⟨_, false, fun w => sGW_no n k w (Lib.hid fun w => waOn_any n k w _ h), fun w _ => iGW_no n k w (Lib.hid fun w => bars_no n k w h)⟩
  · have hne := onL_some m j h3
    have hpos : 0 < (onL j (2 ^ m)).length := List.length_pos_iff.2 hne
    have hle : (onL j (2 ^ m)).length ≤ 4096 := Nat.le_trans (onL_len _ _) (Nat.pow_le_pow_right (n := 2) (by omega) h2)
    obtain ⟨Z, hZ⟩ : ∃ Z, (onL j (2 ^ m))[(onL j (2 ^ m)).length - 1]? = some Z := ⟨_, List.getElem?_eq_getElem (by omega)⟩
    have hm : Z < 2 ^ m := onL_mem j _ _ (List.mem_of_getElem? hZ)
    have hp := Nat.pow_le_pow_right (n := 2) (by omega) h2
    refine ⟨ST m (gray Z), true, fun w => sGW_yes m j _ (nI (onL j (2 ^ m))) _ w (Lib.hid (nI_len _)) hpos hle (Lib.hid fun w => waOn_any m j w _ (by unfold wonB; simp; omega)) (Lib.hid fun w => with_any m j w h1 h2 h3) (Lib.hid fun w h => ?_), fun w hT => iGW_yes m j _ (brL m (onL j (2 ^ m))) _ w hT (Lib.hid (brL_len _ _)) hpos hle (Lib.hid fun w hw => bars_any m j w h1 h2 h3 hw) (Lib.hid fun w h => ?_)⟩
    · have e : (nI (onL j (2 ^ m)))[(onL j (2 ^ m)).length - 1]? = some (Z : Int) := by unfold nI; rw [List.getElem?_map, hZ]; rfl
      rw [List.getElem?_eq_getElem h] at e
      rw [Option.some.inj e]
      exact riState_any m _ w (by omega) (by omega)
    · have e : (brL m (onL j (2 ^ m)))[(onL j (2 ^ m)).length - 1]? = some (m, gray Z) := by unfold brL; rw [List.getElem?_map, hZ]; rfl
      rw [List.getElem?_eq_getElem h] at e
      rw [Option.some.inj e]
      exact text_any m _ w (gray_lt 20 _ (by omega)) (by omega)

/-- the sum of the first k -/
def sumT (xs : List Nat) (k : Nat) : Nat := (xs.take k).sum
theorem sumT_succ (xs : List Nat) (k : Nat) (h : k < xs.length) : sumT xs (k + 1) = sumT xs k + xs[k] := by
  unfold sumT
  rw [List.take_add_one, List.getElem?_eq_getElem h, Option.toList_some, List.sum_append]; simp
theorem sumT_le (xs : List Nat) (k b : Nat) (h : ∀ x ∈ xs, x ≤ b) : sumT xs k ≤ k * b := by
  unfold sumT
  have := sum_le (xs.take k) b (fun x hx => h x (List.mem_of_mem_take hx))
  exact Nat.le_trans this (Nat.mul_le_mul_right _ (by simp; omega))
theorem iSW_no (n k : Int) (w : World) (hB : Hid (∀ w, Calls Tryd.prog 39 #[.int .i64 n, .int .i64 k] w fun e w' => e = .returned (.tuple #[.slice none 0 0, .bool false]) ∧ w = w')) :
    Calls Tryd.prog 23 #[.int .i64 n, .int .i64 k] w fun e w' => AnsI w 0 false e w' := by
  go_enter Tryd.func23, Tryd.ntmps23
  go_wp2_with fail
  refine (hB.out _).mono ?_; rintro e w' ⟨rfl, rfl⟩
  go_wp2_with fail
  go_loopw [8, 19] (fun o i wr => o = .int .i64 0 ∧ i = .int .i64 0 ∧ wr = w) (fun _ _ _ => 0)
  case atStart => exact ⟨rfl, rfl, rfl⟩
  case round =>
    obtain ⟨rfl, rfl, rfl⟩ := hrel
    go_wp2_with fail
    go_ret2; exact ⟨rfl, Below.refl _ _⟩
theorem iSW_yes (n k N : Nat) (xs : List (Nat × Nat)) (T : Nat → Nat) (w : World) (hT : TabOk w) (hN : Hid (xs.length = N)) (hN2 : N ≤ 4096) (hB : Hid (∀ w, TabOk w → Calls Tryd.prog 39 #[.int .i64 n, .int .i64 k] w fun e w' => ∃ v, e = .returned (.tuple #[v, .bool true]) ∧ OwnG brE w' w.heap.size v xs ∧ Below w.heap.size w w'))
    (h0 : Hid (T 0 = 0)) (hS : Hid (∀ i (h : i < xs.length), T (i + 1) = T i + num xs[i].2 ∧ num xs[i].2 ≤ 4096 ∧ T i ≤ i * 4096)) (hX : Hid (∀ w i (h : i < xs.length), Calls Tryd.prog 42 #[(.agg #[.int .i64 ((ctz (xs[i].2) : Nat) : Int), .bool (onB (xs[i].2)), .int .i64 ((xs[i].1 : Nat) : Int), .int .u64 ((xs[i].2 : Nat) : Int)])] w fun e w' => e = .returned (.int .i64 (num xs[i].2 : Nat)) ∧ Below w.heap.size w w')) :
    Calls Tryd.prog 23 #[.int .i64 n, .int .i64 k] w fun e w' => AnsI w (T N : Nat) true e w' := by
  go_enter Tryd.func23, Tryd.ntmps23
  go_wp2_with fail
  refine (hB.out _ hT).mono ?_; rintro e w2 ⟨v, rfl, ho, hb⟩
  obtain ⟨p, c, rfl, hc⟩ := br_at ho
  rw [hN.out]
  have hc := Lib.hid hc
  have hb := Lib.hid hb
  clear ho
  go_wp2_with fail
  go_loopw [8, 19] (fun o i wr => ∃ j : Nat, j ≤ N ∧ o = .int .i64 (T j : Nat) ∧ i = .int .i64 j ∧ Hid (Below w2.heap.size w2 wr)) (fun _ i _ => N - (intOf i).toNat)
  case atStart => exact ⟨0, Nat.zero_le _, by rw [h0.out]; rfl, rfl, Lib.hid (Below.refl _ _)⟩
  case round =>
    obtain ⟨j, hj, rfl, rfl, hbr⟩ := hrel
    by_cases hlt : j < N
    · have hjx : j < xs.length := by rw [hN.out]; exact hlt
      obtain ⟨g, rfl, hgl, c0, c1, c2, c3⟩ := hc.out wr hbr.out j hjx
      obtain ⟨hs1, hs2, hs3⟩ := hS.out j hjx
      have hXj := Lib.hid fun w => hX.out w j hjx
      generalize xs[j].1 = a at *
      generalize xs[j].2 = b at *
      generalize num b = z at *
      generalize hTj : T j = tj at *
      replace hs1 := Lib.hid hs1
      have hb3 : tj ≤ 16777216 := by omega
      clear hs3
      go_wp2_with fail
      refine (hXj.out _).mono ?_; rintro e w3 ⟨rfl, hb3⟩
      replace hb3 := Lib.hid (bt1 (bt1 hbr.out (ba1 _ _)) hb3)
      go_wp2_with fail
      go_roundw
      case rel => exact ⟨j + 1, by omega, vi (by have := hs1.out; rw [this]; go_num), by go_num, hb3⟩
      all_goals (simp [intOf] <;> omega)
    · obtain rfl : j = N := by omega
      go_wp2_with fail
      go_ret2; exact ⟨rfl, bt1 hb.out hbr.out⟩
theorem sSW_no (n k : Int) (w : World) (hB : Hid (∀ w, Calls Tryd.prog 37 #[.int .i64 n, .int .i64 k] w fun e w' => e = .returned (.bool false) ∧ w = w')) :
    Calls Tryd.prog 22 #[.int .i64 n, .int .i64 k] w fun e w' => AnsI w 0 false e w' := by
  go_enter Tryd.func22, Tryd.ntmps22
  go_wp2_with fail
  refine (hB.out _).mono ?_; rintro e w' ⟨rfl, rfl⟩
  go_wp2_with fail
  go_ret2; exact ⟨rfl, Below.refl _ _⟩
theorem sSW_yes (n k N : Nat) (xs : List Int) (T : Nat → Nat) (w : World) (hN : Hid (xs.length = N)) (hN2 : N ≤ 4096) (hB : Hid (∀ w, Calls Tryd.prog 37 #[.int .i64 n, .int .i64 k] w fun e w' => e = .returned (.bool true) ∧ w = w'))
    (hW : Hid (∀ w, Calls Tryd.prog 38 #[.int .i64 n, .int .i64 k] w fun e w' => ∃ v, e = .returned v ∧ OwnI w' w.heap.size v xs ∧ Below w.heap.size w w'))
    (h0 : Hid (T 0 = 0)) (hS : Hid (∀ i (h : i < xs.length), ∃ m : Nat, xs[i] = (m : Int) ∧ T (i + 1) = T i + m ∧ m ≤ 4096 ∧ T i ≤ i * 4096)) :
    Calls Tryd.prog 22 #[.int .i64 n, .int .i64 k] w fun e w' => AnsI w (T N : Nat) true e w' := by
  go_enter Tryd.func22, Tryd.ntmps22
  go_wp2_with fail
  refine (hB.out _).mono ?_; rintro e w' ⟨rfl, rfl⟩
  go_wp2_with fail
  refine (hW.out _).mono ?_; rintro e w2 ⟨v, rfl, ho, hb⟩
  obtain ⟨p, c, rfl, _, hr⟩ := ho.rd
  rw [hN.out]
  have hr := Lib.hid hr
  have hb := Lib.hid hb
  clear ho
  go_wp2_with fail
  go_loopw [6, 17] (fun o i wr => ∃ j : Nat, j ≤ N ∧ o = .int .i64 (T j : Nat) ∧ i = .int .i64 j ∧ wr = w2) (fun _ i _ => N - (intOf i).toNat)
  case atStart => exact ⟨0, Nat.zero_le _, by rw [h0.out]; rfl, rfl, rfl⟩
  case round =>
    obtain ⟨j, hj, rfl, rfl, rfl⟩ := hrel
    by_cases hlt : j < N
    · have hjx : j < xs.length := by rw [hN.out]; exact hlt
      obtain ⟨g, rfl, hgl, c0⟩ := hr.out.at hjx
      obtain ⟨m, hm, hs1, hs2, hs3⟩ := hS.out j hjx
      rw [hm] at c0
      generalize hTj : T j = tj at *
      replace hs1 := Lib.hid hs1
      have hb3 : tj ≤ 16777216 := by omega
      clear hs3 hm
      go_wp2_with fail
      go_roundw
      case rel => exact ⟨j + 1, by omega, vi (by have := hs1.out; rw [this]; go_num), by go_num, by first | rfl | trivial⟩
      all_goals (simp [intOf] <;> omega)
    · obtain rfl : j = N := by omega
      go_wp2_with fail
      go_ret2; exact ⟨rfl, hb.out⟩
theorem SumWithOn_both (n k : Int) (_ : (Lit.int .i64 n).wf = true) (_ : (Lit.int .i64 k).wf = true) : ∃ (r : Int) (ok : Bool),
    (∀ w, Calls Tryd.prog 22 #[.int .i64 n, .int .i64 k] w fun e w' => e = .returned (.tuple #[.int .i64 r, .bool ok]) ∧ Below w.heap.size w w') ∧
    (∀ w, TabOk w → Calls Tryd.prog 23 #[.int .i64 n, .int .i64 k] w fun e w' => e = .returned (.tuple #[.int .i64 r, .bool ok]) ∧ Below w.heap.size w w') := by
  rcases won_cases n k with h | ⟨m, j, rfl, rfl, h1, h2, h3⟩
  · exact ⟨0, false, fun w => sSW_no n k w (Lib.hid fun w => waOn_any n k w _ h), fun w _ => iSW_no n k w (Lib.hid fun w => bars_no n k w h)⟩
  · have hp := Nat.pow_le_pow_right (n := 2) (by omega) h2
    have hle : (onL j (2 ^ m)).length ≤ 4096 := Nat.le_trans (onL_len _ _) hp
    have hmem : ∀ x ∈ onL j (2 ^ m), x ≤ 4096 := fun x hx => by have := onL_mem j _ _ hx; omega
    generalize hL : onL j (2 ^ m) = L at *
    have hbar := fun w hw => bars_any m j w h1 h2 h3 hw
    have hwith := fun w => with_any m j w h1 h2 h3
    rw [hL] at hbar hwith
    refine ⟨_, true, fun w => sSW_yes m j L.length (nI L) (sumT L) w (Lib.hid (nI_len _)) hle (Lib.hid fun w => waOn_any m j w _ (by unfold wonB; simp; omega)) (Lib.hid hwith) (Lib.hid rfl) (Lib.hid fun i h => ?_), fun w hT => iSW_yes m j L.length (brL m L) (sumT L) w hT (Lib.hid (brL_len _ _)) hle (Lib.hid hbar) (Lib.hid rfl) (Lib.hid fun i h => ?_) (Lib.hid fun w i h => ?_)⟩
    · have hi : i < L.length := by rw [nI_len] at h; exact h
      refine ⟨L[i], ?_, sumT_succ L i hi, hmem _ (List.getElem_mem _), sumT_le L i 4096 hmem⟩
      have e : (nI L)[i]? = some (L[i] : Int) := by unfold nI; rw [List.getElem?_map, List.getElem?_eq_getElem hi]; rfl
      rw [List.getElem?_eq_getElem h] at e
      exact Option.some.inj e
    · have hi : i < L.length := by rw [brL_len] at h; exact h
      have e : (brL m L)[i]? = some (m, gray L[i]) := by unfold brL; rw [List.getElem?_map, List.getElem?_eq_getElem hi]; rfl
      rw [List.getElem?_eq_getElem h] at e
      rw [Option.some.inj e]
      show _ ∧ num (gray L[i]) ≤ _ ∧ _
      rw [show num ((m, gray L[i]) : Nat × Nat).2 = L[i] from num_gray _]
      exact ⟨sumT_succ L i hi, hmem _ (List.getElem_mem _), sumT_le L i 4096 hmem⟩
    · have hi : i < L.length := by rw [brL_len] at h; exact h
      have e : (brL m L)[i]? = some (m, gray L[i]) := by unfold brL; rw [List.getElem?_map, List.getElem?_eq_getElem hi]; rfl
      rw [List.getElem?_eq_getElem h] at e
      rw [Option.some.inj e]
      have := hmem _ (List.getElem_mem hi)
      exact number_any m _ w (gray_lt 20 _ (by omega))
end Go.Proofs.YtfnhmacnghkgiadDoor
