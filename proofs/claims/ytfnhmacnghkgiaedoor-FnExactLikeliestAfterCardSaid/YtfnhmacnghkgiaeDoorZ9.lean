/- Chapter 7: StatesWithOn, both ways. -/
import Derived.Test.YtfnhmacnghkgiaeDoorZ7
import Derived.Test.YtfnhmacnghkgiaeDoorU1
namespace Go.Proofs.YtfnhmacnghkgiaeDoor
open Go Go.RowKit RM
/-- the texts of states with these numbers -/
def stT (n : Nat) (xs : List Nat) : List ByteArray := xs.map fun m => ST n (gray m)
theorem stT_len (n : Nat) (xs : List Nat) : (stT n xs).length = xs.length := by unfold stT; simp
theorem stT_take (n : Nat) (xs : List Nat) (k : Nat) (h : k < xs.length) : stT n (xs.take k) ++ [ST n (gray xs[k])] = stT n (xs.take (k + 1)) := by
  unfold stT; rw [List.take_add_one, List.getElem?_eq_getElem h, Option.toList_some, List.map_append]; rfl
theorem iST_no (n k : Int) (w : World) (hB : Hid (∀ w, Calls Tryd.prog 24 #[.int .i64 n, .int .i64 k] w fun e w' => e = .returned (.tuple #[.slice none 0 0, .bool false]) ∧ w = w')) :
    Calls Tryd.prog 9 #[.int .i64 n, .int .i64 k] w fun e w' => RetT w [] false e w' := by
  go_enter Tryd.func9, Tryd.ntmps9
  go_wp2_with fail
  refine (hB.out _).mono ?_; rintro e w' ⟨rfl, rfl⟩
  go_wp2_with fail
  go_ret2; exact ⟨_, rfl, OwnT.nil _ _, Below.refl _ _⟩
theorem iST_long (n k N : Nat) (xs : List (Nat × Nat)) (w : World) (hT : TabOk w) (hN : Hid (xs.length = N)) (h0 : 100 < N) (hB : Hid (∀ w, TabOk w → Calls Tryd.prog 24 #[.int .i64 n, .int .i64 k] w fun e w' => ∃ v, e = .returned (.tuple #[v, .bool true]) ∧ OwnG brE w' w.heap.size v xs ∧ Below w.heap.size w w')) :
    Calls Tryd.prog 9 #[.int .i64 n, .int .i64 k] w fun e w' => RetT w [] false e w' := by
  go_enter Tryd.func9, Tryd.ntmps9
  go_wp2_with fail
  refine (hB.out _ hT).mono ?_; rintro e w2 ⟨v, rfl, ho, hb⟩
  obtain ⟨p, c, rfl, _⟩ := br_at ho
  rw [hN.out]
  have d : decide ((100 : Int) < (N : Int)) = true := by simp; omega
  go_wp2_with fail
  go_ret2; exact ⟨_, rfl, OwnT.nil _ _, hb⟩
theorem iST_yes (n k N : Nat) (xs : List (Nat × Nat)) (T : Nat → List ByteArray) (w : World) (hT : TabOk w) (hN : Hid (xs.length = N)) (hN2 : N ≤ 100) (hB : Hid (∀ w, TabOk w → Calls Tryd.prog 24 #[.int .i64 n, .int .i64 k] w fun e w' => ∃ v, e = .returned (.tuple #[v, .bool true]) ∧ OwnG brE w' w.heap.size v xs ∧ Below w.heap.size w w'))
    (h0 : Hid (T 0 = [])) (hl : Hid (∀ i, i ≤ N → (T i).length ≤ 100)) (hX : Hid (∀ i (h : i < xs.length), ∃ t, T (i + 1) = T i ++ [t] ∧ ∀ w, Calls Tryd.prog 25 #[(.agg #[.int .i64 ((ctz (xs[i].2) : Nat) : Int), .bool (onB (xs[i].2)), .int .i64 ((xs[i].1 : Nat) : Int), .int .u64 ((xs[i].2 : Nat) : Int)])] w fun e w' => e = .returned (.string t) ∧ Below w.heap.size w w')) :
    Calls Tryd.prog 9 #[.int .i64 n, .int .i64 k] w fun e w' => RetT w (T N) true e w' := by
  go_enter Tryd.func9, Tryd.ntmps9
  go_wp2_with fail
  refine (hB.out _ hT).mono ?_; rintro e w2 ⟨v, rfl, ho, hb⟩
  obtain ⟨p, c, rfl, hc⟩ := br_at ho
  rw [hN.out]
  have d : decide ((100 : Int) < (N : Int)) = false := by simp; omega
  have hc := Lib.hid hc
  have hb := Lib.hid hb
  clear ho
  go_wp2_with fail
  go_loopw [8, 26] (fun o i wr => ∃ j : Nat, j ≤ N ∧ i = .int .i64 j ∧ Hid (OwnT wr w2.heap.size o (T j)) ∧ Hid (Below w2.heap.size w2 wr)) (fun _ i _ => N - (intOf i).toNat)
  case atStart => exact ⟨0, Nat.zero_le _, rfl, Lib.hid (by rw [h0.out]; exact OwnT.nil _ _), Lib.hid (Below.refl _ _)⟩
  case round =>
    obtain ⟨j, hj, rfl, ho, hbr⟩ := hrel
    by_cases hlt : j < N
    · have hjx : j < xs.length := by rw [hN.out]; exact hlt
      obtain ⟨g, rfl, hgl, c0, c1, c2, c3⟩ := hc.out wr hbr.out j hjx
      obtain ⟨t, hs, hXj⟩ := hX.out j hjx
      have hlj := hl.out j hj
      generalize xs[j].1 = a at *
      generalize xs[j].2 = b at *
      replace hXj := Lib.hid hXj
      replace hs := Lib.hid hs
      replace hlj := Lib.hid hlj
      go_wp2_with fail
      refine (hXj.out _).mono ?_; rintro e w3 ⟨rfl, hb3⟩
      have ho3 := Lib.hid ((ho.out.below (ba1 _ _)).below hb3)
      replace hb3 := Lib.hid (bt1 (bt1 hbr.out (ba1 _ _)) hb3)
      go_wp2_with (at_builtin; refine app_txt _ rfl _ _ rfl w2.heap.size _ _ rfl (ho3.out.below (ba1 _ _)) w3.heap.size t rfl (by simp) (by have := hlj.out; omega) (by have := hb3.out.size; simp; omega) ?_; intro v' w7 ho7 hg7; have hb7 := Lib.hid (bel_ownT (bt1 hb3.out (ba1 _ _)) (ho3.out.below (ba1 _ _)) hg7 (by have := hb3.out.size; simp; omega)); replace ho7 := Lib.hid ho7; clear hg7)
      go_roundw
      case rel => exact ⟨j + 1, by omega, by go_num, by rw [hs.out]; exact ho7, hb7⟩
      all_goals (simp [intOf] <;> omega)
    · obtain rfl : j = N := by omega
      go_wp2_with fail
      go_ret2; exact ⟨_, rfl, ho.out.mono hb.out.size, bt1 hb.out hbr.out⟩
theorem sST_no (n k : Int) (w : World) (hB : Hid (∀ w, Calls Tryd.prog 21 #[.int .i64 n, .int .i64 k] w fun e w' => e = .returned (.bool false) ∧ w = w')) :
    Calls Tryd.prog 8 #[.int .i64 n, .int .i64 k] w fun e w' => RetT w [] false e w' := by
  go_enter Tryd.func8, Tryd.ntmps8
  go_wp2_with fail
  refine (hB.out _).mono ?_; rintro e w' ⟨rfl, rfl⟩
  go_wp2_with fail
  go_ret2; exact ⟨_, rfl, OwnT.nil _ _, Below.refl _ _⟩
theorem sST_long (n k N : Nat) (xs : List Int) (w : World) (hN : Hid (xs.length = N)) (h0 : 100 < N) (hB : Hid (∀ w, Calls Tryd.prog 21 #[.int .i64 n, .int .i64 k] w fun e w' => e = .returned (.bool true) ∧ w = w'))
    (hW : Hid (∀ w, Calls Tryd.prog 22 #[.int .i64 n, .int .i64 k] w fun e w' => ∃ v, e = .returned v ∧ OwnI w' w.heap.size v xs ∧ Below w.heap.size w w')) :
    Calls Tryd.prog 8 #[.int .i64 n, .int .i64 k] w fun e w' => RetT w [] false e w' := by
  go_enter Tryd.func8, Tryd.ntmps8
  go_wp2_with fail
  refine (hB.out _).mono ?_; rintro e w' ⟨rfl, rfl⟩
  go_wp2_with fail
  refine (hW.out _).mono ?_; rintro e w2 ⟨v, rfl, ho, hb⟩
  obtain ⟨p, c, rfl, _, hr⟩ := ho.rd
  rw [hN.out]
  have d : decide ((100 : Int) < (N : Int)) = true := by simp; omega
  go_wp2_with fail
  go_ret2; exact ⟨_, rfl, OwnT.nil _ _, hb⟩
theorem sST_yes (n k N : Nat) (xs : List Int) (T : Nat → List ByteArray) (w : World) (hN : Hid (xs.length = N)) (hN2 : N ≤ 100) (hB : Hid (∀ w, Calls Tryd.prog 21 #[.int .i64 n, .int .i64 k] w fun e w' => e = .returned (.bool true) ∧ w = w'))
    (hW : Hid (∀ w, Calls Tryd.prog 22 #[.int .i64 n, .int .i64 k] w fun e w' => ∃ v, e = .returned v ∧ OwnI w' w.heap.size v xs ∧ Below w.heap.size w w'))
    (h0 : Hid (T 0 = [])) (hl : Hid (∀ i, i ≤ N → (T i).length ≤ 100)) (hX : Hid (∀ i (h : i < xs.length), ∃ t, T (i + 1) = T i ++ [t] ∧ ∀ w, Calls Tryd.prog 23 #[.int .i64 n, .int .i64 xs[i]] w fun e w' => e = .returned (.string t) ∧ Below w.heap.size w w')) :
    Calls Tryd.prog 8 #[.int .i64 n, .int .i64 k] w fun e w' => RetT w (T N) true e w' := by
  go_enter Tryd.func8, Tryd.ntmps8
  go_wp2_with fail
  refine (hB.out _).mono ?_; rintro e w' ⟨rfl, rfl⟩
  go_wp2_with fail
  refine (hW.out _).mono ?_; rintro e w2 ⟨v, rfl, ho, hb⟩
  obtain ⟨p, c, rfl, _, hr⟩ := ho.rd
  rw [hN.out]
  have d : decide ((100 : Int) < (N : Int)) = false := by simp; omega
  have hr := Lib.hid hr
  have hb := Lib.hid hb
  clear ho
  go_wp2_with fail
  go_loopw [7, 22] (fun o i wr => ∃ j : Nat, j ≤ N ∧ i = .int .i64 j ∧ Hid (OwnT wr w2.heap.size o (T j)) ∧ Hid (Below w2.heap.size w2 wr)) (fun _ i _ => N - (intOf i).toNat)
  case atStart => exact ⟨0, Nat.zero_le _, rfl, Lib.hid (by rw [h0.out]; exact OwnT.nil _ _), Lib.hid (Below.refl _ _)⟩
  case round =>
    obtain ⟨j, hj, rfl, ho, hbr⟩ := hrel
    by_cases hlt : j < N
    · have hjx : j < xs.length := by rw [hN.out]; exact hlt
      obtain ⟨g, rfl, hgl, c0⟩ := (hr.out.below hbr.out).at hjx
      obtain ⟨t, hs, hXj⟩ := hX.out j hjx
      have hlj := hl.out j hj
      generalize xs[j] = a at *
      replace hXj := Lib.hid hXj
      replace hs := Lib.hid hs
      replace hlj := Lib.hid hlj
      go_wp2_with fail
      refine (hXj.out _).mono ?_; rintro e w3 ⟨rfl, hb3⟩
      have ho3 := Lib.hid (ho.out.below hb3)
      replace hb3 := Lib.hid (bt1 hbr.out hb3)
      go_wp2_with (at_builtin; refine app_txt _ rfl _ _ rfl w2.heap.size _ _ rfl (ho3.out.below (ba1 _ _)) w3.heap.size t rfl (by simp) (by have := hlj.out; omega) (by have := hb3.out.size; simp; omega) ?_; intro v' w7 ho7 hg7; have hb7 := Lib.hid (bel_ownT (bt1 hb3.out (ba1 _ _)) (ho3.out.below (ba1 _ _)) hg7 (by have := hb3.out.size; simp; omega)); replace ho7 := Lib.hid ho7; clear hg7)
      go_roundw
      case rel => exact ⟨j + 1, by omega, by go_num, by rw [hs.out]; exact ho7, hb7⟩
      all_goals (simp [intOf] <;> omega)
    · obtain rfl : j = N := by omega
      go_wp2_with fail
      go_ret2; exact ⟨_, rfl, ho.out.mono hb.out.size, bt1 hb.out hbr.out⟩
theorem StatesWithOn_both (n k : Int) (_ : (Lit.int .i64 n).wf = true) (_ : (Lit.int .i64 k).wf = true) : ∃ (r : List ByteArray) (ok : Bool), r.length ≤ 1000 ∧
    (∀ w, Calls Tryd.prog 8 #[.int .i64 n, .int .i64 k] w fun e w' => RetT w r ok e w') ∧
    (∀ w, TabOk w → Calls Tryd.prog 9 #[.int .i64 n, .int .i64 k] w fun e w' => RetT w r ok e w') := by
  rcases won_cases n k with h | ⟨m, j, rfl, rfl, h1, h2, h3⟩
  · exact ⟨[], false, by simp, fun w => sST_no n k w (Lib.hid fun w => waOn_any n k w _ h), fun w _ => iST_no n k w (Lib.hid fun w => bars_no n k w h)⟩
  · have hp := Nat.pow_le_pow_right (n := 2) (by omega) h2
    have hmem : ∀ x ∈ onL j (2 ^ m), x < 2 ^ m := fun x hx => onL_mem j _ _ hx
    have hgood := fun w => waOn_any (m : Int) (j : Int) w true (by unfold wonB; simp; omega)
    generalize hL : onL j (2 ^ m) = L at *
    have hbar := fun w hw => bars_any m j w h1 h2 h3 hw
    have hwith := fun w => with_any m j w h1 h2 h3
    rw [hL] at hbar hwith
    by_cases h9 : 100 < L.length
    · exact ⟨[], false, by simp, fun w => sST_long m j L.length (nI L) w (Lib.hid (nI_len _)) h9 (Lib.hid hgood) (Lib.hid hwith), fun w hT => iST_long m j L.length (brL m L) w hT (Lib.hid (brL_len _ _)) h9 (Lib.hid hbar)⟩
    · refine ⟨stT m (L.take L.length), true, by rw [stT_len]; simp; omega, fun w => sST_yes m j L.length (nI L) (fun k => stT m (L.take k)) w (Lib.hid (nI_len _)) (by omega) (Lib.hid hgood) (Lib.hid hwith) (Lib.hid rfl) (Lib.hid fun i hi => by rw [stT_len]; simp; omega) (Lib.hid fun i h => ?_), fun w hT => iST_yes m j L.length (brL m L) (fun k => stT m (L.take k)) w hT (Lib.hid (brL_len _ _)) (by omega) (Lib.hid hbar) (Lib.hid rfl) (Lib.hid fun i hi => by rw [stT_len]; simp; omega) (Lib.hid fun i h => ?_)⟩
      · have hi : i < L.length := by rw [nI_len] at h; exact h
        have hx := hmem _ (List.getElem_mem hi)
        refine ⟨ST m (gray L[i]), (stT_take m L i hi).symm, fun w => ?_⟩
        have e : (nI L)[i]? = some (L[i] : Int) := by unfold nI; rw [List.getElem?_map, List.getElem?_eq_getElem hi]; rfl
        rw [List.getElem?_eq_getElem h] at e
        rw [Option.some.inj e]
        refine (riState_any m _ w (by omega) (by omega)).mono ?_
        rintro e w' ⟨rfl, q, rfl⟩; exact ⟨rfl, below_drewN (Below.refl _ _) q⟩
      · have hi : i < L.length := by rw [brL_len] at h; exact h
        have hx := hmem _ (List.getElem_mem hi)
        refine ⟨ST m (gray L[i]), (stT_take m L i hi).symm, fun w => ?_⟩
        have e : (brL m L)[i]? = some (m, gray L[i]) := by unfold brL; rw [List.getElem?_map, List.getElem?_eq_getElem hi]; rfl
        rw [List.getElem?_eq_getElem h] at e
        rw [Option.some.inj e]
        exact text_any m _ w (gray_lt 20 _ (by omega)) (by omega)
end Go.Proofs.YtfnhmacnghkgiaeDoor
