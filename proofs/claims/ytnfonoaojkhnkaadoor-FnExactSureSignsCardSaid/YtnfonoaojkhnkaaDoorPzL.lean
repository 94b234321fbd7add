/- The sure signs of a puzzle, both sides. -/
import Derived.Test.YtnfonoaojkhnkaaDoorPzJ
import Derived.Test.YtnfonoaojkhnkaaDoorBy2
import Derived.Laws.RangeString
import Derived.Lib.OthersKept
namespace Go.Proofs.YtnfonoaojkhnkaaDoor
open Go Go.RowKit RM
/-- the sign of ring k that all states have that x0 has, or ? -/
def sureK (x0 : Nat) (L : List Nat) (k : Nat) : UInt8 := if L.all (fun x => x.testBit k == x0.testBit k) then sgnB x0 k else 63
/-- the signs, up to ring k with one list of states, from it on with another one -/
def sureM (n x0 : Nat) (L L' : List Nat) (k : Nat) : List UInt8 := (List.range n).map fun i => if i < k then sureK x0 L' i else sureK x0 L i
def sureL (n x0 : Nat) (L : List Nat) : List UInt8 := (List.range n).map (sureK x0 L)
theorem sureM_len (n x0 : Nat) (L L' : List Nat) (k : Nat) : (sureM n x0 L L' k).length = n := by simp [sureM]
theorem sureM_zero (n x0 : Nat) (L L' : List Nat) : sureM n x0 L L' 0 = sureL n x0 L := by simp [sureM, sureL]
theorem sureM_all (n x0 : Nat) (L L' : List Nat) : sureM n x0 L L' n = sureL n x0 L' := by
  unfold sureM sureL
  apply List.map_congr_left
  intro i hi
  rw [if_pos (List.mem_range.1 hi)]
theorem sureM_at (n x0 : Nat) (L L' : List Nat) (k : Nat) (hk : k < (sureM n x0 L L' k).length) : (sureM n x0 L L' k)[k] = sureK x0 L k := by
  simp [sureM]
theorem sureM_step (n x0 : Nat) (L L' : List Nat) (k : Nat) : (sureM n x0 L L' k).set k (sureK x0 L' k) = sureM n x0 L L' (k + 1) := by
  apply List.ext_getElem?
  intro i
  rw [List.getElem?_set]
  by_cases e : k = i
  · subst e
    simp only [sureM, List.length_map, List.length_range, if_true, List.getElem?_map]
    by_cases hk : k < n
    · simp [hk]
    · simp [hk]
  · rw [if_neg e]
    simp only [sureM, List.getElem?_map]
    by_cases hi : i < n
    · rw [List.getElem?_range hi]
      simp only [Option.map_some]
      by_cases h1 : i < k
      · rw [if_pos h1, if_pos (by omega)]
      · rw [if_neg h1, if_neg (by omega)]
    · rw [List.getElem?_eq_none (by simp; omega)]; rfl
theorem sgnB_cases (x k : Nat) : (x.testBit k = true ∧ sgnB x k = 49) ∨ (x.testBit k = false ∧ sgnB x k = 48) := by
  unfold sgnB
  cases x.testBit k <;> simp
theorem sureK_snoc (x0 : Nat) (L : List Nat) (x k : Nat) : sureK x0 (L ++ [x]) k = if sgnB x k = sureK x0 L k then sureK x0 L k else 63 := by
  unfold sureK
  rw [List.all_append]
  cases h : L.all (fun x => x.testBit k == x0.testBit k) with
  | false =>
    simp
  | true =>
    rcases sgnB_cases x k with ⟨h1, h2⟩ | ⟨h1, h2⟩ <;> rcases sgnB_cases x0 k with ⟨h3, h4⟩ | ⟨h3, h4⟩ <;> simp [h1, h2, h3, h4]
theorem sureL_nil (n x0 : Nat) : sureL n x0 [] = tx n x0 := by
  unfold sureL tx sureK sgnB
  rfl
def sureS (n x0 : Nat) (L : List Nat) : ByteArray := ⟨(sureL n x0 L).toArray⟩
/-- the answer: none where there is no solution -/
def sureA (n : Nat) : List Nat → ByteArray
  | [] => ⟨#[]⟩
  | x :: l => sureS n x (x :: l)
theorem txt_at {w : World} {B : Nat} {v : Value} {xs : List ByteArray} (h : OwnT w B v xs) {k : Nat} (hk : k < xs.length) : ∃ g, (∃ cap, v = .slice (some ⟨g, 0, none⟩) xs.length cap) ∧ g < w.heap.size ∧ ∀ w', Below w.heap.size w w' → ∀ i (hi : i < xs.length), w'.cell? ⟨g, i, none⟩ = some (.string xs[i]) := by
  rcases h.form with ⟨_, rfl⟩ | ⟨g, cap, rfl, _, hl, hc, _, _⟩
  · simp at hk
  · exact ⟨g, ⟨cap, rfl⟩, hl, fun w' hb i hi => by rw [hb.cell (p := ⟨g, i, none⟩) hl]; exact hc i hi⟩
theorem iSure_none (R : Int) (m c : Nat) (p : Option Addr) (ok : Bool) (w : World)
    (hS : Hid (Calls Tryd.prog 22 #[.agg #[.int .i64 R, .slice p m c]] (w.alloc (puzO R (.slice p m c))) fun e w' => RetT (w.alloc (puzO R (.slice p m c))) [] ok e w')) :
    Calls Tryd.prog 32 #[.agg #[.int .i64 R, .slice p m c]] w fun e w' => e = .returned (.tuple #[.string ⟨#[]⟩, .bool false]) ∧ Below w.heap.size w w' := by
  go_enter Tryd.func32, Tryd.ntmps32
  go_wp2_with fail
  refine hS.out.mono ?_; rintro e w3 ⟨v, rfl, ho3, hb3⟩
  obtain ⟨pv, cv, rfl⟩ := ho3.slT
  replace hb3 := Lib.hid (bt1 (ba1 w _) hb3)
  have h0 : ((([] : List ByteArray).length : Int) == 0) = true := rfl
  clear ho3
  go_wp2_with fail
  go_ret2; exact ⟨rfl, hb3.out⟩

set_option maxHeartbeats 2000000 in
theorem iSure_some (R : Int) (n m c N x0 : Nat) (l : List Nat) (p : Option Addr) (ok : Bool) (w : World) (hn : n ≤ 7) (hN : (x0 :: l).length = N) (hl : N ≤ 128)
    (hS : Hid (Calls Tryd.prog 22 #[.agg #[.int .i64 R, .slice p m c]] (w.alloc (puzO R (.slice p m c))) fun e w' => RetT (w.alloc (puzO R (.slice p m c))) (txZ n (x0 :: l)) ok e w')) :
    Calls Tryd.prog 32 #[.agg #[.int .i64 R, .slice p m c]] w fun e w' => e = .returned (.tuple #[.string (sureS n x0 (x0 :: l)), .bool true]) ∧ Below w.heap.size w w' := by
  have hNp : 0 < N := by rw [← hN]; simp
  have hx0 : Hid ((x0 :: l)[0]? = some x0) := Lib.hid rfl
  generalize x0 :: l = L at *
  replace hN := Lib.hid hN
  go_enter Tryd.func32, Tryd.ntmps32
  go_wp2_with fail
  refine hS.out.mono ?_; rintro e w3 ⟨v, rfl, ho3, hb3⟩
  have hNt : (txZ n L).length = N := by rw [txZ_len]; exact hN.out
  obtain ⟨g, ⟨cap, rfl⟩, hgl, hc⟩ := txt_at ho3 (k := 0) (by rw [hNt]; exact hNp)
  rw [hNt]
  have hcx : Hid (∀ w', Below w3.heap.size w3 w' → ∀ i (hi : i < L.length), w'.cell? ⟨g, i, none⟩ = some (.string (ST n L[i]))) := Lib.hid fun w' hb i hi => by
    have := hc w' hb i (by rw [txZ_len]; exact hi)
    rw [this]; unfold txZ; rw [List.getElem_map]
  have h0c : w3.cell? ⟨g, 0, none⟩ = some (.string (ST n x0)) := by
    have h := hcx.out w3 (Below.refl _ _) 0 (by rw [hN.out]; exact hNp)
    have e := hx0.out
    rw [List.getElem?_eq_getElem (by rw [hN.out]; exact hNp)] at e
    rw [Option.some.inj e] at h; exact h
  replace hb3 := Lib.hid (bt1 (ba1 w _) hb3)
  have h0 : ((N : Int) == 0) = false := by simp; omega
  have h1 : (0 : Int) < (N : Int) := by omega
  obtain ⟨cap2, w4, hcv, hbr4, hb4⟩ := conv_own w3 (ST n x0)
  have hb34 := Lib.hid hb4
  rw [ST_size] at hcv
  have hbr4 : Hid (BRow w4 w3.heap.size (sureL n x0 (L.take 0))) := Lib.hid (by rw [List.take_zero, sureL_nil]; exact hbr4)
  have hw34 := hb4.size
  clear hc ho3 hNt hb4
  go_wp2_with fail
  go_loopw [24] (fun i wr => ∃ j : Nat, j ≤ N ∧ i = .int .i64 j ∧ Hid (BRow wr w3.heap.size (sureL n x0 (L.take j))) ∧ Hid (Below w3.heap.size w3 wr)) (fun i _ => N - (intOf i).toNat)
  case atStart => exact ⟨0, Nat.zero_le _, rfl, hbr4, hb34⟩
  case round =>
    obtain ⟨j, hj, rfl, hr, hb⟩ := hrel
    obtain ⟨wA, rfl⟩ : ∃ x, x = wr := ⟨_, rfl⟩
    clear h0c hcv
    by_cases hlt : j < N
    · have hjx : j < L.length := by rw [hN.out]; exact hlt
      have c0 := hcx.out wA hb.out j hjx
      have htk := Lib.hid (show L.take (j + 1) = L.take j ++ [L[j]] from List.take_succ_eq_append_getElem hjx)
      generalize L[j] = x at *
      have hsz := ST_size n x
      have hsg : Hid (∀ k (h : k < (ST n x).size), (ST n x)[k] = sgnB x k) := Lib.hid fun k h => ST_get n x k h
      generalize ST n x = s at *
      replace hsz := Lib.hid hsz
      go_wp2_with fail
      go_loopw [30] (fun i wr => ∃ k : Nat, k ≤ n ∧ i = .int .i64 k ∧ Hid (BRow wr w3.heap.size (sureM n x0 (L.take j) (L.take (j + 1)) k)) ∧ Hid (Below w3.heap.size w3 wr)) (fun i _ => n - (intOf i).toNat)
      case atStart => exact ⟨0, Nat.zero_le _, rfl, Lib.hid (by rw [sureM_zero]; exact hr.out), hb⟩
      case round =>
        obtain ⟨k, hk, rfl, hrk, hbk⟩ := hrel
        clear c0
        by_cases hlk : k < n
        · have hks : k < s.size := by rw [hsz.out]; exact hlk
          obtain ⟨d0, d1⟩ := hrk.out.cell k (by rw [sureM_len]; exact hlk)
          rw [sureM_at] at d0
          have hst := sureM_step n x0 (L.take j) (L.take (j + 1)) k
          have hyy := @List.set_getElem_self _ (sureM n x0 (L.take j) (L.take (j + 1)) k) k (by rw [sureM_len]; exact hlk)
          rw [sureM_at] at hyy
          replace hyy := Lib.hid hyy
          rw [htk.out, sureK_snoc, ← htk.out] at hst
          have hse := hsg.out k hks
          have hsr := Lib.hid fun y => hrk.out.stored k y
          have hgl := hrk.out.lt
          generalize sureK x0 (L.take j) k = y at *
          generalize sgnB x k = z at *
          have iq0 : (0 : Int) ≤ (k : Int) := by omega
          have iq1 : (k : Int) < (n : Int) := by omega
          by_cases hzy : z = y
          · rw [if_pos hzy] at hst
            have hne : ((z.toNat : Int) != (y.toNat : Int)) = false := by rw [hzy]; simp
            have hsame := Lib.hid (show BRow wr w3.heap.size (sureM n x0 (L.take j) (L.take (j + 1)) (k + 1)) by
              rw [← hst, hyy.out]; exact hrk.out)
            clear hst hzy
            go_wp2_with fail
            go_quiet (fail)
            go_wp2_with fail
            go_roundw
            case rel => exact ⟨k + 1, by omega, by go_num, Lib.hid (hsame.out.below (below_drewN (Below.refl _ _) _)), Lib.hid (below_drewN hbk.out _)⟩
            all_goals (simp [intOf] <;> omega)
          · rw [if_neg hzy] at hst
            have hne : ((z.toNat : Int) != (y.toNat : Int)) = true := by
              simp
              intro e
              exact hzy (UInt8.toNat_inj.1 (by omega))
            replace hst := Lib.hid hst
            clear hzy
            go_wp2_with fail
            go_quiet (fail)
            go_wp2_with fail
            have hq63 := (hrk.out.below (below_drewN (Below.refl _ _) nq)).stored k 63
            rw [hst.out] at hq63
            go_roundw
            case rel => exact ⟨k + 1, by omega, by go_num, Lib.hid hq63, Lib.hid ((below_drewN hbk.out _).setCell (Nat.le_refl _) _)⟩
            all_goals (simp [intOf] <;> omega)
        · have hkn : k = n := by omega
          subst hkn
          have hful := Lib.hid (show BRow wr w3.heap.size (sureL k x0 (L.take (j + 1))) by rw [← sureM_all k x0 (L.take j)]; exact hrk.out)
          go_wp2_with fail
          go_roundw
          case rel => exact ⟨j + 1, by omega, by go_num, hful, hbk⟩
          all_goals (simp [intOf] <;> omega)
    · have hjN : j = N := by omega
      subst hjN
      have htL : L.take j = L := List.take_of_length_le (by rw [hN.out]; exact Nat.le_refl _)
      rw [htL] at hr
      have hsr := str_row wA w3.heap.size n cap2 (sureL n x0 L) hr.out (by simp [sureL])
      have hSS : Hid (sureS n x0 L = ⟨(sureL n x0 L).toArray⟩) := Lib.hid rfl
      clear htL hlt hr
      generalize sureL n x0 L = SL at *
      go_wp2_with fail
      go_ret2; exact ⟨by rw [hSS.out]; rfl, hb3.out.trans (hb.out.mono hb3.out.size)⟩

/-- the signs of the first rings, as a text -/
def sureP (n x0 : Nat) (L : List Nat) (k : Nat) : ByteArray := ⟨((sureL n x0 L).take k).toArray⟩
theorem sureP_zero (n x0 : Nat) (L : List Nat) : sureP n x0 L 0 = ⟨#[]⟩ := rfl
theorem sureP_all (n x0 : Nat) (L : List Nat) : sureP n x0 L n = sureS n x0 L := by
  unfold sureP sureS
  rw [List.take_of_length_le (by simp [sureL])]
theorem sureP_step (n x0 : Nat) (L : List Nat) (k : Nat) (hk : k < n) : sureP n x0 L k ++ ⟨#[sureK x0 L k]⟩ = sureP n x0 L (k + 1) := by
  unfold sureP
  have hl : k < (sureL n x0 L).length := by simpa [sureL] using hk
  have e : (sureL n x0 L)[k] = sureK x0 L k := by simp [sureL]
  rw [List.take_succ_eq_append_getElem hl, e]
  apply ba_ext
  simp
theorem sureP_size (n x0 : Nat) (L : List Nat) (k : Nat) : (sureP n x0 L k).size ≤ n := by
  show (List.take k (sureL n x0 L)).toArray.size ≤ n
  simp [sureL]
  omega
theorem ST_one (n x k : Nat) (hk : k < n) : (ST n x).extract k (k + 1) = ⟨#[sgnB x k]⟩ := by
  apply ba_ext
  have h2 : k < (tx n x).length := by simpa [tx] using hk
  simp only [ByteArray.data_extract, Array.toList_extract, ST_data, List.extract_eq_take_drop]
  rw [show k + 1 - k = 1 by omega, List.drop_eq_getElem_cons h2]
  simp [tx, sgnB]
theorem sureK_all (x0 : Nat) (L : List Nat) (k : Nat) (h : ∀ i (hi : i < L.length), sgnB L[i] k = sgnB x0 k) : sureK x0 L k = sgnB x0 k := by
  unfold sureK
  rw [if_pos]
  rw [List.all_eq_true]
  intro x hx
  obtain ⟨i, hi, rfl⟩ := List.getElem_of_mem hx
  have := h i hi
  rcases sgnB_cases L[i] k with ⟨h1, h2⟩ | ⟨h1, h2⟩ <;> rcases sgnB_cases x0 k with ⟨h3, h4⟩ | ⟨h3, h4⟩ <;> simp_all
theorem sureK_bad (x0 : Nat) (L : List Nat) (k i : Nat) (hi : i < L.length) (h : sgnB L[i] k ≠ sgnB x0 k) : sureK x0 L k = 63 := by
  unfold sureK
  rw [if_neg]
  intro ha
  have := List.all_eq_true.1 ha _ (List.getElem_mem hi)
  apply h
  unfold sgnB
  rw [beq_iff_eq.1 this]

set_option maxHeartbeats 2000000 in
theorem sSure_core (n m c N x0 : Nat) (l : List Nat) (p : Option Addr) (w : World) (hN : (x0 :: l).length = N) (hl : N ≤ 128) (h7 : n ≤ 7)
    (hS : Hid (∀ W, Below w.heap.size w W → W.heap[w.heap.size]? = some (puzO n (.slice p m c)) → Calls Tryd.prog 46 #[.int .i64 n, .slice p m c] W fun e W' => ∃ v, e = .returned v ∧ OwnT W' W.heap.size v (txZ n (x0 :: l)) ∧ Below W.heap.size W W'))
    (hG : Hid (Calls Tryd.prog 38 #[.agg #[.int .i64 n, .slice p m c]] (w.alloc (puzO n (.slice p m c))) fun e w' => e = .returned (.bool true) ∧ Below (w.alloc (puzO n (.slice p m c))).heap.size (w.alloc (puzO n (.slice p m c))) w')) :
    Calls Tryd.prog 31 #[.agg #[.int .i64 n, .slice p m c]] w fun e w' => e = .returned (.tuple #[.string (sureS n x0 (x0 :: l)), .bool true]) ∧ Below w.heap.size w w' := by
  have hNp : 0 < N := by rw [← hN]; simp
  have hx0 : Hid ((x0 :: l)[0]? = some x0) := Lib.hid rfl
  generalize x0 :: l = L at *
  replace hN := Lib.hid hN
  go_enter Tryd.func31, Tryd.ntmps31
  go_wp2_with fail
  refine hG.out.mono ?_; rintro e w3 ⟨rfl, hb3⟩
  have P3 := Lib.hid (hb_below hb3 (by simp) (hb_new w (puzO n (.slice p m c))))
  replace hb3 := Lib.hid (bt1 (ba1 w _) hb3)
  have hA3 := Lib.hid (hS.out w3 hb3.out P3.out)
  have f0 : w3.cell? ⟨w.heap.size, 0, none⟩ = some (.int .i64 n) := hb_cell P3.out 0
  have f1 : w3.cell? ⟨w.heap.size, 1, none⟩ = some (.slice p m c) := hb_cell P3.out 1
  go_wp2_with fail
  refine hA3.out.mono ?_; rintro e w4 ⟨lv, rfl, ho4, hb4⟩
  have hNt : (txZ n L).length = N := by rw [txZ_len]; exact hN.out
  obtain ⟨g, ⟨cap, rfl⟩, hgl, hc⟩ := txt_at ho4 (k := 0) (by rw [hNt]; exact hNp)
  rw [hNt]
  have hcx : Hid (∀ w', Below w4.heap.size w4 w' → ∀ i (hi : i < L.length), w'.cell? ⟨g, i, none⟩ = some (.string (ST n L[i]))) := Lib.hid fun w' hb i hi => by
    have := hc w' hb i (by rw [txZ_len]; exact hi)
    rw [this]; unfold txZ; rw [List.getElem_map]
  have hc0x : Hid (∀ w', Below w4.heap.size w4 w' → w'.cell? ⟨g, 0, none⟩ = some (.string (ST n x0))) := Lib.hid fun w' hb => by
    have h := hcx.out w' hb 0 (by rw [hN.out]; exact hNp)
    have e := hx0.out
    rw [List.getElem?_eq_getElem (by rw [hN.out]; exact hNp)] at e
    rw [Option.some.inj e] at h; exact h
  have h0c := hc0x.out w4 (Below.refl _ _)
  replace hb4 := Lib.hid (bt1 hb3.out hb4)
  have h0 : ((N : Int) == 0) = false := by simp; omega
  have h1 : (0 : Int) < (N : Int) := by omega
  have h48 := hb4.out.size
  clear hc ho4 hNt f0 f1 P3 hA3
  have hsz := ST_size n x0
  have hasc : Hid (∀ k (h : k < (ST n x0).size), (ST n x0)[k].toNat < 128) := Lib.hid fun k h => by rw [ST_get]; split <;> decide
  have hone : Hid (∀ k, k < n → (ST n x0).extract k (k + 1) = ⟨#[sgnB x0 k]⟩) := Lib.hid fun k h => ST_one n x0 k h
  generalize ST n x0 = s at *
  go_wp2_with fail
  go_loopw [5] (fun o wr => ∃ k : Nat, k ≤ n ∧ wr.heap[w4.heap.size]? = some (.stringIter s k) ∧ o = .string (sureP n x0 L k) ∧ Hid (Below w4.heap.size w4 wr)) (fun _ wr => n - wr.iterPos w4.heap.size)
  case atStart => exact ⟨0, Nat.zero_le _, World.iter_heap w4 s 0, by rw [sureP_zero], Lib.hid (ba _ _)⟩
  case round =>
    obtain ⟨k, hk, hit, rfl, hb⟩ := hrel
    have hlt0 := lt_of_block hit
    have hpos : wr.iterPos w4.heap.size = k := iterPos_of hit
    clear h0c
    by_cases hlt : k < n
    · have hks : k < s.size := by omega
      have hnx : ∀ ty, (Instr.next (.pointer (some ⟨w4.heap.size, 0, none⟩)) true ty).run Tryd.prog wr = .ok (.tuple #[.bool true, .int .i64 (k : Int), .int .i32 (s[k].toNat : Int)]) (wr.iterAt w4.heap.size s (k + 1)) := fun ty => by
        have := Lib.run_next_any_at (P := Tryd.prog) wr w4.heap.size s k ty hit hks
        rw [decode_ascii s k hks (hasc.out k hks)] at this; exact this
      have hit2 := Lib.iterAt_heap wr w4.heap.size s k (k + 1) hit
      have hb2 := Lib.hid (Lib.below_iterAt hb.out (k := w4.heap.size) (Nat.le_refl _) s (k + 1))
      obtain ⟨W1, hW1⟩ : ∃ W1, W1 = wr.iterAt w4.heap.size s (k + 1) := ⟨_, rfl⟩
      rw [← hW1] at hnx hit2 hb2
      have hpos2 : W1.iterPos w4.heap.size = k + 1 := iterPos_of hit2
      have hsz1 := hb2.out.size
      have hbk := lt_of_block hit2
      clear hW1 hit hb
      have hso := hone.out k hlt
      have h0c := hc0x.out W1 hb2.out
      have hPs := Lib.hid (sureP_step n x0 L k hlt)
      have hsP := sureP_size n x0 L k
      generalize sureP n x0 L k = o at *
      have iq0 : (0 : Int) ≤ (k : Int) := by omega
      have iq1 : (k : Int) + 1 ≤ (s.size : Int) := by omega
      go_wp2_with fail
      have hall : Hid ((∀ i (hi : i < L.length), sgnB L[i] k = sgnB x0 k) → sureK x0 L k = sgnB x0 k) := Lib.hid (sureK_all x0 L k)
      have hbad := Lib.hid fun i (hi : i < L.length) => sureK_bad x0 L k i hi
      generalize sgnB x0 k = y at *
      generalize sureK x0 L k = z at *
      go_loopw [7, 37] (fun sg i wr => ∃ j : Nat, j ≤ N ∧ i = .int .i64 j ∧ sg = .string ⟨#[y]⟩ ∧ Hid (∀ i (hi : i < L.length), i < j → sgnB L[i] k = y) ∧ Hid (Below W1.heap.size W1 wr)) (fun _ i _ => N - (intOf i).toNat)
      case atStart => exact ⟨0, Nat.zero_le _, rfl, rfl, Lib.hid fun i _ h => absurd h (by omega), Lib.hid (Below.refl _ _)⟩
      case round =>
        obtain ⟨j, hj, rfl, rfl, hsm, hbj⟩ := hrel
        have hit3 := hb_below hbj.out hbk hit2
        have hpos3 : wr.iterPos w4.heap.size = k + 1 := iterPos_of hit3
        have hb3j := Lib.hid (hb2.out.trans (hbj.out.mono hsz1))
        clear h0c hnx
        by_cases hlj : j < N
        · have hjx : j < L.length := by rw [hN.out]; exact hlj
          have c0 := hcx.out wr hb3j.out j hjx
          have hsz2 := ST_size n L[j]
          have hso2 := ST_one n L[j] k hlt
          have hbd := Lib.hid (hbad.out j hjx)
          have hex : Hid (sgnB L[j] k = y → ∀ i (hi : i < L.length), i < j + 1 → sgnB L[i] k = y) := Lib.hid fun e i hi h => by
            by_cases e2 : i = j
            · subst e2; exact e
            · exact hsm.out i hi (by omega)
          generalize sgnB L[j] k = y2 at *
          generalize ST n L[j] = s2 at *
          have iq2 : (k : Int) + 1 ≤ (s2.size : Int) := by omega
          by_cases hyy : y2 = y
          · subst hyy
            have hne : (!y2 == y2) = false := by simp
            have hex2 := Lib.hid (hex.out rfl)
            clear hex hbd hbad hall
            go_wp2_with fail
            go_roundw
            case rel => exact ⟨j + 1, by omega, by go_num, rfl, hex2, hbj⟩
            all_goals (simp [intOf] <;> omega)
          · have hne : (!y2 == y) = true := by simp [hyy]
            have hz := hbd.out hyy
            subst hz
            clear hex hbd hbad hall hyy
            go_wp2_with fail
            go_roundw
            case rel => exact ⟨k + 1, by omega, hit3, by rw [hPs.out], hb3j⟩
            case measure => rw [hpos, hpos3]; omega
        · obtain rfl : j = N := by omega
          have hzy := hall.out fun i hi => hsm.out i hi (by rw [← hN.out]; exact hi)
          subst hzy
          go_wp2_with fail
          go_roundw
          case rel => exact ⟨k + 1, by omega, hit3, by rw [hPs.out], hb3j⟩
          case measure => rw [hpos, hpos3]; omega
    · obtain rfl : k = n := by omega
      have hnx : ∀ ty, (Instr.next (.pointer (some ⟨w4.heap.size, 0, none⟩)) true ty).run Tryd.prog wr = .ok (.tuple #[.bool false]) wr := fun ty => Lib.run_next_end_at (P := Tryd.prog) wr w4.heap.size s _ ty hit (by omega)
      have hSA := Lib.hid (sureP_all k x0 L)
      generalize sureP k x0 L k = o at *
      go_wp2_with fail
      go_ret2; exact ⟨by rw [← hSA.out]; rfl, hb4.out.trans (hb.out.mono (by omega))⟩

theorem iSureSigns (R : Int) (cs : List Clu) (v : Value) (w : World) (h : RdZ w v R cs) (hT : TabOk w) :
    Calls Tryd.prog 32 #[v] w fun e w' => e = .returned (.tuple #[.string (sureA R.toNat (solG R cs)), .bool (!(solG R cs).isEmpty)]) ∧ Below w.heap.size w w' := by
  obtain ⟨p, c, rfl, hm, hr⟩ := h.form
  have hS := iSolutions R cs _ (w.alloc (puzO R (.slice p cs.length c))) (h.below (ba1 w _)) (hT.below (ba1 w _))
  have hl := solG_len R cs
  rcases goodZ_cases R cs with hg | ⟨n, rfl, h1, h7, _, _⟩
  · rw [solG_no hg] at hS ⊢
    exact iSure_none R cs.length c p _ w (Lib.hid hS)
  · generalize solG n cs = L at *
    rw [Int.toNat_natCast] at *
    cases L with
    | nil => exact iSure_none n cs.length c p _ w (Lib.hid hS)
    | cons x l => exact iSure_some n n cs.length c (x :: l).length x l p _ w h7 rfl hl (Lib.hid hS)

theorem sSure_nil (n m c : Nat) (p : Option Addr) (w : World)
    (hS : Hid (∀ W, Below w.heap.size w W → W.heap[w.heap.size]? = some (puzO n (.slice p m c)) → Calls Tryd.prog 46 #[.int .i64 n, .slice p m c] W fun e W' => ∃ v, e = .returned v ∧ OwnT W' W.heap.size v (txZ n []) ∧ Below W.heap.size W W'))
    (hG : Hid (Calls Tryd.prog 38 #[.agg #[.int .i64 n, .slice p m c]] (w.alloc (puzO n (.slice p m c))) fun e w' => e = .returned (.bool true) ∧ Below (w.alloc (puzO n (.slice p m c))).heap.size (w.alloc (puzO n (.slice p m c))) w')) :
    Calls Tryd.prog 31 #[.agg #[.int .i64 n, .slice p m c]] w fun e w' => e = .returned (.tuple #[.string ⟨#[]⟩, .bool false]) ∧ Below w.heap.size w w' := by
  go_enter Tryd.func31, Tryd.ntmps31
  go_wp2_with fail
  refine hG.out.mono ?_; rintro e w3 ⟨rfl, hb3⟩
  have P3 := Lib.hid (hb_below hb3 (by simp) (hb_new w (puzO n (.slice p m c))))
  replace hb3 := Lib.hid (bt1 (ba1 w _) hb3)
  have hA3 := Lib.hid (hS.out w3 hb3.out P3.out)
  have f0 : w3.cell? ⟨w.heap.size, 0, none⟩ = some (.int .i64 n) := hb_cell P3.out 0
  have f1 : w3.cell? ⟨w.heap.size, 1, none⟩ = some (.slice p m c) := hb_cell P3.out 1
  go_wp2_with fail
  refine hA3.out.mono ?_; rintro e w4 ⟨lv, rfl, ho4, hb4⟩
  obtain ⟨pv, cv, rfl⟩ := ho4.slT
  rw [txZ_len]
  replace hb4 := Lib.hid (bt1 hb3.out hb4)
  have h0 : ((([] : List Nat).length : Int) == 0) = true := rfl
  clear ho4
  go_wp2_with fail
  go_ret2; exact ⟨rfl, hb4.out⟩

theorem sSure_no (R : Int) (m c : Nat) (p : Option Addr) (w : World)
    (hG : Hid (Calls Tryd.prog 38 #[.agg #[.int .i64 R, .slice p m c]] (w.alloc (puzO R (.slice p m c))) fun e w' => e = .returned (.bool false) ∧ Below (w.alloc (puzO R (.slice p m c))).heap.size (w.alloc (puzO R (.slice p m c))) w')) :
    Calls Tryd.prog 31 #[.agg #[.int .i64 R, .slice p m c]] w fun e w' => e = .returned (.tuple #[.string ⟨#[]⟩, .bool false]) ∧ Below w.heap.size w w' := by
  go_enter Tryd.func31, Tryd.ntmps31
  go_wp2_with fail
  refine hG.out.mono ?_; rintro e w3 ⟨rfl, hb3⟩
  replace hb3 := Lib.hid (bt1 (ba1 w _) hb3)
  go_wp2_with fail
  go_ret2; exact ⟨rfl, hb3.out⟩

theorem sSureSigns (R : Int) (cs : List Clu) (v : Value) (w : World) (h : RdZ w v R cs) :
    Calls Tryd.prog 31 #[v] w fun e w' => e = .returned (.tuple #[.string (sureA R.toNat (solG R cs)), .bool (!(solG R cs).isEmpty)]) ∧ Below w.heap.size w w' := by
  obtain ⟨p, c, rfl, hm, hr⟩ := h.form
  have hG := pzGood_any _ R cs _ (h.below (ba1 w (puzO R (.slice p cs.length c))))
  rcases goodZ_cases R cs with hg | ⟨n, rfl, h1, h7, hl, hok⟩
  · rw [solG_no hg]
    rw [hg] at hG
    exact sSure_no R cs.length c p w (Lib.hid hG)
  · have hg : goodZ n cs = true := by rw [← goodZ_eq n cs h1 h7 hl]; exact hok
    rw [solG_yes hg]
    rw [hg] at hG
    have hA := Lib.hid fun W (hb : Below w.heap.size w W) (_ : W.heap[w.heap.size]? = some (puzO n (.slice p cs.length c))) => pzAll_any n p c cs W h1 h7 hl hok (hr.below hb)
    have hll := solZ_len n cs h7
    rw [Int.toNat_natCast] at *
    generalize solZ n cs = L at *
    cases L with
    | nil => exact sSure_nil n cs.length c p w hA (Lib.hid hG)
    | cons x l => exact sSure_core n cs.length c (x :: l).length x l p w rfl hll h7 hA (Lib.hid hG)

theorem SureSigns_both (R : Int) (cs : List Clu) : ∃ (r0 : ByteArray) (r1 : Bool),
    (∀ w v, RdZ w v R cs → Calls Tryd.prog 31 #[v] w fun e w' => e = .returned (.tuple #[.string r0, .bool r1]) ∧ Below w.heap.size w w') ∧
    (∀ w v, TabOk w → RdZ w v R cs → Calls Tryd.prog 32 #[v] w fun e w' => e = .returned (.tuple #[.string r0, .bool r1]) ∧ Below w.heap.size w w') :=
  ⟨_, _, fun w v h => sSureSigns R cs v w h, fun w v hT h => iSureSigns R cs v w h hT⟩

end Go.Proofs.YtnfonoaojkhnkaaDoor
