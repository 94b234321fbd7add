/- The program's lamps: their signs in rows of its own. -/
import Derived.Test.YtjlecipeoaohiacDoorLi
namespace Go.Proofs.YtjlecipeoaohiacDoor
set_option linter.unusedSimpArgs false
set_option linter.unusedVariables false
open Go Go.RowKit RM
set_option maxRecDepth 100000 in
set_option maxHeartbeats 2000000 in
theorem lampNeeds_any (v : Value) (rs : List ByteArray) (w : World) (hz : ∀ s ∈ rs, s.size ≤ maxLen) (h : RdY w v rs) :
    Calls Tryd.prog 41 #[v] w fun e w' => ∃ u, e = .returned (.tuple #[u, .bool (goodL rs)]) ∧ OwnG lampE w' w.heap.size u (cond (goodL rs) rs []) ∧ Below w.heap.size w w' := by
  obtain ⟨u, rfl, p0, c, rfl, hm, hr⟩ := h
  replace hr := Lib.hid hr
  obtain ⟨n, hn⟩ : ∃ n, rs.length = n := ⟨_, rfl⟩
  have hgl := Lib.hid (goodL_len rs)
  have hgn := Lib.hid (fun k (hk : k < rs.length) (h : lampOk n rs[k] = false) => goodL_no rs k hk (by rw [hn]; exact h))
  have hgy := Lib.hid (fun (h1 : 1 ≤ n) (h2 : n ≤ 10) (h : ∀ k (hk : k < rs.length), lampOk n rs[k] = true) => goodL_yes rs (by rw [hn]; exact h1) (by rw [hn]; exact h2) (fun k hk => by rw [hn]; exact h k hk))
  rw [hn] at hm hgl ⊢
  obtain ⟨G, hG⟩ : ∃ G, goodL rs = G := ⟨_, rfl⟩
  rw [hG] at hgl hgn hgy ⊢
  clear hG
  unfold maxLen at hm
  obtain ⟨w1, hw1⟩ : ∃ w1, Hid (w1 = w.alloc (lampO (.slice p0 n c))) := ⟨_, Lib.hid rfl⟩
  have hb1 : Hid (Below w.heap.size w w1) := Lib.hid (by rw [hw1.out]; exact ba1 w _)
  have F1 := Lib.hid (show w1.heap[w.heap.size]? = some (lampO (.slice p0 n c)) by rw [hw1.out]; exact hb_new _ _)
  have f0 : w1.cell? ⟨w.heap.size, 0, none⟩ = some (.slice p0 n c) := hb_cell F1.out 0
  have hl1 : Hid (w1.heap.size = w.heap.size + 1) := Lib.hid (by rw [hw1.out]; simp)
  have hI := Lib.hid (fun w => isLC2_any (n : Int) w)
  cases hin : (decide ((1 : Int) ≤ (n : Int)) && decide ((n : Int) ≤ 10)) with
  | false =>
    rw [hin] at hI
    have hF : Hid (G = false) := Lib.hid (by
      rw [← Bool.not_eq_true]; intro e
      have := hgl.out e
      rw [← Bool.not_eq_true, Bool.and_eq_true, decide_eq_true_eq, decide_eq_true_eq] at hin
      omega)
    clear hin
    go_enter Tryd.func41, Tryd.ntmps41
    go_wp2_with fail
    rw [← hw1.out]
    go_wp2_with fail
    refine (hI.out _).mono ?_; rintro e w' ⟨rfl, rfl⟩
    go_wp2_with fail
    go_ret2; exact ⟨.slice none 0 0, by rw [hF.out]; rfl, by rw [hF.out]; exact OwnG.nil _ _, hb1.out⟩
  | true =>
    rw [hin] at hI
    rw [Bool.and_eq_true, decide_eq_true_eq, decide_eq_true_eq] at hin
    obtain ⟨i1, i2⟩ := hin
    replace hn := Lib.hid hn
    go_enter Tryd.func41, Tryd.ntmps41
    go_wp2_with fail
    rw [← hw1.out]
    go_wp2_with fail
    refine (hI.out _).mono ?_; rintro e w' ⟨rfl, rfl⟩
    go_wp2_with (at_make; refine make_G lampE _ rfl _ _ 53 rfl Tryd.underlying53 _ _ n rfl rfl (by omega) ?_; intro w2 hown2 hb2; replace hown2 := Lib.hid hown2; replace hb2 := Lib.hid hb2; have F2 := Lib.hid (hb_below hb2.out (hb_lt F1.out) F1.out); have g0 : w2.cell? ⟨w.heap.size, 0, none⟩ = some (.slice p0 n c) := hb_cell F2.out 0)
    go_loopw [19] (fun i wr => ∃ k : Nat, k ≤ n ∧ i = .int .i64 k ∧ Hid (∀ j (hj : j < rs.length), j < k → lampOk n rs[j] = true) ∧ Hid (OwnG lampE wr w1.heap.size (.slice (some ⟨w1.heap.size, 0, none⟩) n n) (rs.take k ++ List.replicate (n - k) ⟨#[]⟩)) ∧ Hid (Below w1.heap.size w1 wr)) (fun i _ => n - (intOf i).toNat)
    case atStart => exact ⟨0, Nat.zero_le _, rfl, Lib.hid (fun j _ h => by omega), Lib.hid hown2.out, hb2⟩
    case round =>
      obtain ⟨k, hk, rfl, ha, hoG, hb⟩ := hrel
      clear g0
      obtain ⟨wA, rfl⟩ : ∃ x, x = wr := ⟨_, rfl⟩
      have Fr := Lib.hid (hb_below hb.out (by have := hl1.out; omega) F1.out)
      have hbw := Lib.hid (show Below w.heap.size w wA from hb1.out.trans (hb.out.mono (by have := hl1.out; omega)))
      by_cases hlt : k < n
      · have hkx : k < rs.length := by rw [hn.out]; exact hlt
        obtain ⟨g, rfl, -, hc⟩ := (hr.out.below hbw.out).tx hkx
        have hno := Lib.hid (hgn.out k hkx)
        have hye : Hid (lampOk n rs[k] = true → ∀ j (hj : j < rs.length), j < k + 1 → lampOk n rs[j] = true) := Lib.hid (fun h9 j hj hj1 => by
          by_cases e : j = k
          · subst e; exact h9
          · exact ha.out j hj (by omega))
        have hrz := hz _ (List.getElem_mem hkx)
        have hset : Hid ((rs.take k ++ List.replicate (n - k) (⟨#[]⟩ : ByteArray)).set k rs[k] = rs.take (k + 1) ++ List.replicate (n - (k + 1)) ⟨#[]⟩) := Lib.hid (by
          have hl : (rs.take k).length = k := by rw [List.length_take]; omega
          rw [show n - k = (n - (k + 1)) + 1 by omega, List.replicate_succ, List.set_append_right _ _ (by omega), hl, Nat.sub_self, List.set_cons_zero]
          have ht : rs.take (k + 1) = rs.take k ++ [rs[k]] := List.take_succ_eq_append_getElem hkx
          rw [ht, List.append_assoc]; rfl)
        have hll : Hid ((rs.take k ++ List.replicate (n - k) (⟨#[]⟩ : ByteArray)).length = n) := Lib.hid (by rw [List.length_append, List.length_take, List.length_replicate, hn.out]; omega)
        have hz0 : Hid (∀ h : k < (rs.take k ++ List.replicate (n - k) (⟨#[]⟩ : ByteArray)).length, (rs.take k ++ List.replicate (n - k) (⟨#[]⟩ : ByteArray))[k] = ⟨#[]⟩) := Lib.hid (fun h => by
          have hl : (rs.take k).length = k := by rw [List.length_take]; omega
          rw [List.getElem_append_right (by omega)]; simp)
        generalize rs[k] = t at *
        generalize rs.take k ++ List.replicate (n - k) (⟨#[]⟩ : ByteArray) = xs at *
        have f0 : wA.cell? ⟨w.heap.size, 0, none⟩ = some (.slice (some ⟨g, 0, none⟩) n c) := hb_cell Fr.out 0
        unfold maxLen at hrz
        have hTr := Lib.hid (fun w => trim_any t ⟨#[48, 49, 63]⟩ w (by omega) (by decide) (by decide))
        replace hrz := hrz
        by_cases hsz : t.size = n
        · have hneq : ((t.size : Int) != (n : Int)) = false := by rw [hsz]; simp
          have hneq2 : ((t.size : Int) == (n : Int)) = true := by rw [hsz]; simp
          have htq := trim_okq t
          cases hq : t.data.toList.all okq with
          | false =>
            have hF : Hid (G = false) := Lib.hid (hno.out (by unfold lampOk; rw [hq, Bool.and_false]))
            have hnt : Lib.trimS t.data.toList [48, 49, 63] ≠ [] := fun e => by rw [htq.1 e] at hq; cases hq
            obtain ⟨T, hT⟩ : ∃ T, T = (⟨(Lib.trimS t.data.toList [48, 49, 63]).toArray⟩ : ByteArray) := ⟨_, rfl⟩
            have hTr : Hid (∀ w, Calls Tryd.prog 62 #[.string t, .string ⟨#[48, 49, 63]⟩] w fun e w' => e = .returned (.string T) ∧ Below w.heap.size w w') := Lib.hid (fun w => by rw [hT]; exact hTr.out w)
            have hTn : (T.toList == ([] : List UInt8)) = false := by
              rw [beq_eq_false_iff_ne, ByteArray.toList_eq, hT]; simpa using hnt
            have hTn2 : (T.toList == (⟨#[]⟩ : ByteArray).toList) = false := by
              rw [beq_eq_false_iff_ne, ByteArray.toList_eq, ByteArray.toList_eq, hT]; simpa using hnt
            clear hT hnt htq hq
            go_wp2_with fail
            refine (hTr.out _).mono ?_; rintro e w' ⟨rfl, hb9⟩
            have hb9 := Lib.hid hb9
            go_wp2_with fail
            go_ret2; exact ⟨.slice none 0 0, by rw [hF.out]; rfl, by rw [hF.out]; exact OwnG.nil _ _, bt1 hbw.out hb9.out⟩
          | true =>
            have hS := Lib.hid (hye.out (by unfold lampOk; rw [hq, decide_eq_true hsz]; rfl))
            have hTr : Hid (∀ w, Calls Tryd.prog 62 #[.string t, .string ⟨#[48, 49, 63]⟩] w fun e w' => e = .returned (.string ⟨#[]⟩) ∧ Below w.heap.size w w') := Lib.hid (fun w => by
              have := hTr.out w
              rw [show (⟨#[48, 49, 63]⟩ : ByteArray).data.toList = [48, 49, 63] from rfl, htq.2 hq] at this
              exact this)
            have hTn2 : ((⟨#[]⟩ : ByteArray).toList == (⟨#[]⟩ : ByteArray).toList) = true := by simp
            clear htq hq
            go_wp2_with fail
            refine (hTr.out _).mono ?_; rintro e wB ⟨rfl, hb9⟩
            have hoB := Lib.hid (hoG.out.below hb9)
            have hbB := Lib.hid (bt2 hb.out hb9 (by have := hb.out.size; omega))
            obtain ⟨wC, hcp, hoC, hgC⟩ := hoB.out.copied hll.out.symm k (by rw [hll.out]; exact hlt) t (by omega) (hz0.out _)
            have hoC := Lib.hid (show OwnG lampE wC w1.heap.size (.slice (some ⟨w1.heap.size, 0, none⟩) n n) (rs.take (k + 1) ++ List.replicate (n - (k + 1)) ⟨#[]⟩) by rw [← hset.out]; exact hoC)
            have hbC := Lib.hid (hbB.out.grown hgC (by have := hbB.out.size; omega) (fun a e => by have := Option.some.inj e; omega))
            clear hb9 hgC
            have iq0 : (0 : Int) ≤ (k : Int) := by omega
            have iq1 : (k : Int) < (n : Int) := by omega
            go_wp2_with fail
            go_roundw
            case rel => exact ⟨k + 1, by omega, by go_num, hS, hoC, hbC⟩
            all_goals (simp [intOf] <;> omega)
        · have hneq : ((t.size : Int) != (n : Int)) = true := by simp; omega
          have hF : Hid (G = false) := Lib.hid (hno.out (lampOk_len hsz))
          go_wp2_with fail
          go_ret2; exact ⟨.slice none 0 0, by rw [hF.out]; rfl, by rw [hF.out]; exact OwnG.nil _ _, hbw.out⟩
      · obtain rfl : k = n := by omega
        have hT : Hid (G = true) := Lib.hid (hgy.out (by omega) (by omega) (fun j hj => ha.out j hj (by rw [hn.out] at hj; exact hj)))
        have hfin : Hid (rs.take k ++ List.replicate (k - k) (⟨#[]⟩ : ByteArray) = rs) := Lib.hid (by rw [Nat.sub_self, List.take_of_length_le (by rw [hn.out]; exact Nat.le_refl _)]; simp)
        go_wp2_with fail
        go_ret2; exact ⟨.slice (some ⟨w1.heap.size, 0, none⟩) k k, by rw [hT.out]; rfl, by rw [hT.out]; show OwnG lampE _ _ _ rs; rw [← hfin.out]; exact hoG.out.mono (by have := hl1.out; omega), hbw.out⟩
end Go.Proofs.YtjlecipeoaohiacDoor
