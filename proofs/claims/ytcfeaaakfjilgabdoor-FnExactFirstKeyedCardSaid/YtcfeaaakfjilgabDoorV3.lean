/- Which texts are keys, by the model. -/
import Derived.Test.YtcfeaaakfjilgabDoorV1
import Derived.Test.YtcfeaaakfjilgabDoorV2
import Derived.Test.YtcfeaaakfjilgabDoorS1
namespace Go.Proofs.YtcfeaaakfjilgabDoor
open Go Go.RowKit RM
theorem okq_int (c : UInt8) : okq c = !(((c.toNat : Int) != 63) && ((c.toNat : Int) != 48) && ((c.toNat : Int) != 49)) := by
  have e : ∀ n : Nat, n < 256 → ((c == UInt8.ofNat n) = ((c.toNat : Int) == (n : Int))) := by
    intro n hn
    rw [Bool.eq_iff_iff, beq_iff_eq, beq_iff_eq, ← UInt8.toNat_inj, UInt8.toNat_ofNat']
    omega
  unfold okq
  rw [show (63 : UInt8) = UInt8.ofNat 63 from rfl, show (48 : UInt8) = UInt8.ofNat 48 from rfl, show (49 : UInt8) = UInt8.ofNat 49 from rfl, e 63 (by omega), e 48 (by omega), e 49 (by omega)]
  simp only [bne]
  cases ((c.toNat : Int) == ((63 : Nat) : Int)) <;> cases ((c.toNat : Int) == ((48 : Nat) : Int)) <;> cases ((c.toNat : Int) == ((49 : Nat) : Int)) <;> simp_all
theorem byte_at (s : ByteArray) (i : Nat) (h : i < s.size) : s.data.toList[i]'(by rw [Array.length_toList]; exact h) = s[i] := by
  rw [Array.getElem_toList]; rfl
theorem byte_getD (s : ByteArray) (i : Nat) (h : i < s.size) (d : UInt8) : s.data.toList.getD i d = s[i] := by
  rw [getD_at s.data.toList i d (by rw [Array.length_toList]; exact h), byte_at s i h]
theorem len_data (s : ByteArray) : s.data.toList.length = s.size := Array.length_toList
theorem b63 (c : UInt8) : (c == 63) = ((c.toNat : Int) == 63) := by
  rw [Bool.eq_iff_iff, beq_iff_eq, beq_iff_eq, ← UInt8.toNat_inj]
  show c.toNat = 63 ↔ _
  omega
/-- a sign among the first that is none -/
theorem all_no (s : ByteArray) (i : Nat) (h : i < s.size) (hq : okq s[i] = false) : s.data.toList.all okq = false := by
  rw [← Bool.not_eq_true]; intro ha
  have := List.all_eq_true.1 ha _ (List.getElem_mem (show i < s.data.toList.length by rw [len_data]; exact h))
  rw [byte_at s i h, hq] at this; cases this
theorem all_yes (s : ByteArray) (h : ∀ i (h : i < s.size), okq s[i] = true) : s.data.toList.all okq = true := by
  rw [List.all_eq_true]
  intro c hc
  obtain ⟨i, hi, rfl⟩ := List.getElem_of_mem hc
  rw [len_data] at hi
  rw [byte_at s i hi]; exact h i hi
theorem keGood_any (v : Value) (ks : List ByteArray) (w : World) (hz : ∀ s ∈ ks, s.size ≤ maxLen) (h : RdT w v ks) :
    Calls Tryd.prog 64 #[v] w fun e w' => e = .returned (.bool (goodK ks)) ∧ w = w' := by
  obtain ⟨p, c, rfl, hm, hr⟩ := h
  replace hr := Lib.hid hr
  obtain ⟨n, hn⟩ : ∃ n, ks.length = n := ⟨_, rfl⟩
  have hgl := Lib.hid (goodK_len ks)
  have hgn := Lib.hid (fun k (hk : k < ks.length) (h : keyOk n k ks[k] = false) => goodK_no ks k hk (by rw [hn]; exact h))
  have hgy := Lib.hid (fun (h1 : 1 ≤ n) (h2 : n ≤ 10) (h : ∀ k (hk : k < ks.length), keyOk n k ks[k] = true) => goodK_yes ks (by rw [hn]; exact h1) (by rw [hn]; exact h2) (fun k hk => by rw [hn]; exact h k hk))
  rw [hn] at hm hgl ⊢
  generalize goodK ks = G at *
  unfold maxLen at hm
  by_cases hin : (1 : Int) ≤ (n : Int) ∧ (n : Int) ≤ 10
  · obtain ⟨i1, i2⟩ := hin
    have hI := Lib.hid (fun w => l1In_yes (n : Int) 1 10 w i1 i2)
    replace hn := Lib.hid hn
    go_enter Tryd.func64, Tryd.ntmps64
    go_wp2_with fail
    refine (hI.out _).mono ?_; rintro e w' ⟨rfl, rfl⟩
    go_wp2_with fail
    go_loop [12] (fun i => ∃ k : Nat, k ≤ n ∧ i = .int .i64 k ∧ Hid (∀ j (hj : j < ks.length), j < k → keyOk n j ks[j] = true)) (fun i => n - (intOf i).toNat)
    case atStart => exact ⟨0, Nat.zero_le _, rfl, Lib.hid (fun j _ h => by omega)⟩
    case round =>
      obtain ⟨k, hk, rfl, ha⟩ := hrel
      by_cases hlt : k < n
      · have hkx : k < ks.length := by rw [hn.out]; exact hlt
        obtain ⟨g, rfl, -, hc⟩ := hr.out.tx hkx
        have hno := Lib.hid (hgn.out k hkx)
        have hsz := hz _ (List.getElem_mem hkx)
        have hye : Hid (keyOk n k ks[k] = true → ∀ j (hj : j < ks.length), j < k + 1 → keyOk n j ks[j] = true) := Lib.hid (fun h9 j hj hj1 => by
          by_cases e : j = k
          · subst e; exact h9
          · exact ha.out j hj (by omega))
        have hki := Lib.hid (keyOk_iff n k ks[k])
        generalize ks[k] = s at *
        unfold maxLen at hsz
        by_cases hsn : s.size = n
        · have hks : k < s.size := by omega
          have hneq : ((s.size : Int) != (n : Int)) = false := by rw [hsn]; simp
          have hkb : Hid (s.data.toList.getD k 0 = s[k]) := Lib.hid (byte_getD s k hks 0)
          have h63 := Lib.hid (b63 s[k])
          replace hsn := Lib.hid hsn
          cases h9 : ((s[k].toNat : Int) != 63) with
          | true =>
            have hF : Hid (G = false) := Lib.hid (hno.out (by
              rw [← Bool.not_eq_true, hki.out, hkb.out]
              rintro ⟨_, h2, _⟩
              rw [h2] at h9; simp at h9))
            go_wp2_with fail
            go_ret; exact ⟨ret_bool hF.out.symm, rfl⟩
          | false =>
            have hkk : Hid (s[k] = 63) := Lib.hid (by
              have : (s[k] == 63) = true := by rw [h63.out]; simpa using h9
              simpa using this)
            go_wp2_with fail
            go_loop [5] (fun i => ∃ j : Nat, j ≤ s.size ∧ i = .int .i64 j ∧ Hid (∀ i (h : i < s.size), i < j → okq s[i] = true)) (fun i => s.size - (intOf i).toNat)
            case atStart => exact ⟨0, Nat.zero_le _, rfl, Lib.hid (fun j _ h => by omega)⟩
            case round =>
              obtain ⟨j, hj, rfl, hq⟩ := hrel
              by_cases hjl : j < s.size
              · have hqi := Lib.hid (okq_int s[j])
                have hst : Hid (okq s[j] = true → ∀ i (h : i < s.size), i < j + 1 → okq s[i] = true) := Lib.hid (fun h8 i hi h1 => by
                  by_cases e : i = j
                  · subst e; exact h8
                  · exact hq.out i hi (by omega))
                have hall := Lib.hid (all_no s j hjl)
                cases g1 : ((s[j].toNat : Int) != 63) with
                | false =>
                  have hS := Lib.hid (hst.out (by rw [hqi.out, g1]; rfl))
                  go_wp2_with fail
                  go_round
                  case rel => exact ⟨j + 1, by omega, by go_num, hS⟩
                  all_goals (simp [intOf] <;> omega)
                | true =>
                  cases g2 : ((s[j].toNat : Int) != 48) with
                  | false =>
                    have hS := Lib.hid (hst.out (by rw [hqi.out, g1, g2]; rfl))
                    go_wp2_with fail
                    go_round
                    case rel => exact ⟨j + 1, by omega, by go_num, hS⟩
                    all_goals (simp [intOf] <;> omega)
                  | true =>
                    cases g3 : ((s[j].toNat : Int) != 49) with
                    | false =>
                      have hS := Lib.hid (hst.out (by rw [hqi.out, g1, g2, g3]; rfl))
                      go_wp2_with fail
                      go_round
                      case rel => exact ⟨j + 1, by omega, by go_num, hS⟩
                      all_goals (simp [intOf] <;> omega)
                    | true =>
                      have hF : Hid (G = false) := Lib.hid (hno.out (by
                        rw [← Bool.not_eq_true, hki.out]
                        rintro ⟨_, _, h3⟩
                        rw [hall.out (by rw [hqi.out, g1, g2, g3]; rfl)] at h3; cases h3))
                      go_wp2_with fail
                      go_ret; exact ⟨ret_bool hF.out.symm, rfl⟩
              · have hS := Lib.hid (hye.out (hki.out.2 ⟨hsn.out, by rw [hkb.out]; exact hkk.out, all_yes s (fun i hi => hq.out i hi (by omega))⟩))
                go_wp2_with fail
                go_round
                case rel => exact ⟨k + 1, by omega, by go_num, hS⟩
                all_goals (simp [intOf] <;> omega)
        · have hneq : ((s.size : Int) != (n : Int)) = true := by simp; omega
          have hF : Hid (G = false) := Lib.hid (hno.out (by
            rw [← Bool.not_eq_true, hki.out]
            exact fun h => hsn h.1))
          replace hsn := Lib.hid hsn
          go_wp2_with fail
          go_ret; exact ⟨ret_bool hF.out.symm, rfl⟩
      · have hF : Hid (G = true) := Lib.hid (hgy.out (by omega) (by omega) (fun j hj => ha.out j hj (by rw [hn.out] at hj; omega)))
        go_wp2_with fail
        go_ret; exact ⟨ret_bool hF.out.symm, rfl⟩
  · have hI := Lib.hid (fun w => l1In_no (n : Int) 1 10 w (by omega))
    have hF : Hid (G = false) := Lib.hid (by
      rw [← Bool.not_eq_true]; intro h
      have := hgl.out h
      omega)
    go_enter Tryd.func64, Tryd.ntmps64
    go_wp2_with fail
    refine (hI.out _).mono ?_; rintro e w' ⟨rfl, rfl⟩
    go_wp2_with fail
    go_ret; exact ⟨ret_bool hF.out.symm, rfl⟩
end Go.Proofs.YtcfeaaakfjilgabDoor
