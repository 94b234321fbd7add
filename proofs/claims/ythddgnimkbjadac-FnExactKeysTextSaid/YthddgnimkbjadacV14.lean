/- Texts of keys, on both sides. -/
import Derived.Test.YthddgnimkbjadacV6
import Derived.Test.YthddgnimkbjadacJoin
import Derived.Lib.Join
namespace Go.Proofs.Ythddgnimkbjadac
open Go Go.RowKit RM
/-- the text of the first keys -/
def kt (ks : List ByteArray) (k : Nat) : ByteArray := ⟨(Lib.join ((ks.take k).map (·.data.toList)) [47]).toArray⟩
theorem kt_zero (ks : List ByteArray) : kt ks 0 = ⟨#[]⟩ := rfl
theorem kt_one (ks : List ByteArray) (h : 0 < ks.length) : kt ks 1 = ks[0] := by
  obtain ⟨a, r, rfl⟩ : ∃ a r, ks = a :: r := by
    cases ks with
    | nil => simp at h
    | cons a r => exact ⟨a, r, rfl⟩
  unfold kt
  simp [Lib.join_one]
theorem kt_succ (ks : List ByteArray) (k : Nat) (h0 : k ≠ 0) (h : k < ks.length) : kt ks (k + 1) = kt ks k ++ ⟨#[47]⟩ ++ ks[k] := by
  obtain ⟨a, r, rfl⟩ : ∃ a r, ks = a :: r := by
    cases ks with
    | nil => simp at h
    | cons a r => exact ⟨a, r, rfl⟩
  obtain ⟨j, rfl⟩ : ∃ j, k = j + 1 := ⟨k - 1, by omega⟩
  have hj : j < r.length := by simpa using h
  have e := Lib.joinTail_take_succ [47] (r.map (·.data.toList)) j r[j].data.toList (by rw [List.getElem?_map, List.getElem?_eq_getElem hj]; rfl)
  apply ByteArray.ext
  apply Array.ext'
  unfold kt
  simp only [List.take_succ_cons, List.map_cons, Lib.join_cons, ByteArray.data_append, Array.toList_append, List.toList_toArray, List.map_take, List.getElem_cons_succ]
  rw [e]
  simp [List.append_assoc]
theorem kt_size (ks : List ByteArray) (hs : ∀ k (h : k < ks.length), ks[k].size ≤ 10) : ∀ k, k ≤ ks.length → (kt ks k).size ≤ 11 * k := by
  intro k
  induction k with
  | zero => intro _; rw [kt_zero]; exact Nat.le_refl _
  | succ k ih =>
    intro hk
    have i := ih (by omega)
    by_cases h0 : k = 0
    · subst h0
      rw [kt_one ks (by omega)]
      have := hs 0 (by omega)
      omega
    · rw [kt_succ ks k h0 (by omega), ByteArray.size_append, ByteArray.size_append]
      have := hs k (by omega)
      have e : (⟨#[47]⟩ : ByteArray).size = 1 := rfl
      omega
theorem goodK_size (ks : List ByteArray) (h : goodK ks = true) (k : Nat) (hk : k < ks.length) : ks[k].size ≤ 10 := by
  have := (keyOk_iff _ _ _).1 (goodK_at ks h k hk)
  have := goodK_len ks h
  omega
theorem keText_any (v : Value) (ks : List ByteArray) (w : World) (h : RdT w v ks) (hG : goodK ks = true) :
    Calls Try.prog 41 #[v] w fun e w' => e = .returned (.string (kt ks ks.length)) ∧ w = w' := by
  have hlen := goodK_len ks hG
  have hsz := goodK_size ks hG
  have hks := Lib.hid (kt_size ks hsz)
  obtain ⟨p, c, rfl, hm, hr⟩ := h
  obtain ⟨n, hn⟩ : ∃ n, ks.length = n := ⟨_, rfl⟩
  have h0 := Lib.hid (kt_zero ks)
  have h1 := Lib.hid (kt_one ks)
  have h2 := Lib.hid (kt_succ ks)
  generalize kt ks = K at *
  rw [hn] at hlen ⊢
  replace hn := Lib.hid hn
  replace hr := Lib.hid hr
  clear hG hm
  go_enter Try.func41, Try.ntmps41
  go_wp2_with fail
  go_loop [3, 8] (fun o i => ∃ k : Nat, k ≤ n ∧ i = .int .i64 k ∧ o = .string (K k)) (fun _ i => n - (intOf i).toNat)
  case atStart => exact ⟨0, Nat.zero_le _, rfl, by rw [h0.out]⟩
  case round =>
    obtain ⟨k, hk, rfl, rfl⟩ := hrel
    by_cases hlt : k < n
    · have hkx : k < ks.length := by rw [hn.out]; exact hlt
      obtain ⟨g, rfl, -, hc⟩ := hr.out.tx hkx
      have s1 := hsz k hkx
      have s2 := hks.out k (by omega)
      by_cases hk0 : k = 0
      · subst hk0
        have e1 := Lib.hid (h1.out hkx)
        have e0 := h0.out
        generalize ks[0] = t at *
        have hgt : decide ((0 : Int) > 0) = false := rfl
        have hz : (⟨#[]⟩ : ByteArray) ++ t = t := by apply ByteArray.ext; simp
        rw [e0] at s2 ⊢
        go_wp2_with fail
        go_round
        case rel => exact ⟨0 + 1, by omega, by go_num, by rw [e1.out]⟩
        all_goals (simp [intOf] <;> omega)
      · have e1 := Lib.hid (h2.out k hk0 hkx)
        have hgt : decide ((k : Int) > 0) = true := by simp; omega
        generalize ks[k] = t at *
        go_wp2_with fail
        go_round
        case rel => exact ⟨k + 1, by omega, by go_num, by rw [e1.out]⟩
        all_goals (simp [intOf] <;> omega)
    · obtain rfl : k = n := by omega
      go_wp2_with fail
      go_ret; exact ⟨rfl, rfl⟩
theorem sKT_no (v : Value) (ks : List ByteArray) (w : World) (hz : ∀ s ∈ ks, s.size ≤ maxLen) (h : RdT w v ks) (hG : goodK ks = false) :
    Calls Try.prog 21 #[v] w fun e w' => e = .returned (.tuple #[.string ⟨#[]⟩, .bool false]) ∧ Below w.heap.size w w' := by
  have hA := Lib.hid (keGood_any v ks w hz h)
  rw [hG] at hA
  go_enter Try.func21, Try.ntmps21
  go_wp2_with fail
  refine hA.out.mono ?_; rintro e w' ⟨rfl, rfl⟩
  go_wp2_with fail
  go_ret2; exact ⟨rfl, Below.refl _ _⟩
theorem sKT_yes (v : Value) (ks : List ByteArray) (w : World) (hz : ∀ s ∈ ks, s.size ≤ maxLen) (h : RdT w v ks) (hG : goodK ks = true) :
    Calls Try.prog 21 #[v] w fun e w' => e = .returned (.tuple #[.string (kt ks ks.length), .bool true]) ∧ Below w.heap.size w w' := by
  have hA := Lib.hid (keGood_any v ks w hz h)
  rw [hG] at hA
  have hT := Lib.hid (keText_any v ks w h hG)
  generalize kt ks ks.length = t at *
  go_enter Try.func21, Try.ntmps21
  go_wp2_with fail
  refine hA.out.mono ?_; rintro e w' ⟨rfl, rfl⟩
  go_wp2_with fail
  refine hT.out.mono ?_; rintro e w' ⟨rfl, rfl⟩
  go_wp2_with fail
  go_ret2; exact ⟨rfl, Below.refl _ _⟩
theorem iKT_no (v : Value) (ks : List ByteArray) (w : World) (hz : ∀ s ∈ ks, s.size ≤ maxLen) (h : RdT w v ks) (hG : goodK ks = false) :
    Calls Try.prog 22 #[v] w fun e w' => e = .returned (.tuple #[.string ⟨#[]⟩, .bool false]) ∧ Below w.heap.size w w' := by
  have hA := Lib.hid (iAK_any v ks w hz h)
  rw [hG] at hA
  go_enter Try.func22, Try.ntmps22
  go_wp2_with fail
  refine hA.out.mono ?_; rintro e w' ⟨rfl, hb⟩
  go_wp2_with fail
  go_ret2; exact ⟨rfl, hb⟩
theorem iKT_yes (v : Value) (ks : List ByteArray) (w : World) (hz : ∀ s ∈ ks, s.size ≤ maxLen) (h : RdT w v ks) (hG : goodK ks = true) (hc9 : ∀ p n c, v = .slice p n c → n ≤ c) :
    Calls Try.prog 22 #[v] w fun e w' => e = .returned (.tuple #[.string (kt ks ks.length), .bool true]) ∧ Below w.heap.size w w' := by
  have hA := Lib.hid (iAK_any v ks w hz h)
  rw [hG] at hA
  have hlen := goodK_len ks hG
  have hks := kt_size ks (goodK_size ks hG) ks.length (Nat.le_refl _)
  have hkt : kt ks ks.length = ⟨(Lib.join (ks.map (·.data.toList)) [47]).toArray⟩ := by unfold kt; rw [List.take_length]
  obtain ⟨p, c, rfl, hm, hr⟩ := h
  have hcap := hc9 _ _ _ rfl
  obtain ⟨g, rfl, hgl, hcc⟩ := hr (fun e => by rw [e] at hlen; simp at hlen)
  have hJ := Lib.hid (fun w' (hb : Below w.heap.size w w') => join_any g 0 c ks ⟨#[47]⟩ w' (fun j x hj => by
    obtain ⟨hj1, rfl⟩ := List.getElem?_eq_some_iff.1 hj
    rw [Nat.zero_add, hb.cell (p := ⟨g, j, none⟩) hgl]
    have := hcc j hj1 0 (by decide)
    simpa [txE] using this) (Nat.lt_of_lt_of_le hgl hb.size) (by omega) hcap (by
      rw [hkt] at hks
      have e : (⟨(Lib.join (ks.map (·.data.toList)) [47]).toArray⟩ : ByteArray).size = (Lib.join (ks.map (·.data.toList)) [47]).length := by show (Lib.join _ _).toArray.size = _; simp
      rw [e] at hks
      show (Lib.join (ks.map (·.data.toList)) [47]).length ≤ _
      omega))
  rw [hkt]
  replace hJ : Hid (∀ w', Below w.heap.size w w' → Calls Try.prog 42 #[.slice (some ⟨g, 0, none⟩) ks.length c, .string ⟨#[47]⟩] w' fun e w'' => e = .returned (.string ⟨(Lib.join (ks.map (·.data.toList)) [47]).toArray⟩) ∧ Below w'.heap.size w' w'') := hJ
  generalize (⟨(Lib.join (ks.map (·.data.toList)) [47]).toArray⟩ : ByteArray) = t at *
  clear hr hcc hkt hks hc9
  generalize ks.length = n at *
  go_enter Try.func22, Try.ntmps22
  go_wp2_with fail
  refine hA.out.mono ?_; rintro e w2 ⟨rfl, hb⟩
  go_wp2_with fail
  refine (hJ.out w2 hb).mono ?_; rintro e w3 ⟨rfl, hb3⟩
  go_wp2_with fail
  go_ret2; exact ⟨rfl, bt1 hb hb3⟩
theorem own_cap {w : World} {B : Nat} {v : Value} {xs : List ByteArray} (h : OwnT w B v xs) : ∀ p n c, v = .slice p n c → n ≤ c := by
  intro p n c e
  obtain ⟨_, h2⟩ := h
  rcases h2 with ⟨e2, _⟩ | ⟨g, cap, cur, e2, _, _, hc, _⟩
  · rw [e] at e2; simp at e2; omega
  · rw [e] at e2
    simp at e2; omega
theorem KeysText_both (ks : List ByteArray) (hz : ∀ s ∈ ks, s.size ≤ maxLen) : ∃ (r0 : ByteArray) (r1 : Bool),
    (∀ w v, RdT w v ks → Calls Try.prog 21 #[v] w fun e w' => e = .returned (.tuple #[.string r0, .bool r1]) ∧ Below w.heap.size w w') ∧
    (∀ w v, (∃ B, OwnT w B v ks) → Calls Try.prog 22 #[v] w fun e w' => e = .returned (.tuple #[.string r0, .bool r1]) ∧ Below w.heap.size w w') := by
  cases hG : goodK ks with
  | false => exact ⟨⟨#[]⟩, false, fun w v h => sKT_no v ks w hz h hG, fun w v ⟨B, h⟩ => iKT_no v ks w hz (ownT_G h).rd hG⟩
  | true => exact ⟨_, true, fun w v h => sKT_yes v ks w hz h hG, fun w v ⟨B, h⟩ => iKT_yes v ks w hz (ownT_G h).rd hG (own_cap h)⟩
end Go.Proofs.Ythddgnimkbjadac
