/- The model's search by keys, over the states of a number of rings. -/
import Derived.Test.YtcfeaaakfjilgabDoorW6
import Derived.Test.YtcfeaaakfjilgabDoorVM
import Derived.Test.YtcfeaaakfjilgabDoorS4
namespace Go.Proofs.YtcfeaaakfjilgabDoor
set_option linter.unusedSimpArgs false
set_option linter.unusedVariables false
open Go Go.RowKit RM
theorem ds_le {n x : Nat} {fk : Nat → Nat → Bool} {D D' : Nat → Option Nat} (only : ∀ t, D t = some 0 → t = x) (prev : ∀ t m, D t = some (m + 1) → ∃ k, k < n ∧ fk k (t ^^^ 2 ^ k) = true ∧ D (t ^^^ 2 ^ k) = some m)
    (zero : D' x = some 0) (next : ∀ u m, D' u = some m → ∀ k, k < n → fk k u = true → ∃ m', D' (u ^^^ 2 ^ k) = some m' ∧ m' ≤ m + 1) : ∀ m t, D t = some m → ∃ m', D' t = some m' ∧ m' ≤ m := by
  intro m
  induction m with
  | zero => intro t e; rw [only t e]; exact ⟨0, zero, Nat.le_refl _⟩
  | succ m ih =>
    intro t e
    obtain ⟨k, hk, hf, hd⟩ := prev t m e
    obtain ⟨m1, e1, h1⟩ := ih _ hd
    obtain ⟨m2, e2, h2⟩ := next _ _ e1 k hk hf
    rw [xor_twice] at e2
    exact ⟨m2, e2, by omega⟩
theorem nbK_km (ks : List ByteArray) (x : Nat) : ∀ k, k ≤ ks.length → nbK k (fkS ks) x = (kmL ks x k).map fun z => x ^^^ 2 ^ z.toNat := by
  intro k
  induction k with
  | zero => intro _; rfl
  | succ k ih =>
    intro hk
    have hl : k < ks.length := by omega
    have e : nbK (k + 1) (fkS ks) x = nbK k (fkS ks) x ++ (if fkS ks k x then [x ^^^ 2 ^ k] else []) := by
      unfold nbK
      rw [List.range_succ, List.filterMap_append]
      congr 1
      by_cases h : fkS ks k x = true <;> simp [h]
    rw [e, ih (by omega), fkS_at ks k x hl]
    cases h : fitN ks[k].data.toList x with
    | true => rw [kmL_yes ks x k hl h]; simp
    | false => rw [kmL_no ks x k hl h]; simp
/-- the neighbours of a state, by numbers -/
def nbN (n : Nat) (fk : Nat → Nat → Bool) (z : Nat) : List Nat := (nbK n fk (gray z)).map num
theorem mem_nbN {n : Nat} {fk : Nat → Nat → Bool} {z t : Nat} : t ∈ nbN n fk z ↔ ∃ k, k < n ∧ fk k (gray z) = true ∧ t = num (gray z ^^^ 2 ^ k) := by
  unfold nbN
  rw [List.mem_map]
  constructor
  · rintro ⟨a, ha, rfl⟩
    obtain ⟨k, h1, h2, rfl⟩ := mem_nbK.1 ha
    exact ⟨k, h1, h2, rfl⟩
  · rintro ⟨k, h1, h2, rfl⟩
    exact ⟨_, mem_nbK.2 ⟨k, h1, h2, rfl⟩, rfl⟩
theorem Keyd.univN {n : Nat} {fk : Nat → Nat → Bool} (h : Keyd n fk) : Univ (nbN n fk) (List.range (2 ^ n)) where
  cl s hs t ht := by
    obtain ⟨k, hk, _, rfl⟩ := mem_nbN.1 ht
    exact List.mem_range.2 (num_lt n _ (xor_lt' (gray_lt n s (List.mem_range.1 hs)) hk))
  sym s _ t ht := by
    obtain ⟨k, hk, hf, rfl⟩ := mem_nbN.1 ht
    exact mem_nbN.2 ⟨k, hk, by rw [gray_num, h.own k hk]; exact hf, by rw [gray_num, xor_twice, num_gray]⟩
/-- the search by numbers finds what the search by signs finds -/
theorem Keyd.far_num {n : Nat} {fk : Nat → Nat → Bool} (h : Keyd n fk) {x : Nat} (hx : x < 2 ^ n) (t : Nat) : (fin 1 (nbN n fk) (List.range (2 ^ n)) (num x)).far (num t) = kD n fk x t := by
  have hD := h.dst hx
  have hU := h.univN
  have h0 : num x ∈ List.range (2 ^ n) := List.mem_range.2 (num_lt n x hx)
  have hO := hU.fin_ok 1 (num x)
  obtain ⟨D', hD'⟩ : ∃ D' : Nat → Option Nat, D' = fun t => (fin 1 (nbN n fk) (List.range (2 ^ n)) (num x)).far (num t) := ⟨_, rfl⟩
  have e' : ∀ t, D' t = (fin 1 (nbN n fk) (List.range (2 ^ n)) (num x)).far (num t) := fun t => by rw [hD']
  have zero : D' x = some 0 := by rw [e']; exact hO.zero
  have only : ∀ t, D' t = some 0 → t = x := fun t e => by rw [e'] at e; exact num_inj (hO.only _ e)
  have prev : ∀ t m, D' t = some (m + 1) → ∃ k, k < n ∧ fk k (t ^^^ 2 ^ k) = true ∧ D' (t ^^^ 2 ^ k) = some m := fun t m e => by
    rw [e'] at e
    obtain ⟨u, hu, hd⟩ := hU.nearer h0 (M := 1) (t := num t) (d := m) e
    obtain ⟨k, hk, hf, rfl⟩ := mem_nbN.1 hu
    rw [gray_num] at hf hd
    exact ⟨k, hk, by rw [h.own k hk]; exact hf, by rw [e']; exact hd⟩
  have next : ∀ u m, D' u = some m → ∀ k, k < n → fk k u = true → ∃ m', D' (u ^^^ 2 ^ k) = some m' ∧ m' ≤ m + 1 := fun u m e k hk hf => by
    rw [e'] at e
    have hm := (hO.mem (num u)).2 (by rw [e]; simp)
    have hd : (fin 1 (nbN n fk) (List.range (2 ^ n)) (num x)).dst (num u) = m := by unfold Sr.dst; rw [e]; rfl
    obtain ⟨i, hi⟩ := List.getElem?_of_mem hm
    have hil := (List.getElem?_eq_some_iff.1 hi).1
    have hlen := hU.len h0 1 (List.range (2 ^ n)).length
    obtain ⟨c1, c2⟩ := hO.cl i (num u) (by unfold fin at hil; omega) hi (num (u ^^^ 2 ^ k)) (mem_nbN.2 ⟨k, hk, by rw [gray_num]; exact hf, by rw [gray_num]⟩)
    exact ⟨_, by rw [e']; exact hO.dst c1, by rw [hd] at c2; exact c2⟩
  rw [← e']
  have l1 := ds_le only prev hD.zero hD.next
  have l2 := ds_le hD.only hD.prev zero next
  cases ha : D' t with
  | none =>
    cases hb : kD n fk x t with
    | none => rfl
    | some m => obtain ⟨m', e, _⟩ := l2 m t hb; rw [ha] at e; cases e
  | some m =>
    obtain ⟨m1, e1, h1⟩ := l1 m t ha
    obtain ⟨m2, e2, h2⟩ := l2 m1 t e1
    rw [ha] at e2
    have := Option.some.inj e2
    rw [e1]; congr 1; omega
theorem Keyd.run_bound {n : Nat} {fk : Nat → Nat → Bool} (h : Keyd n fk) {x : Nat} (hx : x < 2 ^ n) (k z d : Nat) (e : (run 1 (nbN n fk) (num x) k).far z = some d) : d < 2 ^ n := by
  have h0 : num x ∈ List.range (2 ^ n) := List.mem_range.2 (num_lt n x hx)
  have h1 := (h.univN.fin_ext h0 1 k).far z d e
  rw [show z = num (gray z) from (num_gray z).symm, h.far_num hx] at h1
  exact ((h.dst hx).lt _ _ h1).2
/-- how far all states are from one, by their numbers -/
theorem keFar_any (v : Value) (ks : List ByteArray) (n x : Nat) (w : World) (h : RdT w v ks) (h2 : n ≤ 10) (hx : x < 2 ^ n) (hn : ks.length = n) (hG : goodK ks = true) :
    Calls Tryd.prog 30 #[v, .string (ST n x)] w fun e w' => ∃ gm gw, e = .returned (.tuple #[.slice (some ⟨gm, 0, none⟩) (2 ^ n) (2 ^ n), .slice (some ⟨gw, 0, none⟩) (2 ^ n) (2 ^ n)]) ∧
      OwnI w' w.heap.size (.slice (some ⟨gm, 0, none⟩) (2 ^ n) (2 ^ n)) ((List.range (2 ^ n)).map fun y => fI (kD n (fkS ks) x (gray y))) ∧ Below w.heap.size w w' := by
  have hK := keys_keyd ks hG
  rw [hn] at hK
  have hmap : ∀ z, (nbN n (fkS ks) z) = (kmL ks (gray z) n).map (fun k => num (gray z ^^^ 2 ^ k.toNat)) := fun z => by
    unfold nbN
    rw [nbK_km ks (gray z) n (by omega), List.map_map]; rfl
  have hlen : ∀ z, (kmL ks (gray z) n).length = (nbN n (fkS ks) z).length := fun z => by rw [hmap]; simp
  have hrow : mR (2 ^ n) (fin 1 (nbN n (fkS ks)) (List.range (2 ^ n)) (num x)).far = (List.range (2 ^ n)).map fun y => fI (kD n (fkS ks) x (gray y)) := by
    unfold mR
    apply List.map_congr_left
    intro y _
    rw [← hK.far_num hx (gray y), num_gray]
  rw [← hrow]
  refine keFar_core v (ST n x) (fun z => ST n (gray z)) (nbN n (fkS ks)) (fun z => kmL ks (gray z) n) n (num x) (2 ^ n) w (ST_size n x) h2 (Nat.pow_le_pow_right (n := 2) (by decide) h2) (num_lt n x hx) (by simp) (Lib.hid (by rw [gray_num])) (Lib.hid hK.univN)
    (Lib.hid (hK.run_bound hx)) (Lib.hid fun z _ => ⟨hlen z, Nat.le_trans (kmL_len ks _ n) h2⟩) (Lib.hid fun z w hz => ?_) (Lib.hid fun z w' hz hb => ?_) (Lib.hid fun z j w hz hj hj' => ?_)
  · have := riNumber_ST n (gray z) w (by omega) (gray_lt n z hz)
    rwa [num_gray] at this
  · exact keMoves_any v ks n (gray z) w' (h.below hb) h2 (gray_lt n z hz) hn hG
  · have hz' : (kmL ks (gray z) n)[j] ∈ kmL ks (gray z) n := List.getElem_mem _
    obtain ⟨i, hi, hin, e, _⟩ := (kmL_mem ks (gray z) n (by omega) _).1 hz'
    have e2 : (nbN n (fkS ks) z)[j] = num (gray z ^^^ 2 ^ i) := by
      have : (nbN n (fkS ks) z)[j]? = some (num (gray z ^^^ 2 ^ i)) := by
        rw [hmap, List.getElem?_map, List.getElem?_eq_getElem hj, e]; rfl
      rw [List.getElem?_eq_getElem hj'] at this
      exact Option.some.inj this
    rw [e, e2, gray_num]
    exact riMove_ST n (gray z) i w (by omega) hin
end Go.Proofs.YtcfeaaakfjilgabDoor
