/-
  Plain mathematics of bolts: states as lists of places, their numbers, which are allowed, and what slides lead to. Nothing of any program.
-/
import Derived.Test.YtcfeaaakfjilgaaG1
namespace Go.Proofs.Ytcfeaaakfjilgaa.RM

/-- a block: the bolt a is not at i while b is at j -/
structure Blk where
  a : Int
  i : Int
  b : Int
  j : Int

def hasB (ps : List Int) (x y : Int) : Bool := decide (0 ≤ x) && decide (x < ps.length) && decide (0 ≤ y) && decide (y < ps.getD x.toNat 0)
def okBlk (ps : List Int) (k : Blk) : Bool := !(decide (k.a = k.b)) && hasB ps k.a k.i && hasB ps k.b k.j
def prI (ps : List Int) : Int := ps.foldl (· * ·) 1
def okP (ps : List Int) : Bool := decide (1 ≤ ps.length) && decide (ps.length ≤ 6) && ps.all (fun p => decide (2 ≤ p) && decide (p ≤ 5)) && decide (prI ps ≤ 1000)
/-- whether there are bolts with these numbers of places and these blocks -/
def goodBo (ps : List Int) (bs : List Blk) : Bool := okP ps && decide (bs.length ≤ 40) && bs.all (okBlk ps)

/-- how many states the first k bolts have -/
def pr (ps : List Nat) : Nat → Nat
  | 0 => 1
  | k + 1 => pr ps k * ps.getD k 1
/-- the places of the first k bolts in the state with a number -/
def dg (ps : List Nat) : Nat → Nat → List Nat
  | 0, _ => []
  | k + 1, n => dg ps k (n / ps.getD k 1) ++ [n % ps.getD k 1]
/-- the number of a state of the first k bolts -/
def nm (ps : List Nat) (d : List Nat) : Nat → Nat
  | 0 => 0
  | k + 1 => nm ps d k * ps.getD k 1 + d.getD k 0
/-- all states of the first k bolts, in order -/
def al (ps : List Nat) : Nat → List (List Nat)
  | 0 => [[]]
  | k + 1 => (al ps k).flatMap fun d => (List.range (ps.getD k 1)).map fun x => d ++ [x]
def isSt (ps : List Nat) (d : List Nat) : Prop := d.length = ps.length ∧ ∀ i, i < ps.length → d.getD i 0 < ps.getD i 1
/-- a block forbids a state -/
def hit (k : Blk) (d : List Nat) : Bool := decide (((d.getD k.a.toNat 0 : Nat) : Int) = k.i) && decide (((d.getD k.b.toNat 0 : Nat) : Int) = k.j)
def fr (bs : List Blk) (d : List Nat) : Bool := bs.all fun k => !(hit k d)
/-- what holds of numbers of places and blocks that are bolts -/
structure GB (ps : List Nat) (bs : List Blk) : Prop where
  l1 : 1 ≤ ps.length
  l6 : ps.length ≤ 6
  p : ∀ i, i < ps.length → 2 ≤ ps.getD i 1 ∧ ps.getD i 1 ≤ 5
  n : pr ps ps.length ≤ 1000
  b : bs.length ≤ 40
  k : ∀ k ∈ bs, ∃ a i b j : Nat, k = ⟨a, i, b, j⟩ ∧ a ≠ b ∧ a < ps.length ∧ b < ps.length ∧ i < ps.getD a 1 ∧ j < ps.getD b 1
abbrev ints (ps : List Nat) : List Int := ps.map fun (p : Nat) => (p : Int)

/-- the place of a bolt, 0 for one that there is not -/
def pl (d : List Nat) (i : Nat) : Nat := d.getD i 0
theorem getD_app_lt {α : Type} (l r : List α) (i : Nat) (x : α) (h : i < l.length) : (l ++ r).getD i x = l.getD i x := by simp [List.getD, List.getElem?_append_left h]
theorem getD_app_eq {α : Type} (l : List α) (y x : α) : (l ++ [y]).getD l.length x = y := by simp [List.getD]
theorem getD_eq {α : Type} (l : List α) (i : Nat) (x : α) (h : i < l.length) : l.getD i x = l[i] := by simp [List.getD, List.getElem?_eq_getElem h]
theorem ints_getD (ps : List Nat) (i : Nat) (x : Int) (h : i < ps.length) : (ints ps).getD i x = ((ps.getD i 1 : Nat) : Int) := by
  simp [List.getD, List.getElem?_eq_getElem h]
theorem prI_ints (ps : List Nat) : prI (ints ps) = ((pr ps ps.length : Nat) : Int) := by
  have key : ∀ k, k ≤ ps.length → prI (ints (ps.take k)) = ((pr ps k : Nat) : Int) := by
    intro k
    induction k with
    | zero => intro _; rfl
    | succ k ih =>
      intro h
      rw [List.take_succ_eq_append_getElem (by omega)]
      unfold prI ints at *
      rw [List.map_append, List.foldl_append, ih (by omega)]
      simp [pr, List.getD, List.getElem?_eq_getElem (show k < ps.length by omega)]
  have := key ps.length (Nat.le_refl _)
  rwa [List.take_length] at this
theorem good_cases (ps : List Int) (bs : List Blk) : (goodBo ps bs = false) ∨ ∃ qs : List Nat, ps = ints qs ∧ GB qs bs ∧ goodBo ps bs = true := by
  cases h : goodBo ps bs with
  | false => left; rfl
  | true =>
    right
    unfold goodBo okP at h
    simp only [Bool.and_eq_true, decide_eq_true_eq, List.all_eq_true] at h
    obtain ⟨⟨⟨⟨⟨h1, h6⟩, hp⟩, hn⟩, hb⟩, hk⟩ := h
    have e : ps = ints (ps.map Int.toNat) := by
      unfold ints
      rw [List.map_map]
      conv => lhs; rw [← List.map_id ps]
      apply List.map_congr_left
      intro x hx
      have := hp x hx
      simp; omega
    have g : ∀ i, i < ps.length → ((ps.map Int.toNat).getD i 1 : Int) = ps.getD i 0 := fun i hi => by
      rw [← ints_getD _ i 0 (by simpa using hi), ← e]
    refine ⟨_, e, ⟨by simpa using h1, by simpa using h6, fun i hi => ?_, ?_, hb, fun k hk' => ?_⟩, rfl⟩
    · have hi' : i < ps.length := by simpa using hi
      have a := g i hi'
      have b := hp (ps.getD i 0) (by rw [getD_eq _ _ _ hi']; exact List.getElem_mem _)
      omega
    · have := prI_ints (ps.map Int.toNat)
      rw [← e] at this
      omega
    · have := hk k hk'
      unfold okBlk hasB at this
      simp only [Bool.and_eq_true, decide_eq_true_eq, Bool.not_eq_true', decide_eq_false_iff_not] at this
      obtain ⟨⟨h0, ⟨⟨⟨a1, a2⟩, a3⟩, a4⟩⟩, ⟨⟨⟨b1, b2⟩, b3⟩, b4⟩⟩ := this
      have ga := g k.a.toNat (by omega)
      have gb := g k.b.toNat (by omega)
      refine ⟨k.a.toNat, k.i.toNat, k.b.toNat, k.j.toNat, ?_, by omega, by simp; omega, by simp; omega, by omega, by omega⟩
      cases k
      simp at *
      omega
section
variable {ps : List Nat} {bs : List Blk}
theorem GB.pos (h : GB ps bs) (i : Nat) : 0 < ps.getD i 1 := by
  by_cases hi : i < ps.length
  · have := h.p i hi; omega
  · simp [List.getD, List.getElem?_eq_none (Nat.le_of_not_lt hi)]
theorem GB.mem (h : GB ps bs) {p : Nat} (hp : p ∈ ps) : 2 ≤ p ∧ p ≤ 5 := by
  obtain ⟨i, hi, rfl⟩ := List.getElem_of_mem hp
  have := h.p i hi
  rwa [getD_eq _ _ _ hi] at this
theorem GB.good (h : GB ps bs) : goodBo (ints ps) bs = true := by
  unfold goodBo okP
  simp only [Bool.and_eq_true, decide_eq_true_eq, List.all_eq_true]
  refine ⟨⟨⟨⟨⟨by simpa using h.l1, by simpa using h.l6⟩, fun x hx => ?_⟩, ?_⟩, h.b⟩, fun k hk => ?_⟩
  · obtain ⟨p, hp, rfl⟩ := List.mem_map.1 hx
    have := h.mem hp; omega
  · rw [prI_ints]; have := h.n; omega
  · obtain ⟨a, i, b, j, rfl, h1, h2, h3, h4, h5⟩ := h.k k hk
    unfold okBlk hasB
    simp only [Bool.and_eq_true, decide_eq_true_eq, Bool.not_eq_true', decide_eq_false_iff_not, Int.toNat_natCast]
    rw [ints_getD _ _ _ h2, ints_getD _ _ _ h3]
    simp only [List.length_map]
    omega
theorem pr_pos (h : GB ps bs) (k : Nat) : 0 < pr ps k := by
  induction k with
  | zero => simp [pr]
  | succ k ih => exact Nat.mul_pos ih (h.pos k)
theorem pr_mono (h : GB ps bs) {j k : Nat} (hj : j ≤ k) : pr ps j ≤ pr ps k := by
  induction k with
  | zero => obtain rfl : j = 0 := by omega
            exact Nat.le_refl _
  | succ k ih =>
    by_cases e : j = k + 1
    · subst e; exact Nat.le_refl _
    · exact Nat.le_trans (ih (by omega)) (Nat.le_mul_of_pos_right _ (h.pos k))
theorem dg_len (k : Nat) : ∀ n, (dg ps k n).length = k := by
  induction k with
  | zero => intro n; rfl
  | succ k ih => intro n; rw [dg, List.length_append, ih]; rfl
theorem dg_lt (h : GB ps bs) (k : Nat) : ∀ n i, i < k → (dg ps k n).getD i 0 < ps.getD i 1 := by
  induction k with
  | zero => intro n i hi; omega
  | succ k ih =>
    intro n i hi
    rw [dg]
    by_cases e : i = k
    · subst e
      have := getD_app_eq (dg ps i (n / ps.getD i 1)) (n % ps.getD i 1) 0
      rw [dg_len] at this
      rw [this]; exact Nat.mod_lt _ (h.pos i)
    · rw [getD_app_lt _ _ _ _ (by rw [dg_len]; omega)]; exact ih _ i (by omega)
theorem nm_congr (k : Nat) : ∀ d e : List Nat, (∀ i, i < k → d.getD i 0 = e.getD i 0) → nm ps d k = nm ps e k := by
  induction k with
  | zero => intro d e _; rfl
  | succ k ih => intro d e h; rw [nm, nm, ih d e (fun i hi => h i (by omega)), h k (by omega)]
theorem nm_dg (h : GB ps bs) (k : Nat) : ∀ n, n < pr ps k → nm ps (dg ps k n) k = n := by
  induction k with
  | zero => intro n hn; simp [pr] at hn; subst hn; rfl
  | succ k ih =>
    intro n hn
    have hp := h.pos k
    have e : (dg ps (k + 1) n).getD k 0 = n % ps.getD k 1 := by
      rw [dg]
      have := getD_app_eq (dg ps k (n / ps.getD k 1)) (n % ps.getD k 1) 0
      rwa [dg_len] at this
    rw [nm, e, nm_congr k _ (dg ps k (n / ps.getD k 1)) (fun i hi => by rw [dg]; exact getD_app_lt _ _ _ _ (by rw [dg_len]; omega)), ih _ (Nat.div_lt_of_lt_mul (by rw [Nat.mul_comm]; exact hn))]
    rw [Nat.mul_comm]; exact Nat.div_add_mod _ _
theorem nm_lt (k : Nat) : ∀ d : List Nat, (∀ i, i < k → d.getD i 0 < ps.getD i 1) → nm ps d k < pr ps k := by
  induction k with
  | zero => intro d _; simp [nm, pr]
  | succ k ih =>
    intro d hd
    have a := ih d (fun i hi => hd i (by omega))
    have b := hd k (by omega)
    rw [nm, pr]
    calc nm ps d k * ps.getD k 1 + d.getD k 0 < nm ps d k * ps.getD k 1 + ps.getD k 1 := by omega
      _ = (nm ps d k + 1) * ps.getD k 1 := by rw [Nat.add_mul, Nat.one_mul]
      _ ≤ pr ps k * ps.getD k 1 := Nat.mul_le_mul_right _ a
theorem dg_nm (k : Nat) : ∀ d : List Nat, d.length = k → (∀ i, i < k → d.getD i 0 < ps.getD i 1) → dg ps k (nm ps d k) = d := by
  induction k with
  | zero => intro d hd _; rw [dg]; exact (List.length_eq_zero_iff.1 hd).symm
  | succ k ih =>
    intro d hd hl
    have hne : d ≠ [] := fun e => by rw [e] at hd; simp at hd
    obtain ⟨e, x, rfl⟩ : ∃ e x, d = e ++ [x] := ⟨d.dropLast, d.getLast hne, (List.dropLast_concat_getLast hne).symm⟩
    have hel : e.length = k := by simpa using hd
    have hx : (e ++ [x]).getD k 0 = x := by rw [← hel]; exact getD_app_eq _ _ _
    have hxl := hl k (by omega)
    rw [hx] at hxl
    rw [dg, nm, hx, nm_congr k _ e (fun i hi => getD_app_lt _ _ _ _ (by omega))]
    have h1 : (nm ps e k * ps.getD k 1 + x) / ps.getD k 1 = nm ps e k := by
      rw [Nat.mul_comm, Nat.mul_add_div (by omega), Nat.div_eq_of_lt hxl, Nat.add_zero]
    have h2 : (nm ps e k * ps.getD k 1 + x) % ps.getD k 1 = x := by
      rw [Nat.mul_comm, Nat.mul_add_mod, Nat.mod_eq_of_lt hxl]
    rw [h1, h2, ih e hel (fun i hi => by have := hl i (by omega); rwa [getD_app_lt _ _ _ _ (by omega)] at this)]
theorem flatMap_same {α β : Type} {f g : α → List β} (l : List α) (h : ∀ x ∈ l, f x = g x) : l.flatMap f = l.flatMap g := by
  induction l with
  | nil => rfl
  | cons a l ih => rw [List.flatMap_cons, List.flatMap_cons, h a (by simp), ih (fun x hx => h x (by simp [hx]))]
theorem range_mul (a b : Nat) : List.range (a * b) = (List.range a).flatMap fun q => (List.range b).map fun r => q * b + r := by
  induction a with
  | zero => simp
  | succ a ih =>
    rw [Nat.add_mul, Nat.one_mul, List.range_add, ih, List.range_succ, List.flatMap_append]
    simp
theorem al_eq (h : GB ps bs) (k : Nat) : al ps k = (List.range (pr ps k)).map (dg ps k) := by
  induction k with
  | zero => rfl
  | succ k ih =>
    have hp := h.pos k
    rw [al, ih, pr, range_mul, List.map_flatMap, List.flatMap_map]
    apply flatMap_same
    intro q _
    rw [List.map_map]
    apply List.map_congr_left
    intro r hr
    have hr' : r < ps.getD k 1 := List.mem_range.1 hr
    show dg ps k q ++ [r] = dg ps (k + 1) (q * ps.getD k 1 + r)
    rw [dg, Nat.mul_comm, Nat.mul_add_div hp, Nat.div_eq_of_lt hr', Nat.add_zero, Nat.mul_add_mod, Nat.mod_eq_of_lt hr']
theorem al_len (h : GB ps bs) (k : Nat) : (al ps k).length = pr ps k := by rw [al_eq h]; simp
theorem mem_al (h : GB ps bs) {d : List Nat} : d ∈ al ps ps.length ↔ isSt ps d := by
  rw [al_eq h, List.mem_map]
  constructor
  · rintro ⟨n, hn, rfl⟩
    exact ⟨dg_len _ _, fun i hi => dg_lt h _ _ _ hi⟩
  · rintro ⟨h1, h2⟩
    exact ⟨nm ps d ps.length, List.mem_range.2 (nm_lt _ _ h2), dg_nm _ _ h1 h2⟩
theorem dg_st (h : GB ps bs) (n : Nat) : isSt ps (dg ps ps.length n) := ⟨dg_len _ _, fun i hi => dg_lt h _ _ _ hi⟩

/-- a slide: the bolt b on (true) or back -/
def mvS (d : List Nat) (b : Nat) (up : Bool) : List Nat := d.set b (if up then d.getD b 0 + 1 else d.getD b 0 - 1)
def canS (ps : List Nat) (bs : List Blk) (d : List Nat) (b : Nat) (up : Bool) : Bool := (if up then decide (d.getD b 0 + 1 < ps.getD b 1) else decide (1 ≤ d.getD b 0)) && fr bs (mvS d b up)
def sl1 (ps : List Nat) (bs : List Blk) (d : List Nat) (b : Nat) : List (Nat × Bool) := (if canS ps bs d b true then [(b, true)] else []) ++ (if canS ps bs d b false then [(b, false)] else [])
def slK (ps : List Nat) (bs : List Blk) (d : List Nat) (k : Nat) : List (Nat × Bool) := (List.range k).flatMap (sl1 ps bs d)
def slS (ps : List Nat) (bs : List Blk) (d : List Nat) : List (Nat × Bool) := slK ps bs d ps.length
def nbS (ps : List Nat) (bs : List Blk) (d : List Nat) : List (List Nat) := (slS ps bs d).map fun m => mvS d m.1 m.2
def allU (ps : List Nat) (bs : List Blk) : List (List Nat) := (al ps ps.length).filter (fr bs)
theorem mem_sl {d : List Nat} {b : Nat} {up : Bool} : (b, up) ∈ slS ps bs d ↔ b < ps.length ∧ canS ps bs d b up = true := by
  unfold slS slK sl1
  rw [List.mem_flatMap]
  constructor
  · rintro ⟨c, hc, hm⟩
    have hc' := List.mem_range.1 hc
    rcases List.mem_append.1 hm with h | h
    · split at h
      · rename_i e; simp at h; obtain ⟨rfl, rfl⟩ := h; exact ⟨hc', e⟩
      · cases h
    · split at h
      · rename_i e; simp at h; obtain ⟨rfl, rfl⟩ := h; exact ⟨hc', e⟩
      · cases h
  · rintro ⟨h1, h2⟩
    refine ⟨b, List.mem_range.2 h1, List.mem_append.2 ?_⟩
    cases up
    · right; rw [if_pos h2]; simp
    · left; rw [if_pos h2]; simp
theorem sl_lt {d : List Nat} {m : Nat × Bool} (h : m ∈ slS ps bs d) : m.1 < ps.length := (mem_sl.1 h).1
theorem mv_len (d : List Nat) (b : Nat) (up : Bool) : (mvS d b up).length = d.length := by simp [mvS]
theorem mv_getD (d : List Nat) (b : Nat) (up : Bool) (i : Nat) (hb : b < d.length) : (mvS d b up).getD i 0 = if i = b then (if up then d.getD b 0 + 1 else d.getD b 0 - 1) else d.getD i 0 := by
  unfold mvS
  simp only [List.getD]
  by_cases e : i = b
  · subst e; rw [List.getElem?_set_self hb, if_pos rfl]; rfl
  · rw [List.getElem?_set_ne (Ne.symm e), if_neg e]
theorem mv_st {d : List Nat} (h : isSt ps d) {b : Nat} {up : Bool} (hb : b < ps.length) (hc : canS ps bs d b up = true) : isSt ps (mvS d b up) := by
  refine ⟨by rw [mv_len]; exact h.1, fun i hi => ?_⟩
  rw [mv_getD _ _ _ _ (by rw [h.1]; exact hb)]
  have hd := h.2 b hb
  split
  · rename_i e; subst e
    unfold canS at hc
    rw [Bool.and_eq_true] at hc
    have := hc.1
    generalize d.getD i 0 = x at *
    generalize ps.getD i 1 = y at *
    cases up
    · simp at this ⊢; omega
    · simp at this ⊢; omega
  · exact h.2 i hi
theorem mv_back {d : List Nat} (h : isSt ps d) {b : Nat} {up : Bool} (hb : b < ps.length) (hc : canS ps bs d b up = true) : mvS (mvS d b up) b (!up) = d := by
  have hl : b < d.length := by rw [h.1]; exact hb
  have e : (mvS d b up).getD b 0 = (if up then d.getD b 0 + 1 else d.getD b 0 - 1) := by rw [mv_getD _ _ _ _ hl, if_pos rfl]
  unfold canS at hc
  rw [Bool.and_eq_true] at hc
  have hc1 := hc.1
  have e0 : mvS (mvS d b up) b (!up) = (mvS d b up).set b (if (!up) = true then (mvS d b up).getD b 0 + 1 else (mvS d b up).getD b 0 - 1) := rfl
  rw [e0, e]
  have this : (if (!up) = true then (if up = true then d.getD b 0 + 1 else d.getD b 0 - 1) + 1 else (if up = true then d.getD b 0 + 1 else d.getD b 0 - 1) - 1) = d.getD b 0 := by
    generalize d.getD b 0 = x at *
    cases up
    · simp at hc1 ⊢; omega
    · simp
  rw [this]
  unfold mvS
  rw [List.set_set, getD_eq _ _ _ hl]
  exact List.set_getElem_self hl
theorem can_back {d : List Nat} (h : isSt ps d) (hf : fr bs d = true) {b : Nat} {up : Bool} (hb : b < ps.length) (hc : canS ps bs d b up = true) : canS ps bs (mvS d b up) b (!up) = true := by
  have hl : b < d.length := by rw [h.1]; exact hb
  have hd := h.2 b hb
  have e : (mvS d b up).getD b 0 = (if up then d.getD b 0 + 1 else d.getD b 0 - 1) := by rw [mv_getD _ _ _ _ hl, if_pos rfl]
  have hm := mv_back h hb hc
  unfold canS at hc ⊢
  rw [Bool.and_eq_true] at hc ⊢
  refine ⟨?_, by rw [hm]; exact hf⟩
  have hc1 := hc.1
  rw [e]
  generalize d.getD b 0 = x at *
  generalize ps.getD b 1 = y at *
  cases up
  · simp at hc1 ⊢; omega
  · simp at hc1 ⊢
theorem mem_U (h : GB ps bs) {d : List Nat} : d ∈ allU ps bs ↔ isSt ps d ∧ fr bs d = true := by
  unfold allU
  rw [List.mem_filter, mem_al h]
theorem nb_mem {d t : List Nat} : t ∈ nbS ps bs d ↔ ∃ b up, b < ps.length ∧ canS ps bs d b up = true ∧ t = mvS d b up := by
  unfold nbS
  rw [List.mem_map]
  constructor
  · rintro ⟨⟨b, up⟩, hm, rfl⟩
    obtain ⟨h1, h2⟩ := mem_sl.1 hm
    exact ⟨b, up, h1, h2, rfl⟩
  · rintro ⟨b, up, h1, h2, rfl⟩
    exact ⟨(b, up), mem_sl.2 ⟨h1, h2⟩, rfl⟩
theorem univS (h : GB ps bs) : Univ (nbS ps bs) (allU ps bs) where
  cl s hs t ht := by
    obtain ⟨h1, h2⟩ := (mem_U h).1 hs
    obtain ⟨b, up, hb, hc, rfl⟩ := nb_mem.1 ht
    refine (mem_U h).2 ⟨mv_st h1 hb hc, ?_⟩
    unfold canS at hc; rw [Bool.and_eq_true] at hc; exact hc.2
  sym s hs t ht := by
    obtain ⟨h1, h2⟩ := (mem_U h).1 hs
    obtain ⟨b, up, hb, hc, rfl⟩ := nb_mem.1 ht
    exact nb_mem.2 ⟨b, !up, hb, can_back h1 h2 hb hc, (mv_back h1 hb hc).symm⟩
theorem U_len (h : GB ps bs) : (allU ps bs).length ≤ 1000 := by
  have := List.length_filter_le (fr bs) (al ps ps.length)
  rw [al_len h] at this
  have := h.n
  unfold allU; omega
theorem sl1_len (d : List Nat) (b : Nat) : (sl1 ps bs d b).length ≤ 2 := by
  unfold sl1; split <;> split <;> simp
theorem slK_len (d : List Nat) (k : Nat) : (slK ps bs d k).length ≤ 2 * k := by
  induction k with
  | zero => simp [slK]
  | succ k ih =>
    unfold slK at *
    rw [List.range_succ, List.flatMap_append, List.length_append]
    have := sl1_len (ps := ps) (bs := bs) d k
    have e : List.flatMap (sl1 ps bs d) [k] = sl1 ps bs d k := by simp
    rw [e]; omega
theorem slK_succ (d : List Nat) (k : Nat) : slK ps bs d (k + 1) = slK ps bs d k ++ sl1 ps bs d k := by
  unfold slK; rw [List.range_succ, List.flatMap_append]; simp
end
end Go.Proofs.Ytcfeaaakfjilgaa.RM
