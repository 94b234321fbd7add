/-
  Plain mathematics of two rings at once: the states in the order of their numbers, a move changes the number by one, and a move of both rings leads over two numbers at some places. How far two states are from each other, and that a search in breadth finds it. Nothing of any program.
-/
import Derived.Test.YtmbijomjilicgabDoorMath
import Derived.Test.YtmbijomjilicgabDoorStr
namespace Go.Proofs.YtmbijomjilicgabDoor.RM

/-- how many of the short cuts end at z or below, and how many begin below s -/
def eN (z : Nat) : Nat := (z + 6) / 8 + (z + 1) / 8
def bN (s : Nat) : Nat := (s + 7) / 8 + (s + 2) / 8
/-- how many moves lead from the number s to z -/
def dd (s z : Nat) : Nat := if s ≤ z then z - s - (eN z - bN s) else s - z - (eN s - bN z)
/-- the number ahead of z on the way from s -/
def pp (s z : Nat) : Nat := if s < z then (if (z % 8 = 2 ∨ z % 8 = 7) ∧ s + 2 ≤ z then z - 2 else z - 1) else (if (z % 8 = 0 ∨ z % 8 = 5) ∧ z + 2 ≤ s then z + 2 else z + 1)
/-- the numbers behind the moves from i, in the order of the moves -/
def ch (i : Nat) : List Nat := if i % 8 = 0 ∨ i % 8 = 5 then [i + 2] else if i % 8 = 2 ∨ i % 8 = 7 then [i - 2] else []
def rg (N i : Nat) : List Nat := if i % 2 = 0 then (i + 1) :: (if i = 0 then [] else [i - 1]) else (i - 1) :: (if i + 1 < N then [i + 1] else [])
def nb (N i : Nat) : List Nat := ch i ++ rg N i
/-- a number of states: a power of two from four on -/
def PN (N : Nat) : Prop := N = 4 ∨ (8 ≤ N ∧ N % 8 = 0)
theorem pn_pow (n : Nat) (h : 2 ≤ n) : PN (2 ^ n) := by
  unfold PN
  by_cases h2 : n = 2
  · subst h2; left; rfl
  · right
    obtain ⟨m, rfl⟩ : ∃ m, n = m + 3 := ⟨n - 3, by omega⟩
    have := Nat.two_pow_pos m
    rw [Nat.pow_add]; omega

theorem dd_self (s : Nat) : dd s s = 0 := by unfold dd; simp
theorem dd_comm (s z : Nat) : dd s z = dd z s := by
  unfold dd
  by_cases h : s = z
  · subst h; rfl
  · by_cases h1 : s ≤ z
    · rw [if_pos h1, if_neg (by omega)]
    · rw [if_neg h1, if_pos (by omega)]
theorem mem_ch {i y : Nat} : y ∈ ch i ↔ ((i % 8 = 0 ∨ i % 8 = 5) ∧ y = i + 2) ∨ ((i % 8 = 2 ∨ i % 8 = 7) ∧ y + 2 = i) := by
  unfold ch
  split
  · simp; omega
  · split
    · simp; omega
    · simp; omega
theorem mem_rg {N i y : Nat} (hi : i < N) (hN : PN N) : y ∈ rg N i ↔ y < N ∧ (y = i + 1 ∨ y + 1 = i) := by
  unfold rg
  unfold PN at hN
  split
  · split
    · simp; omega
    · simp; omega
  · split
    · simp; omega
    · simp; omega
theorem mem_nb {N i y : Nat} (hi : i < N) (hN : PN N) : y ∈ nb N i ↔ y < N ∧ (y = i + 1 ∨ y + 1 = i ∨ ((i % 8 = 0 ∨ i % 8 = 5) ∧ y = i + 2) ∨ ((i % 8 = 2 ∨ i % 8 = 7) ∧ y + 2 = i)) := by
  unfold nb
  rw [List.mem_append, mem_ch, mem_rg hi hN]
  unfold PN at hN
  omega
theorem nb_nodup (N i : Nat) : (nb N i).Nodup := by
  unfold nb ch rg
  (repeat' split) <;> simp <;> omega
theorem nb_len (N i : Nat) : (nb N i).length ≤ 3 := by
  unfold nb ch rg
  (repeat' split) <;> simp
theorem pp_lt {N s z : Nat} (hs : s < N) (hz : z < N) (hne : z ≠ s) : pp s z < N := by
  unfold pp; split
  · split <;> omega
  · split <;> omega
theorem pp_nb {N s z : Nat} (hN : PN N) (hs : s < N) (hz : z < N) (hne : z ≠ s) : z ∈ nb N (pp s z) := by
  rw [mem_nb (pp_lt hs hz hne) hN]
  refine ⟨hz, ?_⟩
  unfold pp; split
  · split <;> omega
  · split <;> omega
theorem loc_t (t : Nat) : ((t % 8 = 1 ∨ t % 8 = 6) ∧ bN t = eN t + 1) ∨ (¬ (t % 8 = 1 ∨ t % 8 = 6) ∧ bN t = eN t) := by unfold eN bN; omega
theorem nxt_t (t : Nat) : ((t % 8 = 1 ∨ t % 8 = 6) ∧ eN (t + 1) = eN t + 1) ∨ (¬ (t % 8 = 1 ∨ t % 8 = 6) ∧ eN (t + 1) = eN t) := by unfold eN; omega
theorem nxtb_t (t : Nat) : ((t % 8 = 0 ∨ t % 8 = 5) ∧ bN (t + 1) = bN t + 1) ∨ (¬ (t % 8 = 0 ∨ t % 8 = 5) ∧ bN (t + 1) = bN t) := by unfold bN; omega
theorem bN_mono {s t : Nat} (h : s ≤ t) : bN s ≤ bN t := by unfold bN; omega
theorem eN_mono {s t : Nat} (h : s ≤ t) : eN s ≤ eN t := by unfold eN; omega
theorem gap_t {s t : Nat} (h : s ≤ t) : eN t - bN s ≤ t - s := by unfold eN bN; omega
theorem dd_up {s z : Nat} (h : s ≤ z) : dd s z = z - s - (eN z - bN s) := by unfold dd; rw [if_pos h]
theorem dd_dn {s z : Nat} (h : z ≤ s) : dd s z = s - z - (eN s - bN z) := by
  by_cases e : s = z
  · subst e; unfold dd; simp
  · unfold dd; rw [if_neg (by omega)]
/-- one number farther on -/
theorem up_t {s i : Nat} (h : s ≤ i) : ((i % 8 = 1 ∨ i % 8 = 6) ∧ s < i ∧ dd s (i + 1) = dd s i) ∨ (¬ ((i % 8 = 1 ∨ i % 8 = 6) ∧ s < i) ∧ dd s (i + 1) = dd s i + 1) := by
  rw [dd_up h, dd_up (by omega : s ≤ i + 1)]
  have a := nxt_t i
  have g := gap_t h
  have l := loc_t i
  by_cases e : s = i
  · subst e; omega
  · by_cases k : i % 8 = 1 ∨ i % 8 = 6
    · obtain ⟨j, rfl⟩ : ∃ j, i = j + 1 := ⟨i - 1, by omega⟩
      have b := nxt_t j
      have c := loc_t j
      have d := bN_mono (by omega : s ≤ j)
      have g2 := gap_t (by omega : s ≤ j)
      left
      refine ⟨k, by omega, ?_⟩
      generalize eN j = A at *
      generalize eN (j + 1) = B at *
      generalize eN (j + 1 + 1) = C at *
      generalize bN s = D at *
      generalize bN j = E at *
      omega
    · right
      refine ⟨by omega, ?_⟩
      generalize eN i = A at *
      generalize eN (i + 1) = C at *
      generalize bN s = D at *
      omega
theorem dn_t {s i : Nat} (h : i + 1 ≤ s) : ((i % 8 = 0 ∨ i % 8 = 5) ∧ i + 1 < s ∧ dd s i = dd s (i + 1)) ∨ (¬ ((i % 8 = 0 ∨ i % 8 = 5) ∧ i + 1 < s) ∧ dd s i = dd s (i + 1) + 1) := by
  rw [dd_dn h, dd_dn (by omega : i ≤ s)]
  have a := nxtb_t i
  have g := gap_t h
  have g2 := gap_t (by omega : i ≤ s)
  by_cases e : i + 1 = s
  · subst e
    have l := loc_t i
    have l2 := loc_t (i + 1)
    have m := nxt_t i
    right
    refine ⟨by omega, ?_⟩
    generalize eN i = A at *
    generalize eN (i + 1) = B at *
    generalize bN (i + 1) = C at *
    generalize bN i = D at *
    omega
  · by_cases k : i % 8 = 0 ∨ i % 8 = 5
    · have b := nxt_t i
      have c := loc_t i
      have d := eN_mono (by omega : i + 1 + 1 ≤ s)
      have b2 := nxt_t (i + 1)
      left
      refine ⟨k, by omega, ?_⟩
      generalize eN i = A at *
      generalize eN (i + 1) = B at *
      generalize eN (i + 1 + 1) = C at *
      generalize eN s = D at *
      generalize bN i = E at *
      generalize bN (i + 1) = F at *
      omega
    · right
      refine ⟨by omega, ?_⟩
      generalize bN i = A at *
      generalize bN (i + 1) = C at *
      generalize eN s = D at *
      omega
theorem dd_pp {s z : Nat} (hne : z ≠ s) : dd s z = dd s (pp s z) + 1 := by
  unfold pp
  by_cases h : s < z
  · rw [if_pos h]
    split
    · rename_i g
      obtain ⟨y, rfl⟩ : ∃ y, z = y + 1 + 1 := ⟨z - 2, by omega⟩
      have a := up_t (by omega : s ≤ y)
      have b := up_t (by omega : s ≤ y + 1)
      rw [show y + 1 + 1 - 2 = y from by omega]
      omega
    · rename_i g
      obtain ⟨y, rfl⟩ : ∃ y, z = y + 1 := ⟨z - 1, by omega⟩
      have a := up_t (by omega : s ≤ y)
      rw [show y + 1 - 1 = y from by omega]
      omega
  · rw [if_neg h]
    split
    · have a := dn_t (by omega : z + 1 ≤ s)
      have b := dn_t (by omega : z + 1 + 1 ≤ s)
      show dd s z = dd s (z + 1 + 1) + 1
      omega
    · have a := dn_t (by omega : z + 1 ≤ s)
      omega
theorem nb_dd {N s i y : Nat} (hN : PN N) (hi : i < N) (hy : y ∈ nb N i) : dd s y ≤ dd s i + 1 ∧ dd s i ≤ dd s y + 1 ∧ (dd s y = dd s i + 1 → y ≠ s ∧ pp s y = i) := by
  rw [mem_nb hi hN] at hy
  obtain ⟨_, hy⟩ := hy
  unfold pp
  rcases hy with rfl | e | ⟨k, rfl⟩ | ⟨k, e⟩
  · by_cases h : s ≤ i
    · have a := up_t h
      refine ⟨by omega, by omega, fun e => ⟨by omega, ?_⟩⟩
      rw [if_pos (by omega)]; split <;> omega
    · have a := dn_t (by omega : i + 1 ≤ s)
      refine ⟨by omega, by omega, fun e => by omega⟩
  · subst e
    by_cases h : s ≤ y
    · have a := up_t h
      refine ⟨by omega, by omega, fun e => by omega⟩
    · have a := dn_t (by omega : y + 1 ≤ s)
      refine ⟨by omega, by omega, fun e => ⟨by omega, ?_⟩⟩
      rw [if_neg (by omega)]; split <;> omega
  · show dd s (i + 1 + 1) ≤ _ ∧ _ ≤ dd s (i + 1 + 1) + 1 ∧ (dd s (i + 1 + 1) = _ → _)
    by_cases h : s ≤ i
    · have a := up_t h
      have b := up_t (by omega : s ≤ i + 1)
      refine ⟨by omega, by omega, fun e => ⟨by omega, ?_⟩⟩
      rw [if_pos (by omega), if_pos (by omega)]; omega
    · by_cases g : s = i + 1
      · subst g
        have a := dn_t (Nat.le_refl (i + 1))
        have b := up_t (Nat.le_refl (i + 1))
        refine ⟨by omega, by omega, fun e => by omega⟩
      · have a := dn_t (by omega : i + 1 ≤ s)
        have b := dn_t (by omega : i + 1 + 1 ≤ s)
        refine ⟨by omega, by omega, fun e => by omega⟩
  · subst e
    show dd s y ≤ dd s (y + 1 + 1) + 1 ∧ dd s (y + 1 + 1) ≤ dd s y + 1 ∧ (dd s y = dd s (y + 1 + 1) + 1 → _)
    by_cases h : s ≤ y
    · have a := up_t h
      have b := up_t (by omega : s ≤ y + 1)
      refine ⟨by omega, by omega, fun e => by omega⟩
    · by_cases g : s = y + 1
      · subst g
        have a := dn_t (Nat.le_refl (y + 1))
        have b := up_t (Nat.le_refl (y + 1))
        refine ⟨by omega, by omega, fun e => by omega⟩
      · have a := dn_t (by omega : y + 1 ≤ s)
        have b := dn_t (by omega : y + 1 + 1 ≤ s)
        refine ⟨by omega, by omega, fun e => ⟨by omega, ?_⟩⟩
        rw [if_neg (by omega), if_pos (by omega)]
theorem dd_le {N s z : Nat} (hs : s < N) (hz : z < N) : dd s z < N := by
  unfold dd; split <;> omega

/-- what holds of a search: Q is the queue, the first i of it are done, and of the next one the moves to J -/
structure Bfs (N s : Nat) (Q : List Nat) (i : Nat) (J : List Nat) : Prop where
  nodup : Q.Nodup
  lt : ∀ z, z ∈ Q → z < N
  src : s ∈ Q
  le : i ≤ Q.length
  sorted : ∀ (a b : Nat) (ha : a < b) (hb : b < Q.length), dd s Q[a] ≤ dd s Q[b]
  near : ∀ (h : i < Q.length) (z : Nat), z ∈ Q → dd s z ≤ dd s Q[i] + 1
  found : ∀ z, z < N → (z ∈ Q ↔ z = s ∨ (z ≠ s ∧ (pp s z ∈ Q.take i ∨ ∃ h : i < Q.length, pp s z = Q[i] ∧ z ∈ J)))

theorem Bfs.init {N s : Nat} (hs : s < N) : Bfs N s [s] 0 [] where
  nodup := by simp
  lt := fun z hz => by simp at hz; omega
  src := by simp
  le := by simp
  sorted := fun a b ha hb => by simp at hb; omega
  near := fun h z hz => by simp at hz; subst hz; rw [dd_self]; omega
  found := fun z hz => by simp

theorem mem_take {Q : List Nat} {i z : Nat} : z ∈ Q.take i ↔ ∃ (m : Nat) (h : m < Q.length), m < i ∧ Q[m] = z := by
  rw [List.mem_take_iff_getElem]
  constructor
  · rintro ⟨m, h, e⟩; exact ⟨m, by omega, by omega, e⟩
  · rintro ⟨m, h, h2, e⟩; exact ⟨m, by omega, e⟩

theorem Bfs.below {N s : Nat} {Q : List Nat} {i : Nat} {J : List Nat} (B : Bfs N s Q i J) (hs : s < N) (h : i < Q.length) :
    ∀ d z, dd s z = d → z < N → d ≤ dd s Q[i] → z ∈ Q := by
  intro d
  induction d with
  | zero =>
    intro z hd hz hle
    by_cases e : z = s
    · subst e; exact B.src
    · rw [dd_pp e] at hd; omega
  | succ d ih =>
    intro z hd hz hle
    have e : z ≠ s := by intro e; subst e; rw [dd_self] at hd; omega
    have hp := dd_pp e
    have hm := ih (pp s z) (by omega) (pp_lt hs hz e) (by omega)
    obtain ⟨m, hml, hme⟩ := List.getElem_of_mem hm
    refine (B.found z hz).2 (.inr ⟨e, .inl (mem_take.2 ⟨m, hml, ?_, hme⟩)⟩)
    apply Classical.byContradiction
    intro hge
    by_cases e2 : m = i
    · subst e2; rw [hme] at hle; omega
    · have := B.sorted i m (by omega) hml
      rw [hme] at this; omega

/-- a move to a state that has not been found -/
theorem Bfs.fresh {N s : Nat} {Q : List Nat} {i : Nat} {J K : List Nat} {y : Nat} (B : Bfs N s Q i J) (hN : PN N) (hs : s < N) (h : i < Q.length) (hJ : nb N Q[i] = J ++ y :: K)
    (hd : dd s y = dd s Q[i] + 1) : y ∉ Q ∧ y < N ∧ Bfs N s (Q ++ [y]) i (J ++ [y]) := by
  have hi : Q[i] < N := B.lt _ (List.getElem_mem h)
  have hym : y ∈ nb N Q[i] := by rw [hJ]; simp
  have hyN := ((mem_nb hi hN).1 hym).1
  obtain ⟨_, _, h3⟩ := nb_dd (s := s) hN hi hym
  obtain ⟨hys, hpy⟩ := h3 hd
  have hnd := nb_nodup N Q[i]
  rw [hJ] at hnd
  have hyJ : y ∉ J := by
    intro hy
    have := List.nodup_append.1 hnd
    exact this.2.2 y hy y (by simp) rfl
  have hnew : y ∉ Q := by
    intro hy
    rcases (B.found y hyN).1 hy with e | ⟨_, e | ⟨_, _, e⟩⟩
    · exact hys e
    · rw [hpy] at e
      obtain ⟨m, hm, hmi, hme⟩ := mem_take.1 e
      exact List.pairwise_iff_getElem.1 B.nodup m i hm h hmi hme
    · exact hyJ e
  refine ⟨hnew, hyN, ?_⟩
  have hge : ∀ (a : Nat) (ha : a < Q.length), (Q ++ [y])[a]'(by simp; omega) = Q[a] := fun a ha => List.getElem_append_left ha
  refine ⟨?_, ?_, ?_, ?_, ?_, ?_, ?_⟩
  · rw [List.nodup_append]
    refine ⟨B.nodup, by simp, ?_⟩
    intro a ha b hb e
    simp at hb; subst hb; subst e; exact hnew ha
  · intro z hz
    rcases List.mem_append.1 hz with hz | hz
    · exact B.lt z hz
    · simp at hz; omega
  · exact List.mem_append.2 (.inl B.src)
  · simp; have := B.le; omega
  · intro a b hab hb
    simp at hb
    by_cases e : b < Q.length
    · rw [hge a (by omega), hge b e]; exact B.sorted a b hab e
    · obtain rfl : b = Q.length := by omega
      rw [hge a hab]
      simp only [List.getElem_append_right (Nat.le_refl _), Nat.sub_self, List.getElem_cons_zero]
      have := B.near h Q[a] (List.getElem_mem hab)
      omega
  · intro hl z hz
    rw [hge i h]
    rcases List.mem_append.1 hz with hz | hz
    · exact B.near h z hz
    · simp at hz; subst hz; omega
  · intro z hz
    rw [List.take_append_of_le_length (Nat.le_of_lt h), List.mem_append, B.found z hz]
    constructor
    · rintro ((e | ⟨e, e2 | ⟨_, e2, e3⟩⟩) | e)
      · exact .inl e
      · exact .inr ⟨e, .inl e2⟩
      · exact .inr ⟨e, .inr ⟨by simp; omega, by rw [hge i h]; exact e2, List.mem_append.2 (.inl e3)⟩⟩
      · simp at e; subst e
        exact .inr ⟨hys, .inr ⟨by simp; omega, by rw [hge i h]; exact hpy, by simp⟩⟩
    · rintro (e | ⟨e, e2 | ⟨hl, e2, e3⟩⟩)
      · exact .inl (.inl e)
      · exact .inl (.inr ⟨e, .inl e2⟩)
      · rw [hge i h] at e2
        rcases List.mem_append.1 e3 with e3 | e3
        · exact .inl (.inr ⟨e, .inr ⟨h, e2, e3⟩⟩)
        · exact .inr e3

/-- a move to a state that has been found -/
theorem Bfs.old {N s : Nat} {Q : List Nat} {i : Nat} {J K : List Nat} {y : Nat} (B : Bfs N s Q i J) (hN : PN N) (hs : s < N) (h : i < Q.length) (hJ : nb N Q[i] = J ++ y :: K)
    (hd : dd s y ≠ dd s Q[i] + 1) : y ∈ Q ∧ y < N ∧ Bfs N s Q i (J ++ [y]) := by
  have hi : Q[i] < N := B.lt _ (List.getElem_mem h)
  have hym : y ∈ nb N Q[i] := by rw [hJ]; simp
  have hyN := ((mem_nb hi hN).1 hym).1
  obtain ⟨h1, _, h3⟩ := nb_dd (s := s) hN hi hym
  have hyQ : y ∈ Q := B.below hs h _ y rfl hyN (by omega)
  refine ⟨hyQ, hyN, B.nodup, B.lt, B.src, B.le, B.sorted, B.near, ?_⟩
  intro z hz
  rw [B.found z hz]
  constructor
  · rintro (e | ⟨e, e2 | ⟨hl, e2, e3⟩⟩)
    · exact .inl e
    · exact .inr ⟨e, .inl e2⟩
    · exact .inr ⟨e, .inr ⟨hl, e2, List.mem_append.2 (.inl e3)⟩⟩
  · rintro (e | ⟨e, e2 | ⟨hl, e2, e3⟩⟩)
    · exact .inl e
    · exact .inr ⟨e, .inl e2⟩
    · rcases List.mem_append.1 e3 with e3 | e3
      · exact .inr ⟨e, .inr ⟨hl, e2, e3⟩⟩
      · simp at e3; subst e3
        exact (B.found _ hz).1 hyQ

theorem Bfs.next {N s : Nat} {Q : List Nat} {i : Nat} (hN : PN N) (hs : s < N) (h : i < Q.length) (B : Bfs N s Q i (nb N Q[i])) : Bfs N s Q (i + 1) [] := by
  refine ⟨B.nodup, B.lt, B.src, h, B.sorted, ?_, ?_⟩
  · intro hl z hz
    have := B.near h z hz
    have := B.sorted i (i + 1) (by omega) hl
    omega
  · intro z hz
    rw [B.found z hz]
    constructor
    · rintro (e | ⟨e, e2 | ⟨hl, e2, e3⟩⟩)
      · exact .inl e
      · obtain ⟨m, hm, hmi, hme⟩ := mem_take.1 e2
        exact .inr ⟨e, .inl (mem_take.2 ⟨m, hm, by omega, hme⟩)⟩
      · exact .inr ⟨e, .inl (mem_take.2 ⟨i, h, by omega, e2.symm⟩)⟩
    · rintro (e | ⟨e, e2 | ⟨hl, e2, e3⟩⟩)
      · exact .inl e
      · obtain ⟨m, hm, hmi, hme⟩ := mem_take.1 e2
        by_cases e4 : m = i
        · subst e4
          exact .inr ⟨e, .inr ⟨h, hme.symm, by rw [hme]; exact pp_nb hN hs hz e⟩⟩
        · exact .inr ⟨e, .inl (mem_take.2 ⟨m, hm, by omega, hme⟩)⟩
      · simp at e3

theorem Bfs.all {N s : Nat} {Q : List Nat} {J : List Nat} (hs : s < N) (B : Bfs N s Q Q.length J) : ∀ z, z < N → z ∈ Q := by
  have key : ∀ d z, dd s z = d → z < N → z ∈ Q := by
    intro d
    induction d with
    | zero =>
      intro z hd hz
      by_cases e : z = s
      · subst e; exact B.src
      · rw [dd_pp e] at hd; omega
    | succ d ih =>
      intro z hd hz
      have e : z ≠ s := by intro e; subst e; rw [dd_self] at hd; omega
      have hp := dd_pp e
      exact (B.found z hz).2 (.inr ⟨e, .inl (by rw [List.take_length]; exact ih _ (by omega) (pp_lt hs hz e))⟩)
  exact fun z hz => key _ z rfl hz

theorem nodup_len : ∀ (N : Nat) (Q : List Nat), Q.Nodup → (∀ z, z ∈ Q → z < N) → Q.length ≤ N := by
  intro N
  induction N with
  | zero =>
    intro Q _ h
    cases Q with
    | nil => simp
    | cons a Q => exact absurd (h a (by simp)) (by omega)
  | succ N ih =>
    intro Q hq h
    have h1 := ih (Q.erase N) (hq.erase N) (fun z hz => by
      have a := h z (List.mem_of_mem_erase hz)
      have b : z ≠ N := by intro e; subst e; exact hq.not_mem_erase hz
      omega)
    have := List.length_erase (a := N) (l := Q)
    split at this <;> omega
theorem Bfs.len {N s : Nat} {Q : List Nat} {i : Nat} {J : List Nat} (B : Bfs N s Q i J) : Q.length ≤ N := nodup_len N Q B.nodup B.lt

/-- a row of what has been found -/
def fRow (N : Nat) (f : Nat → Nat) (g : Nat → Int) (e : Int) (Q : List Nat) : List Int := (List.range N).map fun y => if f y ∈ Q then g (f y) else e
theorem fRow_len (N : Nat) (f : Nat → Nat) (g : Nat → Int) (e : Int) (Q : List Nat) : (fRow N f g e Q).length = N := by simp [fRow]
theorem fRow_get (N : Nat) (f : Nat → Nat) (g : Nat → Int) (e : Int) (Q : List Nat) (y : Nat) (h : y < (fRow N f g e Q).length) : (fRow N f g e Q)[y] = if f y ∈ Q then g (f y) else e := by simp [fRow]
theorem fRow_set (N : Nat) (f : Nat → Nat) (g : Nat → Int) (e : Int) (Q : List Nat) (y : Nat) (v : Int) (hv : v = g (f y)) (hf : ∀ a b, f a = f b → a = b) : (fRow N f g e Q).set y v = fRow N f g e (Q ++ [f y]) := by
  subst hv
  apply List.ext_getElem
  · simp [fRow]
  · intro j h1 h2
    rw [List.getElem_set, fRow_get]
    by_cases e1 : y = j
    · subst e1; rw [if_pos rfl, fRow_get, if_pos (by simp)]
    · rw [if_neg e1, fRow_get]
      have : f j ≠ f y := fun e => e1 (hf _ _ e).symm
      simp [this]
theorem fRow_nil (N : Nat) (f : Nat → Nat) (g : Nat → Int) (e : Int) : fRow N f g e [] = List.replicate N e := by
  apply List.ext_getElem
  · simp [fRow]
  · intro j h1 h2; rw [fRow_get]; simp
theorem fRow_all (N : Nat) (f : Nat → Nat) (g : Nat → Int) (e : Int) (Q : List Nat) (h : ∀ y, y < N → f y ∈ Q) : fRow N f g e Q = (List.range N).map fun y => g (f y) := by
  apply List.ext_getElem
  · simp [fRow]
  · intro j h1 h2
    rw [fRow_get, if_pos (h j (by simpa [fRow] using h1))]; simp

/-- the moves of rings, and the numbers behind them -/
theorem gray_flip0 (i : Nat) : gray i ^^^ 2 ^ 0 = gray (if i % 2 = 0 then i + 1 else i - 1) := by
  split
  · rename_i h; rw [gray_up, up_even h]
  · rename_i h
    have := gray_up (i - 1)
    rw [up_even (by omega), show i - 1 + 1 = i from by omega] at this
    rw [this, Nat.xor_assoc, Nat.xor_self, Nat.xor_zero]
theorem gray_flip1 (i : Nat) (h0 : i ≠ 0) : gray i ^^^ 2 ^ (ctz (gray i) + 1) = gray (if i % 2 = 0 then i - 1 else i + 1) := by
  split
  · rename_i h
    have := gray_up (i - 1)
    rw [down_place i h h0, show i - 1 + 1 = i from by omega] at this
    generalize ctz (gray i) = c at *
    rw [this, Nat.xor_assoc, Nat.xor_self, Nat.xor_zero]
  · rename_i h; rw [gray_up, up_place i (by omega)]
theorem place_lt (n i : Nat) (h0 : i ≠ 0) (hi : i < 2 ^ n) : ctz (gray i) + 1 < n ↔ (i % 2 = 0 ∨ i + 1 < 2 ^ n) := by
  by_cases h : i % 2 = 0
  · have a := up_lt n (i - 1) (by omega)
    rw [down_place i h h0] at a
    simp [h, a]
  · have e := up_place i (by omega)
    constructor
    · intro hl
      right
      have a := gray_flip1 i h0
      rw [if_neg h] at a
      have b : gray i ^^^ 2 ^ (ctz (gray i) + 1) < 2 ^ n := Nat.xor_lt_two_pow (gray_lt n i hi) (Nat.pow_lt_pow_right (by omega) hl)
      rw [a] at b
      have c := num_lt n _ b
      rw [num_gray] at c; exact c
    · rintro (hl | hl)
      · omega
      · have a := up_lt n i hl
        omega
theorem can_flt (n x : Nat) : ∀ m, m ≤ n → (List.range m).filter (fun (k : Nat) => canB n x (k : Int)) = (if 0 < m then [0] else []) ++ (if x ≠ 0 ∧ ctz x + 1 < m then [ctz x + 1] else []) := by
  intro m
  induction m with
  | zero => intro _; simp
  | succ m ih =>
    intro hm
    rw [List.range_succ, List.filter_append, ih (by omega)]
    cases m with
    | zero => simp [canB_zero]
    | succ m =>
      have a := canB_ctz n x m (by omega)
      by_cases hx : x = 0
      · subst hx
        simp only [List.filter_cons, List.filter_nil, a]; simp
      · by_cases hc : ctz x = m
        · simp only [List.filter_cons, List.filter_nil, a]; subst hc; simp [hx]
        · simp only [List.filter_cons, List.filter_nil, a]
          by_cases h3 : ctz x < m
          · simp [hx, hc, h3, show ctz x < m + 1 from by omega]
          · simp [hx, hc, h3, show ¬ ctz x < m + 1 from by omega]
theorem rg_flt (n i : Nat) (h2 : 2 ≤ n) (hi : i < 2 ^ n) : ((List.range n).filter (fun (k : Nat) => canB n (gray i) (k : Int))).map (fun k => gray i ^^^ 2 ^ k) = (rg (2 ^ n) i).map gray := by
  rw [can_flt n (gray i) n (Nat.le_refl _), if_pos (by omega)]
  unfold rg
  by_cases h0 : i = 0
  · subst h0; rw [gray_zero]; simp [gray]
  · have hp := place_lt n i h0 hi
    have f0 := gray_flip0 i
    have f1 := gray_flip1 i h0
    have hg := gray_pos h0
    by_cases h : i % 2 = 0
    · rw [if_pos h] at f0 f1
      rw [if_pos ⟨hg, hp.2 (.inl h)⟩, if_pos h, if_neg h0]
      simp only [List.map_append, List.map_cons, List.map_nil, f0, f1]; rfl
    · rw [if_neg h] at f0 f1
      rw [if_neg h]
      by_cases hl : i + 1 < 2 ^ n
      · rw [if_pos ⟨hg, hp.2 (.inr hl)⟩, if_pos hl]
        simp only [List.map_append, List.map_cons, List.map_nil, f0, f1]; rfl
      · rw [if_neg (by rw [hp]; omega), if_neg hl]
        simp only [List.map_append, List.map_cons, List.map_nil, f0, List.append_nil]
theorem gray_quart (i : Nat) : gray i / 2 / 2 = gray (i / 4) ∧ gray i % 2 = (i % 2 + i / 2) % 2 ∧ gray i / 2 % 2 = (i / 2 % 2 + i / 4) % 2 := by
  refine ⟨?_, gray_mod i, ?_⟩
  · rw [gray_half, gray_half, Nat.div_div_eq_div_mul]
  · rw [gray_half, gray_mod, Nat.div_div_eq_div_mul]
theorem xor3 (a : Nat) : (a ^^^ 3) / 2 / 2 = a / 2 / 2 ∧ (a ^^^ 3) % 2 = (a + 1) % 2 ∧ (a ^^^ 3) / 2 % 2 = (a / 2 + 1) % 2 := by
  refine ⟨?_, ?_, ?_⟩
  · rw [Nat.xor_div_two, Nat.xor_div_two]; simp
  · rw [xor_mod]; omega
  · rw [Nat.xor_div_two, xor_mod]
theorem gray_both_up (i : Nat) (h : i % 8 = 0 ∨ i % 8 = 5) : gray i ^^^ 3 = gray (i + 2) := by
  obtain ⟨a, b, c⟩ := xor3 (gray i)
  obtain ⟨d, e, f⟩ := gray_quart i
  obtain ⟨g, j, k⟩ := gray_quart (i + 2)
  rw [show (i + 2) / 4 = i / 4 from by omega, ← d] at g
  omega
theorem gray_both_down (i : Nat) (h : i % 8 = 2 ∨ i % 8 = 7) : gray i ^^^ 3 = gray (i - 2) := by
  have := gray_both_up (i - 2) (by omega)
  rw [show i - 2 + 2 = i from by omega] at this
  rw [← this, Nat.xor_assoc, Nat.xor_self, Nat.xor_zero]
/-- both rings can be moved at once -/
def bothB (x : Nat) : Bool := decide (x % 4 = 0) || decide (x % 4 = 3)
theorem both_gray (i : Nat) : bothB (gray i) = decide (i % 8 = 0 ∨ i % 8 = 5 ∨ i % 8 = 2 ∨ i % 8 = 7) := by
  obtain ⟨_, e, f⟩ := gray_quart i
  unfold bothB
  rw [← Bool.decide_or]
  apply decide_eq_decide.2
  generalize gray i = x at *
  obtain ⟨q, r, hr, rfl⟩ : ∃ q r, r < 8 ∧ i = 8 * q + r := ⟨i / 8, i % 8, by omega, by omega⟩
  have h8 : r = 0 ∨ r = 1 ∨ r = 2 ∨ r = 3 ∨ r = 4 ∨ r = 5 ∨ r = 6 ∨ r = 7 := by omega
  have e2 : ((8 * q + r) % 2 + (8 * q + r) / 2) % 2 = (r % 2 + r / 2) % 2 := by omega
  have f2 : ((8 * q + r) / 2 % 2 + (8 * q + r) / 4) % 2 = (r / 2 % 2 + r / 4) % 2 := by
    have : (8 * q + r) / 2 % 2 = r / 2 % 2 := by omega
    have : (8 * q + r) / 4 = 2 * q + r / 4 := by omega
    omega
  rw [e2] at e
  rw [f2] at f
  clear e2 f2
  have g : (8 * q + r) % 8 = r := by omega
  rw [g]
  rcases h8 with rfl | rfl | rfl | rfl | rfl | rfl | rfl | rfl <;> simp at e f <;> omega
/-- what a move does to the signs -/
def msk (k : Int) : Nat := if k = -1 then 3 else 2 ^ k.toNat
def pmL (n x : Nat) : List Int := (if bothB x then [-1] else []) ++ ((List.range n).filter fun (i : Nat) => canB n x (i : Int)).map fun (i : Nat) => (i : Int)
theorem pmL_map (n i : Nat) (h2 : 2 ≤ n) (hi : i < 2 ^ n) : (pmL n (gray i)).map (fun k => gray i ^^^ msk k) = (nb (2 ^ n) i).map gray := by
  unfold pmL nb
  rw [List.map_append, List.map_append, ← rg_flt n i h2 hi, List.map_map, both_gray]
  congr 1
  · unfold ch
    by_cases h : i % 8 = 0 ∨ i % 8 = 5
    · rw [if_pos (by simp; omega), if_pos h]; simp [msk, gray_both_up i h]
    · by_cases g : i % 8 = 2 ∨ i % 8 = 7
      · rw [if_pos (by simp; omega), if_neg h, if_pos g]; simp [msk, gray_both_down i g]
      · rw [if_neg (by simp; omega), if_neg h, if_neg g]; rfl
theorem pmL_len (n i : Nat) (h2 : 2 ≤ n) (hi : i < 2 ^ n) : (pmL n (gray i)).length = (nb (2 ^ n) i).length := by
  have := congrArg List.length (pmL_map n i h2 hi)
  simpa using this
theorem pmL_get (n i j : Nat) (h2 : 2 ≤ n) (hi : i < 2 ^ n) (h : j < (pmL n (gray i)).length) : gray i ^^^ msk (pmL n (gray i))[j] = gray ((nb (2 ^ n) i)[j]'(by rw [← pmL_len n i h2 hi]; exact h)) := by
  have a := pmL_map n i h2 hi
  have b : ((pmL n (gray i)).map (fun k => gray i ^^^ msk k))[j]'(by simpa using h) = ((nb (2 ^ n) i).map gray)[j]'(by rw [← a]; simpa using h) := by simp only [a]
  simpa using b
end Go.Proofs.YtmbijomjilicgabDoor.RM
