/- The first of the moves that lead nearer, by the program. -/
import Derived.Test.YtmbijomjilicgabDoorB11
import Derived.Test.YtmbijomjilicgabDoorB12
import Derived.Deep.RegionHeld3
namespace Go.Proofs.YtmbijomjilicgabDoor
open Go Go.RowKit RM

/-- the first of the moves that lead nearer to the number s -/
def nrK (n s x : Nat) : Int := ((pmL n x).find? fun k => decide (dd s (num (x ^^^ msk k)) < dd s (num x))).getD 0
theorem nrK_spec (n s x : Nat) (h2 : 2 ≤ n) (hx : x < 2 ^ n) (hs : s < 2 ^ n) (hne : num x ≠ s) :
    pcan n x (nrK n s x) = true ∧ dd s (num x) = dd s (num (x ^^^ msk (nrK n s x))) + 1 ∧ ∃ j, ∃ h : j < (pmL n x).length, (pmL n x)[j] = nrK n s x ∧ dd s (num (x ^^^ msk (pmL n x)[j])) < dd s (num x) ∧ ∀ i (h' : i < (pmL n x).length), i < j → ¬ dd s (num (x ^^^ msk (pmL n x)[i])) < dd s (num x) := by
  obtain ⟨i, hi, rfl⟩ : ∃ i, i < 2 ^ n ∧ x = gray i := ⟨num x, num_lt n x hx, (gray_num x).symm⟩
  rw [num_gray] at hne
  have hPN := pn_pow n h2
  have hp := pp_nb hPN hs hi hne
  have hpl := pp_lt hs hi hne
  have hd := dd_pp hne
  -- the number ahead is behind one of the moves
  have hpm : pp s i ∈ nb (2 ^ n) i := by
    rw [mem_nb hi hPN]
    rw [mem_nb hpl hPN] at hp
    obtain ⟨_, hp⟩ := hp
    refine ⟨hpl, ?_⟩
    unfold pp at hp ⊢
    split at hp <;> split at hp <;> (split <;> (try split) <;> omega)
  obtain ⟨m, hm, hme⟩ := List.getElem_of_mem hpm
  have hml : m < (pmL n (gray i)).length := by rw [pmL_len n i h2 hi]; exact hm
  have hmg := pmL_get n i m h2 hi hml
  rw [hme] at hmg
  have hex : ∃ k, (pmL n (gray i)).find? (fun k => decide (dd s (num (gray i ^^^ msk k)) < dd s (num (gray i)))) = some k := by
    cases h : (pmL n (gray i)).find? (fun k => decide (dd s (num (gray i ^^^ msk k)) < dd s (num (gray i)))) with
    | some k => exact ⟨k, rfl⟩
    | none =>
      exfalso
      have := List.find?_eq_none.1 h _ (List.getElem_mem hml)
      rw [hmg, num_gray, num_gray] at this
      simp at this; omega
  obtain ⟨k, hk⟩ := hex
  have hkk : nrK n s (gray i) = k := by unfold nrK; rw [hk]; rfl
  obtain ⟨hP, j, hj, hjk, hlt⟩ := List.find?_eq_some_iff_getElem.1 hk
  rw [hkk]
  have hcan := pm_can n (gray i) k (by rw [← hjk]; exact List.getElem_mem _)
  have hP2 : dd s (num (gray i ^^^ msk k)) < dd s (num (gray i)) := by simpa using hP
  refine ⟨hcan, ?_, j, hj, hjk, by rw [hjk]; exact hP2, fun a ha haj => ?_⟩
  · have hg := pmL_get n i j h2 hi hj
    rw [hjk] at hg
    have hjn : j < (nb (2 ^ n) i).length := by rw [← pmL_len n i h2 hi]; exact hj
    have h3 := nb_dd (s := s) hPN hi (List.getElem_mem hjn)
    rw [hg, num_gray, num_gray] at hP2 ⊢
    omega
  · have := hlt a haj
    simpa using this
/-- the first list of fewest moves, d moves from x on toward the number s -/
def fway (n s : Nat) : Nat → Nat → List Int
  | 0, _ => []
  | d + 1, x => nrK n s x :: fway n s d (x ^^^ msk (nrK n s x))
theorem fway_len (n s : Nat) : ∀ d x, (fway n s d x).length = d := by
  intro d
  induction d with
  | zero => intro x; rfl
  | succ d ih => intro x; show (fway n s d _).length + 1 = d + 1; rw [ih]
theorem dd_zero {s z : Nat} (h : dd s z = 0) : z = s := by
  apply Classical.byContradiction
  intro e
  rw [dd_pp e] at h; omega
theorem fway_step (n s x : Nat) (h2 : 2 ≤ n) (hx : x < 2 ^ n) (hs : s < 2 ^ n) (hne : num x ≠ s) : fway n s (dd s (num x)) x = nrK n s x :: fway n s (dd s (num (x ^^^ msk (nrK n s x)))) (x ^^^ msk (nrK n s x)) := by
  rw [(nrK_spec n s x h2 hx hs hne).2.1]; rfl
theorem keepN9 {a1 a2 gm g1 g2 N : Nat} {w a b : World} {v0 v1 v2 x0 x1 x2 x3 d1 d2 : Value} (h1 : a1 < N) (h2 : a2 < N) (h3 : gm < N) (k : Below a.heap.size a b)
    (h : (a.cell? ⟨a1, 0, none⟩ = some v0 ∧ a.cell? ⟨a1, 1, none⟩ = some v1 ∧ a.cell? ⟨a1, 2, none⟩ = some v2) ∧ (a.cell? ⟨a2, 0, none⟩ = some x0 ∧ a.cell? ⟨a2, 1, none⟩ = some x1 ∧ a.cell? ⟨a2, 2, none⟩ = some x2 ∧ a.cell? ⟨a2, 3, none⟩ = some x3) ∧ (a.cell? ⟨gm, g1, none⟩ = some d1 ∧ a.cell? ⟨gm, g2, none⟩ = some d2) ∧ N ≤ a.heap.size ∧ Below N w a) :
    (b.cell? ⟨a1, 0, none⟩ = some v0 ∧ b.cell? ⟨a1, 1, none⟩ = some v1 ∧ b.cell? ⟨a1, 2, none⟩ = some v2) ∧ (b.cell? ⟨a2, 0, none⟩ = some x0 ∧ b.cell? ⟨a2, 1, none⟩ = some x1 ∧ b.cell? ⟨a2, 2, none⟩ = some x2 ∧ b.cell? ⟨a2, 3, none⟩ = some x3) ∧ (b.cell? ⟨gm, g1, none⟩ = some d1 ∧ b.cell? ⟨gm, g2, none⟩ = some d2) ∧ N ≤ b.heap.size ∧ Below N w b := by
  obtain ⟨⟨p0, p1, p2⟩, ⟨q0, q1, q2, q3⟩, ⟨r0, r1⟩, l, be⟩ := h
  have l1 : a1 < a.heap.size := Nat.lt_of_lt_of_le h1 l
  have l2 : a2 < a.heap.size := Nat.lt_of_lt_of_le h2 l
  have l3 : gm < a.heap.size := Nat.lt_of_lt_of_le h3 l
  refine ⟨⟨?_, ?_, ?_⟩, ⟨?_, ?_, ?_, ?_⟩, ⟨?_, ?_⟩, Nat.le_trans l k.size, be.trans (k.mono l)⟩
  · rw [k.cell (p := ⟨a1, 0, none⟩) l1]; exact p0
  · rw [k.cell (p := ⟨a1, 1, none⟩) l1]; exact p1
  · rw [k.cell (p := ⟨a1, 2, none⟩) l1]; exact p2
  · rw [k.cell (p := ⟨a2, 0, none⟩) l2]; exact q0
  · rw [k.cell (p := ⟨a2, 1, none⟩) l2]; exact q1
  · rw [k.cell (p := ⟨a2, 2, none⟩) l2]; exact q2
  · rw [k.cell (p := ⟨a2, 3, none⟩) l2]; exact q3
  · rw [k.cell (p := ⟨gm, g1, none⟩) l3]; exact r0
  · rw [k.cell (p := ⟨gm, g2, none⟩) l3]; exact r1

set_option maxRecDepth 100000 in
set_option maxHeartbeats 4000000 in
theorem closer_core (n x y N gm gw bp ba : Nat) (k dy dx : Int) (w : World) (hx : x < N) (hy : y < N) (hN : N ≤ 4096) (hT : TabOk w) (hp : w.heap[bp]? = some (fndO n N gm gw)) (ha : w.heap[ba]? = some (barO n x)) (hg : gm < w.heap.size)
    (cy : w.cell? ⟨gm, y, none⟩ = some (.int .i64 dy)) (cx : w.cell? ⟨gm, x, none⟩ = some (.int .i64 dx))
    (hM : Hid (∀ w, TabOk w → Calls Tryd.prog 58 #[(.agg #[.int .i64 ((ctz (x) : Nat) : Int), .bool (onB (x)), .int .i64 ((n : Nat) : Int), .int .u64 ((x : Nat) : Int)]), .int .i64 k] w fun e w' => e = .returned (.agg #[.int .i64 ((ctz (y) : Nat) : Int), .bool (onB (y)), .int .i64 ((n : Nat) : Int), .int .u64 ((y : Nat) : Int)]) ∧ Below w.heap.size w w')) :
    Calls Tryd.prog 73 #[.int .i64 k, .pointer (some ⟨bp, 0, none⟩), .pointer (some ⟨ba, 0, none⟩)] w fun e w' => e = .returned (.bool (decide (dy < dx))) ∧ Below w.heap.size w w' := by
  have hT := Lib.hid hT
  have hfb := tfieldB
  have r1 := lt_of_block hp
  have r2 := lt_of_block ha
  obtain ⟨⟨e0, e1, e2⟩, _⟩ := fnd_cells hp
  obtain ⟨⟨b0, b1, b2, b3⟩, _⟩ := bar_cells ha
  clear hp ha
  go_enter Tryd.func73, Tryd.ntmps73
  go_wp2_with fail
  go_region_held3 (fun v => (v.cell? ⟨bp, 0, none⟩ = some (.int .i64 n) ∧ v.cell? ⟨bp, 1, none⟩ = some (.slice (some ⟨gm, 0, none⟩) N N) ∧ v.cell? ⟨bp, 2, none⟩ = some (.slice (some ⟨gw, 0, none⟩) N N)) ∧ (v.cell? ⟨ba, 0, none⟩ = some (.int .i64 (ctz x)) ∧ v.cell? ⟨ba, 1, none⟩ = some (.bool (onB x)) ∧ v.cell? ⟨ba, 2, none⟩ = some (.int .i64 n) ∧ v.cell? ⟨ba, 3, none⟩ = some (.int .u64 x)) ∧ (v.cell? ⟨gm, y, none⟩ = some (.int .i64 dy) ∧ v.cell? ⟨gm, x, none⟩ = some (.int .i64 dx)) ∧ w.heap.size ≤ v.heap.size ∧ Below w.heap.size w v) ((first | assumption | (refine ⟨⟨?_, ?_, ?_⟩, ⟨?_, ?_, ?_, ?_⟩, ⟨?_, ?_⟩, ?_, ?_⟩ <;> first | assumption | go_keep | exact Nat.le_refl _ | exact (Below.refl _ _).drew)))
    ((go_at_call 58; refine (hM.out _ ?_).mono ?_; (repeat (first | exact hT.out | apply TabOk.alloc | apply TabOk.drew | apply TabOk.drewN)); rintro e w' ⟨rfl, hbm⟩; obtain ⟨hc, hf⟩ := bcell hbm; have hbn := keepN9 r1 r2 hg hbm (by assumption)))
  all_goals
    go_wp2_with fail
    go_ret
    exact ⟨rfl, hbn.2.2.2.2⟩
theorem ixf_any (gv L cap B bp ba j : Nat) (pm : List Int) (P : Int → Bool) (w : World) (hL : L ≤ 4096) (hml : pm.length = L) (hj : j < L) (ho : OwnI w B (.slice (some ⟨gv, 0, none⟩) L cap) pm)
    (hP : Hid (∀ h : j < pm.length, P pm[j] = true)) (hnP : Hid (∀ i (h : i < pm.length), i < j → P pm[i] = false))
    (hF : Hid (∀ i (h : i < pm.length) w', Below w.heap.size w w' → Calls Tryd.prog 73 #[.int .i64 pm[i], .pointer (some ⟨bp, 0, none⟩), .pointer (some ⟨ba, 0, none⟩)] w' fun e w'' => e = .returned (.bool (P pm[i])) ∧ Below w'.heap.size w' w'')) :
    Calls Tryd.prog 72 #[.slice (some ⟨gv, 0, none⟩) L cap, .func (.func 73) #[] #[.pointer (some ⟨bp, 0, none⟩), .pointer (some ⟨ba, 0, none⟩)]] w fun e w' => e = .returned (.int .i64 (j : Int)) ∧ Below w.heap.size w w' := by
  have ho := Lib.hid ho
  go_enter Tryd.func72, Tryd.ntmps72
  go_wp2_with fail
  go_loopw [8] (fun i wr => ∃ k : Nat, k ≤ j ∧ i = .int .i64 k ∧ Hid (Below w.heap.size w wr)) (fun i _ => j + 1 - (intOf i).toNat)
  case atStart => exact ⟨0, Nat.zero_le _, rfl, Below.refl _ _⟩
  case round =>
    obtain ⟨k, hk, rfl, hb⟩ := hrel
    have hkL : k < L := by omega
    have hkm : k < pm.length := by rw [hml]; exact hkL
    have c0 := ((ho.out.below hb.out).cell hml k hkm).1
    have hFk := Lib.hid (hF.out k hkm _ hb.out)
    have hPk := Lib.hid (fun h => hnP.out k hkm h)
    have hPj := hP.out
    obtain ⟨d, hd⟩ : ∃ d, Hid (d = pm[k]) := ⟨_, Lib.hid rfl⟩
    rw [← hd.out] at c0 hFk hPk
    by_cases e : k = j
    · have hPt : Hid (P d = true) := Lib.hid (by rw [hd.out]; subst e; exact hPj hkm)
      rw [hPt.out] at hFk
      have HE := Lib.hid e
      clear hPj e
      go_wp2_with fail
      refine hFk.out.mono ?_; rintro e' w2 ⟨rfl, hb2⟩
      have hb2 := Lib.hid hb2
      go_wp2_with fail
      go_ret
      exact ⟨ret_int (by rw [HE.out]), hb.out.trans (hb2.out.mono hb.out.size)⟩
    · have hPf : Hid (P d = false) := Lib.hid (hPk.out (by omega))
      rw [hPf.out] at hFk
      clear hPj
      go_wp2_with fail
      refine hFk.out.mono ?_; rintro e' w2 ⟨rfl, hb2⟩
      have hb2 := Lib.hid hb2
      go_wp2_with fail
      go_roundw
      case rel => exact ⟨k + 1, by omega, by go_num, Lib.hid (hb.out.trans (hb2.out.mono hb.out.size))⟩
      all_goals (simp [intOf] <;> omega)
end Go.Proofs.YtmbijomjilicgabDoor
