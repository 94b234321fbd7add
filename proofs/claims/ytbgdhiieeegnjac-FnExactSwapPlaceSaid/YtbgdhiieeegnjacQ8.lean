/- Chapter 2: the model's list of the order by swaps. -/
import Derived.Test.YtbgdhiieeegnjacQ1
import Derived.Test.YtbgdhiieeegnjacQ7
namespace Go.Proofs.Ytbgdhiieeegnjac
open Go Go.RowKit RM

theorem own_cap {w : World} {B g n cap : Nat} {xs : List Int} (h : OwnI w B (.slice (some ⟨g, 0, none⟩) n cap) xs) : xs.length ≤ cap := by
  rcases h.2 with ⟨h1, _⟩ | ⟨_, _, _, h1, _, _, h2, _⟩
  · cases h1
  · cases h1; exact h2
theorem one_cell {w : World} {b : Nat} {s : Int} (h : w.heap[b]? = some (.cells #[.int .i64 s] 3 (0, 0))) : ∀ j (hj : j < [s].length), w.cell? ((⟨b, 0, none⟩ : Addr).add j) = some (.int .i64 [s][j]) := by
  intro j hj
  obtain rfl : j = 0 := by simpa using hj
  simp [Addr.add, World.cell?, h]

theorem nuSw_zero (r : Int) (w : World) : Calls Try.prog 51 #[.int .i64 0, .int .i64 r] w fun e w' => RetW w [] e w' := by
  go_enter Try.func51, Try.ntmps51
  go_wp2
  go_ret; exact ⟨_, rfl, OwnI.nil _ _, Below.refl _ _⟩

theorem nuSw_nil (r : Int) (w : World) : Calls Try.prog 51 #[.int .i64 0, .int .i64 r] w fun e w' => e = .returned (.slice none 0 0) ∧ w = w' := by
  go_enter Try.func51, Try.ntmps51
  go_wp2
  go_ret; exact ⟨rfl, rfl⟩

set_option maxHeartbeats 1000000 in
theorem nuSw_one (w1 : World) : Calls Try.prog 51 #[.int .i64 1, .int .i64 0] w1 fun e w' => RetW w1 [0] e w' := by
  have hI := Lib.hid fun w => nuSw_nil 0 w
  have hOwn := Lib.hid fun w => own_nil w
  go_enter Try.func51, Try.ntmps51
  go_wp2_with fail
  refine (hI.out _).mono ?_; rintro e w' ⟨rfl, rfl⟩
  go_wp2_with fail
  go_region_law (first
      | (have h7 := hO3; clear h7; refine step_app0 rfl (.tmp 34) (.tmp 37) (by with_reducible rfl) w1.heap.size v3 [0] (by simp [Act.eval, Act.put]) ho3 (by simp [Act.eval, Act.put]) ?_; have hB4 := hB3)
      | (have h7 := hord2; clear h7; refine step_app rfl (.tmp 30) (.tmp 33) (by with_reducible rfl) w1.heap.size v2 [] (by simp [Act.eval, Act.put]) hO2 ⟨w1.heap.size, 0, none⟩ 1 1 [0] (by simp [Act.eval, Act.put]) rfl ?_ (by simp) ?_ ?_; exact one_cell ((hb2.block w1.heap.size (by simp)).trans (heap_atA w1.drew _)); exact hB2.size; intro v3 w3 ho3 hg3; have hB3 := bel_own hB2 hO2 hg3 hB2.size; have hO3 := ho3)
      | (have h7 := hO2; clear h7; refine step_app rfl (.tmp 30) (.tmp 33) (by with_reducible rfl) w1.heap.size v2 [] (by simp [Act.eval, Act.put]) (hO2.alloc _) ⟨w2.heap.size, 0, none⟩ 1 1 [0] (by simp [Act.eval, Act.put]) rfl ?_ (by simp) ?_ ?_; exact one_cell (heap_atA w2 _); (have := hB2.size; simp; omega); intro v3 w3 ho3 hg3; have hB3 := bel_own (hB2.alloc hB2.size _) (hO2.alloc _) hg3 (by have := hB2.size; simp; omega); have hO3 := ho3)
      | (refine step_own rfl (.tmp 29) (by with_reducible rfl) (.slice none 0 0) (by simp [Act.eval, Act.put]) _ (hOwn.out w1.drew) ?_; rintro e w2 ⟨v2, rfl, ho2, hb2⟩; refine ⟨_, rfl, ?_⟩; have hO2 : OwnI w2 w1.heap.size v2 [] := ho2; have hB2 : Below w1.heap.size w1 w2 := (Below.refl _ _).drew.trans hb2)
      | (refine step_own rfl (.tmp 29) (by with_reducible rfl) (.slice none 0 0) (by simp [Act.eval, Act.put]) _ (hOwn.out (w1.drew.alloc _)) ?_; rintro e w2 ⟨v2, rfl, ho2, hb2⟩; refine ⟨_, rfl, ?_⟩; have hO2 : OwnI w2 w1.heap.size v2 [] := ho2.mono (by simp); have hB2 : Below w1.heap.size w1 w2 := ((Below.refl _ _).drew.alloc (Nat.le_refl _) _).trans (hb2.mono (by simp)); have hord2 : True := trivial))
  all_goals
    have ho5 := Lib.hid ho3
    have hb5 := Lib.hid hB4
    clear hB4 ho3 hB3 hg3 hO2 hB2 ho2 hb2
    go_wp2_with fail
    go_ret; exact ⟨_, rfl, ho5.out, hb5.out⟩

set_option maxHeartbeats 1000000 in
theorem nuSw_step (s r q t : Nat) (xs : List Int) (w : World) (hs1 : 1 ≤ s) (hs : s < 10) (hr : r ≤ 4000000) (hq : (r : Int) / ((s : Int) + 1) = (q : Int)) (ht : (r : Int) % ((s : Int) + 1) = (t : Int)) (hq2 : q ≤ 4000000) (ht2 : t < s + 1) (p : Nat) (hp : p ≤ s) (hxl : Hid (xs.length = s))
    (hpar : Hid ((((q : Int) % 2 = 0) ∧ (s : Int) - (t : Int) = (p : Int)) ∨ (((q : Int) % 2 = 1) ∧ t = p)))
    (hI : Hid (∀ w, Calls Try.prog 51 #[.int .i64 s, .int .i64 q] w fun e w' => RetW w xs e w')) :
    Calls Try.prog 51 #[.int .i64 ((s : Int) + 1), .int .i64 r] w fun e w' => RetW w (insI xs p (s : Int)) e w' := by
  have hz : ((s : Int) + 1 == 0) = false := by simp; omega
  have hq' : (r : Int).tdiv ((s : Int) + 1) = (q : Int) := by rw [Int.tdiv_eq_ediv_of_nonneg (by omega)]; exact hq
  have ht' : (r : Int).tmod ((s : Int) + 1) = (t : Int) := by rw [Int.tmod_eq_emod_of_nonneg (by omega)]; exact ht
  have e1 : IntKind.i64.wrap ((s : Int) + 1 - 1) = (s : Int) := by rw [IntKind.wrap_i64]; omega
  have hz2 : ¬ ((s : Int) + 1 = 0) := by omega
  have e2 : IntKind.i64.wrap (q : Int) = (q : Int) := by rw [IntKind.wrap_i64]; omega
  have e3 : IntKind.i64.wrap (s : Int) = (s : Int) := by rw [IntKind.wrap_i64]; omega
  have hys : Hid ((xs.take p).length = p) := Lib.hid (by rw [List.length_take, hxl.out]; omega)
  have hzs : Hid ((xs.drop p).length = s - p) := Lib.hid (by rw [List.length_drop, hxl.out])
  have hins : Hid (insI xs p (s : Int) = xs.take p ++ [(s : Int)] ++ xs.drop p) := Lib.hid (by unfold insI; simp)
  rw [hins.out]
  go_enter Try.func51, Try.ntmps51
  go_wp2_with fail
  refine (hI.out _).mono ?_; rintro e w1 ⟨v, rfl, ho, hb⟩
  have hb := Lib.hid hb
  rcases ho.form with ⟨rfl, hnil⟩ | ⟨g, cap, rfl, hg0, hg1, hc, hcs, hcm⟩
  · exfalso; have h9 := hxl.out; rw [hnil] at h9; simp at h9; omega
  · have hOwn : Hid (∀ W, Below w1.heap.size w1 W → Calls Try.prog 69 #[.slice (some ⟨g, 0, none⟩) p cap] W fun e W' => ∃ v, e = .returned v ∧ OwnI W' W.heap.size v (xs.take p) ∧ Below W.heap.size W W') := Lib.hid (fun W hB => by
      refine own_some (xs.take p) g cap p W (by omega) hys (Nat.lt_of_lt_of_le hg1 hB.size) (Lib.hid fun i h => ?_)
      have hi : i < xs.length := by rw [List.length_take] at h; omega
      rw [hB.cell (p := ⟨g, i, none⟩) hg1, List.getElem_take]
      exact hc i hi)
    have hDr : ∀ (o : Nat), (o = p ∨ s - p = 0) → ∀ W, Below w1.heap.size w1 W → ∀ j (h : j < (xs.drop p).length), W.cell? ((⟨g, o, none⟩ : Addr).add j) = some (.int .i64 (xs.drop p)[j]) := by
      intro o hop W hB j h
      have h2 := h
      rw [hzs.out] at h2
      obtain rfl := hop.resolve_right (by omega)
      have e : ((⟨g, o, none⟩ : Addr).add j) = ⟨g, o + j, none⟩ := by unfold Addr.add; split <;> simp_all
      rw [e, hB.cell (p := ⟨g, o + j, none⟩) hg1, List.getElem_drop]
      exact hc (o + j) (by rw [hxl.out]; omega)
    have hDr := Lib.hid hDr
    have hpl : p ≤ xs.length := by rw [hxl.out]; exact hp
    have hpc : p ≤ cap := Nat.le_trans hpl (own_cap ho)
    rcases hpar.out with ⟨hev, hsp⟩ | ⟨hod, rfl⟩
    · by_cases hcap : cap = p
      · subst hcap
        have hs0 : s - cap = 0 := by have := own_cap ho; rw [hxl.out] at this; omega
        have e4 : (q : Int).tmod 2 = 0 := by rw [Int.tmod_eq_emod_of_nonneg (by omega)]; omega
        go_wp2_with fail
        go_region_law (first
              | (have h7 := hO3; clear h7; refine step_app rfl (.tmp 34) (.tmp 37) (by with_reducible rfl) w1.heap.size v3 _ (by simp [Act.eval, Act.put]) ho3 ⟨g, 0, none⟩ (xs.length - cap) 0 (xs.drop cap) (by simp [Act.eval, Act.put]) (List.length_drop ..) ?_ ?_ ?_ ?_; exact hDr.out 0 (Or.inr hs0) _ hB3; (have h9 := hxl.out; rw [List.length_append, hys.out]; show _ + 1 + _ ≤ _; omega); exact hB3.size; intro v4 w4 ho4 hg4; have hB4 := bel_own hB3 ho3 hg4 hB3.size)
              | (have h7 := hord2; clear h7; refine step_app rfl (.tmp 30) (.tmp 33) (by with_reducible rfl) w1.heap.size v2 (xs.take cap) (by simp [Act.eval, Act.put]) hO2 ⟨w1.heap.size, 0, none⟩ 1 1 [(s : Int)] (by simp [Act.eval, Act.put]) rfl ?_ ?_ ?_ ?_; exact one_cell ((hb2.block w1.heap.size (by simp)).trans (heap_atA w1.drew _)); (rw [hys.out]; omega); exact hB2.size; intro v3 w3 ho3 hg3; have hB3 := bel_own hB2 hO2 hg3 hB2.size; have hO3 := ho3)
              | (have h7 := hO2; clear h7; refine step_app rfl (.tmp 30) (.tmp 33) (by with_reducible rfl) w1.heap.size v2 (xs.take cap) (by simp [Act.eval, Act.put]) (hO2.alloc _) ⟨w2.heap.size, 0, none⟩ 1 1 [(s : Int)] (by simp [Act.eval, Act.put]) rfl ?_ ?_ ?_ ?_; exact one_cell (heap_atA w2 _); (rw [hys.out]; omega); (have := hB2.size; simp; omega); intro v3 w3 ho3 hg3; have hB3 := bel_own (hB2.alloc hB2.size _) (hO2.alloc _) hg3 (by have := hB2.size; simp; omega); have hO3 := ho3)
              | (refine step_own rfl (.tmp 29) (by with_reducible rfl) _ (by simp [Act.eval, Act.put]) _ (hOwn.out _ ?_) ?_; (with_reducible exact (Below.refl _ _).drew); rintro e w2 ⟨v2, rfl, ho2, hb2⟩; refine ⟨_, rfl, ?_⟩; have hO2 : OwnI w2 w1.heap.size v2 (xs.take cap) := ho2; have hB2 : Below w1.heap.size w1 w2 := (Below.refl _ _).drew.trans hb2)
              | (refine step_own rfl (.tmp 29) (by with_reducible rfl) _ (by simp [Act.eval, Act.put]) _ (hOwn.out _ ?_) ?_; exact (Below.refl _ _).drew.alloc (Nat.le_refl _) _; rintro e w2 ⟨v2, rfl, ho2, hb2⟩; refine ⟨_, rfl, ?_⟩; have hO2 : OwnI w2 w1.heap.size v2 (xs.take cap) := ho2.mono (by simp); have hB2 : Below w1.heap.size w1 w2 := ((Below.refl _ _).drew.alloc (Nat.le_refl _) _).trans (hb2.mono (by simp)); have hord2 : True := trivial))
        all_goals
          have ho5 := Lib.hid (ho4.mono hb.out.size)
          have hb5 := Lib.hid (hb.out.trans (hB4.mono hb.out.size))
          clear ho4 hB4 hg4 ho3 hB3 hg3 hO2 hB2 ho2 hb2
          go_wp2_with fail
          go_ret; exact ⟨_, rfl, ho5.out, hb5.out⟩
      · have e4 : (q : Int).tmod 2 = 0 := by rw [Int.tmod_eq_emod_of_nonneg (by omega)]; omega
        go_wp2_with fail
        go_region_law (first
              | (have h7 := hO3; clear h7; refine step_app rfl (.tmp 34) (.tmp 37) (by with_reducible rfl) w1.heap.size v3 _ (by simp [Act.eval, Act.put]) ho3 ⟨g, p, none⟩ (xs.length - p) (cap - p) (xs.drop p) (by simp [Act.eval, Act.put]) (List.length_drop ..) ?_ ?_ ?_ ?_; exact hDr.out p (Or.inl rfl) _ hB3; (have h9 := hxl.out; rw [List.length_append, hys.out]; show _ + 1 + _ ≤ _; omega); exact hB3.size; intro v4 w4 ho4 hg4; have hB4 := bel_own hB3 ho3 hg4 hB3.size)
              | (have h7 := hord2; clear h7; refine step_app rfl (.tmp 30) (.tmp 33) (by with_reducible rfl) w1.heap.size v2 (xs.take p) (by simp [Act.eval, Act.put]) hO2 ⟨w1.heap.size, 0, none⟩ 1 1 [(s : Int)] (by simp [Act.eval, Act.put]) rfl ?_ ?_ ?_ ?_; exact one_cell ((hb2.block w1.heap.size (by simp)).trans (heap_atA w1.drew _)); (rw [hys.out]; omega); exact hB2.size; intro v3 w3 ho3 hg3; have hB3 := bel_own hB2 hO2 hg3 hB2.size; have hO3 := ho3)
              | (have h7 := hO2; clear h7; refine step_app rfl (.tmp 30) (.tmp 33) (by with_reducible rfl) w1.heap.size v2 (xs.take p) (by simp [Act.eval, Act.put]) (hO2.alloc _) ⟨w2.heap.size, 0, none⟩ 1 1 [(s : Int)] (by simp [Act.eval, Act.put]) rfl ?_ ?_ ?_ ?_; exact one_cell (heap_atA w2 _); (rw [hys.out]; omega); (have := hB2.size; simp; omega); intro v3 w3 ho3 hg3; have hB3 := bel_own (hB2.alloc hB2.size _) (hO2.alloc _) hg3 (by have := hB2.size; simp; omega); have hO3 := ho3)
              | (refine step_own rfl (.tmp 29) (by with_reducible rfl) _ (by simp [Act.eval, Act.put]) _ (hOwn.out _ ?_) ?_; (with_reducible exact (Below.refl _ _).drew); rintro e w2 ⟨v2, rfl, ho2, hb2⟩; refine ⟨_, rfl, ?_⟩; have hO2 : OwnI w2 w1.heap.size v2 (xs.take p) := ho2; have hB2 : Below w1.heap.size w1 w2 := (Below.refl _ _).drew.trans hb2)
              | (refine step_own rfl (.tmp 29) (by with_reducible rfl) _ (by simp [Act.eval, Act.put]) _ (hOwn.out _ ?_) ?_; exact (Below.refl _ _).drew.alloc (Nat.le_refl _) _; rintro e w2 ⟨v2, rfl, ho2, hb2⟩; refine ⟨_, rfl, ?_⟩; have hO2 : OwnI w2 w1.heap.size v2 (xs.take p) := ho2.mono (by simp); have hB2 : Below w1.heap.size w1 w2 := ((Below.refl _ _).drew.alloc (Nat.le_refl _) _).trans (hb2.mono (by simp)); have hord2 : True := trivial))
        all_goals
          have ho5 := Lib.hid (ho4.mono hb.out.size)
          have hb5 := Lib.hid (hb.out.trans (hB4.mono hb.out.size))
          clear ho4 hB4 hg4 ho3 hB3 hg3 hO2 hB2 ho2 hb2
          go_wp2_with fail
          go_ret; exact ⟨_, rfl, ho5.out, hb5.out⟩
    · by_cases hcap : cap = t
      · subst hcap
        have hs0 : s - cap = 0 := by have := own_cap ho; rw [hxl.out] at this; omega
        have e4 : (q : Int).tmod 2 = 1 := by rw [Int.tmod_eq_emod_of_nonneg (by omega)]; omega
        go_wp2_with fail
        go_region_law (first
              | (have h7 := hO3; clear h7; refine step_app rfl (.tmp 34) (.tmp 37) (by with_reducible rfl) w1.heap.size v3 _ (by simp [Act.eval, Act.put]) ho3 ⟨g, 0, none⟩ (xs.length - cap) 0 (xs.drop cap) (by simp [Act.eval, Act.put]) (List.length_drop ..) ?_ ?_ ?_ ?_; exact hDr.out 0 (Or.inr hs0) _ hB3; (have h9 := hxl.out; rw [List.length_append, hys.out]; show _ + 1 + _ ≤ _; omega); exact hB3.size; intro v4 w4 ho4 hg4; have hB4 := bel_own hB3 ho3 hg4 hB3.size)
              | (have h7 := hord2; clear h7; refine step_app rfl (.tmp 30) (.tmp 33) (by with_reducible rfl) w1.heap.size v2 (xs.take cap) (by simp [Act.eval, Act.put]) hO2 ⟨w1.heap.size, 0, none⟩ 1 1 [(s : Int)] (by simp [Act.eval, Act.put]) rfl ?_ ?_ ?_ ?_; exact one_cell ((hb2.block w1.heap.size (by simp)).trans (heap_atA w1.drew _)); (rw [hys.out]; omega); exact hB2.size; intro v3 w3 ho3 hg3; have hB3 := bel_own hB2 hO2 hg3 hB2.size; have hO3 := ho3)
              | (have h7 := hO2; clear h7; refine step_app rfl (.tmp 30) (.tmp 33) (by with_reducible rfl) w1.heap.size v2 (xs.take cap) (by simp [Act.eval, Act.put]) (hO2.alloc _) ⟨w2.heap.size, 0, none⟩ 1 1 [(s : Int)] (by simp [Act.eval, Act.put]) rfl ?_ ?_ ?_ ?_; exact one_cell (heap_atA w2 _); (rw [hys.out]; omega); (have := hB2.size; simp; omega); intro v3 w3 ho3 hg3; have hB3 := bel_own (hB2.alloc hB2.size _) (hO2.alloc _) hg3 (by have := hB2.size; simp; omega); have hO3 := ho3)
              | (refine step_own rfl (.tmp 29) (by with_reducible rfl) _ (by simp [Act.eval, Act.put]) _ (hOwn.out _ ?_) ?_; (with_reducible exact (Below.refl _ _).drew); rintro e w2 ⟨v2, rfl, ho2, hb2⟩; refine ⟨_, rfl, ?_⟩; have hO2 : OwnI w2 w1.heap.size v2 (xs.take cap) := ho2; have hB2 : Below w1.heap.size w1 w2 := (Below.refl _ _).drew.trans hb2)
              | (refine step_own rfl (.tmp 29) (by with_reducible rfl) _ (by simp [Act.eval, Act.put]) _ (hOwn.out _ ?_) ?_; exact (Below.refl _ _).drew.alloc (Nat.le_refl _) _; rintro e w2 ⟨v2, rfl, ho2, hb2⟩; refine ⟨_, rfl, ?_⟩; have hO2 : OwnI w2 w1.heap.size v2 (xs.take cap) := ho2.mono (by simp); have hB2 : Below w1.heap.size w1 w2 := ((Below.refl _ _).drew.alloc (Nat.le_refl _) _).trans (hb2.mono (by simp)); have hord2 : True := trivial))
        all_goals
          have ho5 := Lib.hid (ho4.mono hb.out.size)
          have hb5 := Lib.hid (hb.out.trans (hB4.mono hb.out.size))
          clear ho4 hB4 hg4 ho3 hB3 hg3 hO2 hB2 ho2 hb2
          go_wp2_with fail
          go_ret; exact ⟨_, rfl, ho5.out, hb5.out⟩
      · have e4 : (q : Int).tmod 2 = 1 := by rw [Int.tmod_eq_emod_of_nonneg (by omega)]; omega
        go_wp2_with fail
        go_region_law (first
              | (have h7 := hO3; clear h7; refine step_app rfl (.tmp 34) (.tmp 37) (by with_reducible rfl) w1.heap.size v3 _ (by simp [Act.eval, Act.put]) ho3 ⟨g, t, none⟩ (xs.length - t) (cap - t) (xs.drop t) (by simp [Act.eval, Act.put]) (List.length_drop ..) ?_ ?_ ?_ ?_; exact hDr.out t (Or.inl rfl) _ hB3; (have h9 := hxl.out; rw [List.length_append, hys.out]; show _ + 1 + _ ≤ _; omega); exact hB3.size; intro v4 w4 ho4 hg4; have hB4 := bel_own hB3 ho3 hg4 hB3.size)
              | (have h7 := hord2; clear h7; refine step_app rfl (.tmp 30) (.tmp 33) (by with_reducible rfl) w1.heap.size v2 (xs.take t) (by simp [Act.eval, Act.put]) hO2 ⟨w1.heap.size, 0, none⟩ 1 1 [(s : Int)] (by simp [Act.eval, Act.put]) rfl ?_ ?_ ?_ ?_; exact one_cell ((hb2.block w1.heap.size (by simp)).trans (heap_atA w1.drew _)); (rw [hys.out]; omega); exact hB2.size; intro v3 w3 ho3 hg3; have hB3 := bel_own hB2 hO2 hg3 hB2.size; have hO3 := ho3)
              | (have h7 := hO2; clear h7; refine step_app rfl (.tmp 30) (.tmp 33) (by with_reducible rfl) w1.heap.size v2 (xs.take t) (by simp [Act.eval, Act.put]) (hO2.alloc _) ⟨w2.heap.size, 0, none⟩ 1 1 [(s : Int)] (by simp [Act.eval, Act.put]) rfl ?_ ?_ ?_ ?_; exact one_cell (heap_atA w2 _); (rw [hys.out]; omega); (have := hB2.size; simp; omega); intro v3 w3 ho3 hg3; have hB3 := bel_own (hB2.alloc hB2.size _) (hO2.alloc _) hg3 (by have := hB2.size; simp; omega); have hO3 := ho3)
              | (refine step_own rfl (.tmp 29) (by with_reducible rfl) _ (by simp [Act.eval, Act.put]) _ (hOwn.out _ ?_) ?_; (with_reducible exact (Below.refl _ _).drew); rintro e w2 ⟨v2, rfl, ho2, hb2⟩; refine ⟨_, rfl, ?_⟩; have hO2 : OwnI w2 w1.heap.size v2 (xs.take t) := ho2; have hB2 : Below w1.heap.size w1 w2 := (Below.refl _ _).drew.trans hb2)
              | (refine step_own rfl (.tmp 29) (by with_reducible rfl) _ (by simp [Act.eval, Act.put]) _ (hOwn.out _ ?_) ?_; exact (Below.refl _ _).drew.alloc (Nat.le_refl _) _; rintro e w2 ⟨v2, rfl, ho2, hb2⟩; refine ⟨_, rfl, ?_⟩; have hO2 : OwnI w2 w1.heap.size v2 (xs.take t) := ho2.mono (by simp); have hB2 : Below w1.heap.size w1 w2 := ((Below.refl _ _).drew.alloc (Nat.le_refl _) _).trans (hb2.mono (by simp)); have hord2 : True := trivial))
        all_goals
          have ho5 := Lib.hid (ho4.mono hb.out.size)
          have hb5 := Lib.hid (hb.out.trans (hB4.mono hb.out.size))
          clear ho4 hB4 hg4 ho3 hB3 hg3 hO2 hB2 ho2 hb2
          go_wp2_with fail
          go_ret; exact ⟨_, rfl, ho5.out, hb5.out⟩
end Go.Proofs.Ytbgdhiieeegnjac
