/- A number put into a row of the call's own: the library's Insert, whatever room there is. -/
import Derived.Test.YtbgdhiieeegnjacShelf
import Derived.Test.YtbgdhiieeegnjacRow
namespace Go.Proofs.Ytbgdhiieeegnjac
open Go Go.RowKit RM

/-- many cells of one block are stored: what the block holds behind it -/
theorem setCells_block {g : Nat} {t : TypeId} (vs : List Value) : ∀ (o : Nat) (w : World) (cur : Array Value), w.heap[g]? = some (.cells cur t (0, 0)) → o + vs.length ≤ cur.size →
    ∃ cur', (w.setCells g o vs).heap[g]? = some (.cells cur' t (0, 0)) ∧ cur'.size = cur.size ∧ cur'.toList = cur.toList.take o ++ vs ++ cur.toList.drop (o + vs.length) ∧ w.grownBy (w.setCells g o vs) (some g) := by
  induction vs with
  | nil => intro o w cur h _; exact ⟨cur, h, rfl, by simp, World.grownBy.refl _ _⟩
  | cons v r ih =>
    intro o w cur h ho
    rw [List.length_cons] at ho
    obtain ⟨c2, h2, s2, l2, g2⟩ := ih (o + 1) (w.setCell ⟨g, o, none⟩ v) (cur.setIfInBounds o v) (heap_setCell_same w g o cur t v h) (by rw [Array.size_setIfInBounds]; omega)
    refine ⟨c2, h2, by rw [s2, Array.size_setIfInBounds], ?_, (grown_set1 w ⟨g, o, none⟩ v).trans g2⟩
    have hl : o < cur.toList.length := by simpa using (show o < cur.size by omega)
    rw [l2, Array.toList_setIfInBounds]
    have h1 : (cur.toList.set o v).take (o + 1) = cur.toList.take o ++ [v] := by
      rw [List.take_succ_eq_append_getElem (by rw [List.length_set]; exact hl), List.take_set_of_le (Nat.le_refl _), List.getElem_set_self]
    have h3 : (cur.toList.set o v).drop (o + 1 + r.length) = cur.toList.drop (o + (v :: r).length) := by
      rw [List.drop_set_of_lt (by omega), List.length_cons]; congr 1; omega
    rw [h1, h3]; simp
theorem grownBy_drew (w : World) (row : Option Nat) : w.grownBy w.drew row := ⟨rfl, rfl, rfl, Nat.le_refl _, fun _ _ _ => rfl⟩
theorem heap_atA (w : World) (o : Obj) : (w.alloc o).heap[w.heap.size]? = some o := by
  show (w.heap.push o)[w.heap.size]? = some o
  exact Array.getElem?_push_size
theorem vint_take (xs : List Int) (k : Nat) : (vint xs).take k = vint (xs.take k) := by simp [vint, List.map_take]
theorem vint_drop (xs : List Int) (k : Nat) : (vint xs).drop k = vint (xs.drop k) := by simp [vint, List.map_drop]
theorem vint_app (xs ys : List Int) : vint (xs ++ ys) = vint xs ++ vint ys := by simp [vint]
theorem vint_len (xs : List Int) : (vint xs).length = xs.length := by simp [vint]
theorem vint_one {xs : List Int} : ∀ v ∈ vint xs, v.oneCell' = true := by
  intro v hv
  simp only [vint, List.mem_map] at hv
  obtain ⟨x, _, rfl⟩ := hv; rfl
theorem vint_at {xs : List Int} {j : Nat} {v : Value} (h : (vint xs)[j]? = some v) : ∃ hj : j < xs.length, v = .int .i64 xs[j] := by
  simp only [vint, List.getElem?_map, Option.map_eq_some_iff] at h
  obtain ⟨x, hx, rfl⟩ := h
  obtain ⟨hj, rfl⟩ := List.getElem?_eq_some_iff.1 hx
  exact ⟨hj, rfl⟩
/-- a block that begins with numbers is a row of them -/
theorem ownI_mk {w : World} {B g cap : Nat} {cur : Array Value} {zs : List Int} (hg : B ≤ g) (h : w.heap[g]? = some (.cells cur 3 (0, 0))) (h1 : zs.length ≤ cap) (h2 : cap ≤ maxLen) (h3 : cur.size = cap) (h4 : cur.toList.take zs.length = vint zs) :
    OwnI w B (.slice (some ⟨g, 0, none⟩) zs.length cap) zs :=
  ⟨by simp [vint], .inr ⟨g, cap, cur, rfl, hg, h, h1, h2, by omega, by rw [Nat.mul_one]; exact h4⟩⟩

/-- a number put in at a place -/
def insI (xs : List Int) (i : Nat) (y : Int) : List Int := xs.take i ++ y :: xs.drop i
theorem insI_len (xs : List Int) (i : Nat) (y : Int) (h : i ≤ xs.length) : (insI xs i y).length = xs.length + 1 := by
  unfold insI; simp; omega
theorem insI_vint (xs : List Int) (i : Nat) (y : Int) : vint (insI xs i y) = (vint xs).take i ++ [.int .i64 y] ++ (vint xs).drop i := by
  unfold insI; rw [vint_app, vint_take, vint_drop]; simp [vint]

/-- the lists behind two stores: the end moved up by one, then the number -/
theorem two_stores (cur c1 c2 : List Value) (X : List Value) (i n : Nat) (y : Value) (hX : X.length = n) (hi : i ≤ n) (hn : n + 1 ≤ cur.length) (h0 : cur.take n = X)
    (h1 : c1 = cur.take (i + 1) ++ X.drop i ++ cur.drop (i + 1 + (X.drop i).length)) (h2 : c2 = c1.take i ++ [y] ++ c1.drop (i + [y].length)) : c2.take (n + 1) = X.take i ++ [y] ++ X.drop i := by
  have a : (cur.take (i + 1)).length = i + 1 := by rw [List.length_take]; omega
  have b : (X.drop i).length = n - i := by rw [List.length_drop, hX]
  have e1 : c1.take i = X.take i := by
    rw [h1, List.append_assoc, List.take_append_of_le_length (by omega), List.take_take, Nat.min_eq_left (by omega), ← h0, List.take_take, Nat.min_eq_left hi]
  have e2 : c1.drop (i + 1) = X.drop i ++ cur.drop (i + 1 + (X.drop i).length) := by
    rw [h1, List.append_assoc, List.drop_append_of_le_length (by omega), List.drop_of_length_le (by omega), List.nil_append]
  rw [h2, e1]
  show (X.take i ++ [y] ++ c1.drop (i + 1)).take (n + 1) = _
  rw [e2, ← List.append_assoc, List.take_append_of_le_length (by simp [b]; omega), List.take_of_length_le (by simp [b]; omega)]

theorem add0 (g j : Nat) : (⟨g, 0, none⟩ : Addr).add j = ⟨g, j, none⟩ := by unfold Addr.add; split <;> simp_all
theorem two_stores2 (A c1 c2 : List Value) (X : List Value) (i n : Nat) (y : Value) (hX : X.length = n) (hi : i ≤ n) (hn : n + 1 ≤ A.length) (h0 : A.take i = X.take i)
    (h1 : c1 = A.take i ++ [y] ++ A.drop (i + [y].length)) (h2 : c2 = c1.take (i + 1) ++ X.drop i ++ c1.drop (i + 1 + (X.drop i).length)) : c2.take (n + 1) = X.take i ++ [y] ++ X.drop i := by
  have a : (X.take i).length = i := by rw [List.length_take]; omega
  have b : (X.drop i).length = n - i := by rw [List.length_drop, hX]
  have e1 : c1.take (i + 1) = X.take i ++ [y] := by
    rw [h1, h0, List.take_append_of_le_length (by simp [a]), List.take_of_length_le (by simp [a])]
  rw [h2, e1, List.take_append_of_le_length (by simp [b]; omega), List.take_of_length_le (by simp [b]; omega)]
/-- what Insert gives back -/
def RetIns (B : Nat) (w : World) (row : Option Nat) (zs : List Int) (e : Ending) (w' : World) : Prop := ∃ v', e = .returned v' ∧ OwnI w' B v' zs ∧ w.grownBy w' row

set_option maxRecDepth 100000 in
theorem insert_own (v : Value) (xs : List Int) (B i U : Nat) (y : Int) (w1 : World) (hn : xs.length ≤ 100) (hi : i ≤ xs.length) (hB : B ≤ w1.heap.size) (hU : w1.heap[U]? = some (.cells #[.int .i64 y] 3 (0, 0))) (hne : v.ownBlock ≠ some U) (ho1 : OwnI w1 B v xs) :
    Calls Try.prog 70 #[v, .int .i64 i, .slice (some ⟨U, 0, none⟩) 1 1] w1 fun e w' => RetIns B w1 v.ownBlock (insI xs i y) e w' := by
  have hv1 : ∀ j u, ([.int .i64 y] : List Value)[j]? = some u → w1.cell? ⟨U, 0 + j, none⟩ = some u := by
    intro j u hj
    match j, hj with
    | 0, hj => simp at hj; subst hj; simp [World.cell?, hU]
    | j + 1, hj => simp at hj
  have h1v : ∀ u ∈ ([.int .i64 y] : List Value), u.oneCell' = true := by intro u hu; simp at hu; subst hu; rfl
  have hlen := insI_len xs i y hi
  have hgw := vint_len xs
  rcases ho1.2 with ⟨rfl, h0⟩ | ⟨g, cap, cur, rfl, hg, hh1, hnc, hcm, hcs, htk⟩
  · -- nil
    obtain rfl : xs = [] := List.length_eq_zero_iff.1 h0
    obtain rfl : i = 0 := by simpa using hi
    refine (Any2.slices_Insert_int_end_grow lays21 none 0 0 U 0 1 1 [] [.int .i64 y] w1 (by omega) (by omega) (by omega) (by omega) rfl rfl (fun _ => rfl) (fun a ha => by cases ha) hv1 h1v).mono ?_
    rintro e w' ⟨rfl, rfl⟩
    refine ⟨_, rfl, ?_, ?_⟩
    · have hge := grownCap_ge w1 (0 + 1) 0 3
      have hle := grownCap_le_maxLen w1 (0 + 1) 0 3 (by unfold maxLen; omega)
      refine ownI_mk (zs := [y]) (by omega) (heap_atA w1.drew _) hge hle ?_ ?_
      · rw [Array.size_append, size_zeroCells]
        show 1 + (grownCap w1 (0 + 1) 0 3 - (0 + 1)) * 1 = grownCap w1 (0 + 1) 0 3
        omega
      · simp [vint]
    · exact (grownBy_drew w1 none).trans ⟨rfl, rfl, rfl, by simp, fun k hk _ => Below.heap_alloc _ _ _ hk⟩
  · have hgl : g < w1.heap.size := lt_of_block hh1
    have hgu : U ≠ g := fun e => hne (by rw [e]; rfl)
    have htk1 : cur.toList.take xs.length = vint xs := by rw [Nat.mul_one] at htk; exact htk
    have hcs1 : cur.size = cap := by omega
    have hcell : ∀ j u, (vint xs)[j]? = some u → w1.cell? ⟨g, 0 + j, none⟩ = some u := by
      intro j u hj
      obtain ⟨hj1, rfl⟩ := vint_at hj
      rw [Nat.zero_add]
      rcases ho1.form with ⟨e, _⟩ | ⟨g2, cap2, e, _, _, hc, _, _⟩
      · cases e
      · cases e; exact hc j hj1
    have hsome : ∀ j, j < cap → (w1.cell? ⟨g, 0 + j, none⟩).isSome = true := by
      intro j hj
      simp only [World.cell?, hh1, Nat.zero_add]
      simp [show j < cur.size by omega]
    have hfz : ∀ j, w1.frozen? ⟨g, 0 + j, none⟩ = false := by
      intro j; simp [World.frozen?, hh1]
    by_cases hroom : xs.length + 1 ≤ cap
    · by_cases hlt : i < xs.length
      · -- in place
        have hsa : w1.shape? U = some (3, 1) := by unfold World.shape?; rw [hU]; rfl
        have hsb : w1.shape? g = some (3, cap) := by unfold World.shape?; rw [hh1]; simp [hcs1]
        have hf1 : ∀ o, w1.frozen? ⟨U, o, none⟩ = false := by intro o; unfold World.frozen?; simp only [hU]; simp
        refine (Any2.slices_Insert_int_shift lays21 g 0 xs.length cap i U 0 1 1 (vint xs) [.int .i64 y] w1 hlt (by omega) hroom (by unfold maxLen at hcm; omega) hgu hgw rfl hcell (fun j hj => hsome j (by omega)) (fun j _ => hfz j) hv1 vint_one h1v
          3 3 1 cap hsa hsb (by omega) (hf1 0) (hf1 1)).mono ?_
        rintro e w' ⟨rfl, rfl⟩
        rw [Nat.zero_add, Nat.zero_add]
        obtain ⟨c1, b1, s1, l1, g1⟩ := setCells_block ((vint xs).drop i) (i + 1) w1.drew cur hh1 (by rw [List.length_drop, hgw]; omega)
        obtain ⟨c2, b2, s2, l2, g2⟩ := setCells_block [.int .i64 y] i _ c1 b1 (by show i + 1 ≤ c1.size; omega)
        refine ⟨_, rfl, ?_, ((grownBy_drew w1 (some g)).trans g1).trans g2⟩
        refine (ownI_mk (zs := insI xs i y) hg b2 (by omega) hcm (by omega) ?_).sameLen hlen
        rw [hlen, insI_vint]
        exact two_stores cur.toList c1.toList c2.toList (vint xs) i xs.length (.int .i64 y) hgw (by omega) (by simp; omega) htk1 l1 l2
      · -- at the end, in place
        obtain rfl : i = xs.length := by omega
        refine (Any2.slices_Insert_int_end_room lays21 g 0 xs.length cap U 0 1 1 [.int .i64 y] w1 (by omega) hroom (by unfold maxLen at hcm; omega) rfl (fun j hj => by have := hsome (xs.length + j) (by omega); rw [← Nat.add_assoc] at this; exact this) (fun j _ => by have := hfz (xs.length + j); rw [← Nat.add_assoc] at this; exact this) hv1 h1v).mono ?_
        rintro e w' ⟨rfl, rfl⟩
        rw [Nat.zero_add]
        obtain ⟨c2, b2, s2, l2, g2⟩ := setCells_block [.int .i64 y] xs.length w1 cur hh1 (by show xs.length + 1 ≤ cur.size; omega)
        refine ⟨_, rfl, ?_, g2⟩
        refine (ownI_mk (zs := insI xs xs.length y) hg b2 (by omega) hcm (by omega) ?_).sameLen hlen
        rw [hlen, insI_vint, l2, htk1]
        have e1 : (vint xs).take xs.length = vint xs := List.take_of_length_le (by omega)
        have e2 : (vint xs).drop xs.length = [] := List.drop_of_length_le (by omega)
        rw [e1, e2, List.append_nil, List.take_append_of_le_length (by simp [vint]), List.take_of_length_le (by simp [vint])]
    · by_cases hlt : i < xs.length
      · -- a new row
        refine (Any2.slices_Insert_int_grow lays21 g 0 xs.length cap i U 0 1 1 (vint xs) [.int .i64 y] w1 hlt (by omega) hnc (by omega) (by omega) hgw rfl hcell hv1 vint_one h1v).mono ?_
        rintro e w' ⟨rfl, rfl⟩
        have hge := grownCap_ge w1 (xs.length + 1) cap 3
        have hle := grownCap_le_maxLen w1 (xs.length + 1) cap 3 (by unfold maxLen; omega)
        obtain ⟨A, hA⟩ : ∃ A : Array Value, A = ((vint xs).take i).toArray ++ Builtin.zeroCells (Value.int .i64 0).cells (xs.length + 1 - i) ++ Builtin.zeroCells (Value.int .i64 0).cells (grownCap w1 (xs.length + 1) cap 3 - (xs.length + 1)) := ⟨_, rfl⟩
        have hAs : A.size = grownCap w1 (xs.length + 1) cap 3 := by
          rw [hA, Array.size_append, Array.size_append, size_zeroCells, size_zeroCells]
          show ((vint xs).take i).toArray.size + (xs.length + 1 - i) * 1 + (grownCap w1 (xs.length + 1) cap 3 - (xs.length + 1)) * 1 = _
          have : ((vint xs).take i).toArray.size = i := by simp [vint]; omega
          rw [this]; omega
        have hAt : A.toList.take i = (vint xs).take i := by
          rw [hA, Array.toList_append, Array.toList_append, List.append_assoc, List.take_append_of_le_length (by simp [vint]; omega)]
          rw [List.take_of_length_le (by simp [vint]; omega)]
        have hhA : (w1.alloc (.cells A 3)).drew.heap[w1.heap.size]? = some (.cells A 3 (0, 0)) := heap_atA w1 _
        obtain ⟨c1, b1, s1, l1, g1⟩ := setCells_block [.int .i64 y] i _ A hhA (by show i + 1 ≤ A.size; omega)
        obtain ⟨c2, b2, s2, l2, g2⟩ := setCells_block ((vint xs).drop i) (i + 1) ((w1.alloc (.cells A 3)).drew.setCells w1.heap.size i [.int .i64 y]).drew c1 b1 (by rw [List.length_drop, hgw]; omega)
        show RetIns B w1 (some g) (insI xs i y) _ ((((w1.alloc (.cells (((vint xs).take i).toArray ++ Builtin.zeroCells (Value.int .i64 0).cells (xs.length + 1 - i) ++ Builtin.zeroCells (Value.int .i64 0).cells (grownCap w1 (xs.length + 1) cap 3 - (xs.length + 1))) 3)).drew.setCells w1.heap.size i [.int .i64 y]).drew).setCells w1.heap.size (i + 1) ((vint xs).drop i))
        rw [← hA]
        refine ⟨_, rfl, ?_, ?_⟩
        · refine (ownI_mk (zs := insI xs i y) (show B ≤ w1.heap.size by omega) b2 (by rw [hlen]; exact hge) hle (by rw [s2, s1, hAs]) ?_).sameLen hlen
          rw [hlen, insI_vint]
          exact two_stores2 A.toList c1.toList c2.toList (vint xs) i xs.length (.int .i64 y) hgw (by omega) (by simp; omega) hAt l1 l2
        · have ga : w1.grownBy (w1.alloc (.cells A 3)) (some g) := ⟨rfl, rfl, rfl, by simp, fun k hk _ => Below.heap_alloc _ _ _ hk⟩
          have gx := ((((grownBy_drew (w1.alloc (.cells A 3)) (some w1.heap.size)).trans g1).trans (grownBy_drew _ _)).trans g2)
          exact ⟨gx.os.trans ga.os, gx.tape.trans ga.tape, gx.output.trans ga.output, Nat.le_trans ga.size gx.size, fun k hk hne => (gx.block k (by simp; omega) (by intro e; cases e; omega)).trans (ga.block k hk hne)⟩
      · obtain rfl : i = xs.length := by omega
        refine (Any2.slices_Insert_int_end_grow lays21 (some ⟨g, 0, none⟩) xs.length cap U 0 1 1 (vint xs) [.int .i64 y] w1 (by omega) hnc (by omega) (by omega) hgw rfl (fun e => by cases e) (fun a ha j u hj => by cases ha; have := hcell j u hj; rw [Nat.zero_add] at this; rw [add0]; exact this) hv1 h1v).mono ?_
        rintro e w' ⟨rfl, rfl⟩
        have hge := grownCap_ge w1 (xs.length + 1) cap 3
        have hle := grownCap_le_maxLen w1 (xs.length + 1) cap 3 (by unfold maxLen; omega)
        refine ⟨_, rfl, ?_, (grownBy_drew w1 (some g)).trans ⟨rfl, rfl, rfl, by simp, fun k hk _ => Below.heap_alloc _ _ _ hk⟩⟩
        have e1 : (vint xs).take xs.length = vint xs := List.take_of_length_le (by omega)
        have e2 : (vint xs).drop xs.length = [] := List.drop_of_length_le (by omega)
        refine (ownI_mk (zs := insI xs xs.length y) (show B ≤ w1.heap.size by omega) (heap_atA w1.drew _) (by rw [hlen]; exact hge) hle ?_ ?_).sameLen hlen
        · rw [Array.size_append, size_zeroCells]
          show (vint xs ++ [Value.int .i64 y]).toArray.size + (grownCap w1 (xs.length + 1) cap 3 - (xs.length + 1)) * 1 = grownCap w1 (xs.length + 1) cap 3
          simp [vint]; omega
        · rw [hlen, insI_vint, e1, e2, List.append_nil, Array.toList_append]
          rw [List.take_append_of_le_length (by simp [vint]), List.take_of_length_le (by simp [vint])]
end Go.Proofs.Ytbgdhiieeegnjac
