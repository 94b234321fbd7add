/- Rows of rows of integers: marked, and held. -/
import Derived.Test.YtjlecipeoaohiaaRR
--@file T:[][]int
namespace Go.Proofs.Ytjlecipeoaohiaa
set_option linter.unusedSimpArgs false
set_option linter.unusedVariables false
open Go Go.RowKit RM
/-- a call hands back rows of integers in memory of its own, and whether it succeeds -/
def RetSS (w : World) (xss : List (List Int)) (ok : Bool) (e : Ending) (w' : World) : Prop := ∃ v, e = .returned (.tuple #[v, .bool ok]) ∧ OwnSS w' w.heap.size v xss ∧ Below w.heap.size w w'
/-- how many integers there are -/
def ssum (xss : List (List Int)) : Nat := (xss.map List.length).sum
theorem ssum_cons (xs : List Int) (xss : List (List Int)) : ssum (xs :: xss) = xs.length + ssum xss := by simp [ssum]
theorem ssum_app (a b : List (List Int)) : ssum (a ++ b) = ssum a + ssum b := by simp [ssum]
/-- the marks from m + 1 on -/
def marksF (m n : Nat) : List Int := (List.range n).map fun (i : Nat) => 1 + ((m + i : Nat) : Int)
theorem marksF_len (m n : Nat) : (marksF m n).length = n := by simp [marksF]
theorem marksF_get (m n k : Nat) (h : k < (marksF m n).length) : (marksF m n)[k] = 1 + ((m + k : Nat) : Int) := by simp [marksF]
theorem mark_row {n : Nat} {xs : List Int} (m k : Nat) (hx : xs.length = n) (hlt : k < n) : (marksF m k ++ xs.drop k).set k (1 + ((m + k : Nat) : Int)) = marksF m (k + 1) ++ xs.drop (k + 1) := by
  have hd : xs.drop k = xs[k]'(by rw [hx]; exact hlt) :: xs.drop (k + 1) := List.drop_eq_getElem_cons _
  rw [hd, List.set_append_right _ _ (by rw [marksF_len]; exact Nat.le_refl _), marksF_len, Nat.sub_self, List.set_cons_zero]
  unfold marksF
  rw [List.range_succ, List.map_append]
  simp
theorem markF_some (m g n cap B : Nat) (xs : List Int) (w : World) (hx : xs.length = n) (hn : n ≤ 2000000) (hm : m ≤ 2000000) (hw : OwnI w B (.slice (some ⟨g, 0, none⟩) xs.length cap) xs) :
    Calls Try.prog 60 #[.slice (some ⟨g, 0, none⟩) n cap, .int .i64 (1 + (m : Int))] w fun e w' => e = .returned (.int .i64 (1 + ((m + n : Nat) : Int))) ∧ OwnI w' B (.slice (some ⟨g, 0, none⟩) n cap) (marksF m n) ∧ w.grownBy w' (some g) := by
  have hw0 : Hid (OwnI w B (.slice (some ⟨g, 0, none⟩) xs.length cap) xs) := Lib.hid hw
  have hxx := Lib.hid hx
  clear hw hx
  go_enter Try.func60, Try.ntmps60
  go_wp2
  go_loopw [1, 5] (fun q i wr => ∃ k : Nat, k ≤ n ∧ i = .int .i64 k ∧ q = .int .i64 (1 + ((m + k : Nat) : Int)) ∧ Hid (OwnI wr B (.slice (some ⟨g, 0, none⟩) n cap) (marksF m k ++ xs.drop k)) ∧ Hid (w.grownBy wr (some g))) (fun _ i _ => n - (intOf i).toNat)
  case atStart => exact ⟨0, by omega, rfl, by simp, Lib.hid (by have := hw0.out; rw [hxx.out] at this; exact this), Lib.hid (World.grownBy.refl _ _)⟩
  case round =>
    obtain ⟨k, hk, rfl, rfl, ho, hg⟩ := hrel
    by_cases hlt : k < n
    · have hlen : Hid ((marksF m k ++ xs.drop k).length = n) := Lib.hid (by rw [List.length_append, marksF_len, List.length_drop, hxx.out]; omega)
      have hkl : k < (marksF m k ++ xs.drop k).length := by rw [hlen.out]; exact hlt
      obtain ⟨h1r, h2⟩ := ho.out.cell hlen.out k hkl
      have hst := Lib.hid (ho.out.stored hlen.out k (1 + ((m + k : Nat) : Int)))
      have hmr := Lib.hid (mark_row m k hxx.out hlt)
      obtain ⟨y, hy⟩ : ∃ y : Int, y = (marksF m k ++ xs.drop k)[k] := ⟨_, rfl⟩
      rw [← hy] at h1r
      clear hkl hy
      obtain ⟨mk, hmk⟩ : ∃ q : Int, Hid (q = ((m + k : Nat) : Int)) := ⟨_, Lib.hid rfl⟩
      rw [← hmk.out] at hst ⊢
      have hmkb : 0 ≤ mk ∧ mk ≤ 4000000 := by rw [hmk.out]; omega
      go_wp2
      go_roundw
      case rel => exact ⟨k + 1, by omega, by go_num, vi (by rw [hmk.out]; omega), Lib.hid (by rw [← hmr.out, ← hmk.out]; exact hst.out.1), Lib.hid (Lib.grownBy_trans hg.out hst.out.2)⟩
      all_goals (simp [intOf] <;> omega)
    · obtain rfl : k = n := by omega
      go_wp2
      go_ret; exact ⟨rfl, by have := ho.out; rw [List.drop_of_length_le (by rw [hxx.out]; omega), List.append_nil] at this; exact this, hg.out⟩
theorem markF_nil (m : Int) (p : Option Addr) (cap : Nat) (w : World) :
    Calls Try.prog 60 #[.slice p 0 cap, .int .i64 m] w fun e w' => e = .returned (.int .i64 m) ∧ w = w' := by
  go_enter Try.func60, Try.ntmps60
  go_wp2
  go_loop [1, 5] (fun q i => i = .int .i64 0 ∧ q = .int .i64 m) (fun _ _ => 0)
  case atStart => exact ⟨rfl, rfl⟩
  case round =>
    obtain ⟨rfl, rfl⟩ := hrel
    go_wp2
    go_ret; exact ⟨rfl, rfl⟩
theorem markF_any (m : Nat) (v : Value) (xs : List Int) (B : Nat) (w : World) (hn : xs.length ≤ 2000000) (hm : m ≤ 2000000) (h : OwnI w B v xs) :
    Calls Try.prog 60 #[v, .int .i64 (1 + (m : Int))] w fun e w' => e = .returned (.int .i64 (1 + ((m + xs.length : Nat) : Int))) ∧ OwnI w' B v (marksF m xs.length) ∧ w.grownBy w' v.ownBlock := by
  rcases h.form with ⟨rfl, h0⟩ | ⟨g, cap, rfl, _, _, hc, _, _⟩
  · subst h0
    exact (markF_nil _ none 0 w).mono fun e w' ⟨he, hw⟩ => ⟨he, by subst hw; exact h, by subst hw; exact World.grownBy.refl _ _⟩
  · exact markF_some m g xs.length cap B xs w rfl hn hm h
theorem heldF_some (m g n cap : Nat) (w : World) (hn : n ≤ 2000000) (hm : m ≤ 2000000) (hc : Hid (∀ k, k < n → w.cell? ⟨g, k, none⟩ = some (.int .i64 (1 + ((m + k : Nat) : Int))))) :
    Calls Try.prog 61 #[.slice (some ⟨g, 0, none⟩) n cap, .int .i64 (1 + (m : Int))] w fun e w' => e = .returned (.int .i64 (1 + ((m + n : Nat) : Int))) ∧ w = w' := by
  go_enter Try.func61, Try.ntmps61
  go_wp2
  go_loop [1, 5] (fun q i => ∃ k : Nat, k ≤ n ∧ i = .int .i64 k ∧ q = .int .i64 (1 + ((m + k : Nat) : Int))) (fun _ i => n - (intOf i).toNat)
  case atStart => exact ⟨0, by omega, rfl, by simp⟩
  case round =>
    obtain ⟨k, hk, rfl, rfl⟩ := hrel
    by_cases hlt : k < n
    · have h1 := hc.out k hlt
      obtain ⟨mk, hmk⟩ : ∃ q : Int, Hid (q = ((m + k : Nat) : Int)) := ⟨_, Lib.hid rfl⟩
      rw [← hmk.out] at h1 ⊢
      have hmkb : 0 ≤ mk ∧ mk ≤ 4000000 := by rw [hmk.out]; omega
      have hne : ((1 + mk) != (1 + mk)) = false := by simp
      go_wp2
      go_round
      case rel => exact ⟨k + 1, by omega, by go_num, vi (by rw [hmk.out]; omega)⟩
      all_goals (simp [intOf] <;> omega)
    · obtain rfl : k = n := by omega
      go_wp2
      go_ret; exact ⟨rfl, rfl⟩
theorem heldF_nil (m : Int) (p : Option Addr) (cap : Nat) (w : World) :
    Calls Try.prog 61 #[.slice p 0 cap, .int .i64 m] w fun e w' => e = .returned (.int .i64 m) ∧ w = w' := by
  go_enter Try.func61, Try.ntmps61
  go_wp2
  go_loop [1, 5] (fun q i => i = .int .i64 0 ∧ q = .int .i64 m) (fun _ _ => 0)
  case atStart => exact ⟨rfl, rfl⟩
  case round =>
    obtain ⟨rfl, rfl⟩ := hrel
    go_wp2
    go_ret; exact ⟨rfl, rfl⟩
theorem heldF_any (m : Nat) (v : Value) (n B : Nat) (w : World) (hn : n ≤ 2000000) (hm : m ≤ 2000000) (h : OwnI w B v (marksF m n)) :
    Calls Try.prog 61 #[v, .int .i64 (1 + (m : Int))] w fun e w' => e = .returned (.int .i64 (1 + ((m + n : Nat) : Int))) ∧ w = w' := by
  rcases h.form with ⟨rfl, h0⟩ | ⟨g, cap, rfl, _, _, hc, _, _⟩
  · have : n = 0 := by rw [← marksF_len m n, h0]; rfl
    subst this; exact heldF_nil _ _ _ w
  · rw [marksF_len]
    exact heldF_some m g n cap w hn hm (Lib.hid fun k hk => by rw [hc k (by rw [marksF_len]; exact hk), marksF_get])
/-- the marks of rows -/
def marksFF : Nat → List (List Int) → List (List Int)
  | _, [] => []
  | m, xs :: xss => marksF m xs.length :: marksFF (m + xs.length) xss
theorem marksFF_len (m : Nat) (xss : List (List Int)) : (marksFF m xss).length = xss.length := by
  induction xss generalizing m with
  | nil => rfl
  | cons a l ih => simp [marksFF, ih]
theorem marksFF_get : ∀ (xss : List (List Int)) (m k : Nat) (h : k < (marksFF m xss).length) (h' : k < xss.length), (marksFF m xss)[k] = marksF (m + ssum (xss.take k)) xss[k].length := by
  intro xss
  induction xss with
  | nil => intro m k h; simp [marksFF] at h
  | cons a l ih =>
    intro m k h h'
    cases k with
    | zero => simp [marksFF, ssum]
    | succ k =>
      simp only [marksFF, List.getElem_cons_succ, List.take_succ_cons, ssum_cons]
      rw [ih (m + a.length) k (by simpa [marksFF] using h) (by simpa using h'), Nat.add_assoc]
/-- the marks of such a row -/
def OwnMM (w : World) (B : Nat) (v : Value) (xss : List (List Int)) : Prop := OwnSS w B v (marksFF 0 xss)
theorem OwnMM.below {w w' : World} {B : Nat} {v : Value} {xss : List (List Int)} (h : OwnMM w B v xss) (hb : Below w.heap.size w w') : OwnMM w' B v xss := OwnSS.below h hb
theorem ssum_take_le (xss : List (List Int)) (k : Nat) : ssum (xss.take k) ≤ ssum xss := by
  have e : ssum xss = ssum (xss.take k) + ssum (xss.drop k) := by rw [← ssum_app, List.take_append_drop]
  omega
theorem ssum_take_succ (xss : List (List Int)) (k : Nat) (h : k < xss.length) : ssum (xss.take (k + 1)) = ssum (xss.take k) + xss[k].length := by
  rw [List.take_succ_eq_append_getElem h, ssum_app, ssum_cons]; simp [ssum]
theorem heldIntSS_any (v : Value) (xss : List (List Int)) (B : Nat) (w : World) (hs : ssum xss ≤ 2000000) (hl : xss.length ≤ 1000000) (h : OwnMM w B v xss) :
    Calls Try.prog 24 #[v, .int .i64 1] w fun e w' => e = .returned (.int .i64 (1 + ((ssum xss : Nat) : Int))) ∧ Below w.heap.size w w' := by
  obtain ⟨p, c, rfl, -, hr⟩ := OwnSS.rd h
  rw [marksFF_len]
  have hq := Lib.hid (fun k (hk : k < xss.length) => hr w (Below.refl _ _) k (by rw [marksFF_len]; exact hk))
  clear hr h
  have hle := Lib.hid (fun k => Nat.le_trans (ssum_take_le xss k) hs)
  have hsu := Lib.hid (fun k hk => ssum_take_succ xss k hk)
  obtain ⟨f, hf⟩ : ∃ f : Nat → Nat, Hid (f = fun k => ssum (xss.take k)) := ⟨_, Lib.hid rfl⟩
  obtain ⟨n, hn⟩ : ∃ n, Hid (n = xss.length) := ⟨_, Lib.hid rfl⟩
  have hn9 : n ≤ 1000000 := by rw [hn.out]; exact hl
  have hfn : ssum xss = f n := by rw [hf.out, hn.out]; show _ = ssum (xss.take xss.length); rw [List.take_length]
  rw [← hn.out, hfn]
  clear hfn hs hl
  go_enter Try.func24, Try.ntmps24
  go_wp2_with fail
  go_loop [1, 5] (fun q i => ∃ k : Nat, k ≤ n ∧ i = .int .i64 k ∧ q = .int .i64 (1 + ((f k : Nat) : Int))) (fun _ i => n - (intOf i).toNat)
  case atStart => exact ⟨0, Nat.zero_le _, rfl, by rw [hf.out]; rfl⟩
  case round =>
    obtain ⟨k, hk, rfl, rfl⟩ := hrel
    by_cases hlt : k < n
    · have hkx : k < xss.length := by rw [← hn.out]; exact hlt
      obtain ⟨g, a, m, c2, rfl, hg, h1, ho, -⟩ := hq.out k hkx
      rw [marksFF_get xss 0 k (by rw [marksFF_len]; exact hkx) hkx, Nat.zero_add] at ho
      have hfk : f k ≤ 2000000 := by rw [hf.out]; exact hle.out k
      have hfs : Hid (f (k + 1) = f k + xss[k].length) := Lib.hid (by rw [hf.out]; exact hsu.out k hkx)
      have hlk : xss[k].length ≤ 2000000 := by
        have h9 : f (k + 1) ≤ 2000000 := by rw [hf.out]; exact hle.out (k + 1)
        have := hfs.out
        omega
      have e0 : ssum (xss.take k) = f k := by rw [hf.out]
      rw [e0] at ho
      have hE := Lib.hid (heldF_any (f k) (.slice a m c2) xss[k].length B w hlk hfk ho)
      clear ho e0
      generalize xss[k].length = y at *
      generalize f k = z at *
      rw [← hfs.out] at hE
      have hneg : ¬ 1 + ((f (k + 1) : Nat) : Int) < 0 := by omega
      go_wp2_with fail
      refine hE.out.mono ?_; rintro e w' ⟨rfl, rfl⟩
      go_wp2_with fail
      go_round
      case rel => exact ⟨k + 1, by omega, by go_num, rfl⟩
      all_goals (simp [intOf] <;> omega)
    · obtain rfl : k = n := by omega
      go_wp2_with fail
      go_ret; exact ⟨rfl, Below.refl _ _⟩
theorem OwnG.lowKept {α : Type} {E : Elt α} {w w' : World} {B C : Nat} {v : Value} {xs : List α} (h : OwnG E w B v xs) (hb : Below C w w') (hl : ∀ k, v.ownBlock = some k → k < C) : OwnG E w' B v xs := by
  refine ⟨h.1, ?_⟩
  rcases h.2 with hn | ⟨g, cap, cur, rfl, hB, hgg, rest⟩
  · exact .inl hn
  · exact .inr ⟨g, cap, cur, rfl, hB, (hb.block g (hl g rfl)).trans hgg, rest⟩
theorem OwnI.lowKept {w w' : World} {B C : Nat} {v : Value} {xs : List Int} (h : OwnI w B v xs) (hb : Below C w w') (hl : ∀ k, v.ownBlock = some k → k < C) : OwnI w' B v xs := by
  refine ⟨h.1, ?_⟩
  rcases h.2 with hn | ⟨g, cap, cur, rfl, hB, hgg, rest⟩
  · exact .inl hn
  · exact .inr ⟨g, cap, cur, rfl, hB, (hb.block g (hl g rfl)).trans hgg, rest⟩
theorem OwnT.lowKept {w w' : World} {B C : Nat} {v : Value} {xs : List ByteArray} (h : w.ownsRow B 9 1 v xs.length (xs.map Value.string)) (hb : Below C w w') (hl : ∀ k, v.ownBlock = some k → k < C) : w'.ownsRow B 9 1 v xs.length (xs.map Value.string) := by
  refine ⟨h.1, ?_⟩
  rcases h.2 with hn | ⟨g, cap, cur, rfl, hB, hgg, rest⟩
  · exact .inl hn
  · exact .inr ⟨g, cap, cur, rfl, hB, (hb.block g (hl g rfl)).trans hgg, rest⟩
theorem OwnRR.lowKept {w w' : World} {B C : Nat} {v : Value} {ps : List (Sl × List Int)} (h : OwnRR w B v ps) (hb : Below C w w') (hl : ∀ k, v.ownBlock = some k → k < C) (hi : ∀ q ∈ ps, ∀ k, (Sl.v q.1).ownBlock = some k → k < C) : OwnRR w' B v ps :=
  ⟨h.row.lowKept hb hl, fun q hq => (h.inn q hq).lowKept hb (hi q hq), h.apart⟩
/-- one of the rows is written -/
theorem OwnRR.marked {w w' : World} {B : Nat} {v : Value} {ps : List (Sl × List Int)} {k : Nat} (hk : k < ps.length) (h : OwnRR w B v ps) {ys : List Int} (hy : OwnI w' B (Sl.v ps[k].1) ys) (hg : w.grownBy w' (Sl.v ps[k].1).ownBlock) : OwnRR w' B v (ps.set k (ps[k].1, ys)) := by
  have hp := List.pairwise_iff_getElem.1 h.apart
  have hfst : (ps.set k (ps[k].1, ys)).map (·.1) = ps.map (·.1) := by
    apply List.ext_getElem (by simp)
    intro j h1 h2
    rw [List.getElem_map, List.getElem_map, List.getElem_set]
    split
    · next e => subst e; rfl
    · rfl
  refine ⟨?_, ?_, ?_⟩
  · rw [hfst]
    exact h.row.kept hg (slc_ne h.row (h.inn ps[k] (List.getElem_mem hk)))
  · intro q hq
    obtain ⟨j, hj, rfl⟩ := List.mem_iff_getElem.1 hq
    rw [List.length_set] at hj
    by_cases e : k = j
    · subst e; rw [List.getElem_set_self]; exact hy
    · rw [List.getElem_set_ne e]
      refine (h.inn ps[j] (List.getElem_mem hj)).kept hg ?_
      rcases Nat.lt_or_gt_of_ne e with hl | hl
      · rcases hp k j hk hj hl with h1 | h1
        · rw [h1]; cases hv : (Sl.v ps[j].1).ownBlock with
          | none => left; rfl
          | some x => right; intro e; cases e
        · right; exact fun e => h1 e.symm
      · exact hp j k hj hk hl
  · have h9 : (ps.map (·.1)).Pairwise fun a b => (Sl.v a).ownBlock = none ∨ (Sl.v a).ownBlock ≠ (Sl.v b).ownBlock := List.pairwise_map.2 h.apart
    rw [← hfst] at h9
    exact List.pairwise_map.1 h9
theorem marks_step {n k : Nat} {ms xss : List (List Int)} (hm : ms.length = n) (hx : xss.length = n) (hk : k < n) : (ms.take k ++ xss.drop k).set k (ms[k]'(by omega)) = ms.take (k + 1) ++ xss.drop (k + 1) := by
  have hd : xss.drop k = xss[k]'(by omega) :: xss.drop (k + 1) := List.drop_eq_getElem_cons _
  have hl : (ms.take k).length = k := by rw [List.length_take]; omega
  rw [hd, List.set_append_right _ _ (by omega), hl, Nat.sub_self, List.set_cons_zero]
  have ht : ms.take (k + 1) = ms.take k ++ [ms[k]'(by omega)] := List.take_succ_eq_append_getElem (by omega)
  rw [ht, List.append_assoc]; rfl
theorem OwnRR.rdk {w : World} {B n c : Nat} {p : Option Addr} {ps : List (Sl × List Int)} (h : OwnRR w B (.slice p n c) ps) {k : Nat} (hk : k < ps.length) : ∃ g, p = some ⟨g, 0, none⟩ ∧ w.cell? ⟨g, k, none⟩ = some (Sl.v ps[k].1) := by
  obtain ⟨p', c', e, hm, hr⟩ := h.row.rd
  obtain ⟨g, rfl, hl, hc⟩ := hr (fun e => by rw [List.map_eq_nil_iff] at e; rw [e] at hk; cases hk)
  have h1 := hc k (by rw [List.length_map]; exact hk) 0 (by decide)
  rw [List.getElem_map] at h1
  have e2 : k * slcE.n + 0 = k := by show k * 1 + 0 = k; omega
  rw [e2] at h1
  injection e with e3 _ _
  exact ⟨g, e3, h1⟩
set_option maxRecDepth 100000 in
theorem markIntSS_any (v : Value) (xss : List (List Int)) (B : Nat) (w : World) (hs : ssum xss ≤ 2000000) (hl : xss.length ≤ 1000000) (h : OwnSS w B v xss) :
    Calls Try.prog 23 #[v, .int .i64 1] w fun e w' => e = .returned (.int .i64 (1 + ((ssum xss : Nat) : Int))) ∧ OwnMM w' B v xss ∧ Below B w w' := by
  obtain ⟨p, c, rfl, -, -⟩ := h.rd
  have hlt := Lib.hid h.lt
  obtain ⟨ps, hps, h0⟩ := h
  have hn0 : ps.length = xss.length := by rw [← hps, List.length_map]
  have hle := Lib.hid (fun k => Nat.le_trans (ssum_take_le xss k) hs)
  have hsu := Lib.hid (fun k hk => ssum_take_succ xss k hk)
  obtain ⟨f, hf⟩ : ∃ f : Nat → Nat, Hid (f = fun k => ssum (xss.take k)) := ⟨_, Lib.hid rfl⟩
  obtain ⟨ms, hms⟩ : ∃ ms, Hid (ms = marksFF 0 xss) := ⟨_, Lib.hid rfl⟩
  have hml : Hid (ms.length = xss.length) := Lib.hid (by rw [hms.out, marksFF_len])
  have hmg : Hid (∀ k (h : k < ms.length) (h' : k < xss.length), ms[k] = marksF (f k) xss[k].length) := Lib.hid (fun k h h' => by
    have h2 : k < (marksFF 0 xss).length := by rw [marksFF_len]; exact h'
    have := marksFF_get xss 0 k h2 h'
    rw [Nat.zero_add] at this
    rw [hf.out, ← this]
    simp only [hms.out])
  obtain ⟨n, hn⟩ : ∃ n, Hid (n = xss.length) := ⟨_, Lib.hid rfl⟩
  have hn9 : n ≤ 1000000 := by rw [hn.out]; exact hl
  have hfn : ssum xss = f n := by rw [hf.out, hn.out]; show _ = ssum (xss.take xss.length); rw [List.take_length]
  have hf0 : f 0 = 0 := by rw [hf.out]; rfl
  replace h0 := Lib.hid h0
  have hst0 : Hid (ps.map (·.2) = ms.take 0 ++ xss.drop 0) := Lib.hid (by simpa using hps)
  rw [← hn.out, hfn]
  replace hn0 := Lib.hid hn0
  clear hfn hs hl hps
  have hf0 := Lib.hid hf0
  go_enter Try.func23, Try.ntmps23
  go_wp2_with fail
  go_loopw [1, 5] (fun q i wr => ∃ k : Nat, k ≤ n ∧ i = .int .i64 k ∧ q = .int .i64 (1 + ((f k : Nat) : Int)) ∧ Hid (∃ ps', ps'.length = xss.length ∧ ps'.map (·.2) = ms.take k ++ xss.drop k ∧ OwnRR wr B (.slice p n c) ps') ∧ Hid (Below B w wr)) (fun _ i _ => n - (intOf i).toNat)
  case atStart => exact ⟨0, Nat.zero_le _, rfl, by rw [hf0.out]; rfl, Lib.hid ⟨ps, hn0.out, hst0.out, by rw [hn.out]; exact h0.out⟩, Lib.hid (Below.refl _ _)⟩
  case round =>
    obtain ⟨k, hk, rfl, rfl, hP, hb⟩ := hrel
    obtain ⟨wA, rfl⟩ : ∃ x, x = wr := ⟨_, rfl⟩
    by_cases hlt : k < n
    · obtain ⟨ps', hl', hm', hr'⟩ := hP.out
      clear hP
      have hkx : k < xss.length := by rw [← hn.out]; exact hlt
      have hkp : k < ps'.length := by rw [hl']; exact hkx
      obtain ⟨g, rfl, hc⟩ := hr'.rdk hkp
      have h2 : ps'[k].2 = xss[k] := by
        have e1 : ps'[k].2 = (ps'.map (·.2))[k]'(by rw [List.length_map]; exact hkp) := by rw [List.getElem_map]
        rw [e1]
        have e3 : (ms.take k).length = k := by rw [List.length_take, hml.out]; omega
        simp only [hm']
        rw [List.getElem_append_right (by omega)]
        simp [e3]
      have hi := hr'.inn ps'[k] (List.getElem_mem hkp)
      rw [h2] at hi
      have hfk : f k ≤ 2000000 := by rw [hf.out]; exact hle.out k
      have hfs : Hid (f (k + 1) = f k + xss[k].length) := Lib.hid (by rw [hf.out]; exact hsu.out k hkx)
      have hlk : xss[k].length ≤ 2000000 := by
        have h9 : f (k + 1) ≤ 2000000 := by rw [hf.out]; exact hle.out (k + 1)
        have := hfs.out
        omega
      have hE := Lib.hid (markF_any (f k) (Sl.v ps'[k].1) xss[k] B wA hlk hfk hi)
      have hlB := Lib.hid hi.lt
      have hBA : B ≤ wA.heap.size := by have := hr'.row.lt g rfl; omega
      have hstep := Lib.hid (fun w' (hy : OwnI w' B (Sl.v ps'[k].1) (marksF (f k) xss[k].length)) (hg : wA.grownBy w' (Sl.v ps'[k].1).ownBlock) => show ∃ ps'', ps''.length = xss.length ∧ ps''.map (·.2) = ms.take (k + 1) ++ xss.drop (k + 1) ∧ OwnRR w' B (.slice (some ⟨g, 0, none⟩) n c) ps'' from ⟨_, by rw [List.length_set]; exact hl', by
          rw [List.map_set, hm', ← marks_step hml.out rfl hkx, hmg.out k (by rw [hml.out]; exact hkx) hkx], hr'.marked hkp hy hg⟩)
      clear hi hm' hr' h2
      obtain ⟨⟨a, m, c2⟩, hq⟩ : ∃ q, ps'[k].1 = q := ⟨_, rfl⟩
      rw [hq] at hc hE hlB hstep
      clear hq hkp hl'
      have hc : wA.cell? ⟨g, k, none⟩ = some (.slice a m c2) := hc
      have hE : Hid (Calls Try.prog 60 #[.slice a m c2, .int .i64 (1 + (f k : Int))] wA fun e w' => e = .returned (.int .i64 (1 + ((f k + xss[k].length : Nat) : Int))) ∧ OwnI w' B (.slice a m c2) (marksF (f k) xss[k].length) ∧ wA.grownBy w' (Value.slice a m c2).ownBlock) := hE
      generalize xss[k].length = y at *
      generalize hz : f k = z at *
      rw [← hfs.out] at hE
      have hB9 : Hid (∀ w', Below B w wA → wA.grownBy w' (Value.slice a m c2).ownBlock → Below B w w') := Lib.hid (fun w' h1 h2 => h1.grown h2 hBA (fun k e => (hlB.out k e).1))
      go_wp2_with fail
      refine hE.out.mono ?_; rintro e w' ⟨rfl, hy, hg⟩
      have hN := Lib.hid (hstep.out w' hy hg)
      have hbN := Lib.hid (hB9.out w' hb.out hg)
      clear hy hg
      go_wp2_with fail
      go_roundw
      case rel => exact ⟨k + 1, by omega, by go_num, rfl, hN, hbN⟩
      all_goals (simp [intOf] <;> omega)
    · obtain rfl : k = n := by omega
      obtain ⟨ps', hl', hm', hr'⟩ := hP.out
      clear hP
      have hfin : Hid (OwnMM wA B (.slice p k c) xss) := Lib.hid ⟨ps', by
        rw [hm', ← hms.out, List.take_of_length_le (by rw [hml.out, hn.out]; exact Nat.le_refl _), List.drop_of_length_le (by rw [hn.out]; exact Nat.le_refl _), List.append_nil], hr'⟩
      clear hr' hm' hl'
      go_wp2_with fail
      go_ret; exact ⟨rfl, hfin.out, hb.out⟩
/-- a row before all of it is written -/
theorem OwnSS.keptHi {w w' : World} {B : Nat} {v : Value} {xss : List (List Int)} {row : Option Nat} (h : OwnSS w B v xss) (hg : w.grownBy w' row) (hl : ∀ k, row = some k → k < B) : OwnSS w' B v xss := by
  obtain ⟨ps, e, h⟩ := h
  have hne : ∀ u : Value, (∀ k, u.ownBlock = some k → B ≤ k ∧ k < w.heap.size) → u.ownBlock = none ∨ u.ownBlock ≠ row := fun u hu => by
    cases e : u.ownBlock with
    | none => left; rfl
    | some a => right; intro e2; have := hl a e2.symm; have := (hu a e).1; omega
  exact ⟨ps, e, h.row.kept hg (hne _ h.row.lt), fun q hq => (h.inn q hq).kept hg (hne _ (h.inn q hq).lt), h.apart⟩
end Go.Proofs.Ytjlecipeoaohiaa
