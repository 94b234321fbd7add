/- Rows of rows of integers: marked, and held. -/
import Derived.Test.YtjlecipeoaohiaaRR
--@file T:[][]int
namespace Go.Proofs.Ytjlecipeoaohiaa
set_option linter.unusedSimpArgs false
set_option linter.unusedVariables false
open Go Go.RowKit RM
/-- a call hands back rows of integers in memory of its own, and whether it succeeds -/
def RetSS (w : World) (xss : List (List Int)) (ok : Bool) (e : Ending) (w' : World) : Prop := ∃ v, e = .returned (.tuple #[v, .bool ok]) ∧ OwnSS w' w.heap.size v xss ∧ Below w.heap.size w w'
/-- how many integers there are -/
def ssum (xss : List (List Int)) : Nat := (xss.map List.length).sum
theorem ssum_cons (xs : List Int) (xss : List (List Int)) : ssum (xs :: xss) = xs.length + ssum xss := by simp [ssum]
theorem ssum_app (a b : List (List Int)) : ssum (a ++ b) = ssum a + ssum b := by simp [ssum]
/-- the marks from m + 1 on -/
def marksF (m n : Nat) : List Int := (List.range n).map fun (i : Nat) => 1 + ((m + i : Nat) : Int)
theorem marksF_len (m n : Nat) : (marksF m n).length = n := by simp [marksF]
theorem marksF_get (m n k : Nat) (h : k < (marksF m n).length) : (marksF m n)[k] = 1 + ((m + k : Nat) : Int) := by simp [marksF]
theorem mark_row {n : Nat} {xs : List Int} (m k : Nat) (hx : xs.length = n) (hlt : k < n) : (marksF m k ++ xs.drop k).set k (1 + ((m + k : Nat) : Int)) = marksF m (k + 1) ++ xs.drop (k + 1) := by
  have hd : xs.drop k = xs[k]'(by rw [hx]; exact hlt) :: xs.drop (k + 1) := List.drop_eq_getElem_cons _
  rw [hd, List.set_append_right _ _ (by rw [marksF_len]; exact Nat.le_refl _), marksF_len, Nat.sub_self, List.set_cons_zero]
  unfold marksF
  rw [List.range_succ, List.map_append]
  simp
theorem markF_some (m g n cap B : Nat) (xs : List Int) (w : World) (hx : xs.length = n) (hn : n ≤ 2000000) (hm : m ≤ 2000000) (hw : OwnI w B (.slice (some ⟨g, 0, none⟩) xs.length cap) xs) :
    Calls Try.prog 60 #[.slice (some ⟨g, 0, none⟩) n cap, .int .i64 (1 + (m : Int))] w fun e w' => e = .returned (.int .i64 (1 + ((m + n : Nat) : Int))) ∧ OwnI w' B (.slice (some ⟨g, 0, none⟩) n cap) (marksF m n) ∧ w.grownBy w' (some g) := by
  have hw0 : Hid (OwnI w B (.slice (some ⟨g, 0, none⟩) xs.length cap) xs) := Lib.hid hw
  have hxx := Lib.hid hx
  clear hw hx
  go_enter Try.func60, Try.ntmps60
  go_wp2
  go_loopw [1, 5] (fun q i wr => ∃ k : Nat, k ≤ n ∧ i = .int .i64 k ∧ q = .int .i64 (1 + ((m + k : Nat) : Int)) ∧ Hid (OwnI wr B (.slice (some ⟨g, 0, none⟩) n cap) (marksF m k ++ xs.drop k)) ∧ Hid (w.grownBy wr (some g))) (fun _ i _ => n - (intOf i).toNat)
  case atStart => exact ⟨0, by omega, rfl, by simp, Lib.hid (by have := hw0.out; rw [hxx.out] at this; exact this), Lib.hid (World.grownBy.refl _ _)⟩
  case round =>
    obtain ⟨k, hk, rfl, rfl, ho, hg⟩ := hrel
    by_cases hlt : k < n
    · have hlen : Hid ((marksF m k ++ xs.drop k).length = n) := Lib.hid (by rw [List.length_append, marksF_len, List.length_drop, hxx.out]; omega)
      have hkl : k < (marksF m k ++ xs.drop k).length := by rw [hlen.out]; exact hlt
      obtain ⟨h1r, h2⟩ := ho.out.cell hlen.out k hkl
      have hst := Lib.hid (ho.out.stored hlen.out k (1 + ((m + k : Nat) : Int)))
      have hmr := Lib.hid (mark_row m k hxx.out hlt)
      obtain ⟨y, hy⟩ : ∃ y : Int, y = (marksF m k ++ xs.drop k)[k] := ⟨_, rfl⟩
      rw [← hy] at h1r
      clear hkl hy
      obtain ⟨mk, hmk⟩ : ∃ q : Int, Hid (q = ((m + k : Nat) : Int)) := ⟨_, Lib.hid rfl⟩
      rw [← hmk.out] at hst ⊢
      have hmkb : 0 ≤ mk ∧ mk ≤ 4000000 := by rw [hmk.out]; omega
      go_wp2
      go_roundw
      case rel => exact ⟨k + 1, by omega, by go_num, vi (by rw [hmk.out]; omega), Lib.hid (by rw [← hmr.out, ← hmk.out]; exact hst.out.1), Lib.hid (Lib.grownBy_trans hg.out hst.out.2)⟩
      all_goals (simp [intOf] <;> omega)
    · obtain rfl : k = n := by omega
      go_wp2
      go_ret; exact ⟨rfl, by have := ho.out; rw [List.drop_of_length_le (by rw [hxx.out]; omega), List.append_nil] at this; exact this, hg.out⟩
theorem markF_nil (m : Int) (p : Option Addr) (cap : Nat) (w : World) :
    Calls Try.prog 60 #[.slice p 0 cap, .int .i64 m] w fun e w' => e = .returned (.int .i64 m) ∧ w = w' := by
  go_enter Try.func60, Try.ntmps60
  go_wp2
  go_loop [1, 5] (fun q i => i = .int .i64 0 ∧ q = .int .i64 m) (fun _ _ => 0)
  case atStart => exact ⟨rfl, rfl⟩
  case round =>
    obtain ⟨rfl, rfl⟩ := hrel
    go_wp2
    go_ret; exact ⟨rfl, rfl⟩
theorem markF_any (m : Nat) (v : Value) (xs : List Int) (B : Nat) (w : World) (hn : xs.length ≤ 2000000) (hm : m ≤ 2000000) (h : OwnI w B v xs) :
    Calls Try.prog 60 #[v, .int .i64 (1 + (m : Int))] w fun e w' => e = .returned (.int .i64 (1 + ((m + xs.length : Nat) : Int))) ∧ OwnI w' B v (marksF m xs.length) ∧ w.grownBy w' v.ownBlock := by
  rcases h.form with ⟨rfl, h0⟩ | ⟨g, cap, rfl, _, _, hc, _, _⟩
  · subst h0
    exact (markF_nil _ none 0 w).mono fun e w' ⟨he, hw⟩ => ⟨he, by subst hw; exact h, by subst hw; exact World.grownBy.refl _ _⟩
  · exact markF_some m g xs.length cap B xs w rfl hn hm h
theorem heldF_some (m g n cap : Nat) (w : World) (hn : n ≤ 2000000) (hm : m ≤ 2000000) (hc : Hid (∀ k, k < n → w.cell? ⟨g, k, none⟩ = some (.int .i64 (1 + ((m + k : Nat) : Int))))) :
    Calls Try.prog 61 #[.slice (some ⟨g, 0, none⟩) n cap, .int .i64 (1 + (m : Int))] w fun e w' => e = .returned (.int .i64 (1 + ((m + n : Nat) : Int))) ∧ w = w' := by
  go_enter Try.func61, Try.ntmps61
  go_wp2
  go_loop [1, 5] (fun q i => ∃ k : Nat, k ≤ n ∧ i = .int .i64 k ∧ q = .int .i64 (1 + ((m + k : Nat) : Int))) (fun _ i => n - (intOf i).toNat)
  case atStart => exact ⟨0, by omega, rfl, by simp⟩
  case round =>
    obtain ⟨k, hk, rfl, rfl⟩ := hrel
    by_cases hlt : k < n
    · have h1 := hc.out k hlt
      obtain ⟨mk, hmk⟩ : ∃ q : Int, Hid (q = ((m + k : Nat) : Int)) := ⟨_, Lib.hid rfl⟩
      rw [← hmk.out] at h1 ⊢
      have hmkb : 0 ≤ mk ∧ mk ≤ 4000000 := by rw [hmk.out]; omega
      have hne : ((1 + mk) != (1 + mk)) = false := by simp
      go_wp2
      go_round
      case rel => exact ⟨k + 1, by omega, by go_num, vi (by rw [hmk.out]; omega)⟩
      all_goals (simp [intOf] <;> omega)
    · obtain rfl : k = n := by omega
      go_wp2
      go_ret; exact ⟨rfl, rfl⟩
theorem heldF_nil (m : Int) (p : Option Addr) (cap : Nat) (w : World) :
    Calls Try.prog 61 #[.slice p 0 cap, .int .i64 m] w fun e w' => e = .returned (.int .i64 m) ∧ w = w' := by
  go_enter Try.func61, Try.ntmps61
  go_wp2
  go_loop [1, 5] (fun q i => i = .int .i64 0 ∧ q = .int .i64 m) (fun _ _ => 0)
  case atStart => exact ⟨rfl, rfl⟩
  case round =>
    obtain ⟨rfl, rfl⟩ := hrel
    go_wp2
    go_ret; exact ⟨rfl, rfl⟩
theorem heldF_any (m : Nat) (v : Value) (n B : Nat) (w : World) (hn : n ≤ 2000000) (hm : m ≤ 2000000) (h : OwnI w B v (marksF m n)) :
    Calls Try.prog 61 #[v, .int .i64 (1 + (m : Int))] w fun e w' => e = .returned (.int .i64 (1 + ((m + n : Nat) : Int))) ∧ w = w' := by
  rcases h.form with ⟨rfl, h0⟩ | ⟨g, cap, rfl, _, _, hc, _, _⟩
  · have : n = 0 := by rw [← marksF_len m n, h0]; rfl
    subst this; exact heldF_nil _ _ _ w
  · rw [marksF_len]
    exact heldF_some m g n cap w hn hm (Lib.hid fun k hk => by rw [hc k (by rw [marksF_len]; exact hk), marksF_get])
/-- the marks of rows -/
def marksFF : Nat → List (List Int) → List (List Int)
  | _, [] => []
  | m, xs :: xss => marksF m xs.length :: marksFF (m + xs.length) xss
theorem marksFF_len (m : Nat) (xss : List (List Int)) : (marksFF m xss).length = xss.length := by
  induction xss generalizing m with
  | nil => rfl
  | cons a l ih => simp [marksFF, ih]
theorem marksFF_get : ∀ (xss : List (List Int)) (m k : Nat) (h : k < (marksFF m xss).length) (h' : k < xss.length), (marksFF m xss)[k] = marksF (m + ssum (xss.take k)) xss[k].length := by
  intro xss
  induction xss with
  | nil => intro m k h; simp [marksFF] at h
  | cons a l ih =>
    intro m k h h'
    cases k with
    | zero => simp [marksFF, ssum]
    | succ k =>
      simp only [marksFF, List.getElem_cons_succ, List.take_succ_cons, ssum_cons]
      rw [ih (m + a.length) k (by simpa [marksFF] using h) (by simpa using h'), Nat.add_assoc]
/-- the marks of such a row -/
def OwnMM (w : World) (B : Nat) (v : Value) (xss : List (List Int)) : Prop := OwnSS w B v (marksFF 0 xss)
theorem OwnMM.below {w w' : World} {B : Nat} {v : Value} {xss : List (List Int)} (h : OwnMM w B v xss) (hb : Below w.heap.size w w') : OwnMM w' B v xss := OwnSS.below h hb
theorem ssum_take_le (xss : List (List Int)) (k : Nat) : ssum (xss.take k) ≤ ssum xss := by
  have e : ssum xss = ssum (xss.take k) + ssum (xss.drop k) := by rw [← ssum_app, List.take_append_drop]
  omega
theorem ssum_take_succ (xss : List (List Int)) (k : Nat) (h : k < xss.length) : ssum (xss.take (k + 1)) = ssum (xss.take k) + xss[k].length := by
  rw [List.take_succ_eq_append_getElem h, ssum_app, ssum_cons]; simp [ssum]
theorem heldIntSS_any (v : Value) (xss : List (List Int)) (B : Nat) (w : World) (hs : ssum xss ≤ 2000000) (hl : xss.length ≤ 1000000) (h : OwnMM w B v xss) :
    Calls Try.prog 24 #[v, .int .i64 1] w fun e w' => e = .returned (.int .i64 (1 + ((ssum xss : Nat) : Int))) ∧ Below w.heap.size w w' := by
  obtain ⟨p, c, rfl, -, hr⟩ := OwnSS.rd h
  rw [marksFF_len]
  have hq := Lib.hid (fun k (hk : k < xss.length) => hr w (Below.refl _ _) k (by rw [marksFF_len]; exact hk))
  clear hr h
  have hle := Lib.hid (fun k => Nat.le_trans (ssum_take_le xss k) hs)
  have hsu := Lib.hid (fun k hk => ssum_take_succ xss k hk)
  obtain ⟨f, hf⟩ : ∃ f : Nat → Nat, Hid (f = fun k => ssum (xss.take k)) := ⟨_, Lib.hid rfl⟩
  obtain ⟨n, hn⟩ : ∃ n, Hid (n = xss.length) := ⟨_, Lib.hid rfl⟩
  have hn9 : n ≤ 1000000 := by rw [hn.out]; exact hl
  have hfn : ssum xss = f n := by rw [hf.out, hn.out]; show _ = ssum (xss.take xss.length); rw [List.take_length]
  rw [← hn.out, hfn]
  clear hfn hs hl
  go_enter Try.func24, Try.ntmps24
  go_wp2_with fail
  go_loop [1, 5] (fun q i => ∃ k : Nat, k ≤ n ∧ i = .int .i64 k ∧ q = .int .i64 (1 + ((f k : Nat) : Int))) (fun _ i => n - (intOf i).toNat)
  case atStart => exact ⟨0, Nat.zero_le _, rfl, by rw [hf.out]; rfl⟩
  case round =>
    obtain ⟨k, hk, rfl, rfl⟩ := hrel
    by_cases hlt : k < n
    · have hkx : k < xss.length := by rw [← hn.out]; exact hlt
      obtain ⟨g, a, m, c2, rfl, hg, h1, ho, -⟩ := hq.out k hkx
      rw [marksFF_get xss 0 k (by rw [marksFF_len]; exact hkx) hkx, Nat.zero_add] at ho
      have hfk : f k ≤ 2000000 := by rw [hf.out]; exact hle.out k
      have hfs : Hid (f (k + 1) = f k + xss[k].length) := Lib.hid (by rw [hf.out]; exact hsu.out k hkx)
      have hlk : xss[k].length ≤ 2000000 := by
        have h9 : f (k + 1) ≤ 2000000 := by rw [hf.out]; exact hle.out (k + 1)
        have := hfs.out
        omega
      have e0 : ssum (xss.take k) = f k := by rw [hf.out]
      rw [e0] at ho
      have hE := Lib.hid (heldF_any (f k) (.slice a m c2) xss[k].length B w hlk hfk ho)
      clear ho e0
      generalize xss[k].length = y at *
      generalize f k = z at *
      rw [← hfs.out] at hE
      have hneg : ¬ 1 + ((f (k + 1) : Nat) : Int) < 0 := by omega
      go_wp2_with fail
      refine hE.out.mono ?_; rintro e w' ⟨rfl, rfl⟩
      go_wp2_with fail
      go_round
      case rel => exact ⟨k + 1, by omega, by go_num, rfl⟩
      all_goals (simp [intOf] <;> omega)
    · obtain rfl : k = n := by omega
      go_wp2_with fail
      go_ret; exact ⟨rfl, Below.refl _ _⟩
theorem OwnG.lowKept {α : Type} {E : Elt α} {w w' : World} {B C : Nat} {v : Value} {xs : List α} (h : OwnG E w B v xs) (hb : Below C w w') (hl : ∀ k, v.ownBlock = some k → k < C) : OwnG E w' B v xs := by
  refine ⟨h.1, ?_⟩
  rcases h.2 with hn | ⟨g, cap, cur, rfl, hB, hgg, rest⟩
  · exact .inl hn
  · exact .inr ⟨g, cap, cur, rfl, hB, (hb.block g (hl g rfl)).trans hgg, rest⟩
theorem OwnI.lowKept {w w' : World} {B C : Nat} {v : Value} {xs : List Int} (h : OwnI w B v xs) (hb : Below C w w') (hl : ∀ k, v.ownBlock = some k → k < C) : OwnI w' B v xs := by
  refine ⟨h.1, ?_⟩
  rcases h.2 with hn | ⟨g, cap, cur, rfl, hB, hgg, rest⟩
  · exact .inl hn
  · exact .inr ⟨g, cap, cur, rfl, hB, (hb.block g (hl g rfl)).trans hgg, rest⟩
theorem OwnT.lowKept {w w' : World} {B C : Nat} {v : Value} {xs : List ByteArray} (h : w.ownsRow B 9 1 v xs.length (xs.map Value.string)) (hb : Below C w w') (hl : ∀ k, v.ownBlock = some k → k < C) : w'.ownsRow B 9 1 v xs.length (xs.map Value.string) := by
  refine ⟨h.1, ?_⟩
  rcases h.2 with hn | ⟨g, cap, cur, rfl, hB, hgg, rest⟩
  · exact .inl hn
  · exact .inr ⟨g, cap, cur, rfl, hB, (hb.block g (hl g rfl)).trans hgg, rest⟩
end Go.Proofs.Ytjlecipeoaohiaa
