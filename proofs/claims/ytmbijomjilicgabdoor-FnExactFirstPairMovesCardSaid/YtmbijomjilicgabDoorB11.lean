/- States near a state by pairs, and the farthest ones: both ways. -/
import Derived.Test.YtmbijomjilicgabDoorB10
namespace Go.Proofs.YtmbijomjilicgabDoor
open Go Go.RowKit RM

theorem own_cellT {w w' : World} {B : Nat} {v : Value} {xs : List ByteArray} (h : OwnT w B v xs) (hg : w.grownBy w' v.ownBlock) {b o : Nat} (hb : b < B) (hl : b < w.heap.size) : w'.cell? ⟨b, o, none⟩ = w.cell? ⟨b, o, none⟩ :=
  World.cell?_of_block (hg.block b hl (fun e => by have := (h.lt b e.symm).1; omega))
theorem TabOk.grownT {w w' : World} {B : Nat} {v : Value} {xs : List ByteArray} (h : TabOk w) (ho : OwnT w B v xs) (hg : w.grownBy w' v.ownBlock) (hB : 1 < B) : TabOk w' := fun j hj => by
  rw [own_cellT ho hg hB h.lt]; exact h j hj
/-- a call hands back texts in memory of its own, a number, and whether it succeeds -/
def RetF (w : World) (xs : List ByteArray) (d : Int) (ok : Bool) (e : Ending) (w' : World) : Prop := ∃ v, e = .returned (.tuple #[v, .int .i64 d, .bool ok]) ∧ OwnT w' w.heap.size v xs ∧ Below w.heap.size w w'
/-- how many moves lead from x to the state with a number -/
abbrev fN (x : Nat) (i : Nat) : Int := (dd (num x) i : Int)
theorem sdL_gray (n x i : Nat) (h : gray i < (sdL n x).length) : (sdL n x)[gray i] = fN x i := by rw [sdL_get]; unfold dS fN; rw [num_gray]
theorem iNear_no (s : ByteArray) (n x : Nat) (ok : Bool) (m : Int) (w : World) (hT : TabOk w) (h : ok = false ∨ (ok = true ∧ (m < 0 ∨ 6 < m)))
    (hB : Hid (∀ w, TabOk w → Calls Tryd.prog 37 #[.string s] w fun e w' => e = .returned (.tuple #[(.agg #[.int .i64 ((ctz (x) : Nat) : Int), .bool (onB (x)), .int .i64 ((n : Nat) : Int), .int .u64 ((x : Nat) : Int)]), .bool ok]) ∧ Below w.heap.size w w')) :
    Calls Tryd.prog 22 #[.string s, .int .i64 m] w fun e w' => RetT w [] false e w' := by
  have hT := Lib.hid hT
  rcases h with rfl | ⟨rfl, h⟩
  · go_enter Tryd.func22, Tryd.ntmps22
    go_wp2_with fail
    refine (hB.out _ hT.out).mono ?_; rintro e w1 ⟨rfl, hb⟩
    have hb := Lib.hid hb
    go_wp2_with fail
    go_ret2; exact ⟨_, rfl, OwnT.nil _ _, bt hb.out (ba _ _)⟩
  · by_cases h0 : m < 0
    · clear h
      go_enter Tryd.func22, Tryd.ntmps22
      go_wp2_with fail
      refine (hB.out _ hT.out).mono ?_; rintro e w1 ⟨rfl, hb⟩
      have hb := Lib.hid hb
      go_wp2_with fail
      go_ret2; exact ⟨_, rfl, OwnT.nil _ _, bt hb.out (ba _ _)⟩
    · have h6 : 6 < m := by omega
      have h0' : decide (m < 0) = false := by simp; omega
      clear h
      go_enter Tryd.func22, Tryd.ntmps22
      go_wp2_with fail
      refine (hB.out _ hT.out).mono ?_; rintro e w1 ⟨rfl, hb⟩
      have hb := Lib.hid hb
      go_wp2_with fail
      go_ret2; exact ⟨_, rfl, OwnT.nil _ _, bt hb.out (ba _ _)⟩
theorem iNear_yes (s : ByteArray) (n x N : Nat) (m : Int) (xs : List ByteArray) (w : World) (hT : TabOk w) (h0 : 0 ≤ m) (h6 : m ≤ 6)
    (hB : Hid (∀ w, TabOk w → Calls Tryd.prog 37 #[.string s] w fun e w' => e = .returned (.tuple #[(.agg #[.int .i64 ((ctz (x) : Nat) : Int), .bool (onB (x)), .int .i64 ((n : Nat) : Int), .int .u64 ((x : Nat) : Int)]), .bool true]) ∧ Below w.heap.size w w'))
    (hS : Hid (∀ w, TabOk w → Calls Tryd.prog 38 #[(.agg #[.int .i64 ((ctz (x) : Nat) : Int), .bool (onB (x)), .int .i64 ((n : Nat) : Int), .int .u64 ((x : Nat) : Int)])] w fun e w' => ∃ gm gw, e = .returned (.agg #[.int .i64 n, .slice (some ⟨gm, 0, none⟩) N N, .slice (some ⟨gw, 0, none⟩) N N]) ∧ OwnI w' w.heap.size (.slice (some ⟨gm, 0, none⟩) N N) (sdL n x) ∧ Below w.heap.size w w'))
    (hNd : Hid (∀ gm gw B w, TabOk w → OwnI w B (.slice (some ⟨gm, 0, none⟩) N N) (sdL n x) → Calls Tryd.prog 40 #[.agg #[.int .i64 n, .slice (some ⟨gm, 0, none⟩) N N, .slice (some ⟨gw, 0, none⟩) N N], .int .i64 0, .int .i64 m] w fun e w' => ∃ v, e = .returned v ∧ OwnT w' (w.heap.size + 1) v xs ∧ Below w.heap.size w w')) :
    Calls Tryd.prog 22 #[.string s, .int .i64 m] w fun e w' => RetT w xs true e w' := by
  have hT := Lib.hid hT
  have h0' : decide (m < 0) = false := by simp; omega
  have h6' : decide (6 < m) = false := by simp; omega
  go_enter Tryd.func22, Tryd.ntmps22
  go_wp2_with fail
  refine (hB.out _ hT.out).mono ?_; rintro e w1 ⟨rfl, hb⟩
  have hT1 := Lib.hid (hT.out.below hb)
  have hb := Lib.hid hb
  go_wp2_with fail
  refine (hS.out _ (hT1.out.alloc _)).mono ?_; rintro e w2 ⟨gm, gw, rfl, ho, hb2⟩
  have hT2 := Lib.hid ((hT1.out.alloc _).below hb2)
  have ho := Lib.hid ho
  have hbb := Lib.hid (bt (bt hb.out (ba _ _)) hb2)
  have hb2 := Lib.hid hb2
  go_wp2_with fail
  refine (hNd.out gm gw _ _ hT2.out ho.out).mono ?_; rintro e w3 ⟨v, rfl, hov, hb3⟩
  have hov := Lib.hid hov
  have hb3 := Lib.hid hb3
  go_wp2_with fail
  go_ret2
  exact ⟨_, rfl, hov.out.mono (by have := hbb.out.size; omega), bt hbb.out hb3.out⟩
theorem needing_any (n x N gm gw B : Nat) (p : Nat → Bool) (a b : Int) (w : World) (hNe : N = 2 ^ n) (hn : n ≤ 12) (hT : TabOk w) (hp : ∀ k, p k = (decide (a ≤ fN x k) && decide (fN x k ≤ b))) (ho : OwnI w B (.slice (some ⟨gm, 0, none⟩) N N) (sdL n x)) :
    Calls Tryd.prog 40 #[.agg #[.int .i64 n, .slice (some ⟨gm, 0, none⟩) N N, .slice (some ⟨gw, 0, none⟩) N N], .int .i64 a, .int .i64 b] w fun e w' => ∃ v, e = .returned v ∧ OwnT w' (w.heap.size + 1) v (sel n p N) ∧ Below w.heap.size w w' := by
  have hq : 2 ^ n ≤ 2 ^ 12 := Nat.pow_le_pow_right (by omega) hn
  refine needing_core n N gm gw (fN x) p a b w (by omega) (ho.lt gm rfl).2 hT (Lib.hid fun k hk => by rw [hNe] at hk ⊢; exact gray_lt n k hk) (Lib.hid fun k hk => ?_) (Lib.hid hp) (Lib.hid fun k w hk hw => barOfNumber_any n k w (by omega) (by omega) hw) (Lib.hid fun k w hk => text_any n (gray k) w ?_ (by omega))
  · have hg : gray k < (sdL n x).length := by rw [sdL_len]; exact gray_lt n k (by omega)
    have := (ho.cell (by rw [sdL_len, hNe]) (gray k) hg).1
    rw [sdL_gray] at this; exact this
  · have := gray_lt n k (by omega); omega
theorem sNear_no (s : ByteArray) (ok : Bool) (m : Int) (w : World) (h : ok = false ∨ (ok = true ∧ (m < 0 ∨ 6 < m))) (hG : Hid (∀ w, Calls Tryd.prog 33 #[.string s] w fun e w' => e = .returned (.bool ok) ∧ w = w')) :
    Calls Tryd.prog 21 #[.string s, .int .i64 m] w fun e w' => RetT w [] false e w' := by
  rcases h with rfl | ⟨rfl, h⟩
  · go_enter Tryd.func21, Tryd.ntmps21
    go_wp2_with fail
    refine (hG.out _).mono ?_; rintro e w1 ⟨rfl, rfl⟩
    go_wp2_with fail
    go_ret2
    exact ⟨_, rfl, OwnT.nil _ _, Below.refl _ _⟩
  · go_enter Tryd.func21, Tryd.ntmps21
    go_wp2_with fail
    refine (hG.out _).mono ?_; rintro e w1 ⟨rfl, rfl⟩
    go_wp2_with (go_at_call 42; refine (l1In_no _ _ _ _ (by omega)).mono ?_; rintro e w' ⟨rfl, rfl⟩)
    go_ret2
    exact ⟨_, rfl, OwnT.nil _ _, Below.refl _ _⟩
set_option maxRecDepth 100000 in
theorem sNear_core (s : ByteArray) (n N : Nat) (f : Nat → Int) (p : Nat → Bool) (m : Int) (ms : List Int) (w : World) (hs : s.size = n) (hn : n ≤ 12) (hN : N ≤ 4096) (h0 : 0 ≤ m) (h6 : m ≤ 6) (hml : ms.length = N)
    (hf : Hid (∀ k (h : k < ms.length), ms[k] = f k)) (hp : Hid (∀ k, p k = decide (f k ≤ m)))
    (hG : Hid (∀ w, Calls Tryd.prog 33 #[.string s] w fun e w' => e = .returned (.bool true) ∧ w = w'))
    (hF : Hid (∀ w, Calls Tryd.prog 34 #[.string s] w fun e w' => ∃ gm gw, e = .returned (.tuple #[.slice (some ⟨gm, 0, none⟩) N N, .slice (some ⟨gw, 0, none⟩) N N]) ∧ OwnI w' w.heap.size (.slice (some ⟨gm, 0, none⟩) N N) ms ∧ Below w.heap.size w w'))
    (hRS : Hid (∀ k w, k < N → Calls Tryd.prog 36 #[.int .i64 n, .int .i64 (k : Int)] w fun e w' => e = .returned (.string (ST n (gray k))) ∧ ∃ q, w' = w.drewN q)) :
    Calls Tryd.prog 21 #[.string s, .int .i64 m] w fun e w' => RetT w (sel n p N) true e w' := by
  go_enter Tryd.func21, Tryd.ntmps21
  go_wp2_with fail
  refine (hG.out _).mono ?_; rintro e w1 ⟨rfl, rfl⟩
  go_wp2_with (go_at_call 42; refine (l1In_yes _ _ _ _ (by omega) (by omega)).mono ?_; rintro e w' ⟨rfl, rfl⟩)
  refine (hF.out _).mono ?_; rintro e w2 ⟨gm, gw, rfl, hof, hb2⟩
  have hgl := (hof.lt gm rfl).2
  have hof := Lib.hid hof
  have hb2 := Lib.hid hb2
  go_wp2_with fail
  go_loopw [8, 26] (fun o i wr => ∃ k : Nat, k ≤ N ∧ i = .int .i64 k ∧ Hid (OwnT wr w2.heap.size o (sel n p k)) ∧ Hid (Below w2.heap.size w2 wr)) (fun _ i _ => N - (intOf i).toNat)
  case atStart => exact ⟨0, Nat.zero_le _, rfl, OwnT.nil _ _, Below.refl _ _⟩
  case round =>
    obtain ⟨k, hk, rfl, ho, hb⟩ := hrel
    by_cases hlt : k < N
    · have hkm : k < ms.length := by rw [hml]; exact hlt
      obtain ⟨e0, _⟩ := hof.out.cell hml k hkm
      have c0 := (hb.out.cell (p := ⟨gm, k, none⟩) hgl).trans e0
      rw [hf.out k hkm] at c0
      have hpk := hp.out k
      have hln := sel_len n p k
      have hSt := Lib.hid (hRS.out k · hlt)
      obtain ⟨st, hst⟩ : ∃ st, Hid (st = ST n (gray k)) := ⟨_, Lib.hid rfl⟩
      rw [← hst.out] at hSt
      obtain ⟨d, hd⟩ : ∃ d, Hid (d = f k) := ⟨_, Lib.hid rfl⟩
      rw [← hd.out] at hpk c0
      have hsy := Lib.hid (fun h => sel_yes n p k h)
      have hsn := Lib.hid (fun h => sel_no n p k h)
      rw [← hst.out] at hsy
      have hpk := Lib.hid hpk
      clear e0
      by_cases h1 : d ≤ m
      · have hY := Lib.hid (hsy.out (by rw [hpk.out]; simp [h1]))
        skip
        have hsw := hb.out.size
        go_wp2_with fail
        refine (hSt.out _).mono ?_; rintro e w4 ⟨rfl, q4, rfl⟩
        obtain ⟨W4, hW4⟩ : ∃ W4, W4 = wr.drewN q4 := ⟨_, rfl⟩
        have ho4 := Lib.hid (ho.out.drewN q4)
        have hb4 := Lib.hid (below_drewN hb.out q4)
        rw [← hW4] at ho4 hb4
        rw [← hW4]
        clear hW4
        have hs4 := hb4.out.size
        go_wp2_with (at_builtin; refine app_txt _ rfl _ _ rfl w2.heap.size _ _ rfl (ho4.out.alloc _) W4.heap.size st rfl (by simp) (by omega) (by simp; omega) ?_; intro v' w' ho' hg')
        have ho5 := Lib.hid ho'
        have hg5 := Lib.hid hg'
        clear ho' hg'
        go_roundw
        case rel =>
          refine ⟨k + 1, by omega, by go_num, Lib.hid ?_, Lib.hid ?_⟩
          · rw [hY.out]; exact ho5.out
          · exact bel_ownT (hb4.out.alloc hb4.out.size _) (ho4.out.alloc _) hg5.out (by simp; omega)
        all_goals (simp [intOf] <;> omega)
      · have hY := Lib.hid (hsn.out (by rw [hpk.out]; simp [h1]))
        have h1' : decide (d ≤ m) = false := by simp [h1]
        go_wp2_with fail
        go_roundw
        case rel => exact ⟨k + 1, by omega, by go_num, Lib.hid (by rw [hY.out]; exact ho.out), hb⟩
        all_goals (simp [intOf] <;> omega)
    · obtain rfl : N = k := by omega
      go_wp2_with fail
      go_ret2
      exact ⟨_, rfl, ho.out.mono hb2.out.size, bt hb2.out hb.out⟩

/-- the greatest of the numbers below k, from 0 on -/
def mxs (f : Nat → Int) : Nat → Int
  | 0 => 0
  | k + 1 => max (mxs f k) (f k)
/-- the greatest of the numbers up to k -/
def mxF (g : Nat → Int) : Nat → Int
  | 0 => g 0
  | k + 1 => max (mxF g k) (g (k + 1))
theorem mxs_ge (f : Nat → Int) : ∀ k i, i < k → f i ≤ mxs f k := by
  intro k
  induction k with
  | zero => intro i h; omega
  | succ k ih =>
    intro i h
    show f i ≤ max (mxs f k) (f k)
    by_cases e : i = k
    · subst e; omega
    · have := ih i (by omega); omega
theorem mxs_at (f : Nat → Int) (h0 : ∀ i, 0 ≤ f i) : ∀ k, 0 < k → ∃ i, i < k ∧ mxs f k = f i := by
  intro k
  induction k with
  | zero => intro h; omega
  | succ k ih =>
    intro _
    show ∃ i, i < k + 1 ∧ max (mxs f k) (f k) = f i
    by_cases e : mxs f k ≤ f k
    · exact ⟨k, by omega, by omega⟩
    · by_cases hk : 0 < k
      · obtain ⟨i, hi, e2⟩ := ih hk
        exact ⟨i, by omega, by omega⟩
      · obtain rfl : k = 0 := by omega
        have : mxs f 0 = 0 := rfl
        have := h0 0
        omega
theorem mxF_ge (g : Nat → Int) : ∀ k i, i ≤ k → g i ≤ mxF g k := by
  intro k
  induction k with
  | zero => intro i h; obtain rfl : i = 0 := by omega
            exact Int.le_refl _
  | succ k ih =>
    intro i h
    show g i ≤ max (mxF g k) (g (k + 1))
    by_cases e : i = k + 1
    · subst e; omega
    · have := ih i (by omega); omega
theorem mxF_at (g : Nat → Int) : ∀ k, ∃ i, i ≤ k ∧ mxF g k = g i := by
  intro k
  induction k with
  | zero => exact ⟨0, by omega, rfl⟩
  | succ k ih =>
    show ∃ i, i ≤ k + 1 ∧ max (mxF g k) (g (k + 1)) = g i
    by_cases e : mxF g k ≤ g (k + 1)
    · exact ⟨k + 1, by omega, by omega⟩
    · obtain ⟨i, hi, e2⟩ := ih
      exact ⟨i, by omega, by omega⟩
theorem mx_eq (f g : Nat → Int) (N : Nat) (hN : 0 < N) (h0 : ∀ i, 0 ≤ f i) (hg : ∀ y, y < N → ∃ i, i < N ∧ g y = f i) (hf : ∀ i, i < N → ∃ y, y < N ∧ f i = g y) : mxF g (N - 1) = mxs f N := by
  obtain ⟨i, hi, e1⟩ := mxs_at f h0 N hN
  obtain ⟨y, hy, e2⟩ := mxF_at g (N - 1)
  obtain ⟨y', hy', e3⟩ := hf i hi
  obtain ⟨i', hi', e4⟩ := hg y (by omega)
  have a := mxF_ge g (N - 1) y' (by omega)
  have b := mxs_ge f N i' hi'
  omega
theorem max_any (gm cap B N : Nat) (ms : List Int) (g : Nat → Int) (w : World) (hN : N ≤ 4096) (h1 : 1 ≤ N) (hml : ms.length = N) (hg : Hid (∀ k (h : k < ms.length), ms[k] = g k)) (ho : OwnI w B (.slice (some ⟨gm, 0, none⟩) N cap) ms) :
    Calls Tryd.prog 39 #[.slice (some ⟨gm, 0, none⟩) N cap] w fun e w' => e = .returned (.int .i64 (mxF g (N - 1))) ∧ w = w' := by
  have e0 := (ho.cell hml 0 (by omega)).1
  rw [hg.out] at e0
  have ho := Lib.hid ho
  obtain ⟨a0, ha0⟩ : ∃ a0, Hid (a0 = g 0) := ⟨_, Lib.hid rfl⟩
  rw [← ha0.out] at e0
  go_enter Tryd.func39, Tryd.ntmps39
  go_wp2_with fail
  go_loop [3, 4] (fun m i => ∃ k : Nat, 1 ≤ k ∧ k ≤ N ∧ i = .int .i64 k ∧ m = .int .i64 (mxF g (k - 1))) (fun _ i => N - (intOf i).toNat)
  case atStart => exact ⟨1, by omega, by omega, rfl, by rw [ha0.out]; rfl⟩
  case round =>
    obtain ⟨k, hk1, hk, rfl, rfl⟩ := hrel
    by_cases hlt : k < N
    · have hkm : k < ms.length := by rw [hml]; exact hlt
      have c0 := (ho.out.cell hml k hkm).1
      rw [hg.out] at c0
      have hst : Hid (mxF g (k + 1 - 1) = max (mxF g (k - 1)) (g k)) := Lib.hid (by
        obtain ⟨j, rfl⟩ : ∃ j, k = j + 1 := ⟨k - 1, by omega⟩
        rfl)
      obtain ⟨a1, ha1⟩ : ∃ a1, Hid (a1 = mxF g (k - 1)) := ⟨_, Lib.hid rfl⟩
      obtain ⟨b1, hb1⟩ : ∃ b1, Hid (b1 = g k) := ⟨_, Lib.hid rfl⟩
      rw [← hb1.out, ← ha1.out] at hst
      rw [← hb1.out] at c0
      rw [← ha1.out]
      clear e0
      go_wp2_with fail
      go_round
      case rel => exact ⟨k + 1, by omega, by omega, by go_num, by rw [hst.out]⟩
      all_goals (simp [intOf] <;> omega)
    · obtain rfl : N = k := by omega
      clear e0
      go_wp2_with fail
      go_ret; exact ⟨rfl, rfl⟩
theorem iFarB_no (s : ByteArray) (w : World) (hT : TabOk w)
    (hB : Hid (∀ w, TabOk w → Calls Tryd.prog 37 #[.string s] w fun e w' => e = .returned (.tuple #[(.agg #[.int .i64 ((ctz (0) : Nat) : Int), .bool (onB (0)), .int .i64 ((0 : Nat) : Int), .int .u64 ((0 : Nat) : Int)]), .bool false]) ∧ Below w.heap.size w w')) :
    Calls Tryd.prog 17 #[.string s] w fun e w' => RetF w [] 0 false e w' := by
  have hT := Lib.hid hT
  go_enter Tryd.func17, Tryd.ntmps17
  go_wp2_with fail
  refine (hB.out _ hT.out).mono ?_; rintro e w1 ⟨rfl, hb⟩
  have hb := Lib.hid hb
  go_wp2_with fail
  go_ret3; exact ⟨_, rfl, OwnT.nil _ _, bt hb.out (ba _ _)⟩
theorem iFarB_yes (s : ByteArray) (n x N : Nat) (D : Int) (xs : List ByteArray) (w : World) (hT : TabOk w)
    (hB : Hid (∀ w, TabOk w → Calls Tryd.prog 37 #[.string s] w fun e w' => e = .returned (.tuple #[(.agg #[.int .i64 ((ctz (x) : Nat) : Int), .bool (onB (x)), .int .i64 ((n : Nat) : Int), .int .u64 ((x : Nat) : Int)]), .bool true]) ∧ Below w.heap.size w w'))
    (hS : Hid (∀ w, TabOk w → Calls Tryd.prog 38 #[(.agg #[.int .i64 ((ctz (x) : Nat) : Int), .bool (onB (x)), .int .i64 ((n : Nat) : Int), .int .u64 ((x : Nat) : Int)])] w fun e w' => ∃ gm gw, e = .returned (.agg #[.int .i64 n, .slice (some ⟨gm, 0, none⟩) N N, .slice (some ⟨gw, 0, none⟩) N N]) ∧ OwnI w' w.heap.size (.slice (some ⟨gm, 0, none⟩) N N) (sdL n x) ∧ Below w.heap.size w w'))
    (hMx : Hid (∀ gm B w, OwnI w B (.slice (some ⟨gm, 0, none⟩) N N) (sdL n x) → Calls Tryd.prog 39 #[.slice (some ⟨gm, 0, none⟩) N N] w fun e w' => e = .returned (.int .i64 D) ∧ w = w'))
    (hNd : Hid (∀ gm gw B w, TabOk w → OwnI w B (.slice (some ⟨gm, 0, none⟩) N N) (sdL n x) → Calls Tryd.prog 40 #[.agg #[.int .i64 n, .slice (some ⟨gm, 0, none⟩) N N, .slice (some ⟨gw, 0, none⟩) N N], .int .i64 D, .int .i64 D] w fun e w' => ∃ v, e = .returned v ∧ OwnT w' (w.heap.size + 1) v xs ∧ Below w.heap.size w w')) :
    Calls Tryd.prog 17 #[.string s] w fun e w' => RetF w xs D true e w' := by
  have hT := Lib.hid hT
  go_enter Tryd.func17, Tryd.ntmps17
  go_wp2_with fail
  refine (hB.out _ hT.out).mono ?_; rintro e w1 ⟨rfl, hb⟩
  have hT1 := Lib.hid (hT.out.below hb)
  have hb := Lib.hid hb
  go_wp2_with fail
  refine (hS.out _ (hT1.out.alloc _)).mono ?_; rintro e w2 ⟨gm, gw, rfl, ho, hb2⟩
  have hT2 := Lib.hid ((hT1.out.alloc _).below hb2)
  have ho2 := Lib.hid (ho.below (ba w2 (fndO n N gm gw)))
  have hbb := Lib.hid (bt (bt hb.out (ba _ _)) hb2)
  have hb2 := Lib.hid hb2
  clear ho
  go_wp2_with fail
  refine (hMx.out gm _ _ ho2.out).mono ?_; rintro e w3 ⟨rfl, rfl⟩
  go_wp2_with fail
  refine (hNd.out gm gw _ _ (hT2.out.alloc _) ho2.out).mono ?_; rintro e w3 ⟨v, rfl, hov, hb3⟩
  have hov := Lib.hid hov
  have hb3 := Lib.hid hb3
  go_wp2_with fail
  go_ret3
  exact ⟨_, rfl, hov.out.mono (by have := hbb.out.size; simp; omega), bt (bt hbb.out (ba _ _)) hb3.out⟩
theorem sFarB_no (s : ByteArray) (w : World) (hG : Hid (∀ w, Calls Tryd.prog 33 #[.string s] w fun e w' => e = .returned (.bool false) ∧ w = w')) :
    Calls Tryd.prog 16 #[.string s] w fun e w' => RetF w [] 0 false e w' := by
  go_enter Tryd.func16, Tryd.ntmps16
  go_wp2_with fail
  refine (hG.out _).mono ?_; rintro e w1 ⟨rfl, rfl⟩
  go_wp2_with fail
  go_ret3
  exact ⟨_, rfl, OwnT.nil _ _, Below.refl _ _⟩
set_option maxRecDepth 100000 in
theorem sFarB_core (s : ByteArray) (n N : Nat) (f : Nat → Int) (p : Nat → Bool) (D : Int) (ms : List Int) (w : World) (hs : s.size = n) (hn : n ≤ 12) (hN : N ≤ 4096) (hml : ms.length = N)
    (hf : Hid (∀ k (h : k < ms.length), ms[k] = f k)) (hD : Hid (mxs f N = D)) (hp : Hid (∀ k, p k = decide (f k = D)))
    (hG : Hid (∀ w, Calls Tryd.prog 33 #[.string s] w fun e w' => e = .returned (.bool true) ∧ w = w'))
    (hF : Hid (∀ w, Calls Tryd.prog 34 #[.string s] w fun e w' => ∃ gm gw, e = .returned (.tuple #[.slice (some ⟨gm, 0, none⟩) N N, .slice (some ⟨gw, 0, none⟩) N N]) ∧ OwnI w' w.heap.size (.slice (some ⟨gm, 0, none⟩) N N) ms ∧ Below w.heap.size w w'))
    (hRS : Hid (∀ k w, k < N → Calls Tryd.prog 36 #[.int .i64 n, .int .i64 (k : Int)] w fun e w' => e = .returned (.string (ST n (gray k))) ∧ ∃ q, w' = w.drewN q)) :
    Calls Tryd.prog 16 #[.string s] w fun e w' => RetF w (sel n p N) D true e w' := by
  go_enter Tryd.func16, Tryd.ntmps16
  go_wp2_with fail
  refine (hG.out _).mono ?_; rintro e w1 ⟨rfl, rfl⟩
  go_wp2_with fail
  refine (hF.out _).mono ?_; rintro e w2 ⟨gm, gw, rfl, hof, hb2⟩
  have hgl := (hof.lt gm rfl).2
  have hof := Lib.hid hof
  have hb2 := Lib.hid hb2
  go_wp2_with fail
  go_loop [7, 23] (fun m i => ∃ k : Nat, k ≤ N ∧ i = .int .i64 k ∧ m = .int .i64 (mxs f k)) (fun _ i => N - (intOf i).toNat)
  case atStart => exact ⟨0, Nat.zero_le _, rfl, rfl⟩
  case round =>
    obtain ⟨k, hk, rfl, rfl⟩ := hrel
    by_cases hlt : k < N
    · have hkm : k < ms.length := by rw [hml]; exact hlt
      have c0 := (hof.out.cell hml k hkm).1
      rw [hf.out k hkm] at c0
      have hst : Hid (mxs f (k + 1) = max (mxs f k) (f k)) := Lib.hid rfl
      obtain ⟨a1, ha1⟩ : ∃ a1, Hid (a1 = mxs f k) := ⟨_, Lib.hid rfl⟩
      obtain ⟨b1, hb1⟩ : ∃ b1, Hid (b1 = f k) := ⟨_, Lib.hid rfl⟩
      rw [← hb1.out, ← ha1.out] at hst
      rw [← hb1.out] at c0
      rw [← ha1.out]
      go_wp2_with (go_at_call 35; refine (l1Most_any _ _ _).mono ?_; rintro e w' ⟨rfl, rfl⟩)
      go_round
      case rel => exact ⟨k + 1, by omega, by go_num, by rw [hst.out]⟩
      all_goals (simp [intOf] <;> omega)
    · obtain rfl : N = k := by omega
      rw [hD.out]
      go_wp2_with fail
      go_loopw [10, 33] (fun o i wr => ∃ k : Nat, k ≤ N ∧ i = .int .i64 k ∧ Hid (OwnT wr w2.heap.size o (sel n p k)) ∧ Hid (Below w2.heap.size w2 wr)) (fun _ i _ => N - (intOf i).toNat)
      case atStart => exact ⟨0, Nat.zero_le _, rfl, OwnT.nil _ _, Below.refl _ _⟩
      case round =>
        obtain ⟨k, hk, rfl, ho, hb⟩ := hrel
        by_cases hlt : k < N
        · have hkm : k < ms.length := by rw [hml]; exact hlt
          obtain ⟨e0, _⟩ := hof.out.cell hml k hkm
          have c0 := (hb.out.cell (p := ⟨gm, k, none⟩) hgl).trans e0
          rw [hf.out k hkm] at c0
          have hpk := hp.out k
          have hln := sel_len n p k
          have hSt := Lib.hid (hRS.out k · hlt)
          obtain ⟨st, hst⟩ : ∃ st, Hid (st = ST n (gray k)) := ⟨_, Lib.hid rfl⟩
          rw [← hst.out] at hSt
          obtain ⟨d, hd⟩ : ∃ d, Hid (d = f k) := ⟨_, Lib.hid rfl⟩
          rw [← hd.out] at hpk c0
          have hsy := Lib.hid (fun h => sel_yes n p k h)
          have hsn := Lib.hid (fun h => sel_no n p k h)
          rw [← hst.out] at hsy
          have hpk := Lib.hid hpk
          clear e0
          by_cases h1 : d = D
          · have hY := Lib.hid (hsy.out (by rw [hpk.out]; simp [h1]))
            have h1' : (d == D) = true := by simp [h1]
            have hsw := hb.out.size
            go_wp2_with fail
            refine (hSt.out _).mono ?_; rintro e w4 ⟨rfl, q4, rfl⟩
            obtain ⟨W4, hW4⟩ : ∃ W4, W4 = wr.drewN q4 := ⟨_, rfl⟩
            have ho4 := Lib.hid (ho.out.drewN q4)
            have hb4 := Lib.hid (below_drewN hb.out q4)
            rw [← hW4] at ho4 hb4
            rw [← hW4]
            clear hW4
            have hs4 := hb4.out.size
            go_wp2_with (at_builtin; refine app_txt _ rfl _ _ rfl w2.heap.size _ _ rfl (ho4.out.alloc _) W4.heap.size st rfl (by simp) (by omega) (by simp; omega) ?_; intro v' w' ho' hg')
            have ho5 := Lib.hid ho'
            have hg5 := Lib.hid hg'
            clear ho' hg'
            go_roundw
            case rel =>
              refine ⟨k + 1, by omega, by go_num, Lib.hid ?_, Lib.hid ?_⟩
              · rw [hY.out]; exact ho5.out
              · exact bel_ownT (hb4.out.alloc hb4.out.size _) (ho4.out.alloc _) hg5.out (by simp; omega)
            all_goals (simp [intOf] <;> omega)
          · have hY := Lib.hid (hsn.out (by rw [hpk.out]; simp [h1]))
            have h1' : (d == D) = false := by simp [h1]
            go_wp2_with fail
            go_roundw
            case rel => exact ⟨k + 1, by omega, by go_num, Lib.hid (by rw [hY.out]; exact ho.out), hb⟩
            all_goals (simp [intOf] <;> omega)
        · obtain rfl : N = k := by omega
          go_wp2_with fail
          go_ret3
          exact ⟨_, rfl, ho.out.mono hb2.out.size, bt hb2.out hb.out⟩
end Go.Proofs.YtmbijomjilicgabDoor
