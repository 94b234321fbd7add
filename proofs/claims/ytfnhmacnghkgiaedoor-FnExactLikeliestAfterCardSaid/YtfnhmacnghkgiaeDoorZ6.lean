/- Chapter 7: rows of bars, of numbers of states with so many rings on, both ways. -/
import Derived.Test.YtfnhmacnghkgiaeDoorZ4
namespace Go.Proofs.YtfnhmacnghkgiaeDoor
open Go Go.RowKit RM
theorem ctz_z : ctz 0 = 0 := by rw [ctz]; simp
theorem onB_z : onB 0 = false := by simp [onB]
/-- a bar as an element of a row -/
def brE : Elt (Nat × Nat) where
  e := 47
  n := 4
  bytes := 32
  z := .agg #[.int .i64 0, .bool false, .int .i64 0, .int .u64 0]
  d := (0, 0)
  cells p := [.int .i64 ((ctz p.2 : Nat) : Int), .bool (onB p.2), .int .i64 ((p.1 : Nat) : Int), .int .u64 ((p.2 : Nat) : Int)]
  len _ := rfl
  one x u hu := by simp at hu; rcases hu with rfl | rfl | rfl | rfl <;> rfl
  pos := by decide
  zs := by rw [ctz_z, onB_z]; rfl
  info := by kernel_rfl
  small := by decide
theorem app_br (w : World) {ops : Array Oper} {rest : List Oper} {o : Oper} {a : Act} {Q : Exit → Act → World → Prop} (hgd : o.guard = none) (s x : Operand)
    (ho : o.op = .call { callee := .builtin .append, args := #[s, x], argTypes := #[40, 40] })
    (B : Nat) (v : Value) (xs : List (Nat × Nat)) (hs : a.eval s = v) (hown : OwnG brE w B v xs) (g n y : Nat) (hx : a.eval x = .slice (some ⟨g, 0, none⟩) 1 1)
    (hcell : w.heap[g]? = some (barO n y)) (hlen : xs.length ≤ 1000000) (hB : B ≤ w.heap.size)
    (h : ∀ v' w', OwnG brE w' B v' (xs ++ [(n, y)]) → w.grownBy w' v.ownBlock → wpList Tryd.prog ops Q rest (a.put o.dst v') w') : wpList Tryd.prog ops Q (o :: rest) a w := by
  obtain ⟨⟨c0, c1, c2, c3⟩, _⟩ := bar_cells hcell
  refine app_G w hgd s x 40 ho Tryd.underlying40 B v xs hs hown g (n, y) hx (fun o u hu => ?_) hlen hB (fun v' w' h1 h2 _ => h v' w' h1 h2)
  match o, hu with
  | 0, hu => simp [brE] at hu; subst hu; exact c0
  | 1, hu => simp [brE] at hu; subst hu; exact c1
  | 2, hu => simp [brE] at hu; subst hu; exact c2
  | 3, hu => simp [brE] at hu; subst hu; exact c3
  | o + 4, hu => simp [brE] at hu
/-- the bars of n rings with these numbers -/
def brL (n : Nat) (xs : List Nat) : List (Nat × Nat) := xs.map fun m => (n, gray m)
theorem brL_len (n : Nat) (xs : List Nat) : (brL n xs).length = xs.length := by unfold brL; simp
theorem brL_snoc (n m : Nat) (xs : List Nat) : brL n xs ++ [(n, gray m)] = brL n (xs ++ [m]) := by unfold brL; simp
def nI (xs : List Nat) : List Int := xs.map fun (m : Nat) => (m : Int)
theorem nI_len (xs : List Nat) : (nI xs).length = xs.length := by unfold nI; simp
theorem nI_snoc (m : Nat) (xs : List Nat) : nI xs ++ [(m : Int)] = nI (xs ++ [m]) := by unfold nI; simp
/-- whether there are rings for walks, and so many that are on -/
def wonB (n k : Int) : Bool := decide (1 ≤ n) && decide (n ≤ 12) && decide (0 ≤ k) && decide (k ≤ n)
theorem won_cases (n k : Int) : wonB n k = false ∨ ∃ m j : Nat, n = (m : Int) ∧ k = (j : Int) ∧ 1 ≤ m ∧ m ≤ 12 ∧ j ≤ m := by
  by_cases h : wonB n k = true
  · right
    unfold wonB at h
    simp at h
    exact ⟨n.toNat, k.toNat, by omega, by omega, by omega, by omega, by omega⟩
  · left; simpa using h
theorem isWalk_any (n : Int) (w : World) (b : Bool) (h : (decide (1 ≤ n) && decide (n ≤ 12)) = b) : Calls Tryd.prog 51 #[.int .i64 n] w fun e w' => e = .returned (.bool b) ∧ w = w' := by
  subst h
  by_cases h1 : 1 ≤ n
  · have d1 : decide (1 ≤ n) = true := by simpa using h1
    by_cases h2 : n ≤ 12
    · have d2 : decide (n ≤ 12) = true := by simpa using h2
      go_enter Tryd.func51, Tryd.ntmps51
      go_wp2_with fail
      go_ret; exact ⟨ret_bool (by simp [*]), rfl⟩
    · have d2 : decide (n ≤ 12) = false := by simpa using h2
      go_enter Tryd.func51, Tryd.ntmps51
      go_wp2_with fail
      go_ret; exact ⟨ret_bool (by simp [*]), rfl⟩
  · have d1 : decide (1 ≤ n) = false := by simpa using h1
    go_enter Tryd.func51, Tryd.ntmps51
    go_wp2_with fail
    go_ret; exact ⟨ret_bool (by simp [*]), rfl⟩
set_option maxRecDepth 100000 in
theorem bars_no (n k : Int) (w : World) (h : wonB n k = false) : Calls Tryd.prog 24 #[.int .i64 n, .int .i64 k] w fun e w' => e = .returned (.tuple #[.slice none 0 0, .bool false]) ∧ w = w' := by
  obtain ⟨b, hb⟩ : ∃ b, (decide (1 ≤ n) && decide (n ≤ 12)) = b := ⟨_, rfl⟩
  have hI := Lib.hid fun w => isWalk_any n w b hb
  cases b
  · go_enter Tryd.func24, Tryd.ntmps24
    go_wp2_with fail
    refine (hI.out _).mono ?_; rintro e w' ⟨rfl, rfl⟩
    go_wp2_with fail
    go_ret2
    exact ⟨rfl, rfl⟩
  · have hb' := hb
    simp at hb'
    unfold wonB at h
    rw [hb] at h
    simp at h
    by_cases h1 : k < 0
    · have d1 : decide (k < 0) = true := by simpa using h1
      clear h
      go_enter Tryd.func24, Tryd.ntmps24
      go_wp2_with fail
      refine (hI.out _).mono ?_; rintro e w' ⟨rfl, rfl⟩
      go_wp2_with fail
      go_ret2
      exact ⟨rfl, rfl⟩
    · have d1 : decide (k < 0) = false := by simpa using h1
      have d2 : decide (n < k) = true := by have := h (by omega); simpa using this
      clear h
      go_enter Tryd.func24, Tryd.ntmps24
      go_wp2_with fail
      refine (hI.out _).mono ?_; rintro e w' ⟨rfl, rfl⟩
      go_wp2_with fail
      go_ret2
      exact ⟨rfl, rfl⟩
set_option maxRecDepth 100000 in
set_option maxHeartbeats 2000000 in
theorem bars_yes (n k N : Nat) (L : Nat → List Nat) (w : World) (hn : n ≤ 12) (hk : k ≤ n) (hN2 : N ≤ 4096) (h0 : Hid (L 0 = []))
    (hI : Hid (∀ w, Calls Tryd.prog 51 #[.int .i64 n] w fun e w' => e = .returned (.bool true) ∧ w = w'))
    (hG : Hid (∀ w, Calls Tryd.prog 52 #[.int .i64 n] w fun e w' => e = .returned (.int .i64 ((N : Int) - 1)) ∧ w = w'))
    (hB : Hid (∀ w m, m < N → TabOk w → Calls Tryd.prog 41 #[.int .i64 n, .int .i64 m] w fun e w' => e = .returned (.agg #[.int .i64 ((ctz (gray m) : Nat) : Int), .bool (onB (gray m)), .int .i64 ((n : Nat) : Int), .int .u64 ((gray m : Nat) : Int)]) ∧ Below w.heap.size w w'))
    (hC : Hid (∀ w m, m < N → Calls Tryd.prog 47 #[(.agg #[.int .i64 ((ctz (gray m) : Nat) : Int), .bool (onB (gray m)), .int .i64 ((n : Nat) : Int), .int .u64 ((gray m : Nat) : Int)])] w fun e w' => e = .returned (.int .i64 (pop (gray m) : Nat)) ∧ Below w.heap.size w w'))
    (hy : Hid (∀ m, pop (gray m) = k → L (m + 1) = L m ++ [m])) (hno : Hid (∀ m, pop (gray m) ≠ k → L (m + 1) = L m)) (hlen : Hid (∀ m, (L m).length ≤ m)) (hT : TabOk w) :
    Calls Tryd.prog 24 #[.int .i64 n, .int .i64 k] w fun e w' => ∃ v, e = .returned (.tuple #[v, .bool true]) ∧ OwnG brE w' w.heap.size v (brL n (L N)) ∧ Below w.heap.size w w' := by
  have hT := Lib.hid hT
  have d1 : decide ((n : Int) < (k : Int)) = false := by simp; omega
  go_enter Tryd.func24, Tryd.ntmps24
  go_wp2_with fail
  refine (hI.out _).mono ?_; rintro e w' ⟨rfl, rfl⟩
  go_wp2_with fail
  refine (hG.out _).mono ?_; rintro e w' ⟨rfl, rfl⟩
  go_wp2_with fail
  go_loopw [6, 24] (fun o i wr => ∃ m : Nat, m ≤ N ∧ i = .int .i64 m ∧ Hid (OwnG brE wr w.heap.size o (brL n (L m))) ∧ Hid (Below w.heap.size w wr)) (fun _ i _ => N - (intOf i).toNat)
  case atStart => exact ⟨0, Nat.zero_le _, rfl, Lib.hid (by rw [h0.out]; exact OwnG.nil _ _), Lib.hid (Below.refl _ _)⟩
  case round =>
    obtain ⟨m, hm, rfl, ho, hb⟩ := hrel
    by_cases hlt : m < N
    · have hBm := Lib.hid fun w hw => hB.out w m hlt hw
      have hCm := Lib.hid fun w => hC.out w m hlt
      have hym := Lib.hid (hy.out m)
      have hnm := Lib.hid (hno.out m)
      have hlm := Lib.hid (hlen.out m)
      have hsn := Lib.hid (brL_snoc n m (L m))
      have hbl := Lib.hid (brL_len n (L m))
      generalize pop (gray m) = z at *
      generalize gray m = y at *
      go_wp2_with fail
      refine (hBm.out _ (hT.out.below hb.out)).mono ?_; rintro e w2 ⟨rfl, hb2⟩
      have ho2 := Lib.hid (ho.out.below hb2)
      replace hb2 := Lib.hid (bt1 hb.out hb2)
      go_wp2_with fail
      refine (hCm.out _).mono ?_; rintro e w3 ⟨rfl, hb3⟩
      have k3 : w3.heap[w2.heap.size]? = some (barO n y) := (hb3.block _ (by simp)).trans (hb_new _ _)
      obtain ⟨⟨c0, c1, c2, c3⟩, _⟩ := bar_cells k3
      have ho3 := Lib.hid ((ho2.out.below (ba1 _ _)).below hb3)
      replace hb3 := Lib.hid (bt1 (bt1 hb2.out (ba1 _ _)) hb3)
      have k3 := Lib.hid k3
      by_cases hz : z = k
      · have hS := Lib.hid (hym.out hz)
        have d3 : ((z : Int) == (k : Int)) = true := by simp; omega
        go_wp2_with (at_builtin; refine app_br _ rfl _ _ rfl w.heap.size _ _ rfl (ho3.out.below (ba1 _ _)) w3.heap.size n y rfl (hb_new _ _) (by have := hlm.out; have := hbl.out; omega) (by have := hb3.out.size; simp; omega) ?_; intro v' w7 ho7 hg7; have hb7 := Lib.hid (bel_ownG (bt1 hb3.out (ba1 _ _)) (ho3.out.below (ba1 _ _)) hg7 (by have := hb3.out.size; simp; omega)); replace ho7 := Lib.hid ho7; clear hg7)
        go_roundw
        case rel => exact ⟨m + 1, by omega, by go_num, Lib.hid (by rw [hS.out, ← hsn.out]; exact ho7.out), hb7⟩
        all_goals (simp [intOf] <;> omega)
      · have hS := Lib.hid (hnm.out hz)
        have d3 : ((z : Int) == (k : Int)) = false := by simp; omega
        go_wp2_with fail
        go_roundw
        case rel => exact ⟨m + 1, by omega, by go_num, Lib.hid (by rw [hS.out]; exact ho3.out), hb3⟩
        all_goals (simp [intOf] <;> omega)
    · obtain rfl : m = N := by omega
      go_wp2_with fail
      go_ret2
      exact ⟨_, rfl, ho.out, hb.out⟩
theorem bars_any (n k : Nat) (w : World) (h1 : 1 ≤ n) (hn : n ≤ 12) (hk : k ≤ n) (hT : TabOk w) :
    Calls Tryd.prog 24 #[.int .i64 n, .int .i64 k] w fun e w' => ∃ v, e = .returned (.tuple #[v, .bool true]) ∧ OwnG brE w' w.heap.size v (brL n (onL k (2 ^ n))) ∧ Below w.heap.size w w' := by
  have hp := Nat.pow_le_pow_right (n := 2) (by omega) hn
  have h2 := pow_pos1 n
  refine bars_yes n k (2 ^ n) (onL k) w hn hk hp (Lib.hid rfl) (Lib.hid fun w => isWalk_any n w true (by simp; omega)) (Lib.hid fun w => ?_) (Lib.hid fun w m hm hw => barOfNumber_any n m w (by omega) (by omega) hw) (Lib.hid fun w m hm => countOn_any n (gray m) w (gray_lt 20 m (by omega))) (Lib.hid fun m h => onL_yes k m h) (Lib.hid fun m h => onL_no k m h) (Lib.hid fun m => onL_len k m) hT
  have := greatest_any n w (by omega)
  rw [show ((2 ^ n - 1 : Nat) : Int) = ((2 ^ n : Nat) : Int) - 1 from by omega] at this
  exact this

theorem waRings_any (n : Int) (w : World) (b : Bool) (h : (decide (1 ≤ n) && decide (n ≤ 12)) = b) : Calls Tryd.prog 49 #[.int .i64 n] w fun e w' => e = .returned (.bool b) ∧ w = w' := by
  have hL : Hid (∀ w, Calls Tryd.prog 50 #[.int .i64 n, .int .i64 1, .int .i64 12] w fun e w' => e = .returned (.bool b) ∧ w = w') := Lib.hid fun w => by
    cases b
    · exact l1In_no n 1 12 w (by simp at h; omega)
    · simp at h; exact l1In_yes n 1 12 w h.1 h.2
  clear h
  go_enter Tryd.func49, Tryd.ntmps49
  go_wp2_with fail
  refine (hL.out _).mono ?_; rintro e w' ⟨rfl, rfl⟩
  go_wp2_with fail
  go_ret; exact ⟨rfl, rfl⟩
theorem waOn_any (n k : Int) (w : World) (b : Bool) (h : wonB n k = b) : Calls Tryd.prog 21 #[.int .i64 n, .int .i64 k] w fun e w' => e = .returned (.bool b) ∧ w = w' := by
  obtain ⟨c, hc⟩ : ∃ c, (decide (1 ≤ n) && decide (n ≤ 12)) = c := ⟨_, rfl⟩
  have hR := Lib.hid fun w => waRings_any n w c hc
  unfold wonB at h
  rw [hc] at h
  cases c
  · simp at h; subst h
    go_enter Tryd.func21, Tryd.ntmps21
    go_wp2_with fail
    refine (hR.out _).mono ?_; rintro e w' ⟨rfl, rfl⟩
    go_wp2_with fail
    go_ret; exact ⟨rfl, rfl⟩
  · have hL : Hid (∀ w, Calls Tryd.prog 50 #[.int .i64 k, .int .i64 0, .int .i64 n] w fun e w' => e = .returned (.bool b) ∧ w = w') := Lib.hid fun w => by
      cases b
      · exact l1In_no k 0 n w (by simp at h; omega)
      · simp at h; exact l1In_yes k 0 n w h.1 h.2
    clear h hc
    go_enter Tryd.func21, Tryd.ntmps21
    go_wp2_with fail
    refine (hR.out _).mono ?_; rintro e w' ⟨rfl, rfl⟩
    go_wp2_with fail
    refine (hL.out _).mono ?_; rintro e w' ⟨rfl, rfl⟩
    go_wp2_with fail
    go_ret; exact ⟨rfl, rfl⟩
set_option maxRecDepth 100000 in
theorem with_yes (n k N : Nat) (L : Nat → List Nat) (w : World) (hn : n ≤ 12) (hk : k ≤ n) (hP : (2 : Int) ^ n = (N : Int)) (hN2 : N ≤ 4096) (h0 : Hid (L 0 = []))
    (hS : Hid (∀ w m, m < N → Calls Tryd.prog 23 #[.int .i64 n, .int .i64 m] w fun e w' => e = .returned (.string (ST n (gray m))) ∧ Below w.heap.size w w'))
    (hO : Hid (∀ w m, m < N → Calls Tryd.prog 44 #[.string (ST n (gray m))] w fun e w' => e = .returned (.int .i64 (pop (gray m) : Nat)) ∧ w = w'))
    (hy : Hid (∀ m, pop (gray m) = k → L (m + 1) = L m ++ [m])) (hno : Hid (∀ m, pop (gray m) ≠ k → L (m + 1) = L m)) (hlen : Hid (∀ m, (L m).length ≤ m)) :
    Calls Tryd.prog 22 #[.int .i64 n, .int .i64 k] w fun e w' => ∃ v, e = .returned v ∧ OwnI w' w.heap.size v (nI (L N)) ∧ Below w.heap.size w w' := by
  go_enter Tryd.func22, Tryd.ntmps22
  go_wp2_with fail
  go_loopw [5, 6] (fun o i wr => ∃ m : Nat, m ≤ N ∧ i = .int .i64 m ∧ Hid (OwnI wr w.heap.size o (nI (L m))) ∧ Hid (Below w.heap.size w wr)) (fun _ i _ => N - (intOf i).toNat)
  case atStart => exact ⟨0, Nat.zero_le _, rfl, Lib.hid (by rw [h0.out]; exact OwnI.nil _ _), Lib.hid (Below.refl _ _)⟩
  case round =>
    obtain ⟨m, hm, rfl, ho, hb⟩ := hrel
    by_cases hlt : m < N
    · have hSm := Lib.hid fun w => hS.out w m hlt
      have hOm := Lib.hid fun w => hO.out w m hlt
      have hym := Lib.hid (hy.out m)
      have hnm := Lib.hid (hno.out m)
      have hlm := Lib.hid (hlen.out m)
      have hsn := Lib.hid (nI_snoc m (L m))
      have hbl := Lib.hid (nI_len (L m))
      generalize pop (gray m) = z at *
      generalize ST n (gray m) = t at *
      go_wp2_with fail
      refine (hSm.out _).mono ?_; rintro e w2 ⟨rfl, hb2⟩
      have ho2 := Lib.hid (ho.out.below hb2)
      replace hb2 := Lib.hid (bt1 hb.out hb2)
      go_wp2_with fail
      refine (hOm.out _).mono ?_; rintro e w' ⟨rfl, rfl⟩
      by_cases hz : z = k
      · have hS := Lib.hid (hym.out hz)
        have d3 : ((z : Int) == (k : Int)) = true := by simp; omega
        go_wp2_with (at_builtin; refine app_int _ rfl _ _ rfl w.heap.size _ _ rfl (ho2.out.below (ba1 _ _)) w2.heap.size m rfl (by first | (simp; done) | (simp; rfl)) (by have := hlm.out; have := hbl.out; omega) (by have := hb2.out.size; simp; omega) ?_; intro v' w7 ho7 hg7; have hb7 := Lib.hid (bel_own (bt1 hb2.out (ba1 _ _)) (ho2.out.below (ba1 _ _)) hg7 (by have := hb2.out.size; simp; omega)); replace ho7 := Lib.hid ho7; clear hg7)
        go_roundw
        case rel => exact ⟨m + 1, by omega, by go_num, Lib.hid (by rw [hS.out, ← hsn.out]; exact ho7.out), hb7⟩
        all_goals (simp [intOf] <;> omega)
      · have hS := Lib.hid (hnm.out hz)
        have d3 : ((z : Int) == (k : Int)) = false := by simp; omega
        go_wp2_with fail
        go_roundw
        case rel => exact ⟨m + 1, by omega, by go_num, Lib.hid (by rw [hS.out]; exact ho2.out), hb2⟩
        all_goals (simp [intOf] <;> omega)
    · obtain rfl : m = N := by omega
      go_wp2_with fail
      go_ret
      exact ⟨_, rfl, ho.out, hb.out⟩
theorem with_any (n k : Nat) (w : World) (_ : 1 ≤ n) (hn : n ≤ 12) (hk : k ≤ n) :
    Calls Tryd.prog 22 #[.int .i64 n, .int .i64 k] w fun e w' => ∃ v, e = .returned v ∧ OwnI w' w.heap.size v (nI (onL k (2 ^ n))) ∧ Below w.heap.size w w' := by
  have hp := Nat.pow_le_pow_right (n := 2) (by omega) hn
  refine with_yes n k (2 ^ n) (onL k) w hn hk (pow_cast n) hp (Lib.hid rfl) (Lib.hid fun w m hm => ?_) (Lib.hid fun w m hm => ?_) (Lib.hid fun m h => onL_yes k m h) (Lib.hid fun m h => onL_no k m h) (Lib.hid fun m => onL_len k m)
  · refine (riState_any n m w (by omega) (by omega)).mono ?_
    rintro e w' ⟨rfl, q, rfl⟩; exact ⟨rfl, below_drewN (Below.refl _ _) q⟩
  · have := riOn_any (ST n (gray m)) w (by rw [ST_size]; omega)
    rw [ons_ST n _ (gray_lt n m hm)] at this; exact this
end Go.Proofs.YtfnhmacnghkgiaeDoor
