/- Chapter 7: walks counted by the program. -/
import Derived.Test.YtfnhmacnghkgiaeDoorZD
import Derived.Test.YtfnhmacnghkgiaeDoorY0
namespace Go.Proofs.YtfnhmacnghkgiaeDoor
open Go Go.RowKit RM
def inE : Elt Int where
  e := 3
  n := 1
  bytes := 8
  z := .int .i64 0
  d := 0
  cells k := [.int .i64 k]
  len _ := rfl
  one x u hu := by simp at hu; subst hu; rfl
  pos := by decide
  zs := rfl
  info := by kernel_rfl
  small := by decide
theorem in_flat (xs : List Int) : inE.flat xs = vint xs := by
  unfold Elt.flat vint
  induction xs with
  | nil => rfl
  | cons a l ih => rw [List.flatMap_cons, ih]; rfl
theorem ownI_G {w : World} {B : Nat} {v : Value} {xs : List Int} (h : OwnI w B v xs) : OwnG inE w B v xs := by
  unfold OwnG
  rw [in_flat]; exact h
theorem ownG_I {w : World} {B : Nat} {v : Value} {xs : List Int} (h : OwnG inE w B v xs) : OwnI w B v xs := by
  have h' : w.ownsRow B inE.e inE.n v xs.length (inE.flat xs) := h
  rw [in_flat] at h'; exact h'
theorem own_empty (w : World) : OwnG inE (w.alloc (.cells #[] 3)) w.heap.size (.slice (some ⟨w.heap.size, 0, none⟩) 0 0) [] :=
  ⟨rfl, .inr ⟨_, 0, _, rfl, Nat.le_refl _, hb_new _ _, Nat.le_refl _, by decide, rfl, rfl⟩⟩
theorem clone_cell {w w' : World} {B g n c : Nat} {xs : List Int} (h : OwnI w B (.slice (some ⟨g, 0, none⟩) n c) xs) (hn : xs.length = n) (_ : World) (hb : Below w.heap.size w w') (k : Nat) (hk : k < xs.length) (o : Nat) (ho : o < inE.n) : w'.cell? ⟨g, 0 + (k * inE.n + o), none⟩ = (inE.cells xs[k])[o]? := by
  have ho' : o < 1 := ho
  obtain rfl : o = 0 := by omega
  have hl := (h.lt g rfl).2
  have := (h.cell hn k hk).1
  rw [show (0 + (k * inE.n + 0)) = k from by show 0 + (k * 1 + 0) = k; omega, hb.cell (p := ⟨g, k, none⟩) hl, this]
  rfl
theorem clone_any (g n c B : Nat) (xs : List Int) (w : World) (hn : Hid (xs.length = n)) (hn2 : n ≤ 5000) (h : OwnI w B (.slice (some ⟨g, 0, none⟩) n c) xs) :
    Calls Tryd.prog 61 #[.slice (some ⟨g, 0, none⟩) n c] w fun e w' => ∃ v, e = .returned v ∧ OwnI w' w.heap.size v xs ∧ Below w.heap.size w w' := by
  replace h := Lib.hid h
  have hnil : ∀ W, (binOp .eql 37 (.slice (some ⟨g, 0, none⟩) n c) (.slice none 0 0)).run Tryd.prog W = .ok (.bool false) W := fun W => Lib.run_eql_slice_some_nil W _ _ _ Tryd.underlying37
  go_enter Tryd.func61, Tryd.ntmps61
  go_wp2_with (at_builtin; refine appM_G _ rfl _ _ 37 rfl Tryd.underlying37 w.heap.size _ [] rfl (own_empty w) g 0 n c xs rfl hn.out (fun k hk o ho => clone_cell h.out hn.out w (ba1 w _) k hk o ho) (by simp; omega) (by simp) ?_; intro v' w7 ho7 hg7 _; have hb7 := Lib.hid (bel_ownG (ba1 w _) (own_empty w) hg7 (by simp)); rw [List.nil_append] at ho7; replace ho7 := Lib.hid (ownG_I ho7); clear hg7)
  go_ret
  exact ⟨_, rfl, ho7.out, hb7.out⟩
set_option maxRecDepth 100000 in
set_option maxHeartbeats 2000000 in
theorem sides_any (gs g o0 o1 l0 l1 c0 c1 A B : Nat) (w : World) (h0 : l0 ≤ 1) (h1 : l1 ≤ 1) (hA2 : A ≤ 9007199254740992) (hB2 : B ≤ 9007199254740992)
    (s0 : w.cell? ⟨gs, 0, none⟩ = some (.slice (some ⟨g, o0, none⟩) l0 c0)) (s1 : w.cell? ⟨gs, 1, none⟩ = some (.slice (some ⟨g, o1, none⟩) l1 c1))
    (hA : Hid (0 < l0 → w.cell? ⟨g, o0, none⟩ = some (.int .i64 A))) (hB : Hid (0 < l1 → w.cell? ⟨g, o1, none⟩ = some (.int .i64 B))) :
    Calls Tryd.prog 62 #[.slice (some ⟨gs, 0, none⟩) 2 2] w fun e w' => e = .returned (.int .i64 ((l0 * A + l1 * B : Nat) : Int)) ∧ w = w' := by
  obtain ⟨T, hT⟩ : ∃ T : Nat → Nat, Hid (T 0 = 0 ∧ T 1 = l0 * A ∧ T 2 = l0 * A + l1 * B) := ⟨fun k => if k = 0 then 0 else if k = 1 then l0 * A else l0 * A + l1 * B, Lib.hid ⟨rfl, rfl, rfl⟩⟩
  rw [← hT.out.2.2]
  have m0 : l0 * A ≤ 9007199254740992 := Nat.le_trans (Nat.mul_le_mul_right _ h0) (by omega)
  have m1 : l1 * B ≤ 9007199254740992 := Nat.le_trans (Nat.mul_le_mul_right _ h1) (by omega)
  have hTb : ∀ k, k ≤ 2 → T k ≤ 18014398509481984 := fun k hk => by
    obtain ⟨a, b, c⟩ := hT.out
    match k, hk with
    | 0, _ => omega
    | 1, _ => omega
    | 2, _ => omega
  replace hTb := Lib.hid hTb
  go_enter Tryd.func62, Tryd.ntmps62
  go_wp2_with fail
  go_loopw [3, 10] (fun s i wr => ∃ k : Nat, k ≤ 2 ∧ s = .int .i64 (T k : Nat) ∧ i = .int .i64 k ∧ wr = w) (fun _ i _ => 2 - (intOf i).toNat)
  case atStart => exact ⟨0, by omega, by rw [hT.out.1]; rfl, rfl, rfl⟩
  case round =>
    obtain ⟨k, hk, rfl, rfl, rfl⟩ := hrel
    by_cases hk2 : k < 2
    · obtain ⟨o, l, c, Z, hs, hl, hZ, hZ2, hTk⟩ : ∃ o l c Z, wr.cell? ⟨gs, k, none⟩ = some (.slice (some ⟨g, o, none⟩) l c) ∧ l ≤ 1 ∧ (0 < l → wr.cell? ⟨g, o, none⟩ = some (.int .i64 (Z : Nat))) ∧ Z ≤ 9007199254740992 ∧ T (k + 1) = T k + l * Z := by
        obtain ⟨a, b, c⟩ := hT.out
        match k, hk2 with
        | 0, _ => exact ⟨o0, l0, c0, A, s0, h0, hA.out, hA2, by rw [a, b]; omega⟩
        | 1, _ => exact ⟨o1, l1, c1, B, s1, h1, hB.out, hB2, by rw [b, c]⟩
      have hb1 := hTb.out k hk
      generalize T k = t at *
      have hk3 : decide ((k : Int) < 2) = true := by simp; omega
      replace hTk := Lib.hid hTk
      replace hZ := Lib.hid hZ
      clear s0 s1 hA hB m0 m1
      go_wp2_with fail
      go_loopw [3, 16] (fun s i wq => ∃ m : Nat, m ≤ l ∧ s = .int .i64 ((t + m * Z : Nat) : Int) ∧ i = .int .i64 m ∧ wq = wr) (fun _ i _ => l - (intOf i).toNat)
      case atStart => exact ⟨0, Nat.zero_le _, by simp, rfl, rfl⟩
      case round =>
        obtain ⟨m, hm, rfl, rfl, rfl⟩ := hrel
        by_cases hml : m < l
        · obtain rfl : m = 0 := by omega
          obtain rfl : l = 1 := by omega
          have hc := hZ.out (by omega)
          simp only [Nat.zero_mul, Nat.add_zero]
          go_wp2_with fail
          exact ⟨⟨1, by omega, vi (by omega), rfl, trivial⟩, by simp [intOf]⟩
        · obtain rfl : m = l := by omega
          have e : t + m * Z = T (k + 1) := hTk.out.symm
          rw [e]
          have hb2 := hTb.out (k + 1) (by omega)
          go_wp2_with fail
          exact ⟨⟨k + 1, by omega, rfl, by go_num, trivial⟩, by simp [intOf]; omega⟩
    · obtain rfl : k = 2 := by omega
      go_wp2_with fail
      go_ret; exact ⟨rfl, rfl⟩
/-- both ends e times -/
def efN (n e : Nat) (f : Nat → Nat) (i : Nat) : Nat := if i = n - 1 then f i * e else if i = 0 then f i * e else f i
/-- one move more -/
def nxN (n e : Nat) (f : Nat → Nat) (i : Nat) : Nat := (if 1 ≤ i then efN n e f (i - 1) else 0) + (if i + 1 < n then efN n e f (i + 1) else 0)
theorem ef_row (n e : Nat) (f : Nat → Nat) (h : 2 ≤ n) : ((fnR n f).set 0 ((f 0 * e : Nat) : Int)).set (n - 1) ((f (n - 1) * e : Nat) : Int) = fnR n (efN n e f) := by
  rw [fnR_set, fnR_set]
  apply fnR_congr
  intro i hi
  unfold efN
  by_cases h1 : i = n - 1
  · rw [if_pos h1, if_pos h1, h1]
  · rw [if_neg h1, if_neg h1]
    by_cases h2 : i = 0
    · rw [if_pos h2, if_pos h2, h2]
    · rw [if_neg h2, if_neg h2]
theorem ef_le (n e : Nat) (f : Nat → Nat) (b : Nat) (he : e ≤ 2) (h : ∀ i, f i ≤ b) (i : Nat) : efN n e f i ≤ 2 * b := by
  have h1 : f i * e ≤ b * 2 := Nat.mul_le_mul (h i) he
  have h2 := h i
  unfold efN
  split
  · omega
  · split <;> omega
/-- the first k places have been counted -/
def upTo (n e : Nat) (f : Nat → Nat) (k i : Nat) : Nat := if i < k then nxN n e f i else 0
theorem upTo_row (n e : Nat) (f : Nat → Nat) (k : Nat) : fnR n (upTo n e f (k + 1)) = (fnR n (upTo n e f k)).set k ((nxN n e f k : Nat) : Int) := by
  rw [fnR_set]
  apply fnR_congr
  intro i _
  unfold upTo
  by_cases h : i = k
  · subst h; rw [if_pos (by omega), if_pos rfl]
  · rw [if_neg h]
    by_cases h2 : i < k
    · rw [if_pos (by omega), if_pos h2]
    · rw [if_neg (by omega), if_neg h2]
end Go.Proofs.YtfnhmacnghkgiaeDoor
