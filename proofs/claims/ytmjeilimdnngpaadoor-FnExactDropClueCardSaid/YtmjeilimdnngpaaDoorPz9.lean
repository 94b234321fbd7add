/- Rows of hidden bars by the program: all of them; those that a clue leaves. -/
import Derived.Test.YtmjeilimdnngpaaDoorPz8
namespace Go.Proofs.YtmjeilimdnngpaaDoor
open Go Go.RowKit RM
theorem ctz_z : ctz 0 = 0 := by rw [ctz]; simp
theorem onB_z : onB 0 = false := by simp [onB]
/-- a bar as an element of a row -/
def brE : Elt (Nat × Nat) where
  e := 77
  n := 4
  bytes := 32
  z := .agg #[.int .i64 0, .bool false, .int .i64 0, .int .u64 0]
  d := (0, 0)
  cells p := [.int .i64 ((ctz p.2 : Nat) : Int), .bool (onB p.2), .int .i64 ((p.1 : Nat) : Int), .int .u64 ((p.2 : Nat) : Int)]
  len _ := rfl
  one x u hu := by simp at hu; rcases hu with rfl | rfl | rfl | rfl <;> rfl
  pos := by decide
  zs := by rw [ctz_z, onB_z]; rfl
  info := by kernel_rfl
  small := by decide
theorem br_cells {w : World} {g : Nat} {bs : List (Nat × Nat)} (h : ∀ k (hk : k < bs.length) o, o < brE.n → w.cell? ⟨g, k * brE.n + o, none⟩ = (brE.cells bs[k])[o]?) (k : Nat) (hk : k < bs.length) :
    w.cell? ⟨g, k * 4, none⟩ = some (.int .i64 ((ctz bs[k].2 : Nat) : Int)) ∧ w.cell? ⟨g, k * 4 + 1, none⟩ = some (.bool (onB bs[k].2)) ∧ w.cell? ⟨g, k * 4 + 2, none⟩ = some (.int .i64 ((bs[k].1 : Nat) : Int)) ∧ w.cell? ⟨g, k * 4 + 3, none⟩ = some (.int .u64 ((bs[k].2 : Nat) : Int)) :=
  ⟨h k hk 0 (by decide), h k hk 1 (by decide), h k hk 2 (by decide), h k hk 3 (by decide)⟩
/-- four cells of an element, whatever they are -/
structure B4 where
  a : Int
  b : Bool
  c : Int
  d : Int
def b4E : Elt B4 where
  e := 77
  n := 4
  bytes := 32
  z := .agg #[.int .i64 0, .bool false, .int .i64 0, .int .u64 0]
  d := ⟨0, false, 0, 0⟩
  cells p := [.int .i64 p.a, .bool p.b, .int .i64 p.c, .int .u64 p.d]
  len _ := rfl
  one x u hu := by simp at hu; rcases hu with rfl | rfl | rfl | rfl <;> rfl
  pos := by decide
  zs := rfl
  info := by kernel_rfl
  small := by decide
def b4 (p : Nat × Nat) : B4 := ⟨((ctz p.2 : Nat) : Int), onB p.2, ((p.1 : Nat) : Int), ((p.2 : Nat) : Int)⟩
theorem ownG_b4 {w : World} {B : Nat} {v : Value} {xs : List (Nat × Nat)} : OwnG brE w B v xs ↔ OwnG b4E w B v (xs.map b4) := by
  unfold OwnG
  have e : brE.flat xs = b4E.flat (xs.map b4) := by
    unfold Elt.flat
    rw [List.flatMap_map]; rfl
  rw [e, List.length_map]; exact Iff.rfl
/-- four cells stored, one after the other -/
abbrev set4 (w : World) (g k : Nat) (a b c d : Value) : World := (((w.setCell ⟨g, k * 4, none⟩ a).setCell ⟨g, k * 4 + 1, none⟩ b).setCell ⟨g, k * 4 + 2, none⟩ c).setCell ⟨g, k * 4 + 3, none⟩ d
/-- a bar stored whole -/
theorem OwnG.brStored {w : World} {B g n cap : Nat} {xs : List (Nat × Nat)} (h : OwnG brE w B (.slice (some ⟨g, 0, none⟩) n cap) xs) (hn : n = xs.length) (k : Nat) (hk : k < xs.length) (m x : Nat) :
    OwnG brE (set4 w g k (.int .i64 ((ctz x : Nat) : Int)) (.bool (onB x)) (.int .i64 ((m : Nat) : Int)) (.int .u64 ((x : Nat) : Int))) B (.slice (some ⟨g, 0, none⟩) n cap) (xs.set k (m, x)) ∧
    w.grownBy (set4 w g k (.int .i64 ((ctz x : Nat) : Int)) (.bool (onB x)) (.int .i64 ((m : Nat) : Int)) (.int .u64 ((x : Nat) : Int))) (some g) := by
  have h4 := ownG_b4.1 h
  have hn4 : n = (xs.map b4).length := by simpa using hn
  have hk4 : k < (xs.map b4).length := by simpa using hk
  obtain ⟨y, hy⟩ : ∃ y, y = (xs.map b4)[k] := ⟨_, rfl⟩
  obtain ⟨s0, g0⟩ := h4.stored hn4 k hk4 0 (by decide) (.int .i64 ((ctz x : Nat) : Int)) ⟨((ctz x : Nat) : Int), y.b, y.c, y.d⟩ (by rw [← hy]; rfl)
  obtain ⟨s1, g1⟩ := s0.stored (by simpa using hn) k (by simpa using hk) 1 (by decide) (.bool (onB x)) ⟨((ctz x : Nat) : Int), onB x, y.c, y.d⟩ (by simp only [List.getElem_set_self]; rfl)
  rw [List.set_set] at s1
  obtain ⟨s2, g2⟩ := s1.stored (by simpa using hn) k (by simpa using hk) 2 (by decide) (.int .i64 ((m : Nat) : Int)) ⟨((ctz x : Nat) : Int), onB x, ((m : Nat) : Int), y.d⟩ (by simp only [List.getElem_set_self]; rfl)
  rw [List.set_set] at s2
  obtain ⟨s3, g3⟩ := s2.stored (by simpa using hn) k (by simpa using hk) 3 (by decide) (.int .u64 ((x : Nat) : Int)) (b4 (m, x)) (by simp only [List.getElem_set_self]; rfl)
  rw [List.set_set, ← List.map_set] at s3
  exact ⟨ownG_b4.2 s3, ((g0.trans g1).trans g2).trans g3⟩
/-- the bars of n rings with these signs -/
def brX (n : Nat) (xs : List Nat) : List (Nat × Nat) := xs.map fun x => (n, x)
theorem brX_len (n : Nat) (xs : List Nat) : (brX n xs).length = xs.length := by unfold brX; simp
def grayL (m : Nat) : List Nat := (List.range m).map gray
theorem grayL_len (m : Nat) : (grayL m).length = m := by unfold grayL; simp
theorem hid_step (n X m : Nat) (hm : m < X) : (brX n (grayL m) ++ List.replicate (X - m) (0, 0)).set m (n, gray m) = brX n (grayL (m + 1)) ++ List.replicate (X - (m + 1)) (0, 0) := by
  have h1 : List.replicate (X - m) ((0, 0) : Nat × Nat) = (0, 0) :: List.replicate (X - (m + 1)) (0, 0) := by rw [show X - m = (X - (m + 1)) + 1 by omega]; rfl
  have h2 : brX n (grayL (m + 1)) = brX n (grayL m) ++ [(n, gray m)] := by unfold brX grayL; rw [List.range_succ]; simp
  have hl : (brX n (grayL m)).length = m := by rw [brX_len, grayL_len]
  rw [h1, List.set_append_right _ _ (by rw [hl]; exact Nat.le_refl _), hl, Nat.sub_self, List.set_cons_zero, h2, List.append_assoc]; rfl
theorem hidBars_no (R : Int) (w : World) (h : inB R 1 7 = false) : Calls Tryd.prog 90 #[.int .i64 R] w fun e w' => e = .returned (.slice none 0 0) ∧ w = w' := by
  have hI := Lib.hid fun w => isHid_any R w
  rw [h] at hI
  go_enter Tryd.func90, Tryd.ntmps90
  go_wp2_with fail
  refine (hI.out _).mono ?_; rintro e w' ⟨rfl, rfl⟩
  go_wp2_with fail
  go_ret; exact ⟨rfl, rfl⟩

theorem hidBars_yes (n : Nat) (w : World) (h1 : 1 ≤ n) (h7 : n ≤ 7) (hT : TabOk w) : Calls Tryd.prog 90 #[.int .i64 n] w fun e w' => ∃ v, e = .returned v ∧ OwnG brE w' w.heap.size v (brX n (grayL (2 ^ n))) ∧ Below w.heap.size w w' := by
  have hI := Lib.hid fun w => isHid_any n w
  rw [show inB (n : Int) 1 7 = true from inB_of (by omega) (by omega)] at hI
  have hp7 := pow7 h7
  have hp1 := Nat.two_pow_pos n
  have hG := Lib.hid fun w => greatest_any n w (by omega)
  have hN := Lib.hid fun w (m : Nat) (hm : m < 1048576) hw => barOfNumber_any n m w (by omega) hm hw
  generalize 2 ^ n = X at *
  rw [show ((X - 1 : Nat) : Int) = (X : Int) - 1 by omega] at hG
  replace hT := Lib.hid hT
  go_enter Tryd.func90, Tryd.ntmps90
  go_wp2_with fail
  refine (hI.out _).mono ?_; rintro e w' ⟨rfl, rfl⟩
  go_wp2_with fail
  refine (hG.out _).mono ?_; rintro e w' ⟨rfl, rfl⟩
  have hx1 : (X : Int) - 1 + 1 = (X : Int) := by omega
  go_wp2_with (at_make; refine make_G brE _ rfl _ _ 88 rfl Tryd.underlying88 _ _ X rfl rfl (by omega) ?_; intro w1 hown1 hb1)
  have hown1 := Lib.hid hown1
  have hb1 := Lib.hid hb1
  go_loopw [4, 14] (fun _ i wr => ∃ m : Nat, m ≤ X ∧ i = .int .i64 m ∧ Hid (OwnG brE wr w.heap.size (.slice (some ⟨w.heap.size, 0, none⟩) X X) (brX n (grayL m) ++ List.replicate (X - m) (0, 0))) ∧ Hid (Below w.heap.size w wr)) (fun _ i _ => X - (intOf i).toNat)
  case atStart => exact ⟨0, Nat.zero_le _, rfl, Lib.hid (by show OwnG brE w1 _ _ (List.replicate (X - 0) (0, 0)); rw [Nat.sub_zero]; exact hown1.out), hb1⟩
  case round =>
    obtain ⟨m, hm, rfl, ho, hb⟩ := hrel
    clear hown1 hb1
    by_cases hlt : m < X
    · have hlk : Hid ((brX n (grayL m) ++ List.replicate (X - m) (0, 0)).length = X) := Lib.hid (by rw [List.length_append, brX_len, grayL_len, List.length_replicate]; omega)
      have hst := Lib.hid (hid_step n X m hlt)
      have hNm := Lib.hid fun w hw => hN.out w m (by omega) hw
      generalize gray m = y at *
      go_wp2_with fail
      refine (hNm.out _ (hT.out.below hb.out)).mono ?_; rintro e w2 ⟨rfl, hb2⟩
      have ho2 := Lib.hid (ho.out.below hb2)
      have hs := Lib.hid (ho2.out.brStored hlk.out.symm m (by rw [hlk.out]; exact hlt) n y)
      have hbW := Lib.hid (bt2 hb.out hb2 hb.out.size)
      obtain ⟨d0, d1, d2, d3⟩ := br_cells (fun k' hk' o ho' => ho2.out.cells hlk.out.symm k' hk' o ho') m (by rw [hlk.out]; exact hlt)
      have hfz := fun j => ho2.out.frozen hlk.out.symm j
      generalize (brX n (grayL m) ++ List.replicate (X - m) (0, 0))[m]'(by rw [hlk.out]; exact hlt) = z at d0 d1 d2 d3
      have hgl := (ho2.out.lt _ rfl).2
      go_wp2_with fail
      go_roundw
      case rel => exact ⟨m + 1, by omega, by go_num, Lib.hid (by rw [← hst.out]; exact hs.out.1), Lib.hid (hbW.out.grown hs.out.2 hbW.out.size (fun j e => by cases e; exact Nat.le_refl _))⟩
      all_goals (simp [intOf] <;> omega)
    · obtain rfl : m = X := by omega
      have ho2 := ho.out
      simp only [Nat.sub_self, List.replicate_zero, List.append_nil] at ho2
      replace ho2 := Lib.hid ho2
      go_wp2_with fail
      go_ret; exact ⟨_, rfl, ho2.out, hb.out⟩

end Go.Proofs.YtmjeilimdnngpaaDoor
