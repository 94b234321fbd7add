/- Rows of texts: as elements of a row, that came in, copied by a law, measured by a law. -/
import Derived.Test.YtjlecipeoaohiacDoorStrs5
import Derived.OpenShut
import Derived.ProofKit
import Derived.SliceStrings
namespace Go.Proofs.YtjlecipeoaohiacDoor
open Go Go.RowKit RM
open Go.ChangeShapes Go.WideShapes
/-- texts as elements of a row -/
def txE : Elt ByteArray where
  e := 9
  n := 1
  bytes := 16
  z := .string ⟨#[]⟩
  d := ⟨#[]⟩
  cells s := [.string s]
  len _ := rfl
  one x u hu := by simp at hu; rcases hu with rfl; rfl
  pos := by decide
  zs := rfl
  info := by kernel_rfl
  small := by decide
theorem tx_flat (xs : List ByteArray) : txE.flat xs = vtxt xs := by
  unfold Elt.flat vtxt
  induction xs with
  | nil => rfl
  | cons a l ih => rw [List.flatMap_cons, ih]; rfl
theorem ownT_G {w : World} {B : Nat} {v : Value} {xs : List ByteArray} (h : OwnT w B v xs) : OwnG txE w B v xs := by
  unfold OwnG
  rw [tx_flat]; exact h
theorem ownG_T {w : World} {B : Nat} {v : Value} {xs : List ByteArray} (h : OwnG txE w B v xs) : OwnT w B v xs := by
  have h' : w.ownsRow B txE.e txE.n v xs.length (txE.flat xs) := h
  rw [tx_flat] at h'; exact h'
theorem ne_bse {u v : Value} {c : Nat} (hv : ∀ k, v.ownBlock = some k → k < c) (hu : ∀ k, u.ownBlock = some k → c ≤ k) : v.ownBlock = none ∨ v.ownBlock ≠ u.ownBlock := by
  cases e : v.ownBlock with
  | none => left; rfl
  | some a =>
    right
    intro e2
    have := hu a e2.symm
    have := hv a e
    omega
theorem ne_bse2 {u v : Value} {c : Nat} (hv : ∀ k, v.ownBlock = some k → c ≤ k) (hu : ∀ k, u.ownBlock = some k → k < c) : v.ownBlock = none ∨ v.ownBlock ≠ u.ownBlock := by
  cases e : v.ownBlock with
  | none => left; rfl
  | some a =>
    right
    intro e2
    have := hu a e2.symm
    have := hv a e
    omega
/-- how a row of texts reads -/
abbrev RdT (w : World) (v : Value) (xs : List ByteArray) : Prop := RdG txE w v xs
theorem RG.tx {w : World} {p : Option Addr} {xs : List ByteArray} (h : RG txE w p xs) {k : Nat} (hk : k < xs.length) : ∃ g, p = some ⟨g, 0, none⟩ ∧ g < w.heap.size ∧ w.cell? ⟨g, k, none⟩ = some (.string xs[k]) := by
  obtain ⟨g, rfl, hl, hc⟩ := h (fun e => by rw [e] at hk; simp at hk)
  have := hc k hk 0 (by decide)
  exact ⟨g, rfl, hl, by simpa [txE] using this⟩
/-- 'make([]string, n)' -/
theorem make_txt (w : World) {ops : Array Oper} {rest : List Oper} {o : Oper} {a : Act} {Q : Exit → Act → World → Prop} (hgd : o.guard = none) (l c : Operand) (hop : o.op = Op.makeSlice 22 l c)
    (kl kc : IntKind) (n : Nat) (hl : a.eval l = .int kl n) (hc : a.eval c = .int kc n) (hn : n ≤ 2000000)
    (hK : ∀ w', OwnT w' w.heap.size (.slice (some ⟨w.heap.size, 0, none⟩) n n) (List.replicate n ⟨#[]⟩) → Below w.heap.size w w' → wpList Tryd.prog ops Q rest (a.put o.dst (.slice (some ⟨w.heap.size, 0, none⟩) n n)) w') : wpList Tryd.prog ops Q (o :: rest) a w := by
  obtain ⟨i0, hi, hz0, hz1, hz2⟩ := info_parts strInfo
  refine wpList_make_full w hgd l c 22 hop w.heap.size 9 i0 (.string ⟨#[]⟩) 1 Tryd.underlying22 hi hz0 hz1 kl kc n n n hl hc rfl rfl (by rw [hz2]; omega) (by unfold maxLen; omega) (Nat.le_refl _) ?_
  intro w' h1 h2
  refine hK w' ?_ ((Below.refl _ _).grown h2 (Nat.le_refl _) (fun k e => by cases e))
  unfold OwnT
  have e : vtxt (List.replicate n ⟨#[]⟩) = (madeCells (Value.string ⟨#[]⟩).cells (n * 1)).toList := by
    rw [Nat.mul_one]
    show _ = (madeCells #[.string ⟨#[]⟩] n).toList
    rw [toList_madeCells_one]; simp [vtxt]
  rw [e, List.length_replicate]; exact h1
/-- the texts that came in -/
def ArgT (w : World) (a : Option Addr) (xs : List ByteArray) : Prop :=
  xs = [] ∨ ∃ b off, a = some ⟨b, off, none⟩ ∧ b < w.heap.size ∧ ∀ i (h : i < xs.length), w.cell? ⟨b, off + i, none⟩ = some (.string xs[i])
theorem ArgT.below {w w' : World} {a : Option Addr} {xs : List ByteArray} (h : ArgT w a xs) (hb : Below w.heap.size w w') : ArgT w' a xs := by
  rcases h with h | ⟨b, off, e, hl, hc⟩
  · exact .inl h
  · exact .inr ⟨b, off, e, Nat.lt_of_lt_of_le hl hb.size, fun i hi => by rw [hb.cell (p := ⟨b, off + i, none⟩) hl]; exact hc i hi⟩
section
variable {H : Type} {enc : TypeId × Value → H} {W : World} {base : Nat} {sp : Nat → Bool} {held : Bool}
theorem strs_at {w : World} {a : Addr} {ss : List ByteArray} (hc : ∀ i, i < ss.length → w.cell? (a.add i) = some (.string (ss.getD i ByteArray.empty))) (h0 : 0 < ss.length) :
    ∃ b off, a = ⟨b, off, none⟩ ∧ ∀ i, i < ss.length → w.cell? ⟨b, off + i, none⟩ = some (.string (ss.getD i ByteArray.empty)) := by
  obtain ⟨b, off, spot⟩ := a
  have hs : spot = none := by simpa [Addr.add] using World.cell?_spot (hc 0 h0)
  subst hs
  have e : ∀ i, (⟨b, off, none⟩ : Addr).add i = ⟨b, off + i, none⟩ := fun i => by unfold Addr.add; split <;> simp_all
  exact ⟨b, off, rfl, fun i hi => by rw [← e]; exact hc i hi⟩
set_option maxRecDepth 100000 in
theorem open_texts {r : Reach} {b0 : Nat} {v : Value} {d : DataW H} {p : List MemPlace} (hv : Value.okWide Tryd.prog W r b0 22 v) (h : DataW.Trod enc Tryd.prog W 0 (fun _ => true) held 22 v d p) :
    ∃ a n c ss, v = .slice a n c ∧ n ≤ maxLen ∧ ss.length = n ∧ ArgT W a ss ∧ ∀ s ∈ ss, s.size ≤ maxLen := by
  obtain ⟨a, n, c, rfl⟩ := okWide_slice Tryd.underlying22 hv
  obtain ⟨fuel, hf⟩ := h
  rcases open_strings Tryd.underlying22 Tryd.underlying9 (by kernel_rfl) hf with ⟨hcs, _⟩ | ⟨x, l, c', zs, hcs, _, hl, hm, hz, _, hcell, hwz⟩
  · simp [Value.cells] at hcs
    obtain ⟨rfl, rfl, rfl⟩ := hcs
    exact ⟨none, 0, 0, [], rfl, Nat.zero_le _, rfl, .inl rfl, fun s hs => by cases hs⟩
  · simp [Value.cells] at hcs
    obtain ⟨rfl, rfl, rfl⟩ := hcs
    have hz' : zs.length = c := by simpa using hz
    refine ⟨some x, n, c, zs.take n, rfl, by omega, by rw [List.length_take]; omega, ?_, fun s hs => hwz s (List.mem_of_mem_take hs)⟩
    by_cases h0 : 0 < zs.length
    · obtain ⟨b, off, rfl, hc2⟩ := strs_at hcell h0
      right
      refine ⟨b, off, rfl, block_lt (hc2 0 h0), fun i hi => ?_⟩
      have hi2 : i < zs.length := by rw [List.length_take] at hi; omega
      rw [hc2 i hi2]
      simp [List.getD, List.getElem?_eq_getElem hi2]
    · left
      have : zs = [] := List.length_eq_zero_iff.1 (by omega)
      rw [this]; simp
end
theorem toStringS_nil (p : Option Addr) (cap : Nat) (w : World) :
    Calls Tryd.prog 40 #[.slice p 0 cap] w fun e w' => ∃ v, e = .returned v ∧ OwnT w' w.heap.size v [] ∧ Below w.heap.size w w' := by
  go_enter Tryd.func40, Tryd.ntmps40
  go_wp2_with (at_make; refine make_txt _ rfl _ _ rfl _ _ 0 rfl rfl (by omega) ?_; intro w1 hown1 hb1)
  have hown1 := Lib.hid hown1
  have hb1 := Lib.hid hb1
  go_loopw [4] (fun i wr => i = .int .i64 0 ∧ wr = w1) (fun _ _ => 0)
  case atStart => exact ⟨rfl, rfl⟩
  case round =>
    obtain ⟨rfl, rfl⟩ := hrel
    go_wp2
    go_ret
    exact ⟨_, rfl, hown1.out, hb1.out⟩
theorem toStringS_some (b off n cap : Nat) (xs : List ByteArray) (w : World) (hn : n ≤ 1048576) (hx : Hid (xs.length = n)) (hl : b < w.heap.size) (hc : Hid (∀ i (h : i < xs.length), w.cell? ⟨b, off + i, none⟩ = some (.string xs[i]))) :
    Calls Tryd.prog 40 #[.slice (some ⟨b, off, none⟩) n cap] w fun e w' => ∃ v, e = .returned v ∧ OwnT w' w.heap.size v xs ∧ Below w.heap.size w w' := by
  go_enter Tryd.func40, Tryd.ntmps40
  go_wp2_with (at_make; refine make_txt _ rfl _ _ rfl _ _ n rfl rfl (by omega) ?_; intro w1 hown1 hb1)
  have hown1 := Lib.hid hown1
  have hb1 := Lib.hid hb1
  go_loopw [4] (fun i wr => ∃ k : Nat, k ≤ n ∧ i = .int .i64 k ∧ Hid (OwnT wr w.heap.size (.slice (some ⟨w.heap.size, 0, none⟩) n n) (xs.take k ++ List.replicate (n - k) ⟨#[]⟩)) ∧ Hid (Below w.heap.size w wr)) (fun i _ => n - (intOf i).toNat)
  case atStart => exact ⟨0, Nat.zero_le _, rfl, Lib.hid (by simpa using hown1.out), hb1⟩
  case round =>
    obtain ⟨k, hk, rfl, ho, hb⟩ := hrel
    clear hown1 hb1
    by_cases hlt : k < n
    · have hlk : Hid ((xs.take k ++ List.replicate (n - k) (⟨#[]⟩ : ByteArray)).length = n) := Lib.hid (by simp [hx.out]; omega)
      have hkx : k < xs.length := by rw [hx.out]; exact hlt
      have hsp : Hid (List.replicate (n - k) (⟨#[]⟩ : ByteArray) = ⟨#[]⟩ :: List.replicate (n - (k + 1)) ⟨#[]⟩) := Lib.hid (by
        rw [show n - k = (n - (k + 1)) + 1 from by omega]; rfl)
      have hmt : Hid (xs.take (k + 1) = xs.take k ++ [xs[k]]) := Lib.hid (List.take_succ_eq_append_getElem hkx)
      have htl : Hid ((xs.take k).length = k) := Lib.hid (by rw [List.length_take]; omega)
      have hrd : wr.cell? ⟨b, off + k, none⟩ = some (.string xs[k]) := by
        rw [hb.out.cell (p := ⟨b, off + k, none⟩) hl]; exact hc.out k hkx
      obtain ⟨hce, hfr⟩ := ho.out.cell hlk.out k (by rw [hlk.out]; exact hlt)
      obtain ⟨y, hy⟩ : ∃ y, y = (xs.take k ++ List.replicate (n - k) (⟨#[]⟩ : ByteArray))[k]'(by rw [hlk.out]; exact hlt) := ⟨_, rfl⟩
      rw [← hy] at hce
      have hst := Lib.hid (ho.out.stored hlk.out k xs[k])
      clear hy
      generalize xs[k] = z at *
      go_wp2
      go_roundw
      case rel =>
        refine ⟨k + 1, by omega, by go_num, Lib.hid ?_, Lib.hid ?_⟩
        · have h3 := hst.out.1
          rw [hsp.out, List.set_append_right _ _ (by rw [htl.out]; exact Nat.le_refl _), htl.out, Nat.sub_self, List.set_cons_zero] at h3
          rw [hmt.out, List.append_assoc]; exact h3
        · exact hb.out.grown hst.out.2 hb.out.size (fun j e => by cases e; exact Nat.le_refl _)
      all_goals (simp [intOf] <;> omega)
    · obtain rfl : k = n := by omega
      have ho2 := ho.out
      rw [List.take_of_length_le (by rw [hx.out]; omega)] at ho2
      simp only [Nat.sub_self, List.replicate_zero, List.append_nil] at ho2
      have ho2 := Lib.hid ho2
      go_wp2
      go_ret
      exact ⟨_, rfl, ho2.out, hb.out⟩
theorem toStringS_any (a : Option Addr) (n cap : Nat) (xs : List ByteArray) (w : World) (hn : n ≤ 1048576) (hx : xs.length = n) (h : ArgT w a xs) :
    Calls Tryd.prog 40 #[.slice a n cap] w fun e w' => ∃ v, e = .returned v ∧ OwnT w' w.heap.size v xs ∧ Below w.heap.size w w' := by
  by_cases h0 : n = 0
  · subst h0
    obtain rfl : xs = [] := List.length_eq_zero_iff.1 hx
    exact toStringS_nil a cap w
  · rcases h with rfl | ⟨b, off, rfl, hl, hc⟩
    · exact absurd hx.symm h0
    · exact toStringS_some b off n cap xs w hn (Lib.hid hx) hl (Lib.hid hc)
/-- what is left behind the measure; if it is none, -1 -/
theorem szStringS_any (a : Option Addr) (n c : Nat) (xs : List ByteArray) (w : World) (hn : n ≤ maxLen) (hx : xs.length = n) (hs : ∀ s ∈ xs, s.size ≤ maxLen) (h : ArgT w a xs) :
    Calls Tryd.prog 38 #[.slice a n c, .int .i64 1048576] w fun e w' => ∃ r : Int, e = .returned (.int .i64 r) ∧ w = w' ∧ (0 ≤ r → n ≤ 1048576) := by
  unfold maxLen at hn hs
  by_cases h1 : 1048576 < n
  · have h2 : (1048576 : Int) - (n : Int) < 0 := by omega
    go_enter Tryd.func38, Tryd.ntmps38
    go_wp2_with fail
    go_ret; exact ⟨-1, rfl, rfl, fun h => by omega⟩
  · replace hx := Lib.hid hx
    have h2 : ¬ (1048576 : Int) - (n : Int) < 0 := by omega
    go_enter Tryd.func38, Tryd.ntmps38
    go_wp2_with fail
    go_loop [1, 5] (fun l i => ∃ (k : Nat) (L : Int), k ≤ n ∧ i = .int .i64 k ∧ l = .int .i64 L ∧ 0 ≤ L ∧ L ≤ 1048576) (fun _ i => n - (intOf i).toNat)
    case atStart => exact ⟨0, _, by omega, rfl, rfl, by omega, by omega⟩
    case round =>
      obtain ⟨k, L, hk, rfl, rfl, hL0, hL1⟩ := hrel
      by_cases hlt : k < n
      · have hkx : k < xs.length := by rw [hx.out]; exact hlt
        rcases h with rfl | ⟨b, off, rfl, hl, hc⟩
        · simp at hkx
        · have c0 := hc k hkx
          have hsz := hs _ (List.getElem_mem hkx)
          generalize xs[k] = s at *
          clear hc hs
          by_cases h3 : L - (s.size : Int) < 0
          · go_wp2_with fail
            go_ret; exact ⟨-1, rfl, rfl, fun h => by omega⟩
          · go_wp2_with fail
            go_round
            case rel => exact ⟨k + 1, L - (s.size : Int), by omega, by go_num, by first | rfl | go_num, by omega, by omega⟩
            all_goals (simp [intOf] <;> omega)
      · go_wp2_with fail
        go_ret; exact ⟨L, rfl, rfl, fun _ => by omega⟩
end Go.Proofs.YtjlecipeoaohiacDoor
