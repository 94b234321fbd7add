/- A slice of integers that came in, copied by a law. -/
import Derived.Test.YtcfeaaakfjilgaaInts
import Derived.OpenShut
import Derived.ProofKit
namespace Go.Proofs.Ytcfeaaakfjilgaa
open Go Go.RowKit RM

/-- what the walk is told of a slice of integers that came in -/
def IsRow (k : IntKind) (w : World) (a : Option Addr) (len cap : Nat) (zs : List Int) : Prop :=
  (a = none ∧ len = 0 ∧ cap = 0 ∧ zs = []) ∨
  ∃ x, a = some x ∧ len ≤ cap ∧ cap ≤ maxLen ∧ zs.length = cap ∧ (∀ i, i < zs.length → w.cell? (x.add i) = some (.int k (zs.getD i 0))) ∧ ∀ n ∈ zs, (Lit.int k n).wf = true
/-- the elements that can be read -/
def ArgI (w : World) (a : Option Addr) (xs : List Int) : Prop :=
  xs = [] ∨ ∃ b off, a = some ⟨b, off, none⟩ ∧ b < w.heap.size ∧ ∀ i (h : i < xs.length), w.cell? ⟨b, off + i, none⟩ = some (.int .i64 xs[i])
theorem IsRow.arg {w : World} {a : Option Addr} {len cap : Nat} {zs : List Int} (h : IsRow .i64 w a len cap zs) : ArgI w a (zs.take len) ∧ (zs.take len).length = len ∧ ∀ n ∈ zs.take len, (Lit.int .i64 n).wf = true := by
  rcases h with ⟨rfl, rfl, rfl, rfl⟩ | ⟨x, rfl, hl, hm, hz, hc, hw⟩
  · exact ⟨.inl rfl, rfl, fun n hn => by cases hn⟩
  · have hlen : (zs.take len).length = len := by rw [List.length_take]; omega
    refine ⟨?_, hlen, fun n hn => hw n (List.mem_of_mem_take hn)⟩
    by_cases h0 : 0 < zs.length
    · obtain ⟨b, off, rfl, hc2⟩ := ints_at hc h0
      refine .inr ⟨b, off, rfl, ?_, fun i hi => ?_⟩
      · exact block_lt (hc2 0 h0)
      · rw [hc2 i (by omega)]
        simp [List.getD, List.getElem?_eq_getElem (show i < zs.length by omega)]
    · left
      have : zs = [] := List.length_eq_zero_iff.1 (by omega)
      rw [this]; simp
theorem ArgI.below {w w' : World} {a : Option Addr} {xs : List Int} (h : ArgI w a xs) (hb : Below w.heap.size w w') : ArgI w' a xs := by
  rcases h with h | ⟨b, off, e, hl, hc⟩
  · exact .inl h
  · exact .inr ⟨b, off, e, Nat.lt_of_lt_of_le hl hb.size, fun i hi => by rw [hb.cell (p := ⟨b, off + i, none⟩) hl]; exact hc i hi⟩

theorem toIntS_nil (p : Option Addr) (cap : Nat) (w : World) :
    Calls Try.prog 44 #[.slice p 0 cap] w fun e w' => ∃ v, e = .returned v ∧ OwnI w' w.heap.size v [] ∧ Below w.heap.size w w' := by
  go_enter Try.func44, Try.ntmps44
  go_wp2_with (at_make; refine make_int _ rfl _ _ rfl _ _ 0 rfl rfl (by omega) ?_; intro w1 hown1 hb1)
  have hown1 := Lib.hid hown1
  have hb1 := Lib.hid hb1
  go_loopw [4] (fun i wr => i = .int .i64 0 ∧ wr = w1) (fun _ _ => 0)
  case atStart => exact ⟨rfl, rfl⟩
  case round =>
    obtain ⟨rfl, rfl⟩ := hrel
    go_wp2
    go_ret
    exact ⟨_, rfl, hown1.out, hb1.out⟩

theorem toIntS_some (b off n cap : Nat) (xs : List Int) (w : World) (hn : n ≤ 1048576) (hx : Hid (xs.length = n)) (hl : b < w.heap.size) (hc : Hid (∀ i (h : i < xs.length), w.cell? ⟨b, off + i, none⟩ = some (.int .i64 xs[i]))) :
    Calls Try.prog 44 #[.slice (some ⟨b, off, none⟩) n cap] w fun e w' => ∃ v, e = .returned v ∧ OwnI w' w.heap.size v xs ∧ Below w.heap.size w w' := by
  go_enter Try.func44, Try.ntmps44
  go_wp2_with (at_make; refine make_int _ rfl _ _ rfl _ _ n rfl rfl (by omega) ?_; intro w1 hown1 hb1)
  have hown1 := Lib.hid hown1
  have hb1 := Lib.hid hb1
  go_loopw [4] (fun i wr => ∃ k : Nat, k ≤ n ∧ i = .int .i64 k ∧ Hid (OwnI wr w.heap.size (.slice (some ⟨w.heap.size, 0, none⟩) n n) (xs.take k ++ List.replicate (n - k) 0)) ∧ Hid (Below w.heap.size w wr)) (fun i _ => n - (intOf i).toNat)
  case atStart => exact ⟨0, Nat.zero_le _, rfl, Lib.hid (by simpa using hown1.out), hb1⟩
  case round =>
    obtain ⟨k, hk, rfl, ho, hb⟩ := hrel
    clear hown1 hb1
    by_cases hlt : k < n
    · have hlk : Hid ((xs.take k ++ List.replicate (n - k) 0).length = n) := Lib.hid (by simp [hx.out]; omega)
      have hkx : k < xs.length := by rw [hx.out]; exact hlt
      have hsp : Hid (List.replicate (n - k) (0 : Int) = 0 :: List.replicate (n - (k + 1)) 0) := Lib.hid (by
        rw [show n - k = (n - (k + 1)) + 1 from by omega]; rfl)
      have hmt : Hid (xs.take (k + 1) = xs.take k ++ [xs[k]]) := Lib.hid (List.take_succ_eq_append_getElem hkx)
      have htl : Hid ((xs.take k).length = k) := Lib.hid (by rw [List.length_take]; omega)
      have hrd : wr.cell? ⟨b, off + k, none⟩ = some (.int .i64 xs[k]) := by
        rw [hb.out.cell (p := ⟨b, off + k, none⟩) hl]; exact hc.out k hkx
      obtain ⟨hce, hfr⟩ := ho.out.cell hlk.out k (by rw [hlk.out]; exact hlt)
      obtain ⟨y, hy⟩ : ∃ y, y = (xs.take k ++ List.replicate (n - k) 0)[k]'(by rw [hlk.out]; exact hlt) := ⟨_, rfl⟩
      rw [← hy] at hce
      have hst := Lib.hid (ho.out.stored hlk.out k xs[k])
      clear hy
      generalize xs[k] = z at *
      go_wp2
      go_roundw
      case rel =>
        refine ⟨k + 1, by omega, by go_num, Lib.hid ?_, Lib.hid ?_⟩
        · have h3 := hst.out.1
          rw [hsp.out, List.set_append_right _ _ (by rw [htl.out]; exact Nat.le_refl _), htl.out, Nat.sub_self, List.set_cons_zero] at h3
          rw [hmt.out, List.append_assoc]; exact h3
        · exact hb.out.grown hst.out.2 hb.out.size (fun j e => by cases e; exact Nat.le_refl _)
      all_goals (simp [intOf] <;> omega)
    · obtain rfl : k = n := by omega
      have ho2 := ho.out
      rw [List.take_of_length_le (by rw [hx.out]; omega)] at ho2
      simp only [Nat.sub_self, List.replicate_zero, List.append_nil] at ho2
      have ho2 := Lib.hid ho2
      go_wp2
      go_ret
      exact ⟨_, rfl, ho2.out, hb.out⟩

theorem toIntS_any (a : Option Addr) (n cap : Nat) (xs : List Int) (w : World) (hn : n ≤ 1048576) (hx : xs.length = n) (h : ArgI w a xs) :
    Calls Try.prog 44 #[.slice a n cap] w fun e w' => ∃ v, e = .returned v ∧ OwnI w' w.heap.size v xs ∧ Below w.heap.size w w' := by
  by_cases h0 : n = 0
  · subst h0
    obtain rfl : xs = [] := List.length_eq_zero_iff.1 hx
    exact toIntS_nil a cap w
  · rcases h with rfl | ⟨b, off, rfl, hl, hc⟩
    · exact absurd hx.symm h0
    · exact toIntS_some b off n cap xs w hn (Lib.hid hx) hl (Lib.hid hc)

end Go.Proofs.Ytcfeaaakfjilgaa
