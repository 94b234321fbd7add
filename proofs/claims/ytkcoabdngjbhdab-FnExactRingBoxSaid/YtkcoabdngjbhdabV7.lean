/- Keys by which each ring can always be moved, and those of the bar, on both sides. -/
import Derived.Test.YtkcoabdngjbhdabV6
import Derived.Test.YtkcoabdngjbhdabRepS
namespace Go.Proofs.Ytkcoabdngjbhdab
open Go Go.RowKit RM
/-- a text of one sign, so many times -/
def rp (b : UInt8) (n : Nat) : ByteArray := ⟨(List.replicate n b).toArray⟩
theorem rp_size (b : UInt8) (n : Nat) : (rp b n).size = n := by
  show (List.replicate n b).toArray.size = n
  simp
theorem rp_snoc (b : UInt8) (n : Nat) : rp b n ++ ⟨#[b]⟩ = rp b (n + 1) := by
  apply ByteArray.ext
  apply Array.ext'
  simp [rp, List.replicate_succ']
theorem repL_one (b : UInt8) (n : Nat) : (⟨(Lib.repeatL (⟨#[b]⟩ : ByteArray).data.toList n).toArray⟩ : ByteArray) = rp b n := by
  have e : ∀ n, Lib.repeatL [b] n = List.replicate n b := fun n => by
    induction n with
    | zero => rfl
    | succ n ih => show [b] ++ Lib.repeatL [b] n = _; rw [ih]; rfl
  unfold rp
  rw [← e n]
/-- the key of the ring k among n, by the bar -/
def bk (n k : Nat) : ByteArray := if k = 0 then rp 63 n else rp 48 (k - 1) ++ ⟨#[49]⟩ ++ rp 63 (n - k)
theorem iFK_no (n : Int) (w : World) (h : (decide (1 ≤ n) && decide (n ≤ 10)) = false) : Calls Try.prog 88 #[.int .i64 n] w fun e w' => RetT w [] false e w' := by
  have hR := Lib.hid (fun w => isKC_any n w)
  rw [h] at hR
  go_enter Try.func88, Try.ntmps88
  go_wp2_with fail
  refine (hR.out _).mono ?_; rintro e w' ⟨rfl, rfl⟩
  go_wp2_with fail
  go_ret2; exact ⟨_, rfl, OwnT.nil _ _, Below.refl _ _⟩
theorem srepB_any (b : UInt8) (n : Nat) (w : World) (hn : n ≤ 100) : Calls Try.prog 48 #[.string ⟨#[b]⟩, .int .i64 n] w fun e w' => e = .returned (.string (rp b n)) ∧ Below w.heap.size w w' := by
  have := srep_any ⟨#[b]⟩ n w (by omega) (by show 1 * n ≤ _; omega)
  rwa [repL_one] at this
theorem iFK_yes (n : Nat) (w : World) (h1 : 1 ≤ n) (h2 : n ≤ 10) : Calls Try.prog 88 #[.int .i64 n] w fun e w' => RetT w (List.replicate n (rp 63 n)) true e w' := by
  have hR := Lib.hid (fun w => isKC_any (n : Int) w)
  rw [show (decide ((1 : Int) ≤ (n : Int)) && decide ((n : Int) ≤ 10)) = true by simp; omega] at hR
  have hA := Lib.hid (fun w => srepB_any 63 n w (by omega))
  generalize rp 63 n = t at *
  go_enter Try.func88, Try.ntmps88
  go_wp2_with fail
  refine (hR.out _).mono ?_; rintro e w' ⟨rfl, rfl⟩
  go_wp2_with fail
  refine (hA.out _).mono ?_; rintro e w2 ⟨rfl, hb2⟩
  go_wp2_with fail
  refine (rep_any w2.heap.size 1 n t _ h1 (by omega) (by simp) (by simp)).mono ?_; rintro e w3 ⟨u, rfl, ho, hb3⟩
  go_wp2_with fail
  go_ret2; exact ⟨_, rfl, ho.mono (by have := hb2.size; simp; omega), bt1 (bt1 hb2 (ba1 _ _)) hb3⟩
end Go.Proofs.Ytkcoabdngjbhdab
