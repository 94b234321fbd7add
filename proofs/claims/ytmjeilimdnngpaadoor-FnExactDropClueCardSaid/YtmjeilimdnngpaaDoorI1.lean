import Derived.Test.YtmjeilimdnngpaaDoorH
import Derived.Lib.TrailingZeros
import Derived.Laws.Bits64b
namespace Go.Proofs.YtmjeilimdnngpaaDoor
open Go Go.RowKit RM

/-- the library's table, as its text lays it -/
def TabOk (w : World) : Prop := ∀ j, j < 64 → w.cell? ⟨3, j, none⟩ = some (.int .u8 (Lib.deBruijn64tab.getD j 0))

theorem tz_key (x a : Nat) (hx : x < 18446744073709551616) (hx0 : x ≠ 0) (hlow : x &&& (18446744073709551616 - x) = a) :
    IntKind.u64.wrap (Go.bits BinOp.and IntKind.u64 (x : Int) (IntKind.u64.wrap (-(x : Int))) * 285870213051353865) / 288230376151711744 = ((a * 285870213051353865 % 18446744073709551616 / 288230376151711744 : Nat) : Int) := by
  have e1 : IntKind.u64.wrap (-(x : Int)) = ((18446744073709551616 - x : Nat) : Int) := by rw [IntKind.wrap_u64]; omega
  rw [e1, bits_and_u64_nat x _ hx (by omega), hlow, IntKind.wrap_u64]
  omega

set_option maxHeartbeats 1000000 in
theorem tz64_core (x k idx : Nat) (w : World) (hx0 : ((x : Int) == 0) = false)
    (key : IntKind.u64.wrap (Go.bits BinOp.and IntKind.u64 (x : Int) (IntKind.u64.wrap (-(x : Int))) * 285870213051353865) / 288230376151711744 = (idx : Int))
    (hi : idx < 64) (hk : k < 64) (hcell : w.cell? ⟨3, idx, none⟩ = some (.int .u8 k)) :
    Calls Tryd.prog 121 #[.int .u64 x] w fun e w' => e = .returned (.int .i64 k) ∧ w = w' := by
  go_enter Tryd.func121, Tryd.ntmps121
  go_wp2_with (simp only [key])
  go_ret
  exact ⟨rfl, rfl⟩

theorem lib_ctz (x : Nat) (h0 : x ≠ 0) (h : x < 2 ^ 64) : Lib.ctz 64 x = ctz x := by
  obtain ⟨m, hm, _⟩ := Lib.ctzFrom_spec 64 x (by omega) h
  have e : Lib.ctz 64 x = Lib.ctzFrom 64 x := by unfold Lib.ctz; rw [if_neg h0]
  rw [e]
  generalize Lib.ctzFrom 64 x = c at hm
  subst hm
  refine (ctz_uniq _ c ?_ ?_).2.symm
  · rw [Nat.testBit_eq_decide_div_mod_eq, Nat.mul_div_cancel_left _ (Nat.two_pow_pos c)]; simp
  · simp

theorem tz_any (x : Nat) (w : World) (h0 : x ≠ 0) (hx : x < 2 ^ 64) (hT : TabOk w) :
    Calls Tryd.prog 110 #[.int .u64 x] w fun e w' => e = .returned (.int .i64 (ctz x)) ∧ w = w' := by
  obtain ⟨hlow, hk⟩ := Lib.lowest_bit 64 x h0 hx
  obtain ⟨hi, htab⟩ := Lib.deBruijn64_at _ hk
  have hcell := hT _ hi
  rw [htab] at hcell
  have C := Lib.hid (tz64_core x _ _ w (by simp; omega) (tz_key x _ hx h0 hlow) hi hk hcell)
  rw [lib_ctz x h0 hx] at C
  clear hcell htab hi hk hlow hT
  go_enter Tryd.func110, Tryd.ntmps110
  go_wp2_with (go_at_call 121; refine C.out.mono ?_; rintro e w' ⟨rfl, rfl⟩)
  go_ret; exact ⟨rfl, rfl⟩

/-- a ring is on; no ring is on -/
def onB (x : Nat) : Bool := decide (x ≠ 0)
theorem onB_pos {x : Nat} (h : x ≠ 0) : onB x = true := by unfold onB; simp [h]

theorem bcell {W w1 : World} (hb : Below W.heap.size W w1) : (∀ b o, b < W.heap.size → w1.cell? ⟨b, o, none⟩ = W.cell? ⟨b, o, none⟩) ∧ (∀ b o, b < W.heap.size → w1.frozen? ⟨b, o, none⟩ = W.frozen? ⟨b, o, none⟩) :=
  ⟨fun b o h => hb.cell (p := ⟨b, o, none⟩) h, fun b o h => hb.frozen (p := ⟨b, o, none⟩) h⟩
theorem TabOk.lt {w : World} (h : TabOk w) : 3 < w.heap.size := block_lt (h 0 (by omega))
theorem TabOk.below {w w' : World} (h : TabOk w) (hb : Below w.heap.size w w') : TabOk w' := fun j hj => by
  rw [hb.cell (p := ⟨3, j, none⟩) h.lt]; exact h j hj
theorem TabOk.alloc {w : World} (h : TabOk w) (o : Obj) : TabOk (w.alloc o) := h.below ((Below.refl _ _).alloc (Nat.le_refl _) o)

theorem TabOk.drew {w : World} (h : TabOk w) : TabOk w.drew := h.below (Below.refl _ _).drew
theorem TabOk.drewN {w : World} (h : TabOk w) (n : Nat) : TabOk (w.drewN n) := h.below (below_drewN (Below.refl _ _) n)
theorem newBar_on (n x : Nat) (w : World) (h0 : x ≠ 0) (hx : x < 2 ^ 64) (hT : TabOk w) :
    Calls Tryd.prog 96 #[.int .i64 n, .int .u64 x] w fun e w' => e = .returned (.agg #[.int .i64 ((ctz (x) : Nat) : Int), .bool (onB (x)), .int .i64 ((n : Nat) : Int), .int .u64 ((x : Nat) : Int)]) ∧ Below w.heap.size w w' := by
  have hC := Lib.hid fun w hw => tz_any x w h0 hx hw
  have hb0 : ((x : Int) != 0) = true := by simp; omega
  have hv : Hid (onB x = true) := Lib.hid (onB_pos h0)
  have hT := Lib.hid hT
  clear h0 hx
  go_enter Tryd.func96, Tryd.ntmps96
  go_wp2_with fail
  refine (hC.out _ ((hT.out.alloc _).alloc _)).mono ?_
  rintro e w' ⟨rfl, rfl⟩
  go_wp2_with fail
  exact bodyPost_ret (v := .agg #[.int .i64 (ctz x), .bool true, .int .i64 n, .int .u64 x]) (by simp [results, Tryd.results96, go_sem]) rfl ⟨by rw [hv.out], ((Below.refl _ _).alloc (Nat.le_refl _) _).alloc (by simp) _⟩

theorem newBar_off (n : Nat) (w : World) :
    Calls Tryd.prog 96 #[.int .i64 n, .int .u64 0] w fun e w' => e = .returned (.agg #[.int .i64 ((ctz (0) : Nat) : Int), .bool (onB (0)), .int .i64 ((n : Nat) : Int), .int .u64 ((0 : Nat) : Int)]) ∧ Below w.heap.size w w' := by
  go_enter Tryd.func96, Tryd.ntmps96
  go_wp2_with fail
  exact bodyPost_ret (v := .agg #[.int .i64 0, .bool false, .int .i64 n, .int .u64 0]) (by simp [results, Tryd.results96, go_sem]) rfl ⟨by rw [show ctz 0 = 0 from by rw [ctz]; simp]; rfl, ((Below.refl _ _).alloc (Nat.le_refl _) _).alloc (by simp) _⟩

theorem newBar_any (n x : Nat) (w : World) (hx : x < 2 ^ 64) (hT : TabOk w) :
    Calls Tryd.prog 96 #[.int .i64 n, .int .u64 x] w fun e w' => e = .returned (.agg #[.int .i64 ((ctz (x) : Nat) : Int), .bool (onB (x)), .int .i64 ((n : Nat) : Int), .int .u64 ((x : Nat) : Int)]) ∧ Below w.heap.size w w' := by
  by_cases h : x = 0
  · subst h; exact newBar_off n w
  · exact newBar_on n x w h hx hT

end Go.Proofs.YtmjeilimdnngpaaDoor
