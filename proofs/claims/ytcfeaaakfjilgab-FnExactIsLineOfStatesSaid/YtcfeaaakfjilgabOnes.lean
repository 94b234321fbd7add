/- How many binary digits are 1: the library's OnesCount64 (for seats without bars; else XI4). -/
import Derived.Test.YtcfeaaakfjilgabH
import Derived.Test.YtcfeaaakfjilgabPop
import Derived.Test.YtcfeaaakfjilgabS2
import Derived.Test.YtcfeaaakfjilgabVF
namespace Go.Proofs.Ytcfeaaakfjilgab
open Go Go.RowKit RM
theorem ones_core (x a1 a2 a3 r : Nat) (w : World) (h1 : IntKind.u64.wrap (bits BinOp.and IntKind.u64 ((x : Int) / 2) 6148914691236517205 + bits BinOp.and IntKind.u64 (x : Int) 6148914691236517205) = (a1 : Int))
    (h2 : IntKind.u64.wrap (bits BinOp.and IntKind.u64 ((a1 : Int) / 4) 3689348814741910323 + bits BinOp.and IntKind.u64 (a1 : Int) 3689348814741910323) = (a2 : Int))
    (h3 : bits BinOp.and IntKind.u64 ((a2 : Int) / 16 + (a2 : Int)) 1085102592571150095 = (a3 : Int)) (b2 : a2 < 16777216) (b3 : a3 < 16777216)
    (h4 : bits BinOp.and IntKind.i64 ((a3 : Int) + (a3 : Int) / 256 + ((a3 : Int) + (a3 : Int) / 256) / 65536 + ((a3 : Int) + (a3 : Int) / 256 + ((a3 : Int) + (a3 : Int) / 256) / 65536) / 4294967296) 127 = (r : Int)) :
    Calls Try.prog 43 #[.int .u64 x] w fun e w' => e = .returned (.int .i64 r) ∧ w = w' := by
  go_enter Try.func43, Try.ntmps43
  go_wp2_with fail
  go_ret; exact ⟨rfl, rfl⟩

theorem and_u64 (a b c : Nat) (ha : a < 18446744073709551616) (hb : b < 18446744073709551616) (h : a &&& b = c) : bits BinOp.and IntKind.u64 (a : Int) (b : Int) = (c : Int) := by rw [bits_and_u64_nat a b ha hb, h]
theorem ones_any (x : Nat) (w : World) (hx : x < 1048576) : Calls Try.prog 43 #[.int .u64 x] w fun e w' => e = .returned (.int .i64 ((pop x : Nat) : Int)) ∧ w = w' := by
  obtain ⟨a1, a2, a3, e1, e2, e3, c1, c2, c3, e4⟩ := pop_sum x (by omega)
  refine ones_core x a1 a2 a3 (pop x) w ?_ ?_ ?_ c2 c3 ?_
  · have A := and_u64 (x / 2) 6148914691236517205 _ (by omega) (by omega) rfl
    have B := and_u64 x 6148914691236517205 _ (by omega) (by omega) rfl
    rw [show ((x : Int) / 2) = ((x / 2 : Nat) : Int) from by omega]
    rw [show (6148914691236517205 : Int) = ((6148914691236517205 : Nat) : Int) from rfl, A, B, IntKind.wrap_u64]
    generalize x / 2 &&& 6148914691236517205 = p at *
    generalize x &&& 6148914691236517205 = q at *
    omega
  · have A := and_u64 (a1 / 4) 3689348814741910323 _ (by omega) (by omega) rfl
    have B := and_u64 a1 3689348814741910323 _ (by omega) (by omega) rfl
    rw [show ((a1 : Int) / 4) = ((a1 / 4 : Nat) : Int) from by omega]
    rw [show (3689348814741910323 : Int) = ((3689348814741910323 : Nat) : Int) from rfl, A, B, IntKind.wrap_u64]
    generalize a1 / 4 &&& 3689348814741910323 = p at *
    generalize a1 &&& 3689348814741910323 = q at *
    omega
  · have A := and_u64 (a2 / 16 + a2) 1085102592571150095 a3 (by omega) (by omega) e3
    rw [show ((a2 : Int) / 16 + (a2 : Int)) = ((a2 / 16 + a2 : Nat) : Int) from by omega]
    rw [show (1085102592571150095 : Int) = ((1085102592571150095 : Nat) : Int) from rfl, A]
  · have h := bits_mask .i64 63 (by decide) (fun n h0 h1 => by rw [two63] at h1; rw [IntKind.wrap_i64]; omega) 7 (by decide) ((a3 + a3 / 256 + (a3 + a3 / 256) / 65536 + (a3 + a3 / 256 + (a3 + a3 / 256) / 65536) / 4294967296 : Nat) : Int) (by omega) (by rw [two63]; omega)
    rw [show ((2 : Int) ^ 7 - 1) = 127 from by decide] at h
    have e5 : ((a3 : Int) + (a3 : Int) / 256 + ((a3 : Int) + (a3 : Int) / 256) / 65536 + ((a3 : Int) + (a3 : Int) / 256 + ((a3 : Int) + (a3 : Int) / 256) / 65536) / 4294967296) = ((a3 + a3 / 256 + (a3 + a3 / 256) / 65536 + (a3 + a3 / 256 + (a3 + a3 / 256) / 65536) / 4294967296 : Nat) : Int) := by omega
    rw [e5, h, ← e4]
    rfl
end Go.Proofs.Ytcfeaaakfjilgab
