/- The sum of the binary digits, as the library adds them up. Nothing of any program. -/
import Derived.Test.YtmjeilimdnngpaaDoorStr
namespace Go.Proofs.YtmjeilimdnngpaaDoor
open RM

theorem land_split (k a b c d : Nat) (ha : a < 2 ^ k) (hc : c < 2 ^ k) : (2 ^ k * b + a) &&& (2 ^ k * d + c) = 2 ^ k * (b &&& d) + (a &&& c) := by
  apply Nat.eq_of_testBit_eq
  intro j
  have hac : a &&& c < 2 ^ k := Nat.lt_of_le_of_lt Nat.and_le_left ha
  rw [Nat.testBit_and, Nat.testBit_two_pow_mul_add _ ha, Nat.testBit_two_pow_mul_add _ hc, Nat.testBit_two_pow_mul_add _ hac]
  split
  · rw [Nat.testBit_and]
  · rw [Nat.testBit_and]
theorem land3 (a0 a1 a2 c r : Nat) (h0 : a0 < 256) (h1 : a1 < 256) (h2 : a2 < 256) (hc : c < 256) :
    (a0 + 256 * a1 + 65536 * a2) &&& (c + 256 * c + 65536 * c + 16777216 * r) = (a0 &&& c) + 256 * (a1 &&& c) + 65536 * (a2 &&& c) := by
  have e1 : a0 + 256 * a1 + 65536 * a2 = 2 ^ 8 * (2 ^ 8 * (2 ^ 8 * 0 + a2) + a1) + a0 := by omega
  have e2 : c + 256 * c + 65536 * c + 16777216 * r = 2 ^ 8 * (2 ^ 8 * (2 ^ 8 * r + c) + c) + c := by omega
  rw [e1, e2, land_split 8 _ _ _ _ (by omega) (by omega), land_split 8 _ _ _ _ (by omega) (by omega), land_split 8 _ _ _ _ (by omega) (by omega)]
  simp
  omega
/-- byte by byte -/
def q1 (b : Nat) : Nat := (b / 2 &&& 85) + (b &&& 85)
def q2 (b : Nat) : Nat := (b / 4 &&& 51) + (b &&& 51)
def q3 (b : Nat) : Nat := (b / 16 + b) &&& 15
theorem t1 : ∀ b, b < 256 → ∀ t, t < 2 → (b / 2 + 128 * t) &&& 85 = b / 2 &&& 85 := by decide +kernel
theorem t2 : ∀ b, b < 256 → ∀ t, t < 4 → (b / 4 + 64 * t) &&& 51 = b / 4 &&& 51 := by decide +kernel
theorem s1 : ∀ b, b < 256 → q1 b < 256 := by decide +kernel
theorem s2 : ∀ b, b < 256 → q2 (q1 b) ≤ 68 ∧ q2 (q1 b) % 16 ≤ 4 := by decide +kernel
theorem t3 : ∀ b, b ≤ 68 → ∀ t, t ≤ 4 → (b / 16 + 16 * t + b) &&& 15 = (b / 16 + b) &&& 15 := by decide +kernel
theorem s3 : ∀ b, b < 256 → q3 (q2 (q1 b)) ≤ 8 := by decide +kernel
theorem pop8 : ∀ b, b < 256 → q3 (q2 (q1 b)) = b % 2 + b / 2 % 2 + b / 4 % 2 + b / 8 % 2 + b / 16 % 2 + b / 32 % 2 + b / 64 % 2 + b / 128 % 2 := by decide +kernel

theorem step1 (b0 b1 b2 : Nat) (h0 : b0 < 256) (h1 : b1 < 256) (h2 : b2 < 256) :
    ((b0 + 256 * b1 + 65536 * b2) / 2 &&& 6148914691236517205) + ((b0 + 256 * b1 + 65536 * b2) &&& 6148914691236517205) = q1 b0 + 256 * q1 b1 + 65536 * q1 b2 := by
  have e : (b0 + 256 * b1 + 65536 * b2) / 2 = (b0 / 2 + 128 * (b1 % 2)) + 256 * (b1 / 2 + 128 * (b2 % 2)) + 65536 * (b2 / 2) := by omega
  have m : 6148914691236517205 = 85 + 256 * 85 + 65536 * 85 + 16777216 * 366503875925 := by rfl
  rw [e, m, land3 _ _ _ _ _ (by omega) (by omega) (by omega) (by omega), land3 _ _ _ _ _ h0 h1 h2 (by omega), t1 b0 h0 _ (by omega), t1 b1 h1 _ (by omega)]
  unfold q1; omega
theorem step2 (b0 b1 b2 : Nat) (h0 : b0 < 256) (h1 : b1 < 256) (h2 : b2 < 256) :
    ((b0 + 256 * b1 + 65536 * b2) / 4 &&& 3689348814741910323) + ((b0 + 256 * b1 + 65536 * b2) &&& 3689348814741910323) = q2 b0 + 256 * q2 b1 + 65536 * q2 b2 := by
  have e : (b0 + 256 * b1 + 65536 * b2) / 4 = (b0 / 4 + 64 * (b1 % 4)) + 256 * (b1 / 4 + 64 * (b2 % 4)) + 65536 * (b2 / 4) := by omega
  have m : 3689348814741910323 = 51 + 256 * 51 + 65536 * 51 + 16777216 * 219902325555 := by rfl
  rw [e, m, land3 _ _ _ _ _ (by omega) (by omega) (by omega) (by omega), land3 _ _ _ _ _ h0 h1 h2 (by omega), t2 b0 h0 _ (by omega), t2 b1 h1 _ (by omega)]
  unfold q2; omega
theorem step3 (b0 b1 b2 : Nat) (h0 : b0 ≤ 68) (h1 : b1 ≤ 68) (h2 : b2 ≤ 68) (k1 : b1 % 16 ≤ 4) (k2 : b2 % 16 ≤ 4) :
    ((b0 + 256 * b1 + 65536 * b2) / 16 + (b0 + 256 * b1 + 65536 * b2)) &&& 1085102592571150095 = q3 b0 + 256 * q3 b1 + 65536 * q3 b2 := by
  have e : (b0 + 256 * b1 + 65536 * b2) / 16 + (b0 + 256 * b1 + 65536 * b2) = (b0 / 16 + 16 * (b1 % 16) + b0) + 256 * (b1 / 16 + 16 * (b2 % 16) + b1) + 65536 * (b2 / 16 + b2) := by omega
  have m : 1085102592571150095 = 15 + 256 * 15 + 65536 * 15 + 16777216 * 64677154575 := by rfl
  rw [e, m, land3 _ _ _ _ _ (by omega) (by omega) (by omega) (by omega), t3 b0 h0 _ k1, t3 b1 h1 _ k2]
  unfold q3; omega
def f8 (b : Nat) : Nat := b % 2 + b / 2 % 2 + b / 4 % 2 + b / 8 % 2 + b / 16 % 2 + b / 32 % 2 + b / 64 % 2 + b / 128 % 2
theorem f8_low (z : Nat) : f8 z = f8 (z % 256) := by
  unfold f8
  have e0 : z % 2 = z % 256 % 2 := by omega
  have e1 : z / 2 % 2 = z % 256 / 2 % 2 := by omega
  have e2 : z / 4 % 2 = z % 256 / 4 % 2 := by omega
  have e3 : z / 8 % 2 = z % 256 / 8 % 2 := by omega
  have e4 : z / 16 % 2 = z % 256 / 16 % 2 := by omega
  have e5 : z / 32 % 2 = z % 256 / 32 % 2 := by omega
  have e6 : z / 64 % 2 = z % 256 / 64 % 2 := by omega
  have e7 : z / 128 % 2 = z % 256 / 128 % 2 := by omega
  rw [e0, e1, e2, e3, e4, e5, e6, e7]
theorem pop_f8 (z : Nat) : pop z = f8 z + pop (z / 256) := by
  have e : z / 2 / 2 / 2 / 2 / 2 / 2 / 2 / 2 = z / 256 := by omega
  have d2 : z / 2 / 2 = z / 4 := by omega
  have d3 : z / 4 / 2 = z / 8 := by omega
  have d4 : z / 8 / 2 = z / 16 := by omega
  have d5 : z / 16 / 2 = z / 32 := by omega
  have d6 : z / 32 / 2 = z / 64 := by omega
  have d7 : z / 64 / 2 = z / 128 := by omega
  have d8 : z / 128 / 2 = z / 256 := by omega
  rw [pop_rec z, pop_rec (z / 2), d2, pop_rec (z / 4), d3, pop_rec (z / 8), d4, pop_rec (z / 16), d5, pop_rec (z / 32), d6, pop_rec (z / 64), d7, pop_rec (z / 128), d8]
  unfold f8
  simp only [Nat.add_assoc]
theorem pop_bytes (b0 b1 b2 : Nat) (h0 : b0 < 256) (h1 : b1 < 256) (h2 : b2 < 256) : pop (b0 + 256 * b1 + 65536 * b2) = q3 (q2 (q1 b0)) + q3 (q2 (q1 b1)) + q3 (q2 (q1 b2)) := by
  have g0 : q3 (q2 (q1 b0)) = f8 b0 := pop8 b0 h0
  have g1 : q3 (q2 (q1 b1)) = f8 b1 := pop8 b1 h1
  have g2 : q3 (q2 (q1 b2)) = f8 b2 := pop8 b2 h2
  have d1 : (b0 + 256 * b1 + 65536 * b2) / 256 = b1 + 256 * b2 := by omega
  have d2 : (b1 + 256 * b2) / 256 = b2 := by omega
  have d3 : b2 / 256 = 0 := by omega
  have m1 : (b0 + 256 * b1 + 65536 * b2) % 256 = b0 := by omega
  have m2 : (b1 + 256 * b2) % 256 = b1 := by omega
  rw [g0, g1, g2, pop_f8, d1, pop_f8 (b1 + 256 * b2), d2, pop_f8 b2, d3, pop_zero, f8_low (b0 + 256 * b1 + 65536 * b2), m1, f8_low (b1 + 256 * b2), m2]
  omega

/-- what the library's sum comes to -/
theorem pop_sum (x : Nat) (hx : x < 16777216) : ∃ a1 a2 a3, (x / 2 &&& 6148914691236517205) + (x &&& 6148914691236517205) = a1 ∧ (a1 / 4 &&& 3689348814741910323) + (a1 &&& 3689348814741910323) = a2 ∧ (a2 / 16 + a2) &&& 1085102592571150095 = a3 ∧
    a1 < 16777216 ∧ a2 < 16777216 ∧ a3 < 16777216 ∧ (a3 + a3 / 256 + (a3 + a3 / 256) / 65536 + (a3 + a3 / 256 + (a3 + a3 / 256) / 65536) / 4294967296) % 128 = pop x := by
  obtain ⟨b0, b1, b2, h0, h1, h2, rfl⟩ : ∃ b0 b1 b2, b0 < 256 ∧ b1 < 256 ∧ b2 < 256 ∧ x = b0 + 256 * b1 + 65536 * b2 := ⟨x % 256, x / 256 % 256, x / 65536, by omega, by omega, by omega, by omega⟩
  have u0 := s1 b0 h0
  have u1 := s1 b1 h1
  have u2 := s1 b2 h2
  have v0 := s2 b0 h0
  have v1 := s2 b1 h1
  have v2 := s2 b2 h2
  have z0 := s3 b0 h0
  have z1 := s3 b1 h1
  have z2 := s3 b2 h2
  refine ⟨_, _, _, step1 b0 b1 b2 h0 h1 h2, step2 _ _ _ u0 u1 u2, step3 _ _ _ v0.1 v1.1 v2.1 v1.2 v2.2, by omega, by omega, by omega, ?_⟩
  rw [pop_bytes b0 b1 b2 h0 h1 h2]
  generalize q3 (q2 (q1 b0)) = y0 at *
  generalize q3 (q2 (q1 b1)) = y1 at *
  generalize q3 (q2 (q1 b2)) = y2 at *
  have e1 : (y0 + 256 * y1 + 65536 * y2) / 256 = y1 + 256 * y2 := by omega
  rw [e1]
  have e2 : (y0 + 256 * y1 + 65536 * y2 + (y1 + 256 * y2)) / 65536 = y2 := by omega
  rw [e2]
  have e3 : (y0 + 256 * y1 + 65536 * y2 + (y1 + 256 * y2) + y2) / 4294967296 = 0 := by omega
  rw [e3]
  omega
end Go.Proofs.YtmjeilimdnngpaaDoor
