/- All turns from a state, by the program. -/
import Derived.Test.YtjlecipeoaohiaaXK
import Derived.Laws.EntriesVeiled
namespace Go.Proofs.Ytjlecipeoaohiaa
open Go Go.RowKit RM
abbrev wayV : Value := .agg #[.int .i64 1, .func (Fn.func 109) #[] #[], .int .i64 (-1), .func (Fn.func 110) #[] #[]]
theorem turnWays_any (w : World) : Calls Try.prog 97 #[] w fun e w' => e = .returned wayV ∧ Below w.heap.size w w' := by
  go_enter Try.func97, Try.ntmps97
  go_wp2_with fail
  refine bodyPost_ret (v := wayV) ?_ rfl ⟨rfl, ?_⟩
  · simp [results, Try.results97, go_sem, wayV]
  · exact ba1 w _
theorem ix0 (w : World) : (Instr.index 116 wayV (.int .i64 0)).run Try.prog w = .ok (.agg #[.int .i64 1, .func (Fn.func 109) #[] #[]]) w := by kernel_rfl
theorem ix1 (w : World) : (Instr.index 116 wayV (.int .i64 1)).run Try.prog w = .ok (.agg #[.int .i64 (-1), .func (Fn.func 110) #[] #[]]) w := by kernel_rfl
/-- turns as elements of a row -/
def tnE : Elt (Int × Int × (Nat → Int)) where
  e := 70
  n := 8
  bytes := 64
  z := .agg #[.int .i64 0, .int .i64 0, .int .i64 0, .int .i64 0, .int .i64 0, .int .i64 0, .int .i64 0, .int .i64 0]
  d := (0, 0, fun _ => 0)
  cells m := [.int .i64 m.1, .int .i64 m.2.1, .int .i64 (m.2.2 0), .int .i64 (m.2.2 1), .int .i64 (m.2.2 2), .int .i64 (m.2.2 3), .int .i64 (m.2.2 4), .int .i64 (m.2.2 5)]
  len _ := rfl
  one x u hu := by simp at hu; rcases hu with rfl | rfl | rfl | rfl | rfl | rfl | rfl | rfl <;> rfl
  pos := by decide
  zs := rfl
  info := by kernel_rfl
  small := by decide
def tnW (d : List Nat) (m : Nat × Bool) : Int × Int × (Nat → Int) := ((m.1 : Int), byX m.2, dF (tuD d m.1 m.2))
abbrev tnC (k y : Int) (f : Nat → Int) : Array Value := #[.int .i64 k, .int .i64 y, .int .i64 (f 0), .int .i64 (f 1), .int .i64 (f 2), .int .i64 (f 3), .int .i64 (f 4), .int .i64 (f 5)]
/-- 'append(list, turn)' -/
theorem app_tn (w : World) {ops : Array Oper} {rest : List Oper} {o : Oper} {a : Act} {Q : Exit → Act → World → Prop} (hgd : o.guard = none) (s x : Operand)
    (ho : o.op = .call { callee := .builtin .append, args := #[s, x], argTypes := #[67, 67] })
    (B : Nat) (v : Value) (xs : List (Int × Int × (Nat → Int))) (hs : a.eval s = v) (hown : OwnG tnE w B v xs) (g : Nat) (k y : Int) (f : Nat → Int) (hx : a.eval x = .slice (some ⟨g, 0, none⟩) 1 1)
    (hcell : w.heap[g]? = some (.cells (tnC k y f) 70)) (hlen : xs.length ≤ 1000000) (hB : B ≤ w.heap.size)
    (h : ∀ v' w', OwnG tnE w' B v' (xs ++ [(k, y, f)]) → w.grownBy w' v.ownBlock → (v'.ownBlock = v.ownBlock ∨ v'.ownBlock = some w.heap.size) → wpList Try.prog ops Q rest (a.put o.dst v') w') : wpList Try.prog ops Q (o :: rest) a w := by
  refine app_G w hgd s x 67 ho Try.underlying67 B v xs hs hown g (k, y, f) hx (fun o u hu => ?_) hlen hB h
  have ho : o < 8 := by
    apply Nat.lt_of_not_le
    intro hle
    rw [List.getElem?_eq_none (by rw [tnE.len]; exact hle)] at hu
    cases hu
  rw [hb_cell hcell]
  match o, ho with
  | 0, _ => exact hu
  | 1, _ => exact hu
  | 2, _ => exact hu
  | 3, _ => exact hu
  | 4, _ => exact hu
  | 5, _ => exact hu
  | 6, _ => exact hu
  | 7, _ => exact hu
/-- the turns among the first n candidates: each part on, then back -/
def tK (s : Nat) (rs : List ByteArray) (d : List Nat) : Nat → List (Nat × Bool)
  | 0 => []
  | n + 1 => tK s rs d n ++ (if tuB s rs d (n / 2) (n % 2 == 0) then [(n / 2, n % 2 == 0)] else [])
theorem tK_len (s : Nat) (rs : List ByteArray) (d : List Nat) (n : Nat) : (tK s rs d n).length ≤ n := by
  induction n with
  | zero => exact Nat.le_refl _
  | succ n ih => unfold tK; rw [List.length_append]; split <;> simp only [List.length_cons, List.length_nil] <;> omega
theorem tK_on (s : Nat) (rs : List ByteArray) (d : List Nat) (k : Nat) : tK s rs d (2 * k + 1) = tK s rs d (2 * k) ++ (if tuB s rs d k true then [(k, true)] else []) := by
  have h1 : 2 * k / 2 = k := by omega
  have h2 : (2 * k % 2 == 0) = true := by rw [beq_iff_eq]; omega
  show tK s rs d (2 * k) ++ _ = _
  rw [h1, h2]
theorem tK_back (s : Nat) (rs : List ByteArray) (d : List Nat) (k : Nat) : tK s rs d (2 * k + 2) = tK s rs d (2 * k + 1) ++ (if tuB s rs d k false then [(k, false)] else []) := by
  have h1 : (2 * k + 1) / 2 = k := by omega
  have h2 : ((2 * k + 1) % 2 == 0) = false := by rw [beq_eq_false_iff_ne]; omega
  show tK s rs d (2 * k + 1) ++ _ = _
  rw [h1, h2]
end Go.Proofs.Ytjlecipeoaohiaa
