import Derived.Test.YtcfeaaakfjilgaaJ3
import Derived.Laws.StructEq
namespace Go.Proofs.Ytcfeaaakfjilgaa
open Go Go.RowKit RM
theorem uSl : Try.prog.underlying 79 = some (.struct (Try.prog.fieldsOf 79)) := by kernel_rfl
theorem hSl : Try.prog.stoodInHeld 79 = false := by kernel_rfl
theorem gSl : Try.prog.eqGuardType Try.prog.depth 79 = false := by kernel_rfl
theorem eqg_sl (w : World) (op : BinOp) (x y : Operand) (xs ys : Array Value) : (eqGuard op 79 x y (.agg xs) (.agg ys)).run Try.prog w = .ok () w := run_eqGuard_agg w op _ x y xs ys gSl
theorem fSl : (Try.prog.fieldsOf 79).toList.map (fun f => (f.name, f.type, f.offset)) = [("Bolt", 3, 0), ("By", 3, 1)] := by kernel_rfl
theorem eq_sl (w : World) (a b c d : Int) : (binOp .eql 79 (.agg #[.int .i64 a, .int .i64 b]) (.agg #[.int .i64 c, .int .i64 d])).run Try.prog w = .ok (.bool (a == c && b == d)) w := by
  rw [run_eql_struct, run_equalIn_agg w _ _ _ _ uSl hSl]
  have hf := fSl
  generalize (Try.prog.fieldsOf 79).toList = fs at hf ⊢
  rcases fs with _ | ⟨f1, _ | ⟨f2, _ | ⟨f3, fs⟩⟩⟩
  · simp at hf
  · simp at hf
  · simp at hf
    obtain ⟨⟨n1, t1, o1⟩, n2, t2, o2⟩ := hf
    cases ha : (a == c) <;> cases hb : (b == d) <;> simp_all [Op.eqFields, go_sem, Try.underlying3]
  · simp at hf
end Go.Proofs.Ytcfeaaakfjilgaa
