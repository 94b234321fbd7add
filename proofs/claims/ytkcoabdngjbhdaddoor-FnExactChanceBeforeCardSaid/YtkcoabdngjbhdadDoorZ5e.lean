/- Bars compared. -/
import Derived.Test.YtkcoabdngjbhdadDoorZ2
import Derived.Laws.StructEq
namespace Go.Proofs.YtkcoabdngjbhdadDoor
open Go Go.RowKit RM
theorem uBr : Tryd.prog.underlying 34 = some (.struct (Tryd.prog.fieldsOf 34)) := by kernel_rfl
theorem hBr : Tryd.prog.stoodInHeld 34 = false := by kernel_rfl
theorem gBr : Tryd.prog.eqGuardType Tryd.prog.depth 34 = false := by kernel_rfl
theorem eqg_br (w : World) (op : BinOp) (x y : Operand) (xs ys : Array Value) : (eqGuard op 34 x y (.agg xs) (.agg ys)).run Tryd.prog w = .ok () w := run_eqGuard_agg w op _ x y xs ys gBr
theorem fBr : (Tryd.prog.fieldsOf 34).toList.map (fun f => (f.name, f.type, f.offset)) = [("ring", 31, 0), ("rings", 3, 2), ("signs", 32, 3)] := by kernel_rfl
theorem uRg : Tryd.prog.underlying 31 = some (.struct (Tryd.prog.fieldsOf 31)) := by kernel_rfl
theorem fRg : (Tryd.prog.fieldsOf 31).toList.map (fun f => (f.name, f.type, f.offset)) = [("place", 3, 0), ("on", 4, 1)] := by kernel_rfl
theorem part_ring (w : World) (p q r s : Value) : (part 31 #[p, q, r, s] 0).run Tryd.prog w = .ok (.agg #[p, q]) w := by
  simp [part, go_sem, Tryd.isAgg31, Tryd.sizeOf31]
theorem eq_ring (w : World) (d : Nat) (a a' : Int) (b b' : Bool) : (Op.equalIn (d + 2) 31 (.agg #[.int .i64 a, .bool b]) (.agg #[.int .i64 a', .bool b'])).run Tryd.prog w = .ok (a == a' && b == b') w := by
  rw [run_equalIn_agg w (d + 1) _ _ _ uRg (by kernel_rfl)]
  have hr := fRg
  generalize (Tryd.prog.fieldsOf 31).toList = gs at hr ⊢
  rcases gs with _ | ⟨g1, _ | ⟨g2, _ | ⟨g3, gs⟩⟩⟩
  · simp at hr
  · simp at hr
  · simp at hr
    obtain ⟨⟨m1, u1, q1⟩, m2, u2, q2⟩ := hr
    cases ha : (a == a') <;> cases hb : (b == b') <;> simp_all [Op.eqFields, go_sem, Tryd.underlying3, Tryd.underlying4]
  · simp at hr
theorem eq_br (w : World) (a c e a' c' e' : Int) (b b' : Bool) : (binOp .eql 34 (.agg #[.int .i64 a, .bool b, .int .i64 c, .int .u64 e]) (.agg #[.int .i64 a', .bool b', .int .i64 c', .int .u64 e'])).run Tryd.prog w = .ok (.bool ((a == a' && b == b') && (c == c' && e == e'))) w := by
  rw [run_eql_struct, run_equalIn_agg w 9999 _ _ _ uBr hBr]
  obtain ⟨d, hd⟩ : ∃ d, 9999 = d + 2 := ⟨9997, rfl⟩
  rw [hd]
  clear hd
  have hE := fun w => eq_ring w d a a' b b'
  have hf := fBr
  generalize (Tryd.prog.fieldsOf 34).toList = fs at hf ⊢
  rcases fs with _ | ⟨f1, _ | ⟨f2, _ | ⟨f3, _ | ⟨f4, fs⟩⟩⟩⟩
  · simp at hf
  · simp at hf
  · simp at hf
  · simp at hf
    obtain ⟨⟨n1, t1, o1⟩, ⟨n2, t2, o2⟩, n3, t3, o3⟩ := hf
    simp only [Op.eqFields, n1, t1, o1, Sem.run_bind, Sem.run_ite, part_ring, hE, Result.andThen_ok]
    cases hab : (a == a' && b == b')
    · simp
    · cases h3 : (c == c') <;> cases h4 : (e == e') <;> simp [n2, t2, o2, n3, t3, o3, h3, h4, go_sem, Tryd.underlying3, Tryd.underlying32]
  · simp at hf
end Go.Proofs.YtkcoabdngjbhdadDoor
