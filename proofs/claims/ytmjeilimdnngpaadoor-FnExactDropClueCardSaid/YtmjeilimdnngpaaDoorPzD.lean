/- All clues, one after the other, behind the door to which a clue that is none comes. -/
import Derived.Test.YtmjeilimdnngpaaDoorPzC
namespace Go.Proofs.YtmjeilimdnngpaaDoor
open Go Go.RowKit RM
theorem ta_clue (w : World) (k a b : Int) : (Instr.typeAssert (.iface 44 (.agg #[.int .i64 k, .int .i64 a, .int .i64 b])) 20 44 true).run Tryd.prog w = .ok (.tuple #[.agg #[.int .i64 k, .int .i64 a, .int .i64 b], .bool true]) w := by kernel_rfl
theorem ta_none (w : World) : (Instr.typeAssert .nilIface 20 44 true).run Tryd.prog w = .ok (.tuple #[.agg #[.int .i64 0, .int .i64 0, .int .i64 0], .bool false]) w := by kernel_rfl
set_option maxHeartbeats 1000000 in
theorem catch_clue (gl gk : Nat) (k a b : Int) (u1 : Value) (b1 : Bool) (older : List PanicEntry) (w : World) (hl : w.cell? ⟨gl, 0, none⟩ = some u1) (hk : w.cell? ⟨gk, 0, none⟩ = some (.bool b1)) (fl : w.frozen? ⟨gl, 0, none⟩ = false) (fk : w.frozen? ⟨gk, 0, none⟩ = false) (hne : ¬ gl = gk) (h1 : gl < w.heap.size) (h2 : gk < w.heap.size) :
    CallsD Tryd.prog 88 #[.pointer (some ⟨gl, 0, none⟩), .pointer (some ⟨gk, 0, none⟩)] (.panicking ({ v := .iface 44 (.agg #[.int .i64 k, .int .i64 a, .int .i64 b]), recovered := false } :: older)) w fun e u' w' =>
      e = .returned (.tuple #[]) ∧ u' = .panicking ({ v := .iface 44 (.agg #[.int .i64 k, .int .i64 a, .int .i64 b]), recovered := true } :: older) ∧ w' = ((w.alloc (cluO k a b)).setCell ⟨gl, 0, none⟩ (.slice none 0 0)).setCell ⟨gk, 0, none⟩ (.bool false) := by
  have hta := ta_clue
  refine callsD_of_wpS Tryd.func88 rfl fun c₀ cs hu => ?_
  apply wpS_seq
  apply wpS_region
  simp [wpOpsS, go_sem, recoverD, hu, Tryd.ntmps88, Exit.thenS, hta]
  have eL : (w.alloc (cluO k a b)).cell? ⟨gl, 0, none⟩ = some u1 := by rw [(ba1 w _).cell (p := ⟨gl, 0, none⟩) h1]; exact hl
  have eK : (w.alloc (cluO k a b)).cell? ⟨gk, 0, none⟩ = some (.bool b1) := by rw [(ba1 w _).cell (p := ⟨gk, 0, none⟩) h2]; exact hk
  have gL : (w.alloc (cluO k a b)).frozen? ⟨gl, 0, none⟩ = false := by rw [(ba1 w _).frozen (p := ⟨gl, 0, none⟩) h1]; exact fl
  have gK : (w.alloc (cluO k a b)).frozen? ⟨gk, 0, none⟩ = false := by rw [(ba1 w _).frozen (p := ⟨gk, 0, none⟩) h2]; exact fk
  generalize w.alloc (cluO k a b) = W at *
  apply wpS_seq
  apply wpS_region
  simp [wpOpsS, go_sem, Exit.thenS]
  refine wpS_cond (t := true) (by simp [Act.eval, Array.replicate]) ?_
  simp only [if_true]
  apply wpS_region
  simp [wpOpsS, go_sem, eL, eK, gL, gK, hne, bodyPostS, results, Tryd.results88]

set_option maxHeartbeats 1000000 in
theorem catch_none (gl gk : Nat) (w : World) :
    CallsD Tryd.prog 88 #[.pointer (some ⟨gl, 0, none⟩), .pointer (some ⟨gk, 0, none⟩)] .returning w fun e u' w' => e = .returned (.tuple #[]) ∧ u' = .returning ∧ w' = w.alloc (cluO 0 0 0) := by
  have hta := ta_none
  refine callsD_of_wpS Tryd.func88 rfl fun c₀ cs hu => ?_
  apply wpS_seq
  apply wpS_region
  simp [wpOpsS, go_sem, recoverD, hu, Tryd.ntmps88, Exit.thenS, hta]
  apply wpS_seq
  apply wpS_region
  simp [wpOpsS, go_sem, Exit.thenS]
  refine wpS_cond (t := false) (by simp [Act.eval, Array.replicate]) ?_
  simp only [Bool.false_eq_true, if_false]
  refine wpS_of_wp (wp_skip ?_)
  cases c₀
  simp_all [bodyPostS, results, Tryd.results88]

end Go.Proofs.YtmjeilimdnngpaaDoor
