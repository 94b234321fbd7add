/- The program's search: how it begins. -/
import Derived.Test.YtcfeaaakfjilgaaSD
import Derived.RegionTactic
import Derived.BigRegion
import Derived.Deep.DeepCutAuto
import Derived.Carry
import Derived.Scope
namespace Go.Proofs.Ytcfeaaakfjilgaa
set_option linter.unusedSimpArgs false
set_option linter.unusedVariables false
open Go Go.RowKit RM Go.Maps Go.WideMaps Go.ChangeMaps
theorem setB_ne {W : World} {b i : Nat} (M : Obj) (h : i ≠ b) : (setBlock W b M).heap[i]? = W.heap[i]? := by
  unfold setBlock
  show (W.heap.setIfInBounds b M)[i]? = _
  rw [Array.getElem?_setIfInBounds_ne (Ne.symm h)]
theorem sbk_1 (W : World) (E M  : Obj) : setBlock (World.alloc W E).drew (W.heap.size) M = (World.alloc W M).drew := by
  unfold setBlock World.drew World.alloc
  congr 1
  apply Array.ext_getElem?
  intro i
  simp only [Array.getElem?_setIfInBounds, Array.getElem?_push, Array.size_push]
  (repeat' split) <;> first | rfl | omega
theorem sbk_2 (W : World) (E M O1 : Obj) : setBlock (World.alloc (World.alloc W E) O1).drew (W.heap.size) M = (World.alloc (World.alloc W M) O1).drew := by
  unfold setBlock World.drew World.alloc
  congr 1
  apply Array.ext_getElem?
  intro i
  simp only [Array.getElem?_setIfInBounds, Array.getElem?_push, Array.size_push]
  (repeat' split) <;> first | rfl | omega
theorem sbk_3 (W : World) (E M O0 : Obj) : setBlock (World.alloc (World.alloc W O0) E).drew (W.heap.size + 1) M = (World.alloc (World.alloc W O0) M).drew := by
  unfold setBlock World.drew World.alloc
  congr 1
  apply Array.ext_getElem?
  intro i
  simp only [Array.getElem?_setIfInBounds, Array.getElem?_push, Array.size_push]
  (repeat' split) <;> first | rfl | omega
theorem sbk_4 (W : World) (E M O1 O2 : Obj) : setBlock (World.alloc (World.alloc (World.alloc W E) O1) O2).drew (W.heap.size) M = (World.alloc (World.alloc (World.alloc W M) O1) O2).drew := by
  unfold setBlock World.drew World.alloc
  congr 1
  apply Array.ext_getElem?
  intro i
  simp only [Array.getElem?_setIfInBounds, Array.getElem?_push, Array.size_push]
  (repeat' split) <;> first | rfl | omega
theorem sbk_5 (W : World) (E M O0 O2 : Obj) : setBlock (World.alloc (World.alloc (World.alloc W O0) E) O2).drew (W.heap.size + 1) M = (World.alloc (World.alloc (World.alloc W O0) M) O2).drew := by
  unfold setBlock World.drew World.alloc
  congr 1
  apply Array.ext_getElem?
  intro i
  simp only [Array.getElem?_setIfInBounds, Array.getElem?_push, Array.size_push]
  (repeat' split) <;> first | rfl | omega
theorem sbk_6 (W : World) (E M O0 O1 : Obj) : setBlock (World.alloc (World.alloc (World.alloc W O0) O1) E).drew (W.heap.size + 1 + 1) M = (World.alloc (World.alloc (World.alloc W O0) O1) M).drew := by
  unfold setBlock World.drew World.alloc
  congr 1
  apply Array.ext_getElem?
  intro i
  simp only [Array.getElem?_setIfInBounds, Array.getElem?_push, Array.size_push]
  (repeat' split) <;> first | rfl | omega
theorem h30 (W : World) (a b c : Obj) : (((W.alloc a).alloc b).alloc c).drew.heap[W.heap.size]? = some a := hb_old _ (hb_old _ (hb_new _ _))
theorem h31 (W : World) (a b c : Obj) : (((W.alloc a).alloc b).alloc c).drew.heap[W.heap.size + 1]? = some b := hb_old _ (hb_new' _ _ _ (by simp))
theorem h32 (W : World) (a b c : Obj) : (((W.alloc a).alloc b).alloc c).drew.heap[W.heap.size + 1 + 1]? = some c := hb_new' _ _ _ (by simp)
theorem h3b (W : World) (a b c : Obj) : Below W.heap.size W (((W.alloc a).alloc b).alloc c).drew := (((ba1 W a).alloc (by simp) b).alloc (by simp; omega) c).drew
abbrev mOne (d : List Nat) (n : Int) : Obj := .map #[⟨(.agg #[.int .i64 ((pl (d) 0 : Nat) : Int), .int .i64 ((pl (d) 1 : Nat) : Int), .int .i64 ((pl (d) 2 : Nat) : Int), .int .i64 ((pl (d) 3 : Nat) : Int), .int .i64 ((pl (d) 4 : Nat) : Int), .int .i64 ((pl (d) 5 : Nat) : Int)]), .int .i64 n, 0⟩] 1
set_option maxRecDepth 1000000 in
theorem ins_run (W : World) (b : Nat) (d : List Nat) (n : Int) (kl : Lit) (hk : keyOf Try.prog 68 (.agg #[.int .i64 ((pl (d) 0 : Nat) : Int), .int .i64 ((pl (d) 1 : Nat) : Int), .int .i64 ((pl (d) 2 : Nat) : Int), .int .i64 ((pl (d) 3 : Nat) : Int), .int .i64 ((pl (d) 4 : Nat) : Int), .int .i64 ((pl (d) 5 : Nat) : Int)]) = some kl) (hb : W.heap[b]? = some (.map #[] 0)) :
    (Instr.mapUpdate 71 (.map (some b)) (.agg #[.int .i64 ((pl (d) 0 : Nat) : Int), .int .i64 ((pl (d) 1 : Nat) : Int), .int .i64 ((pl (d) 2 : Nat) : Int), .int .i64 ((pl (d) 3 : Nat) : Int), .int .i64 ((pl (d) 4 : Nat) : Int), .int .i64 ((pl (d) 5 : Nat) : Int)]) (.int .i64 n)).run Try.prog W = .ok () (setBlock W b (mOne d n)) := by
  have h1 : (Instr.findKey 68 (.agg #[.int .i64 ((pl (d) 0 : Nat) : Int), .int .i64 ((pl (d) 1 : Nat) : Int), .int .i64 ((pl (d) 2 : Nat) : Int), .int .i64 ((pl (d) 3 : Nat) : Int), .int .i64 ((pl (d) 4 : Nat) : Int), .int .i64 ((pl (d) 5 : Nat) : Int)]) (#[] : Array MapEntry).toList).run Try.prog W = .ok none W := by
    rcases lawP.find W hk (#[] : Array MapEntry).toList (fun x hx => by cases hx) with ⟨h1, h2⟩ | ⟨j, e0, h1, h2, h3⟩
    · exact h1
    · cases h2
  simp [Instr.mapUpdate, run_underlying Try.underlying71, MapKept.run_getObj_map hb, lawP.check W false hk, h1, MapKept.run_setObj_map _ hb, Result.andThen, setBlock]
theorem ins_1 (d : List Nat) (kl : Lit) (hk : keyOf Try.prog 68 (.agg #[.int .i64 ((pl (d) 0 : Nat) : Int), .int .i64 ((pl (d) 1 : Nat) : Int), .int .i64 ((pl (d) 2 : Nat) : Int), .int .i64 ((pl (d) 3 : Nat) : Int), .int .i64 ((pl (d) 4 : Nat) : Int), .int .i64 ((pl (d) 5 : Nat) : Int)]) = some kl) (W : World) (n : Int) :
    (Instr.mapUpdate 71 (.map (some (W.heap.size))) (.agg #[.int .i64 ((pl (d) 0 : Nat) : Int), .int .i64 ((pl (d) 1 : Nat) : Int), .int .i64 ((pl (d) 2 : Nat) : Int), .int .i64 ((pl (d) 3 : Nat) : Int), .int .i64 ((pl (d) 4 : Nat) : Int), .int .i64 ((pl (d) 5 : Nat) : Int)]) (.int .i64 n)).run Try.prog (World.alloc W (.map #[] 0)).drew = .ok () (World.alloc W (mOne d n)).drew := by
  rw [ins_run (World.alloc W (.map #[] 0)).drew (W.heap.size) d n kl hk (show (World.alloc W (.map #[] 0)).heap[W.heap.size]? = some (.map #[] 0) from hb_new _ _)]
  rw [sbk_1 W (.map #[] 0) (mOne d n)]
theorem ins_2 (d : List Nat) (kl : Lit) (hk : keyOf Try.prog 68 (.agg #[.int .i64 ((pl (d) 0 : Nat) : Int), .int .i64 ((pl (d) 1 : Nat) : Int), .int .i64 ((pl (d) 2 : Nat) : Int), .int .i64 ((pl (d) 3 : Nat) : Int), .int .i64 ((pl (d) 4 : Nat) : Int), .int .i64 ((pl (d) 5 : Nat) : Int)]) = some kl) (W : World) (n : Int) (O1 : Obj) :
    (Instr.mapUpdate 71 (.map (some (W.heap.size))) (.agg #[.int .i64 ((pl (d) 0 : Nat) : Int), .int .i64 ((pl (d) 1 : Nat) : Int), .int .i64 ((pl (d) 2 : Nat) : Int), .int .i64 ((pl (d) 3 : Nat) : Int), .int .i64 ((pl (d) 4 : Nat) : Int), .int .i64 ((pl (d) 5 : Nat) : Int)]) (.int .i64 n)).run Try.prog (World.alloc (World.alloc W (.map #[] 0)) O1).drew = .ok () (World.alloc (World.alloc W (mOne d n)) O1).drew := by
  rw [ins_run (World.alloc (World.alloc W (.map #[] 0)) O1).drew (W.heap.size) d n kl hk (show (World.alloc (World.alloc W (.map #[] 0)) O1).heap[W.heap.size]? = some (.map #[] 0) from hb_old _ (hb_new _ _))]
  rw [sbk_2 W (.map #[] 0) (mOne d n) O1]
theorem ins_3 (d : List Nat) (kl : Lit) (hk : keyOf Try.prog 68 (.agg #[.int .i64 ((pl (d) 0 : Nat) : Int), .int .i64 ((pl (d) 1 : Nat) : Int), .int .i64 ((pl (d) 2 : Nat) : Int), .int .i64 ((pl (d) 3 : Nat) : Int), .int .i64 ((pl (d) 4 : Nat) : Int), .int .i64 ((pl (d) 5 : Nat) : Int)]) = some kl) (W : World) (n : Int) (O0 : Obj) :
    (Instr.mapUpdate 71 (.map (some (W.heap.size + 1))) (.agg #[.int .i64 ((pl (d) 0 : Nat) : Int), .int .i64 ((pl (d) 1 : Nat) : Int), .int .i64 ((pl (d) 2 : Nat) : Int), .int .i64 ((pl (d) 3 : Nat) : Int), .int .i64 ((pl (d) 4 : Nat) : Int), .int .i64 ((pl (d) 5 : Nat) : Int)]) (.int .i64 n)).run Try.prog (World.alloc (World.alloc W O0) (.map #[] 0)).drew = .ok () (World.alloc (World.alloc W O0) (mOne d n)).drew := by
  rw [ins_run (World.alloc (World.alloc W O0) (.map #[] 0)).drew (W.heap.size + 1) d n kl hk (show (World.alloc (World.alloc W O0) (.map #[] 0)).heap[W.heap.size + 1]? = some (.map #[] 0) from hb_new' _ _ _ (by simp))]
  rw [sbk_3 W (.map #[] 0) (mOne d n) O0]
theorem ins_4 (d : List Nat) (kl : Lit) (hk : keyOf Try.prog 68 (.agg #[.int .i64 ((pl (d) 0 : Nat) : Int), .int .i64 ((pl (d) 1 : Nat) : Int), .int .i64 ((pl (d) 2 : Nat) : Int), .int .i64 ((pl (d) 3 : Nat) : Int), .int .i64 ((pl (d) 4 : Nat) : Int), .int .i64 ((pl (d) 5 : Nat) : Int)]) = some kl) (W : World) (n : Int) (O1 O2 : Obj) :
    (Instr.mapUpdate 71 (.map (some (W.heap.size))) (.agg #[.int .i64 ((pl (d) 0 : Nat) : Int), .int .i64 ((pl (d) 1 : Nat) : Int), .int .i64 ((pl (d) 2 : Nat) : Int), .int .i64 ((pl (d) 3 : Nat) : Int), .int .i64 ((pl (d) 4 : Nat) : Int), .int .i64 ((pl (d) 5 : Nat) : Int)]) (.int .i64 n)).run Try.prog (World.alloc (World.alloc (World.alloc W (.map #[] 0)) O1) O2).drew = .ok () (World.alloc (World.alloc (World.alloc W (mOne d n)) O1) O2).drew := by
  rw [ins_run (World.alloc (World.alloc (World.alloc W (.map #[] 0)) O1) O2).drew (W.heap.size) d n kl hk (show (World.alloc (World.alloc (World.alloc W (.map #[] 0)) O1) O2).heap[W.heap.size]? = some (.map #[] 0) from hb_old _ (hb_old _ (hb_new _ _)))]
  rw [sbk_4 W (.map #[] 0) (mOne d n) O1 O2]
theorem ins_5 (d : List Nat) (kl : Lit) (hk : keyOf Try.prog 68 (.agg #[.int .i64 ((pl (d) 0 : Nat) : Int), .int .i64 ((pl (d) 1 : Nat) : Int), .int .i64 ((pl (d) 2 : Nat) : Int), .int .i64 ((pl (d) 3 : Nat) : Int), .int .i64 ((pl (d) 4 : Nat) : Int), .int .i64 ((pl (d) 5 : Nat) : Int)]) = some kl) (W : World) (n : Int) (O0 O2 : Obj) :
    (Instr.mapUpdate 71 (.map (some (W.heap.size + 1))) (.agg #[.int .i64 ((pl (d) 0 : Nat) : Int), .int .i64 ((pl (d) 1 : Nat) : Int), .int .i64 ((pl (d) 2 : Nat) : Int), .int .i64 ((pl (d) 3 : Nat) : Int), .int .i64 ((pl (d) 4 : Nat) : Int), .int .i64 ((pl (d) 5 : Nat) : Int)]) (.int .i64 n)).run Try.prog (World.alloc (World.alloc (World.alloc W O0) (.map #[] 0)) O2).drew = .ok () (World.alloc (World.alloc (World.alloc W O0) (mOne d n)) O2).drew := by
  rw [ins_run (World.alloc (World.alloc (World.alloc W O0) (.map #[] 0)) O2).drew (W.heap.size + 1) d n kl hk (show (World.alloc (World.alloc (World.alloc W O0) (.map #[] 0)) O2).heap[W.heap.size + 1]? = some (.map #[] 0) from hb_old _ (hb_new' _ _ _ (by simp)))]
  rw [sbk_5 W (.map #[] 0) (mOne d n) O0 O2]
theorem ins_6 (d : List Nat) (kl : Lit) (hk : keyOf Try.prog 68 (.agg #[.int .i64 ((pl (d) 0 : Nat) : Int), .int .i64 ((pl (d) 1 : Nat) : Int), .int .i64 ((pl (d) 2 : Nat) : Int), .int .i64 ((pl (d) 3 : Nat) : Int), .int .i64 ((pl (d) 4 : Nat) : Int), .int .i64 ((pl (d) 5 : Nat) : Int)]) = some kl) (W : World) (n : Int) (O0 O1 : Obj) :
    (Instr.mapUpdate 71 (.map (some (W.heap.size + 1 + 1))) (.agg #[.int .i64 ((pl (d) 0 : Nat) : Int), .int .i64 ((pl (d) 1 : Nat) : Int), .int .i64 ((pl (d) 2 : Nat) : Int), .int .i64 ((pl (d) 3 : Nat) : Int), .int .i64 ((pl (d) 4 : Nat) : Int), .int .i64 ((pl (d) 5 : Nat) : Int)]) (.int .i64 n)).run Try.prog (World.alloc (World.alloc (World.alloc W O0) O1) (.map #[] 0)).drew = .ok () (World.alloc (World.alloc (World.alloc W O0) O1) (mOne d n)).drew := by
  rw [ins_run (World.alloc (World.alloc (World.alloc W O0) O1) (.map #[] 0)).drew (W.heap.size + 1 + 1) d n kl hk (show (World.alloc (World.alloc (World.alloc W O0) O1) (.map #[] 0)).heap[W.heap.size + 1 + 1]? = some (.map #[] 0) from hb_new' _ _ _ (by simp))]
  rw [sbk_6 W (.map #[] 0) (mOne d n) O0 O1]
theorem mapOne {ps : List Nat} {bs : List Blk} (hG : GB ps bs) {d : List Nat} (hd : isSt ps d) {W : World} {b : Nat} (n : Nat) (hn : n ≤ 1000000) (h : W.heap[b]? = some (mOne d n)) : ∃ D, MapP W b D ∧ MF ps D (fun u => if u = d then some n else none) := by
  have hm0 : MapP (W.alloc (.map #[] 0)) W.heap.size (.map []) := World.ownsMap_made W Try.prog 68 _
  have hbb : (W.alloc (.map #[] 0)).heap[W.heap.size]? = some (.map #[] 0) := hb_new _ _
  obtain ⟨w', h1, D', h2, h3, -⟩ := upI hG hd hm0 (MF.zero ps) (Nat.zero_le _) n (by omega)
  rw [ins_run _ _ _ _ _ (keyS hG hd) hbb] at h1
  have e : setBlock (W.alloc (.map #[] 0)) W.heap.size (mOne d n) = w' := by injection h1
  obtain ⟨es, clock, q1, q2, q3, q4⟩ := h2
  have hs : w'.heap[W.heap.size]? = some (mOne d n) := by rw [← e]; exact heap_setBlock_same hbb _
  rw [hs] at q1
  refine ⟨D', ⟨es, clock, h.trans q1, q2, q3, q4⟩, h3⟩
end Go.Proofs.Ytcfeaaakfjilgaa
