/- Rows of lamps' signs: a text copied into one. -/
import Derived.Test.YtjlecipeoaohiacDoorLh
import Derived.Lib.BufferWrite
namespace Go.Proofs.YtjlecipeoaohiacDoor
set_option linter.unusedSimpArgs false
set_option linter.unusedVariables false
open Go Go.RowKit RM
/-- the sign of a lamp in memory: 0 where there is none -/
def sgB (s : ByteArray) (k : Nat) : Value := .int .u8 ((s.data.toList.getD k 0).toNat : Int)
/-- texts of at most ten signs as elements of a row -/
def lampE : Elt ByteArray where
  e := 60
  n := 10
  bytes := 10
  z := .agg #[.int .u8 0, .int .u8 0, .int .u8 0, .int .u8 0, .int .u8 0, .int .u8 0, .int .u8 0, .int .u8 0, .int .u8 0, .int .u8 0]
  d := ⟨#[]⟩
  cells s := (List.range 10).map (sgB s)
  len s := by simp
  one s u hu := by
    obtain ⟨k, _, rfl⟩ := List.mem_map.1 hu
    rfl
  pos := by decide
  zs := rfl
  info := by kernel_rfl
  small := by decide
theorem sgB_get (s : ByteArray) (r : Nat) (h : r < s.size) : (Lib.byteCells s.data.toList)[r]? = some (sgB s r) := by
  have h' : r < s.data.toList.length := by rw [len_data]; exact h
  unfold Lib.byteCells sgB
  rw [List.getElem?_map, List.getElem?_eq_getElem h', List.getD_eq_getElem?_getD, List.getElem?_eq_getElem h']; rfl
theorem sgB_out (s : ByteArray) (r : Nat) (h : s.size ≤ r) : sgB s r = .int .u8 0 := by
  unfold sgB
  rw [List.getD_eq_getElem?_getD, List.getElem?_eq_none (by rw [len_data]; exact h)]; rfl
theorem lampE_at (s : ByteArray) (r : Nat) (h : r < 10) : (lampE.cells s)[r]? = some (sgB s r) := by
  show ((List.range 10).map (sgB s))[r]? = _
  rw [List.getElem?_map, List.getElem?_range h]; rfl
theorem take_drop_get {l news : List Value} {k i : Nat} (hfit : k + news.length ≤ l.length) : (l.take k ++ news ++ l.drop (k + news.length))[i]? = if i < k then l[i]? else if i < k + news.length then news[i - k]? else l[i]? := by
  have hlk : (l.take k).length = k := by rw [List.length_take]; omega
  by_cases h1 : i < k
  · rw [if_pos h1, List.append_assoc, List.getElem?_append_left (by omega), List.getElem?_take, if_pos h1]
  · rw [if_neg h1]
    by_cases h2 : i < k + news.length
    · rw [if_pos h2, List.getElem?_append_left (by rw [List.length_append]; omega), List.getElem?_append_right (by omega), hlk]
    · rw [if_neg h2, List.getElem?_append_right (by rw [List.length_append]; omega), List.length_append, hlk, List.getElem?_drop]
      congr 1; omega
set_option maxRecDepth 100000 in
/-- 'copy(row[k][:], s)', the row's k-th element being zero -/
theorem OwnG.copied {w : World} {B g n cap : Nat} {xs : List ByteArray} (h : OwnG lampE w B (.slice (some ⟨g, 0, none⟩) n cap) xs) (hn : n = xs.length) (k : Nat) (hk : k < xs.length) (s : ByteArray) (hs : s.size ≤ 10) (h0 : xs[k] = ⟨#[]⟩) :
    ∃ w', (Builtin.copy_ #[57, 9] 3 #[.slice (some ⟨g, k * 10, none⟩) 10 10, .string s]).run Tryd.prog w = .ok (.int .i64 (s.size : Int)) w' ∧ OwnG lampE w' B (.slice (some ⟨g, 0, none⟩) n cap) (xs.set k s) ∧ w.grownBy w' (some g) := by
  subst hn
  obtain ⟨hl, hq⟩ := h
  rcases hq with ⟨e, _⟩ | ⟨g', cap', cur, e, hB, hh, hnc, hcm, hsz, htk⟩
  · cases e
  have e1 : g = g' := by injection e with a; injection a with a; injection a
  have e2 : cap = cap' := by injection e
  subst e1 e2
  have h10 : k * 10 + 10 ≤ xs.length * 10 := by omega
  have hcs : xs.length * 10 ≤ cur.size := by rw [hsz]; exact Nat.mul_le_mul_right 10 hnc
  have hr := Lib.run_copy_row_string (P := Tryd.prog) w 57 9 3 5 g (k * 10) 10 10 s cur _ Tryd.underlying57 (by kernel_rfl) hh hs (by omega)
  have hbl : (Lib.byteCells s.data.toList).length = s.size := by unfold Lib.byteCells; rw [List.length_map, len_data]
  have hcl : cur.toList.length = cap * 10 := by rw [Array.length_toList]; exact hsz
  refine ⟨_, hr, ?_, ⟨rfl, rfl, rfl, by simp, fun k' _ hk' => setRow_other w g k' _ (fun e => hk' (by rw [e]))⟩⟩
  show World.ownsRow _ B lampE.e lampE.n (.slice (some ⟨g, 0, none⟩) xs.length cap) (xs.set k s).length (lampE.flat (xs.set k s))
  rw [List.length_set]
  refine ⟨by rw [Elt.flat_len, List.length_set], .inr ⟨g, cap, _, rfl, hB, setRow_heap w g cur _ _ _ hh, hnc, hcm, ?_, ?_⟩⟩
  · show (_ : Array Value).size = cap * 10
    rw [List.size_toArray, List.length_append, List.length_append, List.length_take, List.length_drop, hbl, hcl]
    have : xs.length * 10 ≤ cap * 10 := Nat.mul_le_mul_right 10 hnc
    omega
  · rw [show (Array.toList (List.toArray _) : List Value) = _ from rfl]
    apply List.ext_getElem?
    intro j
    have hfl : (lampE.flat (xs.set k s)).length = xs.length * 10 := by rw [Elt.flat_len, List.length_set]; rfl
    by_cases hj : j < xs.length * 10
    · have hq : j / 10 < xs.length := by omega
      have hr9 : j % 10 < 10 := by omega
      have ej : j = j / 10 * lampE.n + j % 10 := by show j = j / 10 * 10 + j % 10; omega
      have hR := lampE.flat_get (xs.set k s) (j / 10) (by rw [List.length_set]; exact hq) (j % 10) hr9
      have hO := lampE.flat_get xs (j / 10) hq (j % 10) hr9
      rw [← ej] at hR hO
      have hcur : cur.toList[j]? = (lampE.cells xs[j / 10])[j % 10]? := by
        rw [← hO, ← htk, List.getElem?_take_of_lt (by exact hj)]
      rw [hR, List.getElem?_take_of_lt (by exact hj)]
      have hcat := take_drop_get (l := cur.toList) (news := Lib.byteCells s.data.toList) (k := k * 10) (i := j) (by rw [hbl, hcl]; have : xs.length * 10 ≤ cap * 10 := Nat.mul_le_mul_right 10 hnc; omega)
      rw [hbl] at hcat
      rw [hcat, List.getElem_set]
      by_cases hkq : k = j / 10
      · rw [if_pos hkq, lampE_at s _ hr9, if_neg (by omega)]
        by_cases hin : j < k * 10 + s.size
        · rw [if_pos hin, show j - k * 10 = j % 10 by omega]
          exact sgB_get s _ (by omega)
        · rw [if_neg hin, hcur]
          have hz0 : ∀ q (hq : q < xs.length), k = q → xs[q] = ⟨#[]⟩ := by rintro q hq rfl; exact h0
          rw [hz0 _ hq hkq, lampE_at _ _ hr9, sgB_out s _ (by omega), sgB_out _ _ (Nat.zero_le _)]
      · rw [if_neg hkq]
        by_cases hlo : j < k * 10
        · rw [if_pos hlo, hcur]
        · rw [if_neg hlo, if_neg (by omega), hcur]
    · rw [List.getElem?_eq_none (by rw [List.length_take]; show Nat.min (xs.length * 10) _ ≤ j; exact Nat.le_trans (Nat.min_le_left _ _) (by omega)), List.getElem?_eq_none (by rw [hfl]; omega)]
end Go.Proofs.YtjlecipeoaohiacDoor
