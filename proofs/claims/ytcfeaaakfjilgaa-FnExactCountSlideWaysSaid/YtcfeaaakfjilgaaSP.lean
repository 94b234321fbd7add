/- In how many ways so few slides lead from one state to another one: both sides. -/
import Derived.Test.YtcfeaaakfjilgaaSO
namespace Go.Proofs.Ytcfeaaakfjilgaa
set_option linter.unusedSimpArgs false
set_option linter.unusedVariables false
open Go Go.RowKit RM
theorem ans_ex (n : Nat) : ∃ (r : Int) (ok : Bool), (1000000000000000 < n → r = 0 ∧ ok = false) ∧ (¬ 1000000000000000 < n → r = (n : Int) ∧ ok = true) := by
  by_cases h : 1000000000000000 < n
  · exact ⟨0, false, fun _ => ⟨rfl, rfl⟩, fun e => absurd h e⟩
  · exact ⟨n, true, fun e => absurd e h, fun _ => ⟨rfl, rfl⟩⟩
theorem sCW_no (v : Value) (psI : List Int) (bs : List Blk) (x y : ByteArray) (w : World) (h : Bo w v psI bs)
    (hA : Hid (∀ w v, Bo w v psI bs → Calls Try.prog 41 #[v, .string x, .string y] w fun e w' => e = .returned (.bool false) ∧ Below w.heap.size w w')) :
    Calls Try.prog 23 #[v, .string x, .string y] w fun e w' => e = .returned (.tuple #[.int .i64 0, .bool false]) ∧ Below w.heap.size w w' := by
  have h0 := Lib.hid h
  obtain ⟨pv, bv, rfl, -, -⟩ := h
  obtain ⟨w2, hw2⟩ : ∃ w2, Hid (w2 = w.alloc (.cells #[pv, bv] 31)) := ⟨_, Lib.hid rfl⟩
  have hb2 : Hid (Below w.heap.size w w2) := Lib.hid (by rw [hw2.out]; exact ba1 w _)
  have hA2 := Lib.hid (hA.out w2 _ (h0.out.below hb2.out))
  go_enter Try.func23, Try.ntmps23
  go_wp2_with fail
  rw [← hw2.out]
  refine hA2.out.mono ?_; rintro e w3 ⟨rfl, hb3⟩
  replace hb3 := Lib.hid hb3
  go_wp2_with fail
  go_ret2; exact ⟨rfl, bt1 hb2.out hb3.out⟩
theorem CountSlideWays_both (psI : List Int) (bs : List Blk) (x y : ByteArray) (hx : x.size ≤ maxLen) (hy : y.size ≤ maxLen) : ∃ r ok, (∀ w v, Bo w v psI bs → Calls Try.prog 23 #[v, .string x, .string y] w fun e w' => e = .returned (.tuple #[.int .i64 r, .bool ok]) ∧ Below w.heap.size w w') ∧ (∀ w v, Bo w v psI bs → Calls Try.prog 24 #[v, .string x, .string y] w fun e w' => e = .returned (.tuple #[.int .i64 r, .bool ok]) ∧ Below w.heap.size w w') := by
  rcases ask_cases psI bs x hx with ⟨h1, h2⟩ | ⟨ps, dx, rfl, hG, hd, hf, rfl, h1, h2⟩
  · rcases ask_cases psI bs y hy with ⟨k1, k2⟩ | ⟨ps, dy, rfl, hG, hd, hf, rfl, k1, k2⟩
    · exact ⟨0, false, fun w v hB => sCW_no v psI bs x y w hB (Lib.hid fun w v hB => boTwo_any v psI bs x y false false w hB (Lib.hid h1) (Lib.hid k1)), fun w v hB => iCW_no v psI bs x y w hB (Lib.hid fun w v hB => twoAP_no v psI bs x y [] [] false false rfl w hB (Lib.hid h2) (Lib.hid k2))⟩
    · exact ⟨0, false, fun w v hB => sCW_no v _ bs x _ w hB (Lib.hid fun w v hB => boTwo_any v _ bs x _ false true w hB (Lib.hid h1) (Lib.hid k1)), fun w v hB => iCW_no v _ bs x _ w hB (Lib.hid fun w v hB => twoAP_no v _ bs x _ [] dy false true rfl w hB (Lib.hid h2) (Lib.hid k2))⟩
  · rcases ask_cases (ints ps) bs y hy with ⟨k1, k2⟩ | ⟨qs, dy, e, hG', hd', hf', rfl, k1, k2⟩
    · exact ⟨0, false, fun w v hB => sCW_no v _ bs _ y w hB (Lib.hid fun w v hB => boTwo_any v _ bs _ y true false w hB (Lib.hid h1) (Lib.hid k1)), fun w v hB => iCW_no v _ bs _ y w hB (Lib.hid fun w v hB => twoAP_no v _ bs _ y dx [] true false rfl w hB (Lib.hid h2) (Lib.hid k2))⟩
    · have e2 : ps = qs := by
        have := congrArg (List.map Int.toNat) e
        simpa [ints, Function.comp_def] using this
      subst e2
      have hxU := (mem_U hG).2 ⟨hd, hf⟩
      have hyU := (mem_U hG).2 ⟨hd', hf'⟩
      obtain ⟨n, hn⟩ : ∃ n, (fin MW (nbS ps bs) (allU ps bs) dx).way dy = n := ⟨_, rfl⟩
      obtain ⟨r, ok, hr1, hr2⟩ := ans_ex n
      exact ⟨r, ok, fun w v hB => sCW_yes v ps bs dx dy w hG hB hxU hyU (Lib.hid fun w v hB => boTwo_any v _ bs _ _ true true w hB (Lib.hid h1) (Lib.hid k1)) n hn r ok (Lib.hid hr1) (Lib.hid hr2), fun w v hB => iCW_yes v ps bs _ _ dx dy w hG hB hxU hyU (Lib.hid fun w v hB => twoAP_yes v _ bs _ _ dx dy w hB (Lib.hid h2) (Lib.hid k2)) n hn r ok (Lib.hid hr1) (Lib.hid hr2)⟩
end Go.Proofs.Ytcfeaaakfjilgaa
