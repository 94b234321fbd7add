/- TurnPart, by the program: a turn that is none; a state as text. -/
import Derived.Test.YtjlecipeoaohiaaXO
import Derived.Test.YtjlecipeoaohiaaDig
import Derived.Test.YtjlecipeoaohiaaBase0
namespace Go.Proofs.Ytjlecipeoaohiaa
open Go Go.RowKit RM
set_option maxRecDepth 100000 in
theorem stateText_any (p s : Nat) (u : Value) (d : List Nat) (w : World) (hp : p ≤ 6) (hs : s ≤ 5) (hd : stOk p s d) :
    Calls Try.prog 73 #[.agg #[.int .i64 p, .int .i64 s, u], bsV (dF d)] w fun e w' => e = .returned (.string (tS d)) ∧ Below w.heap.size w w' := by
  obtain ⟨w1, hw1⟩ : ∃ w1, Hid (w1 = (w.alloc (boxO p s u)).alloc (bsO (dF d))) := ⟨_, Lib.hid rfl⟩
  have hb1 : Hid (Below w.heap.size w w1) := Lib.hid (by rw [hw1.out]; exact (ba1 w _).alloc (by simp) _)
  have F1 := Lib.hid (show w1.heap[w.heap.size]? = some (boxO p s u) by rw [hw1.out]; exact hb_old _ (hb_new _ _))
  have G1 := Lib.hid (show w1.heap[w.heap.size + 1]? = some (bsO (dF d)) by rw [hw1.out]; exact hb_new' _ _ _ (by simp))
  have f0 : w1.cell? ⟨w.heap.size, 0, none⟩ = some (.int .i64 p) := hb_cell F1.out 0
  have hdl := hd.1
  have hRI := Lib.hid (show RI w1 (some ⟨w.heap.size + 1, 0, none⟩) (ints d) from fun _ => ⟨w.heap.size + 1, rfl, hb_lt G1.out, fun k hk => by
    have hk2 : k < d.length := by simpa using hk
    rw [bs_cell G1.out (k := k) (by omega)]
    simp [dF, hk2]⟩)
  have hD := Lib.hid (fun c => digitsText_any (some ⟨w.heap.size + 1, 0, none⟩) p c d w1 hdl (by omega) (fun k hk => by have := hd.2 k hk; omega) hRI.out)
  generalize dF d = f at *
  generalize tS d = t at *
  have hp0 : ¬ (p : Int) < 0 := by omega
  have hp6 : (p : Int) ≤ 6 := by omega
  clear hd hdl hRI
  go_enter Try.func73, Try.ntmps73
  go_wp2_with fail
  rw [← hw1.out]
  go_wp2_with fail
  refine (hD.out _).mono ?_; rintro e w2 ⟨rfl, hb⟩
  go_wp2_with fail
  go_ret; exact ⟨rfl, bt1 hb1.out hb⟩
end Go.Proofs.Ytjlecipeoaohiaa
