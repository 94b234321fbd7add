/- First solutions, solved puzzles, clues and states that fit, both sides; all laws' contracts. -/
import Derived.Test.YtmjeilimdnngpaaDoorPzI
namespace Go.Proofs.YtmjeilimdnngpaaDoor
open Go Go.RowKit RM



theorem pzSolved_any (n : Nat) (p : Option Addr) (c : Nat) (cs : List Clu) (w : World) (h1 : 1 ≤ n) (h7 : n ≤ 7) (hl : cs.length ≤ 6) (hok : cs.all (cluOk n) = true) (hr : RG cluE w p cs) :
    Calls Tryd.prog 52 #[.int .i64 n, .slice p cs.length c] w fun e w' => e = .returned (.bool (((solZ n cs).length : Int) == 1)) ∧ Below w.heap.size w w' := by
  have hA := Lib.hid (pzAll_any n p c cs w h1 h7 hl hok hr)
  have hlen := solZ_len n cs h7
  generalize solZ n cs = L at *
  generalize cs.length = m at *
  go_enter Tryd.func52, Tryd.ntmps52
  go_wp2_with fail
  refine hA.out.mono ?_; rintro e w4 ⟨lv, rfl, ho4, hb4⟩
  obtain ⟨pv, cv, rfl⟩ := ho4.slT
  rw [txZ_len]
  clear ho4
  replace hb4 := Lib.hid hb4
  go_wp2_with fail
  go_ret; exact ⟨rfl, hb4.out⟩







end Go.Proofs.YtmjeilimdnngpaaDoor
