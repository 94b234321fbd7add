/- Marks of blocks asked for; marks of bolts. -/
import Derived.Test.YtjbfophbdmakjabMB2
namespace Go.Proofs.Ytjbfophbdmakjab
open Go Go.RowKit RM
theorem markBlockS_nil (p : Option Addr) (cap : Nat) (s : Int) (w : World) :
    Calls Try.prog 49 #[.slice p 0 cap, .int .i64 s] w fun e w' => e = .returned (.int .i64 s) ∧ w = w' := by
  go_enter Try.func49, Try.ntmps49
  go_wp2_with fail
  go_loop [1, 5] (fun m i => i = .int .i64 0 ∧ m = .int .i64 s) (fun _ _ => 0)
  case atStart => exact ⟨rfl, rfl⟩
  case round =>
    obtain ⟨rfl, rfl⟩ := hrel
    go_wp2_with fail
    go_ret; exact ⟨rfl, rfl⟩
theorem markBlockS_any (v : Value) (B : Nat) (s : Int) (bs : List Blk) (w : World) (hn : bs.length ≤ 2000000) (hs0 : 0 ≤ s) (hs1 : s ≤ 3000000) (h : OwnG blkE w B v bs) :
    Calls Try.prog 49 #[v, .int .i64 s] w fun e w' => e = .returned (.int .i64 (s + 4 * (bs.length : Int))) ∧ OwnG blkE w' B v (marksB s bs.length) ∧ w.grownBy w' v.ownBlock := by
  rcases h.form with ⟨rfl, rfl⟩ | ⟨g, cap, rfl, _, _, _⟩
  · refine (markBlockS_nil none 0 s w).mono fun e w' ⟨he, hw⟩ => ⟨by rw [he]; simp, ?_, ?_⟩
    · rw [← hw]; exact h
    · rw [← hw]; exact World.grownBy.refl _ _
  · exact markBlockS_some g bs.length cap B s bs w rfl hn hs0 hs1 h
end Go.Proofs.Ytjbfophbdmakjab
