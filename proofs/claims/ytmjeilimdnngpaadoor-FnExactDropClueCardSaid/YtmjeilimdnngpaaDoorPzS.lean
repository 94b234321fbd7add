/- A puzzle without a clue: any puzzle, both sides. -/
import Derived.Test.YtmjeilimdnngpaaDoorPzQ
import Derived.Test.YtmjeilimdnngpaaDoorPzR
namespace Go.Proofs.YtmjeilimdnngpaaDoor
open Go Go.RowKit RM
/-- an index of a clue of a puzzle -/
def dropOk (R : Int) (cs : List Clu) (i : Int) : Bool := goodZ R cs && decide (0 ≤ i) && decide (i < cs.length)
theorem dropOk_yes {R : Int} {cs : List Clu} {i : Int} (h : dropOk R cs i = true) : ∃ (n k : Nat), R = n ∧ i = k ∧ k < cs.length ∧ goodZ n cs = true ∧ 1 ≤ n ∧ n ≤ 7 ∧ cs.length ≤ 6 ∧ cs.all (cluOk n) = true := by
  unfold dropOk at h
  simp at h
  obtain ⟨⟨hg, h0⟩, h1⟩ := h
  rcases goodZ_cases R cs with hg' | ⟨n, rfl, a, b, c, d⟩
  · rw [hg] at hg'; cases hg'
  · exact ⟨n, i.toNat, rfl, by omega, by omega, hg, a, b, c, d⟩
theorem dropOk_no {R : Int} {cs : List Clu} {i : Int} (h : dropOk R cs i = false) : goodZ R cs = true → i < 0 ∨ (cs.length : Int) ≤ i := by
  intro hg
  unfold dropOk at h
  rw [hg] at h
  simp at h
  omega
theorem iDropClue (R : Int) (cs : List Clu) (i : Int) (v : Value) (w : World) (h : RdK w v R cs) (hT : TabOk w) :
    Calls Tryd.prog 21 #[v, .int .i64 i] w fun e w' => RetZ w (if dropOk R cs i then R else 0) (if dropOk R cs i then lessC cs i.toNat else []) (dropOk R cs i) e w' := by
  have hI := Lib.hid fun W (hb : Below w.heap.size w W) => iIsPuzzle R cs v W (h.rd.below hb) (hT.below hb)
  obtain ⟨p, c, rfl, hm, hlc, hr, hp⟩ := h
  cases hd : dropOk R cs i with
  | false => exact iDrop_no R i cs.length c p (goodZ R cs) w hm (dropOk_no hd) hI
  | true =>
    obtain ⟨n, k, rfl, rfl, hk, hg, h1, h7, hl, hok⟩ := dropOk_yes hd
    rw [hg] at hI
    exact iDrop_yes n cs.length c k p (lessC cs k) w hm hk hI (Lib.hid fun W hb => without_any n p cs.length c k cs W rfl hk hlc hl (hr.below hb))

theorem sDropClue (R : Int) (cs : List Clu) (i : Int) (v : Value) (w : World) (h : RdK w v R cs) :
    Calls Tryd.prog 20 #[v, .int .i64 i] w fun e w' => RetZ w (if dropOk R cs i then R else 0) (if dropOk R cs i then lessC cs i.toNat else []) (dropOk R cs i) e w' := by
  have hI := Lib.hid fun W (hb : Below w.heap.size w W) => pzGood_any v R cs W (h.rd.below hb)
  obtain ⟨p, c, rfl, hm, hlc, hr, hp⟩ := h
  cases hd : dropOk R cs i with
  | false => exact sDrop_no R i cs.length c p (goodZ R cs) w hm (dropOk_no hd) hI
  | true =>
    obtain ⟨n, k, rfl, rfl, hk, hg, h1, h7, hl, hok⟩ := dropOk_yes hd
    rw [hg] at hI
    exact sDrop_yes n cs.length c k p (lessC cs k) w hm hk hI (Lib.hid fun W hb => pzWithout_any p cs.length c k cs W rfl hk hlc hl (hr.below hb))

theorem DropClue_both (R : Int) (cs : List Clu) (i : Int) (_hi : (Lit.int .i64 i).wf = true) : ∃ (R' : Int) (r : List Clu) (ok : Bool), r.length ≤ 2000000 ∧
    (∀ w v, RdK w v R cs → Calls Tryd.prog 20 #[v, .int .i64 i] w fun e w' => RetZ w R' r ok e w') ∧
    (∀ w v, TabOk w → RdK w v R cs → Calls Tryd.prog 21 #[v, .int .i64 i] w fun e w' => RetZ w R' r ok e w') := by
  refine ⟨_, _, _, ?_, fun w v h => sDropClue R cs i v w h, fun w v hT h => iDropClue R cs i v w h hT⟩
  split
  · rename_i hd
    obtain ⟨n, k, rfl, rfl, hk, hg, h1, h7, hl, hok⟩ := dropOk_yes hd
    rw [Int.toNat_natCast, lessC_len cs k hk]; omega
  · simp

end Go.Proofs.YtmjeilimdnngpaaDoor
