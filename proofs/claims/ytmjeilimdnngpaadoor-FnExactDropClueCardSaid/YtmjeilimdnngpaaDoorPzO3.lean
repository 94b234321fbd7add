/- The counts of the states that fit the first clues: any puzzle, both sides. -/
import Derived.Test.YtmjeilimdnngpaaDoorPzO2
namespace Go.Proofs.YtmjeilimdnngpaaDoor
open Go Go.RowKit RM
def leftN (R : Int) (cs : List Clu) (k : Nat) : Nat := (solG R (cs.take k)).length
def leftsA (R : Int) (cs : List Clu) : List Int := if goodZ R cs then leftsK R cs (cs.length + 1) else []
theorem all_takeC {cs : List Clu} {p : Clu → Bool} (h : cs.all p = true) (k : Nat) : (cs.take k).all p = true := by
  rw [List.all_eq_true] at h ⊢
  exact fun x hx => h x (List.mem_of_mem_take hx)
theorem take_len {cs : List Clu} {k : Nat} (h : k ≤ cs.length) : (cs.take k).length = k := by rw [List.length_take]; omega
theorem iLeft_no (R : Int) (n c : Nat) (p : Option Addr) (w : World)
    (hI : Hid (∀ W, Below w.heap.size w W → Calls Tryd.prog 41 #[.agg #[.int .i64 R, .slice p n c]] W fun e w' => e = .returned (.bool false) ∧ Below W.heap.size W w')) :
    Calls Tryd.prog 27 #[.agg #[.int .i64 R, .slice p n c]] w fun e w' => RetI w [] false e w' := by
  go_enter Tryd.func27, Tryd.ntmps27
  go_wp2_with fail
  refine (hI.out _ (ba1 w _)).mono ?_; rintro e w3 ⟨rfl, hb3⟩
  replace hb3 := Lib.hid (bt1 (ba1 w _) hb3)
  go_wp2_with fail
  go_ret2; exact ⟨_, rfl, OwnI.nil _ _, hb3.out⟩

theorem sLeft_no (R : Int) (n c : Nat) (p : Option Addr) (w : World)
    (hI : Hid (∀ W, Below w.heap.size w W → Calls Tryd.prog 37 #[.agg #[.int .i64 R, .slice p n c]] W fun e w' => e = .returned (.bool false) ∧ Below W.heap.size W w')) :
    Calls Tryd.prog 26 #[.agg #[.int .i64 R, .slice p n c]] w fun e w' => RetI w [] false e w' := by
  go_enter Tryd.func26, Tryd.ntmps26
  go_wp2_with fail
  refine (hI.out _ (ba1 w _)).mono ?_; rintro e w3 ⟨rfl, hb3⟩
  replace hb3 := Lib.hid (bt1 (ba1 w _) hb3)
  go_wp2_with fail
  go_ret2; exact ⟨_, rfl, OwnI.nil _ _, hb3.out⟩

theorem iLeftByClues (R : Int) (cs : List Clu) (v : Value) (w : World) (h : RdK w v R cs) (hT : TabOk w) :
    Calls Tryd.prog 27 #[v] w fun e w' => RetI w (leftsA R cs) (goodZ R cs) e w' := by
  have hI := Lib.hid fun W (hb : Below w.heap.size w W) => iIsPuzzle R cs v W (h.rd.below hb) (hT.below hb)
  obtain ⟨p, c, rfl, hm, hlc, hr, hp⟩ := h
  unfold leftsA
  rcases goodZ_cases R cs with hg | ⟨n, rfl, h1, h7, hl, hok⟩
  · rw [hg] at hI ⊢
    exact iLeft_no R cs.length c p w hI
  · have hg : goodZ n cs = true := by rw [← goodZ_eq n cs h1 h7 hl]; exact hok
    rw [hg] at hI ⊢
    refine iLeft_core n cs.length c p (leftK n cs) (leftsK n cs) w hT hl rfl (Lib.hid (leftsK_succ n cs)) (Lib.hid (leftsK_len n cs)) hI (Lib.hid fun W k hb hk => ?_) (Lib.hid fun W k hk => cutPre_any n p cs.length c k W hp (by omega) (by omega) hlc)
    exact count_any n (cs.take k) _ W ⟨_, rfl, p, k, by rw [take_len hk], by rw [take_len hk]; omega, (hr.below hb).take k⟩ (hT.below hb)

theorem sLeftByClues (R : Int) (cs : List Clu) (v : Value) (w : World) (h : RdK w v R cs) :
    Calls Tryd.prog 26 #[v] w fun e w' => RetI w (leftsA R cs) (goodZ R cs) e w' := by
  have hI := Lib.hid fun W (hb : Below w.heap.size w W) => pzGood_any v R cs W (h.rd.below hb)
  obtain ⟨p, c, rfl, hm, hlc, hr, hp⟩ := h
  unfold leftsA
  rcases goodZ_cases R cs with hg | ⟨n, rfl, h1, h7, hl, hok⟩
  · rw [hg] at hI ⊢
    exact sLeft_no R cs.length c p w hI
  · have hg : goodZ n cs = true := by rw [← goodZ_eq n cs h1 h7 hl]; exact hok
    rw [hg] at hI ⊢
    refine sLeft_core n cs.length c p (leftN n cs) (leftsK n cs) w hl rfl (Lib.hid (leftsK_succ n cs)) (Lib.hid (leftsK_len n cs)) (Lib.hid fun k => solG_len n _) hI (Lib.hid fun W k hb hk => ?_) (fun W k hk => cutC_any W p cs.length c k hp (by omega))
    have hgk : goodZ n (cs.take k) = true := by rw [← goodZ_eq n (cs.take k) h1 h7 (by rw [take_len hk]; omega)]; exact all_takeC hok k
    have hA := pzAll_any n p c (cs.take k) W h1 h7 (by rw [take_len hk]; omega) (all_takeC hok k) ((hr.below hb).take k)
    rw [take_len hk] at hA
    refine hA.mono ?_
    rintro e w' ⟨v, rfl, ho, hb'⟩
    obtain ⟨pv, cv, rfl⟩ := ho.slT
    refine ⟨⟨pv, cv, ?_⟩, hb'⟩
    rw [txZ_len, ← solG_yes hgk]; rfl

theorem LeftByClues_both (R : Int) (cs : List Clu) : ∃ (r : List Int) (ok : Bool), r.length ≤ 2000000 ∧
    (∀ w v, RdK w v R cs → Calls Tryd.prog 26 #[v] w fun e w' => RetI w r ok e w') ∧
    (∀ w v, TabOk w → RdK w v R cs → Calls Tryd.prog 27 #[v] w fun e w' => RetI w r ok e w') := by
  refine ⟨_, _, ?_, fun w v h => sLeftByClues R cs v w h, fun w v hT h => iLeftByClues R cs v w h hT⟩
  unfold leftsA
  split
  · rename_i hg
    rcases goodZ_cases R cs with hg' | ⟨n, rfl, h1, h7, hl, hok⟩
    · rw [hg] at hg'; cases hg'
    · rw [leftsK_len]; omega
  · simp

end Go.Proofs.YtmjeilimdnngpaaDoor
