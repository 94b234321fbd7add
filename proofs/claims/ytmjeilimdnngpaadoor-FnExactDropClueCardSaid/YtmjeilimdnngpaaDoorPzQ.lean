/- Needless clues: any puzzle, both sides. -/
import Derived.Test.YtmjeilimdnngpaaDoorPzP
import Derived.Test.YtmjeilimdnngpaaDoorPzO
import Derived.Test.YtmjeilimdnngpaaDoorPzO3
namespace Go.Proofs.YtmjeilimdnngpaaDoor
open Go Go.RowKit RM
theorem all_less {cs : List Clu} {p : Clu → Bool} (h : cs.all p = true) (k : Nat) : (lessC cs k).all p = true := by
  rw [List.all_eq_true] at h ⊢
  intro x hx
  unfold lessC at hx
  rcases List.mem_append.1 hx with hx | hx
  · exact h x (List.mem_of_mem_take hx)
  · exact h x (List.mem_of_mem_drop hx)
def needN (R : Int) (cs : List Clu) : List Int := if goodZ R cs then pickN (fun k => decide ((solG R (lessC cs k)).length = (solG R cs).length)) cs.length else []
theorem OwnG.rdz {w : World} {B : Nat} {v : Value} {R : Int} {cs : List Clu} (h : OwnG cluE w B v cs) : RdZ w (.agg #[.int .i64 R, v]) R cs := ⟨v, rfl, h.rd⟩
theorem iNeed_no (R : Int) (n c : Nat) (p : Option Addr) (w : World)
    (hI : Hid (∀ W, Below w.heap.size w W → Calls Tryd.prog 41 #[.agg #[.int .i64 R, .slice p n c]] W fun e w' => e = .returned (.bool false) ∧ Below W.heap.size W w')) :
    Calls Tryd.prog 14 #[.agg #[.int .i64 R, .slice p n c]] w fun e w' => RetI w [] false e w' := by
  go_enter Tryd.func14, Tryd.ntmps14
  go_wp2_with fail
  refine (hI.out _ (ba1 w _)).mono ?_; rintro e w3 ⟨rfl, hb3⟩
  replace hb3 := Lib.hid (bt1 (ba1 w _) hb3)
  go_wp2_with fail
  go_ret2; exact ⟨_, rfl, OwnI.nil _ _, hb3.out⟩

theorem sNeed_no (R : Int) (n c : Nat) (p : Option Addr) (w : World)
    (hI : Hid (∀ W, Below w.heap.size w W → Calls Tryd.prog 37 #[.agg #[.int .i64 R, .slice p n c]] W fun e w' => e = .returned (.bool false) ∧ Below W.heap.size W w')) :
    Calls Tryd.prog 12 #[.agg #[.int .i64 R, .slice p n c]] w fun e w' => RetI w [] false e w' := by
  go_enter Tryd.func12, Tryd.ntmps12
  go_wp2_with fail
  refine (hI.out _ (ba1 w _)).mono ?_; rintro e w3 ⟨rfl, hb3⟩
  replace hb3 := Lib.hid (bt1 (ba1 w _) hb3)
  go_wp2_with fail
  go_ret2; exact ⟨_, rfl, OwnI.nil _ _, hb3.out⟩

theorem iNeedlessClues (R : Int) (cs : List Clu) (v : Value) (w : World) (h : RdK w v R cs) (hT : TabOk w) :
    Calls Tryd.prog 14 #[v] w fun e w' => RetI w (needN R cs) (goodZ R cs) e w' := by
  have hI := Lib.hid fun W (hb : Below w.heap.size w W) => iIsPuzzle R cs v W (h.rd.below hb) (hT.below hb)
  have hN := Lib.hid fun W (hb : Below w.heap.size w W) => count_any R cs v W (h.rd.below hb) (hT.below hb)
  obtain ⟨p, c, rfl, hm, hlc, hr, hp⟩ := h
  unfold needN
  rcases goodZ_cases R cs with hg | ⟨n, rfl, h1, h7, hl, hok⟩
  · rw [hg] at hI ⊢
    exact iNeed_no R cs.length c p w hI
  · have hg : goodZ n cs = true := by rw [← goodZ_eq n cs h1 h7 hl]; exact hok
    rw [hg] at hI ⊢
    refine iNeed_core n cs.length c _ p (fun k => (solG n (lessC cs k)).length) w hl (solG_len n cs) (Lib.hid fun k => solG_len n _) hI hN (Lib.hid fun W k hb hk => ?_)
    refine (without_any n p cs.length c k cs W rfl hk hlc hl (hr.below hb)).mono ?_
    rintro e w' ⟨v, rfl, ho, hb'⟩
    exact ⟨v, rfl, hb', count_any n (lessC cs k) _ w' ho.rdz (hT.below (bt1 hb hb'))⟩

theorem sNeedlessClues (R : Int) (cs : List Clu) (v : Value) (w : World) (h : RdK w v R cs) :
    Calls Tryd.prog 12 #[v] w fun e w' => RetI w (needN R cs) (goodZ R cs) e w' := by
  have hI := Lib.hid fun W (hb : Below w.heap.size w W) => pzGood_any v R cs W (h.rd.below hb)
  obtain ⟨p, c, rfl, hm, hlc, hr, hp⟩ := h
  unfold needN
  rcases goodZ_cases R cs with hg | ⟨n, rfl, h1, h7, hl, hok⟩
  · rw [hg] at hI ⊢
    exact sNeed_no R cs.length c p w hI
  · have hg : goodZ n cs = true := by rw [← goodZ_eq n cs h1 h7 hl]; exact hok
    rw [hg] at hI ⊢
    refine sNeed_core n cs.length c _ p (fun k => (solG n (lessC cs k)).length) w hl (solG_len n cs) (Lib.hid fun k => solG_len n _) hI (Lib.hid fun W hb => ?_) (Lib.hid fun W k hb hk => ?_)
    · refine (pzAll_any n p c cs W h1 h7 hl hok (hr.below hb)).mono ?_
      rintro e w' ⟨v, rfl, ho, hb'⟩
      obtain ⟨pv, cv, rfl⟩ := ho.slT
      refine ⟨⟨pv, cv, ?_⟩, hb'⟩
      rw [txZ_len, ← solG_yes hg]
    · refine (pzWithout_any p cs.length c k cs W rfl hk hlc hl (hr.below hb)).mono ?_
      rintro e w' ⟨v, rfl, ho, hb'⟩
      refine ⟨v, rfl, hb', ?_⟩
      have hlk : (lessC cs k).length ≤ 6 := by rw [lessC_len cs k hk]; omega
      have hgk : goodZ n (lessC cs k) = true := by rw [← goodZ_eq n _ h1 h7 hlk]; exact all_less hok k
      obtain ⟨pv, cv, rfl, _, hr'⟩ := ho.rd
      refine (pzAll_any n pv cv (lessC cs k) w' h1 h7 hlk (all_less hok k) hr').mono ?_
      rintro e w2 ⟨v, rfl, ho2, hb2⟩
      obtain ⟨pv, cv, rfl⟩ := ho2.slT
      refine ⟨⟨pv, cv, ?_⟩, hb2⟩
      rw [txZ_len, ← solG_yes hgk]

theorem NeedlessClues_both (R : Int) (cs : List Clu) : ∃ (r : List Int) (ok : Bool), r.length ≤ 2000000 ∧
    (∀ w v, RdK w v R cs → Calls Tryd.prog 12 #[v] w fun e w' => RetI w r ok e w') ∧
    (∀ w v, TabOk w → RdK w v R cs → Calls Tryd.prog 14 #[v] w fun e w' => RetI w r ok e w') := by
  refine ⟨_, _, ?_, fun w v h => sNeedlessClues R cs v w h, fun w v hT h => iNeedlessClues R cs v w h hT⟩
  unfold needN
  split
  · rename_i hg
    rcases goodZ_cases R cs with hg' | ⟨n, rfl, h1, h7, hl, hok⟩
    · rw [hg] at hg'; cases hg'
    · have := pickN_len (fun k => decide ((solG n (lessC cs k)).length = (solG n cs).length)) cs.length
      omega
  · simp

end Go.Proofs.YtmjeilimdnngpaaDoor
