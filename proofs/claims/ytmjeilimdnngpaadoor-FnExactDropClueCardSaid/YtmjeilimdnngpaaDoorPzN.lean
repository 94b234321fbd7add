/- The counts of the states that fit the first clues: both sides. -/
import Derived.Test.YtmjeilimdnngpaaDoorPzM
namespace Go.Proofs.YtmjeilimdnngpaaDoor
open Go Go.RowKit RM
def leftK (R : Int) (cs : List Clu) (k : Nat) : Int := ((solG R (cs.take k)).length : Int)
def leftsK (R : Int) (cs : List Clu) (k : Nat) : List Int := (List.range k).map (leftK R cs)
theorem leftsK_len (R : Int) (cs : List Clu) (k : Nat) : (leftsK R cs k).length = k := by simp [leftsK]
theorem leftsK_succ (R : Int) (cs : List Clu) (k : Nat) : leftsK R cs k ++ [leftK R cs k] = leftsK R cs (k + 1) := by
  unfold leftsK; rw [List.range_succ, List.map_append]; rfl
theorem leftK_le (R : Int) (cs : List Clu) (k : Nat) : 0 ≤ leftK R cs k ∧ leftK R cs k ≤ 128 := by
  unfold leftK; have := solG_len R (cs.take k); omega
theorem RG.take {w : World} {p : Option Addr} {cs : List Clu} (h : RG cluE w p cs) (k : Nat) : RG cluE w p (cs.take k) := fun h0 => by
  obtain ⟨g, e, hl, hc⟩ := h (fun e => h0 (by rw [e]; simp))
  refine ⟨g, e, hl, fun i hi o ho => ?_⟩
  rw [List.getElem_take]
  exact hc i (by rw [List.length_take] at hi; omega) o ho
set_option maxHeartbeats 1000000 in
theorem iLeft_core (R : Int) (n c : Nat) (p : Option Addr) (f : Nat → Int) (F : Nat → List Int) (w : World) (hT : TabOk w) (h6 : n ≤ 6) (hF0 : F 0 = []) (hF : Hid (∀ k, F k ++ [f k] = F (k + 1))) (hFl : Hid (∀ k, (F k).length = k))
    (hI : Hid (∀ W, Below w.heap.size w W → Calls Tryd.prog 41 #[.agg #[.int .i64 R, .slice p n c]] W fun e w' => e = .returned (.bool true) ∧ Below W.heap.size W w'))
    (hC : Hid (∀ W k, Below w.heap.size w W → k ≤ n → Calls Tryd.prog 42 #[.agg #[.int .i64 R, .slice p k k]] W fun e w' => e = .returned (.int .i64 (f k)) ∧ Below W.heap.size W w'))
    (hK : Hid (∀ W k, k ≤ n → Calls Tryd.prog 49 #[.agg #[.int .i64 R, .slice p n c], .int .i64 0, .int .i64 (k : Nat)] W fun e w' => e = .returned (.slice p k k) ∧ Below W.heap.size W w')) :
    Calls Tryd.prog 27 #[.agg #[.int .i64 R, .slice p n c]] w fun e w' => RetI w (F (n + 1)) true e w' := by
  obtain ⟨w2, hw2⟩ : ∃ w2, Hid (w2 = w.alloc (puzO R (.slice p n c))) := ⟨_, Lib.hid rfl⟩
  have hb2 : Hid (Below w.heap.size w w2) := Lib.hid (by rw [hw2.out]; exact ba1 w _)
  have P2 := Lib.hid (show w2.heap[w.heap.size]? = some (puzO R (.slice p n c)) by rw [hw2.out]; exact hb_new _ _)
  have hl2 : w.heap.size < w2.heap.size := hb_lt P2.out
  have kc : Hid (∀ W, Below w2.heap.size w2 W → W.cell? ⟨w.heap.size, 0, none⟩ = some (.int .i64 R) ∧ W.cell? ⟨w.heap.size, 1, none⟩ = some (.slice p n c)) := Lib.hid fun W hb => ⟨hb_cell (hb_below hb hl2 P2.out) 0, hb_cell (hb_below hb hl2 P2.out) 1⟩
  go_enter Tryd.func27, Tryd.ntmps27
  go_wp2_with fail
  rw [← hw2.out]
  refine (hI.out _ hb2.out).mono ?_; rintro e w3 ⟨rfl, hb3⟩
  obtain ⟨f0, f1⟩ := kc.out w3 hb3
  have kd : Hid (∀ W, Below w3.heap.size w3 W → Below w2.heap.size w2 W) := Lib.hid fun W hb => hb3.trans (hb.mono hb3.size)
  have hl3 := hb3.size
  replace hb3 := Lib.hid (bt1 hb2.out hb3)
  go_wp2_with fail
  go_loopw [4, 14] (fun o i wr => ∃ k : Nat, k ≤ n + 1 ∧ i = .int .i64 k ∧ Hid (OwnI wr w3.heap.size o (F k)) ∧ Hid (Below w3.heap.size w3 wr)) (fun _ i _ => n + 1 - (intOf i).toNat)
  case atStart => exact ⟨0, Nat.zero_le _, rfl, Lib.hid (by rw [hF0]; exact OwnI.nil _ _), Lib.hid (Below.refl _ _)⟩
  case round =>
    obtain ⟨k, hk, rfl, ho, hb⟩ := hrel
    obtain ⟨wA, rfl⟩ : ∃ x, x = wr := ⟨_, rfl⟩
    clear f0 f1
    by_cases hlt : k < n + 1
    · have hkn : k ≤ n := by omega
      have hK1 := Lib.hid fun W => hK.out W k hkn
      have hC1 := Lib.hid fun W (hb : Below w.heap.size w W) => hC.out W k hb hkn
      have hs := Lib.hid (hF.out k)
      have hl := hFl.out k
      generalize f k = fk at *
      obtain ⟨wB, hwB⟩ : ∃ wB, Hid (wB = wA.alloc (puzO 0 (.slice none 0 0))) := ⟨_, Lib.hid rfl⟩
      have hA3 := hb.out.size
      have hbB := Lib.hid (show Below w3.heap.size w3 wB by rw [hwB.out]; exact hb.out.alloc hb.out.size _)
      have hbAB := Lib.hid (show Below wA.heap.size wA wB by rw [hwB.out]; exact ba1 _ _)
      have QB := Lib.hid (show wB.heap[wA.heap.size]? = some (puzO 0 (.slice none 0 0)) by rw [hwB.out]; exact hb_new _ _)
      have hlB : wA.heap.size < wB.heap.size := hb_lt QB.out
      have kq : Hid (∀ W, Below wB.heap.size wB W → W.cell? ⟨wA.heap.size, 0, none⟩ = some (.int .i64 0) ∧ W.cell? ⟨wA.heap.size, 1, none⟩ = some (.slice none 0 0) ∧ (∀ j, W.frozen? ⟨wA.heap.size, j, none⟩ = false) ∧ wA.heap.size < W.heap.size) := Lib.hid fun W hb =>
        have Q7 := hb_below hb hlB QB.out
        ⟨hb_cell Q7 0, hb_cell Q7 1, hb_frozen Q7, hb_lt Q7⟩
      have kw := Lib.hid fun W (h : Below w3.heap.size w3 W) => kc.out W (kd.out W h)
      have dA := Lib.hid (show Below w3.heap.size w3 wA.drew from hb.out.drew)
      have dB := Lib.hid (show Below wB.heap.size wB wB.drew from (Below.refl _ _).drew)
      obtain ⟨d0, d1⟩ := kw.out wA.drew dA.out
      have dX := kw.out _ (hbB.out.trans (dB.out.mono hbB.out.size))
      have eB := hwB.out
      rw [eB] at dX
      obtain ⟨d2, d3⟩ := dX
      have dB2 : Hid (Below wB.heap.size wB (wA.alloc (puzO 0 (.slice none 0 0))).drew) := Lib.hid (by rw [← eB]; exact dB.out)
      clear eB
      go_wp2_with fail
      go_region_with (go_at_call 49; with_reducible refine (hK1.out _).mono ?_; rintro e w5 ⟨rfl, hb5⟩; first
        | (have hB5 : Below w3.heap.size w3 w5 := dA.out.trans (hb5.mono dA.out.size); obtain ⟨x0, x1⟩ := kw.out _ hB5; have x2 := fun o => (kw.out (w5.alloc o) (hB5.alloc hB5.size o)).1; have x3 := fun o => (kw.out (w5.alloc o) (hB5.alloc hB5.size o)).2)
        | (have hBq : Below wB.heap.size wB w5 := dB2.out.trans (hb5.mono dB2.out.size); obtain ⟨x0, x1⟩ := kw.out _ (hbB.out.trans (hBq.mono hbB.out.size)); obtain ⟨r0, r1, z7, hl7⟩ := kq.out _ hBq))
      all_goals
        first
        | (have hok := hB5; clear hok; have hbW := Lib.hid (show Below wA.heap.size wA (w5.alloc (.cells #[.int .i64 R, .slice p k k] 31)) from ((Below.refl _ _).drew.trans (hb5.mono (by simp))).alloc (by have := hb5.size; simp at this; omega) _))
        | (have hbW := Lib.hid (show Below wA.heap.size wA ((w5.setCell ⟨wA.heap.size, 0, none⟩ (.int .i64 R)).setCell ⟨wA.heap.size, 1, none⟩ (.slice p k k)) from ((hbAB.out.trans (hBq.mono hbAB.out.size)).setCell (Nat.le_refl _) _).setCell (Nat.le_refl _) _))
        go_wp2_with fail
        refine (hC1.out _ (bt1 hb3.out (bt1 hb.out hbW.out))).mono ?_; rintro e w6 ⟨rfl, hb6⟩
        have ho6 := Lib.hid ((ho.out.below hbW.out).below hb6)
        have hb7 := Lib.hid (bt1 (bt1 hb.out hbW.out) hb6)
        clear hbW hb6 hb5
        go_wp2_with (at_builtin; refine app_int _ rfl _ _ rfl w3.heap.size _ _ rfl (ho6.out.below (ba1 _ _)) w6.heap.size _ rfl (by simp; rfl) (by rw [hl]; omega) (by have := hb7.out.size; simp; omega) ?_; intro v8 w8 ho8 hg8; have hb8 := Lib.hid (bel_own (bt1 hb7.out (ba1 _ _)) (ho6.out.below (ba1 _ _)) hg8 (by have := hb7.out.size; simp; omega)); replace ho8 := Lib.hid ho8; clear hg8)
        go_roundw
        case rel => exact ⟨k + 1, by omega, by go_num, Lib.hid (by rw [← hs.out]; exact ho8.out), hb8⟩
        all_goals (simp [intOf] <;> omega)
    · obtain rfl : k = n + 1 := by omega
      go_wp2_with fail
      go_ret2; exact ⟨_, rfl, ho.out.mono hb3.out.size, bt1 hb3.out hb.out⟩

end Go.Proofs.YtmjeilimdnngpaaDoor
