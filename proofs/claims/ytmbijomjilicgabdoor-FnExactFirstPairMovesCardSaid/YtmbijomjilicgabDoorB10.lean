/- States that need so many moves, both ways. -/
import Derived.Test.YtmbijomjilicgabDoorB8
namespace Go.Proofs.YtmbijomjilicgabDoor
open Go Go.RowKit RM

/-- the states with the numbers below k that p picks -/
def sel (n : Nat) (p : Nat → Bool) (k : Nat) : List ByteArray := ((List.range k).filter p).map fun i => ST n (gray i)
theorem sel_yes (n : Nat) (p : Nat → Bool) (k : Nat) (h : p k = true) : sel n p (k + 1) = sel n p k ++ [ST n (gray k)] := by
  unfold sel; rw [List.range_succ, List.filter_append, List.map_append]; simp [h]
theorem sel_no (n : Nat) (p : Nat → Bool) (k : Nat) (h : p k = false) : sel n p (k + 1) = sel n p k := by
  unfold sel; rw [List.range_succ, List.filter_append, List.map_append]; simp [h]
theorem sel_len (n : Nat) (p : Nat → Bool) (k : Nat) : (sel n p k).length ≤ k := by
  unfold sel; rw [List.length_map]; exact Nat.le_trans (List.length_filter_le _ _) (by simp)
theorem sel_congr (n : Nat) (p q : Nat → Bool) (k : Nat) (h : ∀ i, i < k → p i = q i) : sel n p k = sel n q k := by
  unfold sel; congr 1; exact List.filter_congr fun i hi => h i (by simpa using hi)

set_option maxRecDepth 100000 in
set_option maxHeartbeats 4000000 in
theorem needing_core (n N gm gw : Nat) (f : Nat → Int) (p : Nat → Bool) (a b : Int) (w : World) (hN : N ≤ 4096) (hgm : gm < w.heap.size) (hT : TabOk w)
    (hgl : Hid (∀ k, k < N → gray k < N)) (hc : Hid (∀ k, k < N → w.cell? ⟨gm, gray k, none⟩ = some (.int .i64 (f k)))) (hp : Hid (∀ k, p k = (decide (a ≤ f k) && decide (f k ≤ b))))
    (hB : Hid (∀ k w, k < N → TabOk w → Calls Tryd.prog 48 #[.int .i64 n, .int .i64 (k : Int)] w fun e w' => e = .returned (.agg #[.int .i64 ((ctz (gray k) : Nat) : Int), .bool (onB (gray k)), .int .i64 ((n : Nat) : Int), .int .u64 ((gray k : Nat) : Int)]) ∧ Below w.heap.size w w'))
    (hX : Hid (∀ k w, k < N → Calls Tryd.prog 54 #[(.agg #[.int .i64 ((ctz (gray k) : Nat) : Int), .bool (onB (gray k)), .int .i64 ((n : Nat) : Int), .int .u64 ((gray k : Nat) : Int)])] w fun e w' => e = .returned (.string (ST n (gray k))) ∧ Below w.heap.size w w')) :
    Calls Tryd.prog 40 #[.agg #[.int .i64 n, .slice (some ⟨gm, 0, none⟩) N N, .slice (some ⟨gw, 0, none⟩) N N], .int .i64 a, .int .i64 b] w fun e w' => ∃ v, e = .returned v ∧ OwnT w' (w.heap.size + 1) v (sel n p N) ∧ Below w.heap.size w w' := by
  have hT := Lib.hid hT
  go_enter Tryd.func40, Tryd.ntmps40
  go_wp2_with fail
  go_loopw [7, 14] (fun o i wr => ∃ k : Nat, k ≤ N ∧ i = .int .i64 k ∧ Hid (OwnT wr (w.heap.size + 1) o (sel n p k)) ∧ Hid (Below w.heap.size w wr) ∧ w.heap.size + 1 ≤ wr.heap.size ∧ Hid (wr.heap[w.heap.size]? = some (fndO n N gm gw))) (fun _ i _ => N - (intOf i).toNat)
  case atStart => exact ⟨0, Nat.zero_le _, rfl, OwnT.nil _ _, ba _ _, by simp, Lib.hid (alloc_at _ _)⟩
  case round =>
    obtain ⟨k, hk, rfl, ho, hb, hs, hf⟩ := hrel
    by_cases hlt : k < N
    · have hgk := hgl.out k hlt
      have hTr := Lib.hid (hT.out.below hb.out)
      have hBk := Lib.hid (hB.out k · hlt)
      have hXk := Lib.hid (hX.out k · hlt)
      have hce := hc.out k hlt
      have hpk := hp.out k
      have hln := sel_len n p k
      obtain ⟨g, hg⟩ : ∃ g, Hid (g = gray k) := ⟨_, Lib.hid rfl⟩
      obtain ⟨st, hst⟩ : ∃ st, Hid (st = ST n (gray k)) := ⟨_, Lib.hid rfl⟩
      obtain ⟨d, hd⟩ : ∃ d, Hid (d = f k) := ⟨_, Lib.hid rfl⟩
      rw [← hg.out] at hgk hce hBk hXk hst
      rw [← hst.out] at hXk
      rw [← hd.out] at hpk hce
      have hsy := Lib.hid (fun h => sel_yes n p k h)
      have hsn := Lib.hid (fun h => sel_no n p k h)
      rw [← hg.out, ← hst.out] at hsy
      obtain ⟨⟨d0, d1, d2⟩, _⟩ := fnd_cells hf.out
      have hpk := Lib.hid hpk
      have hce := Lib.hid hce
      go_wp2_with fail
      refine (hBk.out _ hTr.out).mono ?_; rintro e w2 ⟨rfl, hb2⟩
      have hs2 := hb2.size
      clear d0 d1 d2
      go_upto_region 6 with fail
      obtain ⟨W, hW⟩ : ∃ W, W = w2.alloc (barO n g) := ⟨_, rfl⟩
      have hgW := alloc_at w2 (barO n g)
      rw [← hW] at hgW
      have hbW : Below wr.heap.size wr W := by rw [hW]; exact bt hb2 (ba _ _)
      rw [← hW]
      have hWs : Hid (W.heap.size = w2.heap.size + 1) := Lib.hid (by rw [hW]; simp)
      clear hW
      have hf2 : W.heap[w.heap.size]? = some (fndO n N gm gw) := (hbW.block _ (by omega)).trans hf.out
      have hbb : Below w.heap.size w W := hb.out.trans (hbW.mono hb.out.size)
      have hcW : W.cell? ⟨gm, g, none⟩ = some (.int .i64 d) := (hbb.cell (p := ⟨gm, g, none⟩) hgm).trans hce.out
      obtain ⟨⟨d0, d1, d2⟩, _⟩ := fnd_cells hf2
      obtain ⟨⟨b0, b1, b2, b3⟩, _⟩ := bar_cells hgW
      have hoW := Lib.hid (ho.out.below hbW)
      have hbb := Lib.hid hbb
      have hf2 := Lib.hid hf2
      have hgW := Lib.hid hgW
      have hsz : w.heap.size + 1 ≤ W.heap.size := Nat.le_trans hs hbW.size
      have hb2 := Lib.hid hb2
      have hbW := Lib.hid hbW
      by_cases h1 : a ≤ d
      · by_cases h2 : d ≤ b
        · have hY := Lib.hid (hsy.out (by rw [hpk.out]; simp [h1, h2]))
          go_wp2_with fail
          refine (hXk.out _).mono ?_; rintro e w4 ⟨rfl, hb4⟩
          have ho4 := Lib.hid (hoW.out.below hb4)
          have hb44 := Lib.hid (hbb.out.trans (hb4.mono hbb.out.size))
          have hs4 := Nat.le_trans hsz hb4.size
          have hf4 := Lib.hid ((hb4.block _ (by omega)).trans hf2.out)
          have hb4 := Lib.hid hb4
          clear b0 b1 b2 b3 d0 d1 d2 hcW
          go_wp2_with (at_builtin; refine app_txt _ rfl _ _ rfl (w.heap.size + 1) _ _ rfl (ho4.out.alloc _) w4.heap.size st rfl (by simp) (by omega) (by simp; omega) ?_; intro v' w' ho' hg')
          have ho5 := Lib.hid ho'
          have hg5 := Lib.hid hg'
          clear ho' hg'
          go_roundw
          case rel =>
            refine ⟨k + 1, by omega, by go_num, Lib.hid ?_, Lib.hid ?_, ?_, Lib.hid ?_⟩
            · rw [hY.out]; exact ho5.out
            · exact bel_ownT (hb44.out.alloc hb44.out.size _) ((ho4.out.alloc _).mono (by omega)) hg5.out (by have := hb44.out.size; simp; omega)
            · have := hg5.out.size; simp at this; omega
            · rw [hg5.out.block _ (by simp; omega) (fun e => by have := ((ho4.out.alloc (.cells #[.string st] 9)).lt _ e.symm).1; omega), Below.heap_alloc _ _ _ (by omega)]; exact hf4.out
          all_goals (simp [intOf] <;> omega)
        · have hY := Lib.hid (hsn.out (by rw [hpk.out]; simp [h1, h2]))
          have h2' : decide (d ≤ b) = false := by simp [h2]
          go_wp2_with fail
          go_roundw
          case rel => exact ⟨k + 1, by omega, by go_num, Lib.hid (by rw [hY.out]; exact hoW.out), hbb, hsz, hf2⟩
          all_goals (simp [intOf] <;> omega)
      · have hY := Lib.hid (hsn.out (by rw [hpk.out]; simp [h1]))
        have h1' : decide (a ≤ d) = false := by simp [h1]
        go_wp2_with fail
        go_roundw
        case rel => exact ⟨k + 1, by omega, by go_num, Lib.hid (by rw [hY.out]; exact hoW.out), hbb, hsz, hf2⟩
        all_goals (simp [intOf] <;> omega)
    · obtain rfl : N = k := by omega
      go_wp2_with fail
      go_ret
      exact ⟨_, rfl, ho.out, hb.out⟩
end Go.Proofs.YtmbijomjilicgabDoor
