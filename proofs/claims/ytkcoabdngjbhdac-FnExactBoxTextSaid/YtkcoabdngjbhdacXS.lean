/- The text of a box, by the program. -/
import Derived.Test.YtkcoabdngjbhdacXR
namespace Go.Proofs.Ytkcoabdngjbhdac
open Go Go.RowKit RM
theorem hb_drew {w : World} {g : Nat} {o : Obj} (h : w.heap[g]? = some o) : w.drew.heap[g]? = some o := h
theorem dig1_any (p g : Nat) (w : World) (hp : p ≤ 9) (hg : g < w.heap.size) (hc : w.cell? ⟨g, 0, none⟩ = some (.int .i64 p)) : Calls Try.prog 72 #[.slice (some ⟨g, 0, none⟩) 1 1] w fun e w' => e = .returned (.string (tS [p])) ∧ Below w.heap.size w w' := by
  refine digitsText_any _ 1 1 [p] w rfl (by omega) (fun k hk => ?_) (fun _ => ⟨g, rfl, hg, fun k hk => ?_⟩)
  · obtain rfl : k = 0 := by simpa using hk
    exact hp
  · obtain rfl : k = 0 := by simpa using hk
    exact hc
set_option maxRecDepth 100000 in
theorem iBT_yes (v : Value) (p s : Nat) (rs : List ByteArray) (w : World) (h6 : p ≤ 6) (h5 : s ≤ 5) (hl24 : rs.length ≤ 24) (hrz : ∀ r ∈ rs, r.size ≤ 6) (h : RdX w v p s rs)
    (hIB : Hid (∀ w', Below w.heap.size w w' → Calls Try.prog 55 #[v] w' fun e w2 => e = .returned (.bool true) ∧ Below w'.heap.size w' w2)) :
    Calls Try.prog 34 #[v] w fun e w' => e = .returned (.tuple #[.string (trS (bx0 p s) rs), .bool true]) ∧ Below w.heap.size w w' := by
  obtain ⟨u, rfl, pp, c, rfl, hmx, hr⟩ := h
  have hDp := Lib.hid (fun g w (hF : w.heap[g]? = some (.cells #[.int .i64 p] 3)) => dig1_any p g w (by omega) (hb_lt hF) (hb_cell hF 0))
  have hDs := Lib.hid (fun g w (hF : w.heap[g]? = some (.cells #[.int .i64 s] 3)) => dig1_any s g w (by omega) (hb_lt hF) (hb_cell hF 0))
  have hbx := Lib.hid (show bx0 p s = tS [p] ++ (⟨#[120]⟩ : ByteArray) ++ tS [s] from rfl)
  have hb3 := Lib.hid (bx0_size p s)
  have hp1 : (tS [p]).size = 1 := tS_size _
  have hs1 : (tS [s]).size = 1 := tS_size _
  generalize bx0 p s = T0 at *
  generalize tS [p] = tp at *
  generalize tS [s] = ts at *
  obtain ⟨n, hn⟩ : ∃ n, rs.length = n := ⟨_, rfl⟩
  rw [hn] at hl24 hmx hIB ⊢
  replace hn := Lib.hid hn
  obtain ⟨w0, hw0⟩ : ∃ x, Hid (x = w.alloc (boxO p s (.slice pp n c))) := ⟨_, Lib.hid rfl⟩
  have hb0 : Hid (Below w.heap.size w w0) := Lib.hid (by rw [hw0.out]; exact ba1 w _)
  have F0 := Lib.hid (show w0.heap[w.heap.size]? = some (boxO p s (.slice pp n c)) by rw [hw0.out]; exact hb_new _ _)
  have g0 : w0.cell? ⟨w.heap.size, 0, none⟩ = some (.int .i64 p) := hb_cell F0.out 0
  have g1 : w0.cell? ⟨w.heap.size, 1, none⟩ = some (.int .i64 s) := hb_cell F0.out 1
  have g2 : w0.cell? ⟨w.heap.size, 2, none⟩ = some (.slice pp n c) := hb_cell F0.out 2
  go_enter Try.func34, Try.ntmps34
  go_wp2_with fail
  rw [← hw0.out]
  go_wp2_with fail
  refine (hIB.out _ hb0.out).mono ?_; rintro e w1 ⟨rfl, hb⟩
  have F1 := Lib.hid (hb_below hb (hb_lt F0.out) F0.out)
  have hb1 := Lib.hid (bt1 hb0.out hb)
  clear hb g0 g1 g2
  have f0 : w1.cell? ⟨w.heap.size, 0, none⟩ = some (.int .i64 p) := hb_cell F1.out 0
  have f1 : w1.cell? ⟨w.heap.size, 1, none⟩ = some (.int .i64 s) := hb_cell F1.out 1
  have l1 := hb_lt F1.out
  have hr1 := Lib.hid (hr.below hb1.out)
  have hrf : X4 w.heap.size w1.heap.size p s w1 w1 := ⟨⟨f0, f1⟩, l1, Below.refl _ _⟩
  clear hr
  have hcl := fun g (hg : g < w1.heap.size) => (Below.refl w1.heap.size w1).block g hg
  go_upto_region 3 with fail
  go_cut [4] (fun s3 wx => s3 = .string T0 ∧ Hid (Below w1.heap.size w1 wx))
  case first =>
    go_region_held3 (fun v => X4 w.heap.size w1.heap.size p s w1 v) ((first | assumption | exact keepZ (keepZl (by assumption)) (ba1 _ _) (by assumption) | (refine ⟨⟨?_, ?_⟩, ?_, ?_⟩ <;> first | assumption | go_keep | omega | exact (Below.refl _ _).drew)))
      (first | (go_at_call 72; refine (hDp.out _ _ ?_).mono ?_; (first | exact hb_new _ _ | exact hb_old _ (hb_new _ _) | (refine hb_drew (hb_new' _ _ _ ?_); focus (simp; done)) | (refine hb_new' _ _ _ ?_; focus (simp; done)) | (refine (hcl _ (hb_lt (hb_new' _ _ _ ?_))).trans (hb_new' _ _ _ ?_) <;> (first | (simp; done) | (simp [World.drew]; done))) | exact (hcl _ (hb_lt (hb_new _ _))).trans (hb_new _ _) | exact (hcl _ (hb_lt (hb_old _ (hb_new _ _)))).trans (hb_old _ (hb_new _ _))); rintro e w' ⟨rfl, hb9⟩; have hbn := keepZ (keepZl (by assumption)) hb9 (by assumption); have hcl := fun g hg => hb9.block g hg; clear hb9) | (go_at_call 72; refine (hDs.out _ _ ?_).mono ?_; (first | exact hb_new _ _ | exact hb_old _ (hb_new _ _) | (refine hb_drew (hb_new' _ _ _ ?_); focus (simp; done)) | (refine hb_new' _ _ _ ?_; focus (simp; done)) | (refine (hcl _ (hb_lt (hb_new' _ _ _ ?_))).trans (hb_new' _ _ _ ?_) <;> (first | (simp; done) | (simp [World.drew]; done))) | exact (hcl _ (hb_lt (hb_new _ _))).trans (hb_new _ _) | exact (hcl _ (hb_lt (hb_old _ (hb_new _ _)))).trans (hb_old _ (hb_new _ _))); rintro e w' ⟨rfl, hb9⟩; have hbn := keepZ (keepZl (by assumption)) hb9 (by assumption); have hcl := fun g hg => hb9.block g hg; clear hb9))
    all_goals
      have hfin := Lib.hid (keepZF (by assumption))
      go_wp2_with fail
      go_meet
      exact ⟨by rw [hbx.out], hfin⟩
  case rest =>
    obtain ⟨rfl, hbc⟩ := hcut
    have F2 := Lib.hid (hb_below hbc.out l1 F1.out)
    have f2 : wc.cell? ⟨w.heap.size, 2, none⟩ = some (.slice pp n c) := hb_cell F2.out 2
    clear f0 f1 hrf
    go_wp2_with fail
    go_loopw [4, 6, 23] (fun o _ i wr => ∃ k : Nat, k ≤ n ∧ i = .int .i64 k ∧ o = .string (trS T0 (rs.take k)) ∧ Hid (Below w1.heap.size w1 wr)) (fun _ _ i _ => n - (intOf i).toNat)
    case atStart => exact ⟨0, Nat.zero_le _, rfl, rfl, hbc⟩
    case round =>
      obtain ⟨k, hk, rfl, rfl, hbr⟩ := hrel
      by_cases hlt : k < n
      · have hkx : k < rs.length := by rw [hn.out]; exact hlt
        obtain ⟨g, rfl, hgl, hc⟩ := (hr1.out.below (w' := wr) (by exact hbr.out)).tx hkx
        have hsn := Lib.hid (trS_snoc T0 rs k hkx)
        have hR6 := hrz _ (List.getElem_mem hkx)
        have hT : (trS T0 (rs.take k)).size ≤ 300 := by
          have h1 := trS_size (rs.take k) T0 (fun r hr => hrz r (List.mem_of_mem_take hr))
          rw [List.length_take, hb3.out] at h1; omega
        generalize rs[k] = R at *
        generalize trS T0 (rs.take k) = T at *
        have hX : ((⟨#[58]⟩ : ByteArray) ++ R).size = 1 + R.size := by rw [ByteArray.size_append]; rfl
        go_wp2_with fail
        go_roundw
        case rel => exact ⟨k + 1, by omega, by go_num, by rw [hsn.out], hbr⟩
        all_goals (simp [intOf] <;> omega)
      · obtain rfl : k = n := by omega
        have hall : Hid (rs.take k = rs) := Lib.hid (List.take_of_length_le (by rw [hn.out]; exact Nat.le_refl _))
        rw [hall.out]
        go_wp2_with fail
        go_ret2; exact ⟨rfl, bt1 hb1.out hbr.out⟩
theorem iBT_no (v : Value) (P S : Int) (rs : List ByteArray) (w : World) (hz : ∀ s ∈ rs, s.size ≤ maxLen) (hg : goodX P S rs = false) (h : RdX w v P S rs) :
    Calls Try.prog 34 #[v] w fun e w' => e = .returned (.tuple #[.string ⟨#[]⟩, .bool false]) ∧ Below w.heap.size w w' := by
  have hI := Lib.hid (fun w' (hb : Below w.heap.size w w') => iIB_any v P S rs w' hz (h.below hb))
  rw [hg] at hI
  obtain ⟨u, rfl, -⟩ := h
  clear hg hz
  go_enter Try.func34, Try.ntmps34
  go_wp2_with fail
  refine (hI.out _ (ba1 w _)).mono ?_; rintro e w2 ⟨rfl, hb⟩
  go_wp2_with fail
  go_ret2; exact ⟨rfl, bt1 (ba1 w _) hb⟩
theorem BoxText_both (P S : Int) (rs : List ByteArray) (hz : ∀ s ∈ rs, s.size ≤ maxLen) : ∃ (r0 : ByteArray) (r1 : Bool),
    (∀ w v, RdX w v P S rs → Calls Try.prog 33 #[v] w fun e w' => e = .returned (.tuple #[.string r0, .bool r1]) ∧ Below w.heap.size w w') ∧
    (∀ w v, RdX w v P S rs → Calls Try.prog 34 #[v] w fun e w' => e = .returned (.tuple #[.string r0, .bool r1]) ∧ Below w.heap.size w w') := by
  cases hg : goodX P S rs with
  | false => exact ⟨⟨#[]⟩, false, fun w v h => by have := sBT_any v P S rs w hz h; rw [hg] at this; exact this, fun w v h => iBT_no v P S rs w hz hg h⟩
  | true =>
    obtain ⟨p, s, rfl, rfl, ⟨h1, h2, h3, h4⟩, -⟩ := GX0.of hg
    refine ⟨trS (bx0 p s) rs, true, fun w v h => by have := sBT_any v p s rs w hz h; rw [hg] at this; exact this, fun w v h => ?_⟩
    exact iBT_yes v p s rs w h1 h2 h3 h4 h (Lib.hid (fun w' hb => by have := iIB_any v p s rs w' hz (h.below hb); rw [hg] at this; exact this))
end Go.Proofs.Ytkcoabdngjbhdac
