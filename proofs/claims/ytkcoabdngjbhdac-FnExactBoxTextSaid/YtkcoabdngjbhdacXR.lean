/- The text of a box, by the model. -/
import Derived.Test.YtkcoabdngjbhdacDig
namespace Go.Proofs.Ytkcoabdngjbhdac
open Go Go.RowKit RM
/-- the text of a box, rule by rule -/
def trS (t : ByteArray) (l : List ByteArray) : ByteArray := l.foldl (fun s r => s ++ ((⟨#[58]⟩ : ByteArray) ++ r)) t
theorem trS_snoc (t : ByteArray) (l : List ByteArray) (k : Nat) (h : k < l.length) : trS t (l.take (k + 1)) = trS t (l.take k) ++ ((⟨#[58]⟩ : ByteArray) ++ l[k]) := by
  unfold trS; rw [List.take_succ_eq_append_getElem h, List.foldl_append]; rfl
theorem trS_size (l : List ByteArray) : ∀ (t : ByteArray), (∀ r ∈ l, r.size ≤ 6) → (trS t l).size ≤ t.size + 7 * l.length := by
  induction l with
  | nil => intro t _; simp [trS]
  | cons r l ih =>
    intro t h
    have h1 := ih (t ++ ((⟨#[58]⟩ : ByteArray) ++ r)) (fun x hx => h x (List.mem_cons_of_mem _ hx))
    have h2 := h r List.mem_cons_self
    have h3 : (t ++ ((⟨#[58]⟩ : ByteArray) ++ r)).size = t.size + (1 + r.size) := by rw [ByteArray.size_append, ByteArray.size_append]; rfl
    rw [List.length_cons]
    show (trS (t ++ ((⟨#[58]⟩ : ByteArray) ++ r)) l).size ≤ _
    omega
def bx0 (p s : Nat) : ByteArray := tS [p] ++ (⟨#[120]⟩ : ByteArray) ++ tS [s]
theorem bx0_size (p s : Nat) : (bx0 p s).size = 3 := by unfold bx0; rw [ByteArray.size_append, ByteArray.size_append, tS_size, tS_size]; rfl
/-- a box's numbers in memory -/
abbrev X4 (f B : Nat) (P S : Int) (W w : World) : Prop := (w.cell? ⟨f, 0, none⟩ = some (.int .i64 P) ∧ w.cell? ⟨f, 1, none⟩ = some (.int .i64 S)) ∧ f < w.heap.size ∧ Below B W w
theorem keepZ {f B : Nat} {P S : Int} {W a b : World} (hB : B ≤ a.heap.size) (k : Below a.heap.size a b) (h : X4 f B P S W a) : X4 f B P S W b := by
  obtain ⟨⟨a0, a1⟩, hf, hb⟩ := h
  have e : ∀ g o, g < a.heap.size → b.cell? ⟨g, o, none⟩ = a.cell? ⟨g, o, none⟩ := fun g o hg => k.cell (p := ⟨g, o, none⟩) hg
  exact ⟨⟨by rw [e _ _ hf]; exact a0, by rw [e _ _ hf]; exact a1⟩, Nat.lt_of_lt_of_le hf k.size, hb.trans (k.mono hB)⟩
theorem keepZF {f B : Nat} {P S : Int} {W w : World} (h : X4 f B P S W w) : Below B W w := h.2.2
theorem keepZl {f : Nat} {P S : Int} {W w : World} (h : X4 f W.heap.size P S W w) : W.heap.size ≤ w.heap.size := h.2.2.size
theorem GX0.of {P S : Int} {rs : List ByteArray} (h : goodX P S rs = true) : ∃ p s : Nat, P = p ∧ S = s ∧ (p ≤ 6 ∧ s ≤ 5 ∧ rs.length ≤ 24 ∧ ∀ r ∈ rs, r.size ≤ 6) ∧ True := by
  obtain ⟨p, s, rfl, rfl, h1, h2, h3, h4, h5, h6, h7⟩ := goodX_nat h
  have h24 : rs.length ≤ 24 := by rw [h6]; exact mul24 h2 h4
  refine ⟨p, s, rfl, rfl, ⟨h2, h4, h24, fun r hr => ?_⟩, trivial⟩
  obtain ⟨k, hk, rfl⟩ := List.mem_iff_getElem.1 hr
  have h8 := h7 k hk
  rw [ruleOk_iff] at h8
  have h9 := h8.1
  omega
set_option maxRecDepth 100000 in
theorem bxText_any (v : Value) (p s : Nat) (rs : List ByteArray) (w : World) (h6 : p ≤ 6) (h5 : s ≤ 5) (hl24 : rs.length ≤ 24) (hrz : ∀ r ∈ rs, r.size ≤ 6) (h : RdX w v p s rs) :
    Calls Try.prog 71 #[v] w fun e w' => e = .returned (.string (trS (bx0 p s) rs)) ∧ Below w.heap.size w w' := by
  obtain ⟨u, rfl, pp, c, rfl, hmx, hr⟩ := h
  have hNp := Lib.hid (fun w => l1Num_dig p w (by omega))
  have hNs := Lib.hid (fun w => l1Num_dig s w (by omega))
  have hbx := Lib.hid (show bx0 p s = tS [p] ++ (⟨#[120]⟩ : ByteArray) ++ tS [s] from rfl)
  have hb3 := Lib.hid (bx0_size p s)
  have hp1 : (tS [p]).size = 1 := tS_size _
  have hs1 : (tS [s]).size = 1 := tS_size _
  generalize bx0 p s = T0 at *
  generalize tS [p] = tp at *
  generalize tS [s] = ts at *
  obtain ⟨n, hn⟩ : ∃ n, rs.length = n := ⟨_, rfl⟩
  rw [hn] at hl24 hmx ⊢
  replace hn := Lib.hid hn
  obtain ⟨w1, hw1⟩ : ∃ w1, Hid (w1 = w.alloc (boxO p s (.slice pp n c))) := ⟨_, Lib.hid rfl⟩
  have hb1 : Hid (Below w.heap.size w w1) := Lib.hid (by rw [hw1.out]; exact ba1 w _)
  have F1 := Lib.hid (show w1.heap[w.heap.size]? = some (boxO p s (.slice pp n c)) by rw [hw1.out]; exact hb_new _ _)
  have f0 : w1.cell? ⟨w.heap.size, 0, none⟩ = some (.int .i64 p) := hb_cell F1.out 0
  have f1 : w1.cell? ⟨w.heap.size, 1, none⟩ = some (.int .i64 s) := hb_cell F1.out 1
  have l1 := hb_lt F1.out
  have hr1 := Lib.hid (hr.below hb1.out)
  have hrf : X4 w.heap.size w1.heap.size p s w1 w1 := ⟨⟨f0, f1⟩, l1, Below.refl _ _⟩
  clear hr
  go_enter Try.func71, Try.ntmps71
  go_upto_region 1 with fail
  rw [← hw1.out]
  go_cut [3] (fun s3 wx => s3 = .string T0 ∧ Hid (Below w1.heap.size w1 wx))
  case first =>
    go_region_held3 (fun v => X4 w.heap.size w1.heap.size p s w1 v) ((first | assumption | (refine ⟨⟨?_, ?_⟩, ?_, ?_⟩ <;> first | assumption | go_keep | omega | exact (Below.refl _ _).drew)))
      (first | (go_at_call 75; with_reducible refine (hNp.out _).mono ?_; rintro e w' ⟨rfl, hb9⟩; have hbn := keepZ (keepZl (by assumption)) hb9 (by assumption)) | (go_at_call 75; with_reducible refine (hNs.out _).mono ?_; rintro e w' ⟨rfl, hb9⟩; have hbn := keepZ (keepZl (by assumption)) hb9 (by assumption)))
    all_goals
      have hfin := Lib.hid (keepZF (by assumption))
      go_wp2_with fail
      go_meet
      exact ⟨by rw [hbx.out], hfin⟩
  case rest =>
    obtain ⟨rfl, hbc⟩ := hcut
    have F2 := Lib.hid (hb_below hbc.out l1 F1.out)
    have f2 : wc.cell? ⟨w.heap.size, 2, none⟩ = some (.slice pp n c) := hb_cell F2.out 2
    clear f0 f1 hrf
    go_wp2_with fail
    go_loopw [3, 5, 17] (fun o _ i wr => ∃ k : Nat, k ≤ n ∧ i = .int .i64 k ∧ o = .string (trS T0 (rs.take k)) ∧ Hid (Below w1.heap.size w1 wr)) (fun _ _ i _ => n - (intOf i).toNat)
    case atStart => exact ⟨0, Nat.zero_le _, rfl, rfl, hbc⟩
    case round =>
      obtain ⟨k, hk, rfl, rfl, hbr⟩ := hrel
      by_cases hlt : k < n
      · have hkx : k < rs.length := by rw [hn.out]; exact hlt
        obtain ⟨g, rfl, hgl, hc⟩ := (hr1.out.below (w' := wr) (by exact hbr.out)).tx hkx
        have hsn := Lib.hid (trS_snoc T0 rs k hkx)
        have hR6 := hrz _ (List.getElem_mem hkx)
        have hT : (trS T0 (rs.take k)).size ≤ 300 := by
          have h1 := trS_size (rs.take k) T0 (fun r hr => hrz r (List.mem_of_mem_take hr))
          rw [List.length_take, hb3.out] at h1; omega
        generalize rs[k] = R at *
        generalize trS T0 (rs.take k) = T at *
        have hX : ((⟨#[58]⟩ : ByteArray) ++ R).size = 1 + R.size := by rw [ByteArray.size_append]; rfl
        go_wp2_with fail
        go_roundw
        case rel => exact ⟨k + 1, by omega, by go_num, by rw [hsn.out], hbr⟩
        all_goals (simp [intOf] <;> omega)
      · obtain rfl : k = n := by omega
        have hall : Hid (rs.take k = rs) := Lib.hid (List.take_of_length_le (by rw [hn.out]; exact Nat.le_refl _))
        rw [hall.out]
        go_wp2_with fail
        go_ret; exact ⟨rfl, bt1 hb1.out hbr.out⟩
theorem sBT_any (v : Value) (P S : Int) (rs : List ByteArray) (w : World) (hz : ∀ s ∈ rs, s.size ≤ maxLen) (h : RdX w v P S rs) :
    Calls Try.prog 33 #[v] w fun e w' => e = .returned (.tuple #[.string (if goodX P S rs then trS (bx0 P.toNat S.toNat) rs else ⟨#[]⟩), .bool (goodX P S rs)]) ∧ Below w.heap.size w w' := by
  have hG := Lib.hid (fun w' (hb : Below w.heap.size w w') => bxGood_any v P S rs w' hz (h.below hb))
  cases hg : goodX P S rs with
  | false =>
    rw [hg] at hG
    obtain ⟨u, rfl, -⟩ := h
    clear hg
    go_enter Try.func33, Try.ntmps33
    go_wp2_with fail
    refine (hG.out _ (ba1 w _)).mono ?_; rintro e w2 ⟨rfl, hb⟩
    go_wp2_with fail
    go_ret2; exact ⟨by first | rfl | simp, bt1 (ba1 w _) hb⟩
  | true =>
    rw [hg] at hG
    obtain ⟨p, s, rfl, rfl, hGX, -⟩ := GX0.of hg
    have hT := Lib.hid (fun w' (hb : Below w.heap.size w w') => bxText_any v p s rs w' hGX.1 hGX.2.1 hGX.2.2.1 hGX.2.2.2 (h.below hb))
    rw [if_pos rfl, Int.toNat_natCast, Int.toNat_natCast]
    generalize trS (bx0 p s) rs = T at *
    obtain ⟨u, rfl, -⟩ := h
    obtain ⟨w1, hw1⟩ : ∃ w1, Hid (w1 = w.alloc (boxO p s u)) := ⟨_, Lib.hid rfl⟩
    have hb1 : Hid (Below w.heap.size w w1) := Lib.hid (by rw [hw1.out]; exact ba1 w _)
    have F1 := Lib.hid (show w1.heap[w.heap.size]? = some (boxO p s u) by rw [hw1.out]; exact hb_new _ _)
    have f0 : w1.cell? ⟨w.heap.size, 0, none⟩ = some (.int .i64 p) := hb_cell F1.out 0
    have f1 : w1.cell? ⟨w.heap.size, 1, none⟩ = some (.int .i64 s) := hb_cell F1.out 1
    have f2 : w1.cell? ⟨w.heap.size, 2, none⟩ = some u := hb_cell F1.out 2
    clear hg hGX
    go_enter Try.func33, Try.ntmps33
    go_wp2_with fail
    rw [← hw1.out]
    go_wp2_with fail
    refine (hG.out _ hb1.out).mono ?_; rintro e w2 ⟨rfl, hb⟩
    have F2 := Lib.hid (hb_below hb (hb_lt F1.out) F1.out)
    have g0 : w2.cell? ⟨w.heap.size, 0, none⟩ = some (.int .i64 p) := hb_cell F2.out 0
    have g1 : w2.cell? ⟨w.heap.size, 1, none⟩ = some (.int .i64 s) := hb_cell F2.out 1
    have g2 : w2.cell? ⟨w.heap.size, 2, none⟩ = some u := hb_cell F2.out 2
    replace hb := Lib.hid (bt1 hb1.out hb)
    go_wp2_with fail
    refine (hT.out _ hb.out).mono ?_; rintro e w3 ⟨rfl, hb3⟩
    go_wp2_with fail
    go_ret2; exact ⟨rfl, bt1 hb.out hb3⟩
end Go.Proofs.Ytkcoabdngjbhdac
