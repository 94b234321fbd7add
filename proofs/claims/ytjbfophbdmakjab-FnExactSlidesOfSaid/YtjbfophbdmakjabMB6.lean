/- Marks of a row of slides; slides' rows that are the same. -/
import Derived.Test.YtjbfophbdmakjabMB1
import Derived.Test.YtjbfophbdmakjabJ5
namespace Go.Proofs.Ytjbfophbdmakjab
open Go Go.RowKit RM
def mkM (s : Int) (i : Nat) : Int × Int := (s + 2 * (i : Int), s + 2 * (i : Int) + 1)
def marksM (s : Int) (n : Nat) : List (Int × Int) := (List.range n).map (mkM s)
theorem marksM_len (s : Int) (n : Nat) : (marksM s n).length = n := by simp [marksM]
theorem marksM_step (s : Int) (bs : List (Int × Int)) (k : Nat) (hk : k < bs.length) : (marksM s k ++ bs.drop k).set k (mkM s k) = marksM s (k + 1) ++ bs.drop (k + 1) := by
  have hd : bs.drop k = bs[k] :: bs.drop (k + 1) := List.drop_eq_getElem_cons _
  rw [hd, List.set_append_right _ _ (by rw [marksM_len]; exact Nat.le_refl _), marksM_len, Nat.sub_self, List.set_cons_zero]
  unfold marksM
  rw [List.range_succ, List.map_append, List.append_assoc]; rfl
/-- a call hands back slides in memory of its own, and whether it succeeds -/
def RetM (w : World) (xs : List (Int × Int)) (ok : Bool) (e : Ending) (w' : World) : Prop := ∃ v, e = .returned (.tuple #[v, .bool ok]) ∧ OwnG slE w' w.heap.size v xs ∧ Below w.heap.size w w'
/-- a slide stored whole -/
theorem OwnG.slStored {w : World} {B g n cap : Nat} {xs : List (Int × Int)} (h : OwnG slE w B (.slice (some ⟨g, 0, none⟩) n cap) xs) (hn : n = xs.length) (k : Nat) (hk : k < xs.length) (a i : Int) :
    OwnG slE ((w.setCell ⟨g, k * 2, none⟩ (.int .i64 a)).setCell ⟨g, k * 2 + 1, none⟩ (.int .i64 i)) B (.slice (some ⟨g, 0, none⟩) n cap) (xs.set k (a, i)) ∧
    w.grownBy ((w.setCell ⟨g, k * 2, none⟩ (.int .i64 a)).setCell ⟨g, k * 2 + 1, none⟩ (.int .i64 i)) (some g) := by
  obtain ⟨y, hy⟩ : ∃ y, y = xs[k] := ⟨_, rfl⟩
  obtain ⟨s0, g0⟩ := h.stored hn k hk 0 (by decide) (.int .i64 a) (a, y.2) (by rw [← hy]; rfl)
  obtain ⟨s1, g1⟩ := s0.stored (by simpa using hn) k (by simpa using hk) 1 (by decide) (.int .i64 i) (a, i) (by simp [List.getElem_set_self]; rfl)
  rw [List.set_set] at s1
  exact ⟨s1, g0.trans g1⟩
theorem sl_cells {w : World} {g : Nat} {bs : List (Int × Int)} (h : ∀ k (hk : k < bs.length) o, o < slE.n → w.cell? ⟨g, k * slE.n + o, none⟩ = (slE.cells bs[k])[o]?) (k : Nat) (hk : k < bs.length) :
    w.cell? ⟨g, k * 2, none⟩ = some (.int .i64 bs[k].1) ∧ w.cell? ⟨g, k * 2 + 1, none⟩ = some (.int .i64 bs[k].2) := ⟨h k hk 0 (by decide), h k hk 1 (by decide)⟩
set_option maxHeartbeats 1000000 in
theorem markSlideS_some (g n cap B : Nat) (s : Int) (bs : List (Int × Int)) (w : World) (hx : bs.length = n) (hn : n ≤ 2000000) (hs0 : 0 ≤ s) (hs1 : s ≤ 3000000) (hw : OwnG slE w B (.slice (some ⟨g, 0, none⟩) n cap) bs) :
    Calls Try.prog 30 #[.slice (some ⟨g, 0, none⟩) n cap, .int .i64 s] w fun e w' => e = .returned (.int .i64 (s + 2 * (n : Int))) ∧ OwnG slE w' B (.slice (some ⟨g, 0, none⟩) n cap) (marksM s n) ∧ w.grownBy w' (some g) := by
  replace hw := Lib.hid hw
  replace hx := Lib.hid hx
  go_enter Try.func30, Try.ntmps30
  go_wp2_with fail
  go_loopw [1, 5] (fun m i wr => ∃ k : Nat, k ≤ n ∧ i = .int .i64 k ∧ m = .int .i64 (s + 2 * (k : Int)) ∧ Hid (OwnG slE wr B (.slice (some ⟨g, 0, none⟩) n cap) (marksM s k ++ bs.drop k)) ∧ Hid (w.grownBy wr (some g))) (fun _ i _ => n - (intOf i).toNat)
  case atStart => exact ⟨0, by omega, rfl, by simp, Lib.hid (by simpa [marksM] using hw.out), Lib.hid (World.grownBy.refl _ _)⟩
  case round =>
    obtain ⟨k, hk, rfl, rfl, ho, hg⟩ := hrel
    by_cases hlt : k < n
    · have hlen : Hid ((marksM s k ++ bs.drop k).length = n) := Lib.hid (by rw [List.length_append, marksM_len, List.length_drop, hx.out]; omega)
      have hst := Lib.hid (ho.out.slStored hlen.out.symm k (by rw [hlen.out]; exact hlt) (s + 2 * (k : Int)) (s + 2 * (k : Int) + 1))
      have hsp := Lib.hid (marksM_step s bs k (by rw [hx.out]; exact hlt))
      obtain ⟨d0, d1⟩ := sl_cells (fun k' hk' o ho' => ho.out.cells hlen.out.symm k' hk' o ho') k (by rw [hlen.out]; exact hlt)
      have hfz := fun j => ho.out.frozen hlen.out.symm j
      have hgl := (ho.out.lt _ rfl).2
      generalize (marksM s k ++ bs.drop k)[k]'(by rw [hlen.out]; exact hlt) = y at d0 d1
      have e1 : IntKind.i64.wrap (s + 2 * (k : Int) + 1) = s + 2 * (k : Int) + 1 := by rw [IntKind.wrap_i64]; omega
      have e2 : IntKind.i64.wrap (s + 2 * (k : Int) + 1 + 1) = s + 2 * (k : Int) + 1 + 1 := by rw [IntKind.wrap_i64]; omega
      go_wp2_with fail
      go_roundw
      case rel => exact ⟨k + 1, by omega, by go_num, by congr 1; omega, by rw [← hsp.out]; exact Lib.hid hst.out.1, Lib.hid (hg.out.trans hst.out.2)⟩
      all_goals (simp [intOf] <;> omega)
    · obtain rfl : k = n := by omega
      have ho2 := ho.out
      rw [List.drop_eq_nil_of_le (by rw [hx.out]; exact Nat.le_refl _), List.append_nil] at ho2
      replace ho2 := Lib.hid ho2
      go_wp2_with fail
      go_ret; exact ⟨rfl, ho2.out, hg.out⟩
theorem markSlideS_nil (p : Option Addr) (cap : Nat) (s : Int) (w : World) :
    Calls Try.prog 30 #[.slice p 0 cap, .int .i64 s] w fun e w' => e = .returned (.int .i64 s) ∧ w = w' := by
  go_enter Try.func30, Try.ntmps30
  go_wp2_with fail
  go_loop [1, 5] (fun m i => i = .int .i64 0 ∧ m = .int .i64 s) (fun _ _ => 0)
  case atStart => exact ⟨rfl, rfl⟩
  case round =>
    obtain ⟨rfl, rfl⟩ := hrel
    go_wp2_with fail
    go_ret; exact ⟨rfl, rfl⟩
theorem markSlideS_any (v : Value) (B : Nat) (s : Int) (bs : List (Int × Int)) (w : World) (hn : bs.length ≤ 2000000) (hs0 : 0 ≤ s) (hs1 : s ≤ 3000000) (h : OwnG slE w B v bs) :
    Calls Try.prog 30 #[v, .int .i64 s] w fun e w' => e = .returned (.int .i64 (s + 2 * (bs.length : Int))) ∧ OwnG slE w' B v (marksM s bs.length) ∧ w.grownBy w' v.ownBlock := by
  rcases h.form with ⟨rfl, rfl⟩ | ⟨g, cap, rfl, _, _, _⟩
  · refine (markSlideS_nil none 0 s w).mono fun e w' ⟨he, hw⟩ => ⟨by rw [he]; simp, ?_, ?_⟩
    · rw [← hw]; exact h
    · rw [← hw]; exact World.grownBy.refl _ _
  · exact markSlideS_some g bs.length cap B s bs w rfl hn hs0 hs1 h
theorem heldSlideS_some (p : Option Addr) (n cap : Nat) (s : Int) (w : World) (hn : n ≤ 2000000) (hs0 : 0 ≤ s) (hs1 : s ≤ 3000000) (hr : RG slE w p (marksM s n)) :
    Calls Try.prog 31 #[.slice p n cap, .int .i64 s] w fun e w' => e = .returned (.int .i64 (s + 2 * (n : Int))) ∧ Below w.heap.size w w' := by
  replace hr := Lib.hid hr
  go_enter Try.func31, Try.ntmps31
  go_wp2_with fail
  go_loopw [1, 5] (fun m i wr => ∃ k : Nat, k ≤ n ∧ i = .int .i64 k ∧ m = .int .i64 (s + 2 * (k : Int)) ∧ Hid (Below w.heap.size w wr)) (fun _ i _ => n - (intOf i).toNat)
  case atStart => exact ⟨0, by omega, rfl, by simp, Lib.hid (Below.refl _ _)⟩
  case round =>
    obtain ⟨k, hk, rfl, rfl, hb⟩ := hrel
    by_cases hlt : k < n
    · have hkx : k < (marksM s n).length := by rw [marksM_len]; exact hlt
      obtain ⟨g, rfl, hgl, c0, c1⟩ := (hr.out.below hb.out).sl hkx
      have hke : (marksM s n)[k] = mkM s k := by simp [marksM]
      rw [hke] at c0 c1
      have d0 : wr.cell? ⟨g, k * 2, none⟩ = some (.int .i64 (s + 2 * (k : Int))) := c0
      have d1 : wr.cell? ⟨g, k * 2 + 1, none⟩ = some (.int .i64 (s + 2 * (k : Int) + 1)) := c1
      clear c0 c1 hke
      have e1 : IntKind.i64.wrap (s + 2 * (k : Int) + 1) = s + 2 * (k : Int) + 1 := by rw [IntKind.wrap_i64]; omega
      have e2 : IntKind.i64.wrap (s + 2 * (k : Int) + 1 + 1) = s + 2 * (k : Int) + 1 + 1 := by rw [IntKind.wrap_i64]; omega
      go_wp2_with fail
      go_roundw
      case rel => exact ⟨k + 1, by omega, by go_num, by congr 1; omega, hb⟩
      all_goals (simp [intOf] <;> omega)
    · obtain rfl : k = n := by omega
      go_wp2_with fail
      go_ret; exact ⟨rfl, hb.out⟩
theorem heldSlideS_any (v : Value) (B : Nat) (s : Int) (n : Nat) (w : World) (hn : n ≤ 2000000) (hs0 : 0 ≤ s) (hs1 : s ≤ 3000000) (h : OwnG slE w B v (marksM s n)) :
    Calls Try.prog 31 #[v, .int .i64 s] w fun e w' => e = .returned (.int .i64 (s + 2 * (n : Int))) ∧ Below w.heap.size w w' := by
  obtain ⟨p, c, e, -, hr⟩ := h.rd
  rw [marksM_len] at e
  subst e
  exact heldSlideS_some p n c s w hn hs0 hs1 hr
theorem eqSlide_same (a i : Int) (w : World) :
    Calls Try.prog 58 #[.agg #[.int .i64 a, .int .i64 i], .agg #[.int .i64 a, .int .i64 i]] w fun e w' => e = .returned (.bool true) ∧ Below w.heap.size w w' := by
  have na : (a != a) = false := by simp
  have ni : (i != i) = false := by simp
  go_enter Try.func58, Try.ntmps58
  go_wp2_with fail
  go_ret; exact ⟨rfl, (ba1 w _).alloc (by simp) _⟩
theorem keepS2 {W a b : World} {g g' k : Nat} {v0 v1 u0 u1 : Value} (hb : Below a.heap.size a b)
    (h : (a.cell? ⟨g, k * 2, none⟩ = some v0 ∧ a.cell? ⟨g, k * 2 + 1, none⟩ = some v1) ∧ (a.cell? ⟨g', k * 2, none⟩ = some u0 ∧ a.cell? ⟨g', k * 2 + 1, none⟩ = some u1) ∧ g < a.heap.size ∧ g' < a.heap.size ∧ Below W.heap.size W a) :
    (b.cell? ⟨g, k * 2, none⟩ = some v0 ∧ b.cell? ⟨g, k * 2 + 1, none⟩ = some v1) ∧ (b.cell? ⟨g', k * 2, none⟩ = some u0 ∧ b.cell? ⟨g', k * 2 + 1, none⟩ = some u1) ∧ g < b.heap.size ∧ g' < b.heap.size ∧ Below W.heap.size W b := by
  obtain ⟨⟨h0, h1⟩, ⟨h4, h5⟩, l1, l2, hB⟩ := h
  have c : ∀ o, b.cell? ⟨g, o, none⟩ = a.cell? ⟨g, o, none⟩ := fun o => hb.cell (p := ⟨g, o, none⟩) l1
  have c' : ∀ o, b.cell? ⟨g', o, none⟩ = a.cell? ⟨g', o, none⟩ := fun o => hb.cell (p := ⟨g', o, none⟩) l2
  exact ⟨⟨by rw [c]; exact h0, by rw [c]; exact h1⟩, ⟨by rw [c']; exact h4, by rw [c']; exact h5⟩, Nat.lt_of_lt_of_le l1 hb.size, Nat.lt_of_lt_of_le l2 hb.size, bt1 hB hb⟩
theorem keepS2F {W a : World} {g g' k : Nat} {v0 v1 u0 u1 : Value}
    (h : (a.cell? ⟨g, k * 2, none⟩ = some v0 ∧ a.cell? ⟨g, k * 2 + 1, none⟩ = some v1) ∧ (a.cell? ⟨g', k * 2, none⟩ = some u0 ∧ a.cell? ⟨g', k * 2 + 1, none⟩ = some u1) ∧ g < a.heap.size ∧ g' < a.heap.size ∧ Below W.heap.size W a) : Below W.heap.size W a := h.2.2.2.2
theorem eqSlideS_any (p p' : Option Addr) (n c c' : Nat) (bs : List (Int × Int)) (w : World) (hn : bs.length = n) (hm : n ≤ maxLen) (h : RG slE w p bs) (h' : RG slE w p' bs) :
    Calls Try.prog 29 #[.slice p n c, .slice p' n c'] w fun e w' => e = .returned (.bool true) ∧ Below w.heap.size w w' := by
  replace h := Lib.hid h
  replace h' := Lib.hid h'
  replace hn := Lib.hid hn
  unfold maxLen at hm
  have hne : ((n : Int) != (n : Int)) = false := by simp
  go_enter Try.func29, Try.ntmps29
  go_wp2_with fail
  go_loopw [5] (fun i wr => ∃ k : Nat, k ≤ n ∧ i = .int .i64 k ∧ Hid (Below w.heap.size w wr)) (fun i _ => n - (intOf i).toNat)
  case atStart => exact ⟨0, Nat.zero_le _, rfl, Lib.hid (Below.refl _ _)⟩
  case round =>
    obtain ⟨k, hk, rfl, hb⟩ := hrel
    by_cases hlt : k < n
    · have hkx : k < bs.length := by rw [hn.out]; exact hlt
      obtain ⟨g, rfl, hgl, e0, e1⟩ := (h.out.below hb.out).sl hkx
      obtain ⟨g', rfl, hgl', e0', e1'⟩ := (h'.out.below hb.out).sl hkx
      obtain ⟨ka, ki, hke⟩ : ∃ a i, bs[k] = (a, i) := ⟨_, _, rfl⟩
      rw [hke] at e0 e1 e0' e1'
      clear hke hkx
      have HE := Lib.hid fun w => eqSlide_same ka ki w
      go_wp2_with fail
      go_region_held3 (fun v => (v.cell? ⟨g, k * 2, none⟩ = some (.int .i64 ka) ∧ v.cell? ⟨g, k * 2 + 1, none⟩ = some (.int .i64 ki)) ∧ (v.cell? ⟨g', k * 2, none⟩ = some (.int .i64 ka) ∧ v.cell? ⟨g', k * 2 + 1, none⟩ = some (.int .i64 ki)) ∧ g < v.heap.size ∧ g' < v.heap.size ∧ Below wr.heap.size wr v) ((first | assumption | (refine ⟨⟨?_, ?_⟩, ⟨?_, ?_⟩, ?_, ?_, ?_⟩ <;> first | assumption | go_keep | omega | exact (Below.refl _ _).drew)))
        (first | (go_at_call 58; refine (HE.out _).mono ?_; rintro e w' ⟨rfl, hb2⟩; have hbn := keepS2 hb2 (by assumption)))
      all_goals
        have hfin := keepS2F (by assumption)
        go_wp2_with fail
        go_roundw
        case rel => exact ⟨k + 1, by omega, by go_num, Lib.hid (bt1 hb.out hfin)⟩
        all_goals (simp [intOf] <;> omega)
    · go_wp2_with fail
      go_ret; exact ⟨rfl, hb.out⟩
theorem eqSlideS_same (va vb : Value) (xs : List (Int × Int)) (A B : Nat) (w : World) (ha : OwnG slE w A va xs) (hb : OwnG slE w B vb xs) :
    Calls Try.prog 29 #[va, vb] w fun e w' => e = .returned (.bool true) ∧ Below w.heap.size w w' := by
  obtain ⟨p, c, rfl, hm, hr⟩ := ha.rd
  obtain ⟨p', c', rfl, -, hr'⟩ := hb.rd
  exact eqSlideS_any p p' _ c c' xs w rfl hm hr hr'
end Go.Proofs.Ytjbfophbdmakjab
