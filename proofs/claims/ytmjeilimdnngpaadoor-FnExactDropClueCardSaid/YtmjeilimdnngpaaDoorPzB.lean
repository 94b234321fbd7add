/- The bars that a clue leaves, by the program: slices.IndexFunc and slices.DeleteFunc with their function. -/
import Derived.Test.YtmjeilimdnngpaaDoorPzA
namespace Go.Proofs.YtmjeilimdnngpaaDoor
open Go Go.RowKit RM
theorem brX_get (n : Nat) (xs : List Nat) (k : Nat) (h : k < (brX n xs).length) : (brX n xs)[k] = (n, xs[k]'(by rw [brX_len] at h; exact h)) := List.getElem_map (f := fun x => (n, x))
theorem brX_set (n : Nat) (xs : List Nat) (k x : Nat) : (brX n xs).set k (n, x) = brX n (xs.set k x) := by unfold brX; rw [List.map_set]
theorem brX_take (n : Nat) (xs : List Nat) (k : Nat) : (brX n xs).take k = brX n (xs.take k) := by unfold brX; rw [List.map_take]
/-- the function that is handed on, with the clue's variable -/
abbrev sfV (gc : Nat) : Value := .func (.func 105) #[] #[.pointer (some ⟨gc, 0, none⟩)]

theorem siftC_any (n x gc : Nat) (k a b : Int) (w : World) (h1 : 1 ≤ n) (h7 : n ≤ 7) (hx : x < 2 ^ n) (hT : TabOk w) (h : cluOk n ⟨k, a, b⟩ = true) (hg : w.heap[gc]? = some (cluO k a b)) :
    Calls Tryd.prog 105 #[(.agg #[.int .i64 ((ctz (x) : Nat) : Int), .bool (onB (x)), .int .i64 ((n : Nat) : Int), .int .u64 ((x : Nat) : Int)]), .pointer (some ⟨gc, 0, none⟩)] w fun e w' => e = .returned (.bool (!(fitZ n x ⟨k, a, b⟩))) ∧ Below w.heap.size w w' := by
  have hF := Lib.hid fun w hw => fits_any n x k a b w h1 h7 hx hw h
  generalize fitZ n x ⟨k, a, b⟩ = R at *
  obtain ⟨w2, hw2⟩ : ∃ w2, Hid (w2 = w.alloc (barO n x)) := ⟨_, Lib.hid rfl⟩
  have hb2 : Hid (Below w.heap.size w w2) := Lib.hid (by rw [hw2.out]; exact ba1 w _)
  have B2 := Lib.hid (show w2.heap[w.heap.size]? = some (barO n x) by rw [hw2.out]; exact hb_new _ _)
  have C2 := Lib.hid (hb_below hb2.out (hb_lt hg) hg)
  have hT2 := Lib.hid (hT.below hb2.out)
  have b0 : w2.cell? ⟨w.heap.size, 0, none⟩ = some (.int .i64 (ctz x)) := hb_cell B2.out 0
  have b1 : w2.cell? ⟨w.heap.size, 1, none⟩ = some (.bool (onB x)) := hb_cell B2.out 1
  have b2 : w2.cell? ⟨w.heap.size, 2, none⟩ = some (.int .i64 n) := hb_cell B2.out 2
  have b3 : w2.cell? ⟨w.heap.size, 3, none⟩ = some (.int .u64 x) := hb_cell B2.out 3
  have c0 : w2.cell? ⟨gc, 0, none⟩ = some (.int .i64 k) := hb_cell C2.out 0
  have c1 : w2.cell? ⟨gc, 1, none⟩ = some (.int .i64 a) := hb_cell C2.out 1
  have c2 : w2.cell? ⟨gc, 2, none⟩ = some (.int .i64 b) := hb_cell C2.out 2
  clear h hx hg hT
  go_enter Tryd.func105, Tryd.ntmps105
  go_upto_region 1 with fail
  rw [← hw2.out]
  go_wp2_with fail
  refine (hF.out _ hT2.out).mono ?_; rintro e w3 ⟨rfl, hb3⟩
  replace hb3 := Lib.hid (bt1 hb2.out hb3)
  go_wp2_with fail
  go_ret; exact ⟨rfl, hb3.out⟩

theorem ixb_nil (p : Option Addr) (c gc : Nat) (w : World) :
    Calls Tryd.prog 119 #[.slice p 0 c, sfV gc] w fun e w' => e = .returned (.int .i64 (-1)) ∧ w = w' := by
  go_enter Tryd.func119, Tryd.ntmps119
  go_wp2_with fail
  go_loop [8] (fun i => i = .int .i64 0) (fun _ => 0)
  case atStart => exact rfl
  case round =>
    obtain rfl := hrel
    go_wp2_with fail
    go_ret; exact ⟨rfl, rfl⟩

/-- what the look for the first bar that does not fit finds -/
def IxR (P : Nat → Bool) (xs : List Nat) (r : Int) : Prop := (r = -1 ∧ xs.all P = true) ∨ ∃ i : Nat, r = i ∧ ∃ h : i < xs.length, (xs.take i).all P = true ∧ P xs[i] = false
set_option maxHeartbeats 1000000 in
theorem ixb_any (n g m cap gc : Nat) (xs : List Nat) (P : Nat → Bool) (Kp : World → Prop) (w : World) (hm : xs.length = m) (hml : m ≤ 200) (hgl : g < w.heap.size)
    (hcl : Hid (∀ i (h : i < (brX n xs).length) o, o < 4 → w.cell? ⟨g, i * 4 + o, none⟩ = (brE.cells (brX n xs)[i])[o]?)) (hK : Hid (Kp w)) (hKb : Hid (∀ W W', Kp W → Below W.heap.size W W' → Kp W'))
    (hF : Hid (∀ x ∈ xs, ∀ W, Kp W → Calls Tryd.prog 105 #[(.agg #[.int .i64 ((ctz (x) : Nat) : Int), .bool (onB (x)), .int .i64 ((n : Nat) : Int), .int .u64 ((x : Nat) : Int)]), .pointer (some ⟨gc, 0, none⟩)] W fun e W' => e = .returned (.bool (!(P x))) ∧ Below W.heap.size W W')) :
    Calls Tryd.prog 119 #[.slice (some ⟨g, 0, none⟩) m cap, sfV gc] w fun e w' => ∃ r : Int, e = .returned (.int .i64 r) ∧ IxR P xs r ∧ Below w.heap.size w w' := by
  replace hm := Lib.hid hm
  go_enter Tryd.func119, Tryd.ntmps119
  go_wp2_with fail
  go_loopw [5, 8] (fun _ i wr => ∃ k : Nat, k ≤ m ∧ i = .int .i64 k ∧ Hid ((xs.take k).all P = true) ∧ Hid (Below w.heap.size w wr)) (fun _ i _ => m - (intOf i).toNat)
  case atStart => exact ⟨0, Nat.zero_le _, rfl, Lib.hid (by simp), Lib.hid (Below.refl _ _)⟩
  case round =>
    obtain ⟨k, hk, rfl, ha, hb⟩ := hrel
    by_cases hlt : k < m
    · have hkx : k < xs.length := by rw [hm.out]; exact hlt
      have hkb : k < (brX n xs).length := by rw [brX_len]; exact hkx
      have hcx := fun o ho => (hb.out.cell (p := ⟨g, k * 4 + o, none⟩) hgl).trans (hcl.out k hkb o ho)
      rw [brX_get] at hcx
      have hFk := Lib.hid (hF.out xs[k] (List.getElem_mem hkx) _ (hKb.out _ _ hK.out hb.out))
      have hye := Lib.hid (all_snoct P xs k hkx ha.out)
      have hno : Hid (P xs[k] = false → IxR P xs (k : Int)) := Lib.hid fun h => .inr ⟨k, rfl, hkx, ha.out, h⟩
      generalize xs[k] = x at *
      have c0 : wr.cell? ⟨g, k * 4, none⟩ = some (.int .i64 ((ctz x : Nat) : Int)) := hcx 0 (by omega)
      have c1 : wr.cell? ⟨g, k * 4 + 1, none⟩ = some (.bool (onB x)) := hcx 1 (by omega)
      have c2 : wr.cell? ⟨g, k * 4 + 2, none⟩ = some (.int .i64 ((n : Nat) : Int)) := hcx 2 (by omega)
      have c3 : wr.cell? ⟨g, k * 4 + 3, none⟩ = some (.int .u64 ((x : Nat) : Int)) := hcx 3 (by omega)
      clear hcx hkx hkb
      generalize P x = t at *
      go_wp2_with fail
      refine hFk.out.mono ?_; rintro e w2 ⟨rfl, hb2⟩
      have hb2 := Lib.hid (hb.out.trans (hb2.mono hb.out.size))
      cases t with
      | false =>
        go_wp2_with fail
        go_ret; exact ⟨_, rfl, hno.out (by first | rfl | trivial), hb2.out⟩
      | true =>
        go_wp2_with fail
        go_roundw
        case rel => exact ⟨k + 1, by omega, by go_num, Lib.hid (hye.out (by first | rfl | trivial)), hb2⟩
        all_goals (simp [intOf] <;> omega)
    · obtain rfl : k = m := by omega
      have hF1 : Hid (xs.all P = true) := Lib.hid (by
        have := ha.out
        rw [List.take_of_length_le (by rw [hm.out]; exact Nat.le_refl _)] at this; exact this)
      go_wp2_with fail
      go_ret; exact ⟨_, rfl, .inl ⟨rfl, hF1.out⟩, hb.out⟩

theorem del_nil (p : Option Addr) (c gc : Nat) (w : World) :
    Calls Tryd.prog 104 #[.slice p 0 c, sfV gc] w fun e w' => e = .returned (.slice p 0 c) ∧ w = w' := by
  have hI := Lib.hid (ixb_nil p c gc)
  go_enter Tryd.func104, Tryd.ntmps104
  go_wp2_with fail
  refine (hI.out _).mono ?_; rintro e w' ⟨rfl, rfl⟩
  go_wp2_with fail
  go_ret; exact ⟨rfl, rfl⟩

set_option maxHeartbeats 2000000 in
theorem del_any (n g m cap gc B : Nat) (xs : List Nat) (P : Nat → Bool) (Kp : World → Prop) (w : World) (hm : xs.length = m) (hml : m ≤ 200)
    (ho : OwnG brE w B (.slice (some ⟨g, 0, none⟩) m cap) (brX n xs)) (hK : Kp w) (hKg : ∀ W W', Kp W → W.grownBy W' (some g) → Kp W')
    (hF : ∀ x ∈ xs, ∀ W, Kp W → Calls Tryd.prog 105 #[(.agg #[.int .i64 ((ctz (x) : Nat) : Int), .bool (onB (x)), .int .i64 ((n : Nat) : Int), .int .u64 ((x : Nat) : Int)]), .pointer (some ⟨gc, 0, none⟩)] W fun e W' => e = .returned (.bool (!(P x))) ∧ Below W.heap.size W W') :
    Calls Tryd.prog 104 #[.slice (some ⟨g, 0, none⟩) m cap, sfV gc] w fun e w' => ∃ a : Nat, e = .returned (.slice (some ⟨g, 0, none⟩) a cap) ∧ OwnG brE w' B (.slice (some ⟨g, 0, none⟩) a cap) (brX n (xs.filter P)) ∧ a = (xs.filter P).length ∧ w.grownBy w' (some g) := by
  have hmb : m = (brX n xs).length := by rw [brX_len]; exact hm.symm
  have hgl := (ho.lt _ rfl).2
  have hcap : m ≤ cap ∧ cap ≤ 9223372036854775807 := by
    rcases ho.2 with ⟨e, _⟩ | ⟨g', cap', cur, e, _, _, hc, hmx, _⟩
    · cases e
    · cases e; rw [← hmb] at hc; exact ⟨hc, hmx⟩
  obtain ⟨hc1, hc2⟩ := hcap
  have hI := Lib.hid (ixb_any n g m cap gc xs P Kp w hm hml hgl (Lib.hid fun i h o h4 => ho.cells hmb i h o h4) (Lib.hid hK) (Lib.hid fun W W' h hb => hKg W W' h (grown_any hb _)) (Lib.hid hF))
  replace hm := Lib.hid hm
  replace ho := Lib.hid ho
  replace hK := Lib.hid hK
  replace hKg := Lib.hid hKg
  replace hF := Lib.hid hF
  replace hmb := Lib.hid hmb
  go_enter Tryd.func104, Tryd.ntmps104
  go_wp2_with fail
  refine hI.out.mono ?_; rintro e w1 ⟨r, rfl, hr, hb1⟩
  have ho1 := Lib.hid (ho.out.below hb1)
  have hK1 := Lib.hid (hKg.out _ _ hK.out (grown_any hb1 _))
  have hg1 := Lib.hid (grown_any hb1 (some g))
  rcases hr with ⟨rfl, hall⟩ | ⟨i, rfl, hix, hti, hPi⟩
  · have hfa := Lib.hid (filter_all hall)
    clear hall hb1
    go_wp2_with fail
    go_ret; exact ⟨m, rfl, by rw [hfa.out]; exact ho1.out, by rw [hfa.out]; exact hm.out.symm, hg1.out⟩
  · have him : i < m := by rw [← hm.out]; exact hix
    have hst : Hid ((xs.take i) = (xs.take (i + 1)).filter P) := Lib.hid (by
      rw [List.take_succ_eq_append_getElem hix, List.filter_append, filter_all hti]
      simp [hPi])
    have hne : ((i : Int) == -1) = false := by simp <;> omega
    clear hti hPi hix hb1
    go_wp2_with fail
    go_loopw [5, 6] (fun s t wr => ∃ (a b : Nat) (ys : List Nat), a < b ∧ b ≤ m ∧ s = .int .i64 a ∧ t = .int .i64 b ∧ Hid (ys.length = m) ∧ Hid (ys.take a = (xs.take b).filter P) ∧ Hid (ys.drop b = xs.drop b) ∧ Hid (OwnG brE wr B (.slice (some ⟨g, 0, none⟩) m cap) (brX n ys)) ∧ Hid (w.grownBy wr (some g)) ∧ Hid (Kp wr)) (fun _ t _ => m - (intOf t).toNat)
    case atStart => exact ⟨i, i + 1, xs, by omega, by omega, rfl, by go_num, hm, Lib.hid hst.out, Lib.hid rfl, ho1, hg1, hK1⟩
    case round =>
      obtain ⟨a, b, ys, hab, hbm, rfl, rfl, hyl, hta, hdb, hoy, hgy, hKy⟩ := hrel
      by_cases hlt : b < m
      · have hbx : b < xs.length := by rw [hm.out]; exact hlt
        have hby : b < ys.length := by rw [hyl.out]; exact hlt
        have hbb : b < (brX n ys).length := by rw [brX_len]; exact hby
        have hmy : Hid (m = (brX n ys).length) := Lib.hid (by rw [brX_len]; exact hyl.out.symm)
        obtain ⟨e0, e1, e2, e3⟩ := br_cells (fun k' hk' o ho' => hoy.out.cells hmy.out k' hk' o ho') b hbb
        rw [brX_get, del_at hm.out hyl.out hlt hdb.out] at e0 e1 e2 e3
        have hdy := Lib.hid (del_yes (P := P) hm.out hyl.out hab hlt hta.out hdb.out)
        have hdn := Lib.hid (del_no (P := P) hm.out hlt hta.out)
        have hdd := Lib.hid (del_drop hdb.out)
        have hFb := Lib.hid (hF.out xs[b] (List.getElem_mem hbx))
        have hglr := (hoy.out.lt _ rfl).2
        generalize xs[b] = x at *
        have c0 : wr.cell? ⟨g, b * 4, none⟩ = some (.int .i64 ((ctz x : Nat) : Int)) := e0
        have c1 : wr.cell? ⟨g, b * 4 + 1, none⟩ = some (.bool (onB x)) := e1
        have c2 : wr.cell? ⟨g, b * 4 + 2, none⟩ = some (.int .i64 ((n : Nat) : Int)) := e2
        have c3 : wr.cell? ⟨g, b * 4 + 3, none⟩ = some (.int .u64 ((x : Nat) : Int)) := e3
        clear e0 e1 e2 e3 hbb hby hbx
        obtain ⟨w2, hw2⟩ : ∃ w2, Hid (w2 = wr.alloc (barO n x)) := ⟨_, Lib.hid rfl⟩
        have hb2 : Hid (Below wr.heap.size wr w2) := Lib.hid (by rw [hw2.out]; exact ba1 wr _)
        have V2 := Lib.hid (show w2.heap[wr.heap.size]? = some (barO n x) by rw [hw2.out]; exact hb_new _ _)
        have v0 : w2.cell? ⟨wr.heap.size, 0, none⟩ = some (.int .i64 ((ctz x : Nat) : Int)) := hb_cell V2.out 0
        have v1 : w2.cell? ⟨wr.heap.size, 1, none⟩ = some (.bool (onB x)) := hb_cell V2.out 1
        have v2 : w2.cell? ⟨wr.heap.size, 2, none⟩ = some (.int .i64 ((n : Nat) : Int)) := hb_cell V2.out 2
        have v3 : w2.cell? ⟨wr.heap.size, 3, none⟩ = some (.int .u64 ((x : Nat) : Int)) := hb_cell V2.out 3
        have hK2 := Lib.hid (hKg.out _ _ hKy.out (grown_any hb2.out _))
        have hFw := Lib.hid (hFb.out _ hK2.out)
        generalize hPx : P x = t at *
        replace hPx := Lib.hid hPx
        go_upto_region 8 with fail
        rw [← hw2.out]
        go_wp2_with fail
        refine hFw.out.mono ?_; rintro e w3 ⟨rfl, hb3⟩
        have V3 := Lib.hid (hb_below hb3 (hb_lt V2.out) V2.out)
        have ho3 := Lib.hid ((hoy.out.below hb2.out).below hb3)
        have hg3 := Lib.hid ((hgy.out.trans (grown_any hb2.out _)).trans (grown_any hb3 _))
        have hK3 := Lib.hid (hKg.out _ _ hK2.out (grown_any hb3 _))
        clear v0 v1 v2 v3 c0 c1 c2 c3 hb3
        cases t with
        | false =>
          have h2 := Lib.hid (hdn.out (by first | rfl | trivial))
          go_wp2_with fail
          go_roundw
          case rel => exact ⟨a, b + 1, ys, by omega, by omega, rfl, by go_num, hyl, Lib.hid h2.out, hdd, ho3, hg3, hK3⟩
          all_goals (simp [intOf] <;> omega)
        | true =>
          obtain ⟨h2, h4⟩ := hdy.out (by first | rfl | trivial)
          replace h2 := Lib.hid h2
          replace h4 := Lib.hid h4
          have hac : a < (brX n ys).length := by rw [brX_len, hyl.out]; omega
          have v0 : w3.cell? ⟨wr.heap.size, 0, none⟩ = some (.int .i64 ((ctz x : Nat) : Int)) := hb_cell V3.out 0
          have v1 : w3.cell? ⟨wr.heap.size, 1, none⟩ = some (.bool (onB x)) := hb_cell V3.out 1
          have v2 : w3.cell? ⟨wr.heap.size, 2, none⟩ = some (.int .i64 ((n : Nat) : Int)) := hb_cell V3.out 2
          have v3 : w3.cell? ⟨wr.heap.size, 3, none⟩ = some (.int .u64 ((x : Nat) : Int)) := hb_cell V3.out 3
          obtain ⟨d0, d1, d2, d3⟩ := br_cells (fun k' hk' o ho' => ho3.out.cells hmy.out k' hk' o ho') a hac
          have hs := Lib.hid (ho3.out.brStored hmy.out a hac n x)
          rw [brX_set] at hs
          have hfz := fun j => ho3.out.frozen hmy.out j
          generalize (brX n ys)[a] = z at d0 d1 d2 d3
          have hg4 := (ho3.out.lt _ rfl).2
          clear hac
          go_wp2_with fail
          go_roundw
          case rel => exact ⟨a + 1, b + 1, ys.set a x, by omega, by omega, by go_num, by go_num, Lib.hid (by rw [List.length_set]; exact hyl.out), h2, h4, Lib.hid hs.out.1, Lib.hid (hg3.out.trans hs.out.2), Lib.hid (hKg.out _ _ hK3.out hs.out.2)⟩
          all_goals (simp [intOf] <;> omega)
      · obtain rfl : b = m := by omega
        have hmy : Hid (b = (brX n ys).length) := Lib.hid (by rw [brX_len]; exact hyl.out.symm)
        have hcut := hoy.out.cut (a := a) (by rw [← hmy.out]; omega) hmy.out
        rw [brX_take, hta.out, List.take_of_length_le (by rw [hm.out]; exact Nat.le_refl _)] at hcut
        have hal : Hid (a = (xs.filter P).length) := Lib.hid (by
          have e1 : (ys.take a).length = a := by rw [List.length_take, hyl.out]; omega
          have e2 : xs.take b = xs := List.take_of_length_le (by rw [hm.out]; exact Nat.le_refl _)
          have e3 := hta.out
          rw [e2] at e3
          rw [← e3, e1])
        have hlb : Hid (a = (brX n (xs.filter P)).length) := Lib.hid (by rw [brX_len]; exact hal.out)
        obtain ⟨vs, hcl⟩ : ∃ vs, ∀ ty, (Builtin.clear_ #[88] ty #[.slice (some ⟨g, a * 4, none⟩) (b - a) (cap - a)]).run Tryd.prog wr = .ok (.tuple #[]) (wr.setCells g (a * 4) vs) := by
          obtain ⟨vs, h⟩ := run_clear_br wr 0 g (a * 4) (b - a) (cap - a) (by omega) (fun j hj => by
            have hq : (a * 4 + j) / 4 < (brX n ys).length := by rw [← hmy.out]; omega
            have := hoy.out.cells hmy.out ((a * 4 + j) / 4) hq ((a * 4 + j) % 4) (by show _ < 4; omega)
            have e4 : (a * 4 + j) / 4 * brE.n + (a * 4 + j) % 4 = a * 4 + j := by show (a * 4 + j) / 4 * 4 + (a * 4 + j) % 4 = _; omega
            rw [e4] at this
            rw [this, List.getElem?_eq_getElem (by rw [brE.len]; show _ < 4; omega)]; rfl) (fun j _ => hoy.out.frozen hmy.out _)
          exact ⟨vs, fun ty => h⟩
        obtain ⟨hfin, hgf⟩ := OwnG.setCellsBehind hlb.out vs (a * 4) wr (by rw [← hlb.out]; exact Nat.le_refl _) hcut
        replace hfin := Lib.hid hfin
        replace hgf := Lib.hid (hgy.out.trans hgf)
        have hac : a ≤ cap := by omega
        have hca : ¬ cap = a := by omega
        clear hcut
        go_wp2_with fail
        go_ret; exact ⟨a, rfl, hfin.out, hal.out, hgf.out⟩

end Go.Proofs.YtmjeilimdnngpaaDoor
