/- All slides from a state, by the model. -/
import Derived.Test.YtcfeaaakfjilgaaJ2
namespace Go.Proofs.Ytcfeaaakfjilgaa
open Go Go.RowKit RM
/-- slides as elements of a row -/
def slE : Elt (Int × Int) where
  e := 79
  n := 2
  bytes := 16
  z := .agg #[.int .i64 0, .int .i64 0]
  d := (0, 0)
  cells m := [.int .i64 m.1, .int .i64 m.2]
  len _ := rfl
  one x u hu := by simp at hu; rcases hu with rfl | rfl <;> rfl
  pos := by decide
  zs := rfl
  info := by kernel_rfl
  small := by decide
def slV (m : Nat × Bool) : Int × Int := ((m.1 : Int), byI m.2)
theorem RG.sl {w : World} {p : Option Addr} {xs : List (Int × Int)} (h : RG slE w p xs) {k : Nat} (hk : k < xs.length) : ∃ g, p = some ⟨g, 0, none⟩ ∧ g < w.heap.size ∧
    w.cell? ⟨g, k * 2, none⟩ = some (.int .i64 xs[k].1) ∧ w.cell? ⟨g, k * 2 + 1, none⟩ = some (.int .i64 xs[k].2) := by
  obtain ⟨g, rfl, hl, hc⟩ := h (fun e => by rw [e] at hk; simp at hk)
  exact ⟨g, rfl, hl, hc k hk 0 (by decide), hc k hk 1 (by decide)⟩
/-- 'append(list, m)' -/
theorem app_sl (w : World) {ops : Array Oper} {rest : List Oper} {o : Oper} {a : Act} {Q : Exit → Act → World → Prop} (hgd : o.guard = none) (s x : Operand)
    (ho : o.op = .call { callee := .builtin .append, args := #[s, x], argTypes := #[35, 35] })
    (B : Nat) (v : Value) (xs : List (Int × Int)) (hs : a.eval s = v) (hown : OwnG slE w B v xs) (g : Nat) (y : Int × Int) (hx : a.eval x = .slice (some ⟨g, 0, none⟩) 1 1)
    (hcell : w.heap[g]? = some (.cells #[.int .i64 y.1, .int .i64 y.2] 79)) (hlen : xs.length ≤ 1000000) (hB : B ≤ w.heap.size)
    (h : ∀ v' w', OwnG slE w' B v' (xs ++ [y]) → w.grownBy w' v.ownBlock → (v'.ownBlock = v.ownBlock ∨ v'.ownBlock = some w.heap.size) → wpList Try.prog ops Q rest (a.put o.dst v') w') : wpList Try.prog ops Q (o :: rest) a w := by
  refine app_G w hgd s x 35 ho Try.underlying35 B v xs hs hown g y hx (fun o u hu => ?_) hlen hB h
  have ho : o < 2 := by
    apply Nat.lt_of_not_le
    intro hle
    rw [List.getElem?_eq_none (by rw [slE.len y]; exact hle)] at hu
    cases hu
  rw [hb_cell hcell]
  match o, ho with
  | 0, _ => exact hu
  | 1, _ => exact hu
/-- the slides of one bolt that have been tried -/
def slP (ps : List Nat) (bs : List Blk) (d : List Nat) (b : Nat) : Nat → List (Nat × Bool)
  | 0 => []
  | 1 => if canS ps bs d b true then [(b, true)] else []
  | _ => sl1 ps bs d b
theorem slP_len (ps : List Nat) (bs : List Blk) (d : List Nat) (b j : Nat) : (slP ps bs d b j).length ≤ 2 := by
  match j with
  | 0 => simp [slP]
  | 1 => simp only [slP]; split <;> simp
  | j + 2 => exact sl1_len d b
set_option maxHeartbeats 2000000 in
theorem boSlides_any (v : Value) (ps : List Nat) (bs : List Blk) (d : List Nat) (w : World) (hG : GB ps bs) (h : Bo w v (ints ps) bs) (hd : isSt ps d) :
    Calls Try.prog 50 #[v, .string (tS d)] w fun e w' => ∃ u, e = .returned u ∧ OwnG slE w' w.heap.size u ((slS ps bs d).map slV) ∧ Below w.heap.size w w' := by
  have h0 := Lib.hid h
  obtain ⟨pv, bv, rfl, ⟨p, c, rfl, -, -⟩, -⟩ := h
  have hln : (ints ps).length = ps.length := by simp
  rw [hln] at h0 ⊢; clear hln
  have h6 := hG.l6
  obtain ⟨n, hn⟩ : ∃ n, ps.length = n := ⟨_, rfl⟩
  rw [hn] at h0 h6 ⊢
  have hPut := Lib.hid (fun w' hb (B : Nat) (hB : B < n) up => boPut_at _ ps bs d B up w' hG (h0.out.below hb) hd (by rw [hn]; exact hB))
  have hfin : Hid (slK ps bs d n = slS ps bs d) := Lib.hid (by unfold slS; rw [hn])
  replace hn := Lib.hid hn
  have hk0 : Hid ((slK ps bs d 0).map slV = []) := Lib.hid rfl
  have hks := Lib.hid (fun k => slK_succ (ps := ps) (bs := bs) d k)
  have hkl := Lib.hid (fun k => slK_len (ps := ps) (bs := bs) d k)
  have hpl := Lib.hid (fun b j => slP_len ps bs d b j)
  clear hG hd
  generalize tS d = st at *
  obtain ⟨w2, hw2⟩ : ∃ w2, Hid (w2 = w.alloc (.cells #[.slice p n c, bv] 31)) := ⟨_, Lib.hid rfl⟩
  have hb2 : Hid (Below w.heap.size w w2) := Lib.hid (by rw [hw2.out]; exact ba1 w _)
  have F := Lib.hid (show w2.heap[w.heap.size]? = some (.cells #[.slice p n c, bv] 31) by rw [hw2.out]; exact hb_new _ _)
  have hl2 : w.heap.size < w2.heap.size := hb_lt F.out
  have f0 : w2.cell? ⟨w.heap.size, 0, none⟩ = some (.slice p n c) := hb_cell F.out 0
  go_enter Try.func50, Try.ntmps50
  go_wp2_with fail
  rw [← hw2.out]
  go_loopw [5, 13] (fun o i wr => ∃ k : Nat, k ≤ n ∧ i = .int .i64 k ∧ Hid (OwnG slE wr w2.heap.size o ((slK ps bs d k).map slV)) ∧ Hid (Below w2.heap.size w2 wr)) (fun _ i _ => n - (intOf i).toNat)
  case atStart => exact ⟨0, Nat.zero_le _, rfl, Lib.hid (by rw [hk0.out]; exact OwnG.nil _ _), Lib.hid (Below.refl _ _)⟩
  case round =>
    obtain ⟨k, hk, rfl, ho, hbr⟩ := hrel
    obtain ⟨wA, rfl⟩ : ∃ x, x = wr := ⟨_, rfl⟩
    by_cases hlt : k < n
    · have hkk := Lib.hid (hkl.out k)
      go_wp2_with fail
      go_loopw [5, 7] (fun o y wr => ∃ j : Nat, j ≤ 2 ∧ y = .int .i64 (1 - 2 * (j : Int)) ∧ Hid (OwnG slE wr w2.heap.size o ((slK ps bs d k ++ slP ps bs d k j).map slV)) ∧ Hid (Below w2.heap.size w2 wr)) (fun _ y _ => (intOf y + 3).toNat)
      case atStart => exact ⟨0, by omega, by first | rfl | simp, Lib.hid (by rw [show slP ps bs d k 0 = [] from rfl, List.append_nil]; exact ho.out), hbr⟩
      case round =>
        obtain ⟨j, hj, rfl, ho1, hbr1⟩ := hrel
        obtain ⟨wB, rfl⟩ : ∃ x, x = wr := ⟨_, rfl⟩
        have hsB : w2.heap.size ≤ wB.heap.size := hbr1.out.size
        by_cases hj2 : j = 2
        · subst hj2
          have hnx : Hid (slK ps bs d k ++ slP ps bs d k 2 = slK ps bs d (k + 1)) := Lib.hid (hks.out k).symm
          rw [hnx.out] at ho1
          go_wp2_with fail
          go_roundw
          case rel => exact ⟨k + 1, by omega, by go_num, ho1, hbr1⟩
          all_goals (simp [intOf] <;> omega)
        · have hup : Hid (∃ up : Bool, (1 - 2 * (j : Int)) = byI up ∧ slP ps bs d k (j + 1) = slP ps bs d k j ++ (if canS ps bs d k up then [(k, up)] else [])) := Lib.hid (by
            have h01 : j = 0 ∨ j = 1 := by omega
            clear ho1 hj hj2
            rcases h01 with rfl | rfl
            · exact ⟨true, rfl, rfl⟩
            · exact ⟨false, rfl, rfl⟩)
          obtain ⟨up, hy, hsl⟩ := hup.out
          have FB := Lib.hid (hb_below hbr1.out hl2 F.out)
          have g0 : wB.cell? ⟨w.heap.size, 0, none⟩ = some (.slice p n c) := hb_cell FB.out 0
          have g1 : wB.cell? ⟨w.heap.size, 1, none⟩ = some bv := hb_cell FB.out 1
          have hP := Lib.hid (hPut.out wB (bt1 hb2.out hbr1.out) k hlt up)
          rw [← hy] at hP
          have hpj := Lib.hid (hpl.out k j)
          have hlen9 : Hid (((slK ps bs d k ++ slP ps bs d k j).map slV).length ≤ 1000000) := Lib.hid (by
            have h1 := hkk.out; have h2 := hpj.out
            rw [List.length_map, List.length_append]; omega)
          have hmv : Hid (slV (k, up) = ((k : Int), 1 - 2 * (j : Int))) := Lib.hid (by rw [hy]; rfl)
          have hyb : (1 - 2 * (j : Int)) = 1 ∨ (1 - 2 * (j : Int)) = -1 := by omega
          have hw : IntKind.i64.wrap (1 - 2 * (j : Int) - 2) = 1 - 2 * ((j + 1 : Nat) : Int) := by rw [IntKind.wrap_i64]; omega
          have hgt : decide ((-2 : Int) < 1 - 2 * (j : Int)) = true := by simp; omega
          have hgt2 : (-2 : Int) < 1 - 2 * (j : Int) := by omega
          replace hy := Lib.hid hy
          replace hsl := Lib.hid hsl
          generalize hyy : 1 - 2 * (j : Int) = y at *
          cases hc : canS ps bs d k up
          · rw [hc] at hP hsl
            have hsl2 : Hid (slP ps bs d k (j + 1) = slP ps bs d k j) := Lib.hid (by rw [hsl.out]; simp)
            clear hc
            go_wp2_with fail
            refine hP.out.mono ?_; rintro e w5 ⟨t, rfl, -, hb5⟩
            have ho5 := Lib.hid (ho1.out.below hb5)
            have hb25 := Lib.hid (bt2 hbr1.out hb5 hbr1.out.size)
            go_wp2_with fail
            go_roundw
            case rel => exact ⟨j + 1, by omega, (by first | rfl | go_num | (rw [hw]) | (congr 1; omega)), by rw [hsl2.out]; exact ho5, hb25⟩
            all_goals (simp [intOf] <;> omega)
          · rw [hc] at hP hsl
            have hsl2 : Hid ((slK ps bs d k ++ slP ps bs d k j).map slV ++ [((k : Int), y)] = (slK ps bs d k ++ slP ps bs d k (j + 1)).map slV) := Lib.hid (by rw [hsl.out, ← hmv.out]; simp)
            clear hc
            go_wp2_with fail
            refine hP.out.mono ?_; rintro e w5 ⟨t, rfl, -, hb5⟩
            have ho5 := Lib.hid (ho1.out.below hb5)
            have hb25 := Lib.hid (bt2 hbr1.out hb5 hbr1.out.size)
            have hs25 := hb25.out.size
            clear hb5
            go_wp2_with (at_builtin; refine app_sl _ rfl _ _ rfl w2.heap.size _ _ rfl (ho5.out.alloc _) w5.heap.size ((k : Int), y) rfl (hb_new _ _) hlen9.out (by simp; omega) ?_; intro v' w7 ho7 hg7 _; have hb7 := Lib.hid (bel_ownG (hb25.out.alloc hs25 _) (ho5.out.alloc _) hg7 (by simp; omega)); replace ho7 := Lib.hid ho7; clear hg7)
            go_roundw
            case rel => exact ⟨j + 1, by omega, (by first | rfl | go_num | (rw [hw]) | (congr 1; omega)), by rw [← hsl2.out]; exact ho7, hb7⟩
            all_goals (simp [intOf] <;> omega)
    · obtain rfl : k = n := by omega
      rw [hfin.out] at ho
      go_wp2_with fail
      go_ret; exact ⟨_, rfl, ho.out.mono (by omega), bt1 hb2.out hbr.out⟩
end Go.Proofs.Ytcfeaaakfjilgaa
