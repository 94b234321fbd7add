/- All states, by the program, as places. -/
import Derived.Test.YtcfeaaakfjilgaaF2
import Derived.OneCell
namespace Go.Proofs.Ytcfeaaakfjilgaa
open Go Go.RowKit RM
/-- places as elements of a row -/
def plcE : Elt (List Nat) where
  e := 68
  n := 6
  bytes := 48
  z := (.agg #[.int .i64 0, .int .i64 0, .int .i64 0, .int .i64 0, .int .i64 0, .int .i64 0])
  d := []
  cells d := [.int .i64 ((pl d 0 : Nat) : Int), .int .i64 ((pl d 1 : Nat) : Int), .int .i64 ((pl d 2 : Nat) : Int), .int .i64 ((pl d 3 : Nat) : Int), .int .i64 ((pl d 4 : Nat) : Int), .int .i64 ((pl d 5 : Nat) : Int)]
  len _ := rfl
  one x u hu := by simp at hu; rcases hu with rfl | rfl | rfl | rfl | rfl | rfl <;> rfl
  pos := by decide
  zs := rfl
  info := by kernel_rfl
  small := by decide
theorem RG.plc {w : World} {p : Option Addr} {ds : List (List Nat)} (h : RG plcE w p ds) {k : Nat} (hk : k < ds.length) : ∃ g, p = some ⟨g, 0, none⟩ ∧ g < w.heap.size ∧
    (w.cell? ⟨g, k * 6, none⟩ = some (.int .i64 ((pl ds[k] 0 : Nat) : Int)) ∧ w.cell? ⟨g, k * 6 + 1, none⟩ = some (.int .i64 ((pl ds[k] 1 : Nat) : Int)) ∧ w.cell? ⟨g, k * 6 + 2, none⟩ = some (.int .i64 ((pl ds[k] 2 : Nat) : Int)) ∧ w.cell? ⟨g, k * 6 + 3, none⟩ = some (.int .i64 ((pl ds[k] 3 : Nat) : Int)) ∧ w.cell? ⟨g, k * 6 + 4, none⟩ = some (.int .i64 ((pl ds[k] 4 : Nat) : Int)) ∧ w.cell? ⟨g, k * 6 + 5, none⟩ = some (.int .i64 ((pl ds[k] 5 : Nat) : Int))) := by
  obtain ⟨g, rfl, hl, hc⟩ := h (fun e => by rw [e] at hk; simp at hk)
  exact ⟨g, rfl, hl, hc k hk 0 (by decide), hc k hk 1 (by decide), hc k hk 2 (by decide), hc k hk 3 (by decide), hc k hk 4 (by decide), hc k hk 5 (by decide)⟩
/-- 'append(list, at)' -/
theorem app_plc (w : World) {ops : Array Oper} {rest : List Oper} {o : Oper} {a : Act} {Q : Exit → Act → World → Prop} (hgd : o.guard = none) (s x : Operand)
    (ho : o.op = .call { callee := .builtin .append, args := #[s, x], argTypes := #[95, 95] })
    (B : Nat) (v : Value) (xs : List (List Nat)) (hs : a.eval s = v) (hown : OwnG plcE w B v xs) (g : Nat) (y : List Nat) (hx : a.eval x = .slice (some ⟨g, 0, none⟩) 1 1)
    (hcell : w.heap[g]? = some (.cells #[.int .i64 ((pl (y) 0 : Nat) : Int), .int .i64 ((pl (y) 1 : Nat) : Int), .int .i64 ((pl (y) 2 : Nat) : Int), .int .i64 ((pl (y) 3 : Nat) : Int), .int .i64 ((pl (y) 4 : Nat) : Int), .int .i64 ((pl (y) 5 : Nat) : Int)] 68)) (hlen : xs.length ≤ 1000000) (hB : B ≤ w.heap.size)
    (h : ∀ v' w', OwnG plcE w' B v' (xs ++ [y]) → w.grownBy w' v.ownBlock → (v'.ownBlock = v.ownBlock ∨ v'.ownBlock = some w.heap.size) → wpList Try.prog ops Q rest (a.put o.dst v') w') : wpList Try.prog ops Q (o :: rest) a w := by
  refine app_G w hgd s x 95 ho Try.underlying95 B v xs hs hown g y hx (fun o u hu => ?_) hlen hB h
  have ho : o < 6 := by
    apply Nat.lt_of_not_le
    intro hle
    rw [List.getElem?_eq_none (by rw [plcE.len y]; exact hle)] at hu
    cases hu
  rw [hb_cell hcell]
  match o, ho with
  | 0, _ => exact hu
  | 1, _ => exact hu
  | 2, _ => exact hu
  | 3, _ => exact hu
  | 4, _ => exact hu
  | 5, _ => exact hu
/-- what the rounds over one state add -/
def exK (d : List Nat) (x : Nat) : List (List Nat) := (List.range x).map fun y => d ++ [y]
theorem exK_succ (d : List Nat) (x : Nat) : exK d (x + 1) = exK d x ++ [d ++ [x]] := by unfold exK; rw [List.range_succ, List.map_append]; rfl
def lgK (ps : List Nat) (k : Nat) (j : Nat) : List (List Nat) := ((al ps k).take j).flatMap fun d => exK d (ps.getD k 1)
theorem lgK_succ (ps : List Nat) (k j : Nat) (hj : j < (al ps k).length) : lgK ps k (j + 1) = lgK ps k j ++ exK (al ps k)[j] (ps.getD k 1) := by
  unfold lgK
  rw [List.take_succ_eq_append_getElem hj, List.flatMap_append]; simp
theorem lgK_all (ps : List Nat) (k j : Nat) (hj : (al ps k).length ≤ j) : lgK ps k j = al ps (k + 1) := by
  unfold lgK
  rw [List.take_of_length_le hj, al]; rfl
theorem lgK_len {ps : List Nat} {bs : List Blk} (hG : GB ps bs) (k j : Nat) : (lgK ps k j).length ≤ pr ps (k + 1) := by
  have h : (lgK ps k j).length = ((al ps k).take j).length * ps.getD k 1 := by
    unfold lgK
    generalize (al ps k).take j = L
    induction L with
    | nil => simp
    | cons d L ih => rw [List.flatMap_cons, List.length_append, ih]; simp [exK, Nat.add_mul]; omega
  rw [h, pr]
  refine Nat.mul_le_mul_right _ ?_
  rw [List.length_take, al_len hG]; omega
theorem al_mem_len {ps : List Nat} {bs : List Blk} (hG : GB ps bs) (k j : Nat) (hj : j < (al ps k).length) : (al ps k)[j].length = k := by
  have key : ∀ d, d ∈ al ps k → d.length = k := fun d hd => by
    rw [al_eq hG] at hd
    obtain ⟨n, _, e⟩ := List.mem_map.1 hd
    rw [← e, dg_len]
  exact key _ (List.getElem_mem _)
theorem pl_end (d : List Nat) (x y o : Nat) : pl (d ++ [x]) o = if o = d.length then x else pl (d ++ [y]) o := by
  unfold pl
  simp only [List.getD]
  by_cases h : o < d.length
  · rw [List.getElem?_append_left h, List.getElem?_append_left h, if_neg (by omega)]
  · by_cases e : o = d.length
    · subst e; simp
    · rw [if_neg e, List.getElem?_eq_none (by simp; omega), List.getElem?_eq_none (by simp; omega)]
theorem pl_zero (d : List Nat) (o : Nat) : pl (d ++ [0]) o = pl d o := by
  unfold pl
  simp only [List.getD]
  by_cases h : o < d.length
  · rw [List.getElem?_append_left h]
  · by_cases e : o = d.length
    · subst e; simp
    · rw [List.getElem?_eq_none (by simp; omega), List.getElem?_eq_none (by omega)]
theorem arc_zero_end (d : List Nat) : (#[.int .i64 ((pl (d) 0 : Nat) : Int), .int .i64 ((pl (d) 1 : Nat) : Int), .int .i64 ((pl (d) 2 : Nat) : Int), .int .i64 ((pl (d) 3 : Nat) : Int), .int .i64 ((pl (d) 4 : Nat) : Int), .int .i64 ((pl (d) 5 : Nat) : Int)] : Array Value) = #[.int .i64 ((pl ((d ++ [0])) 0 : Nat) : Int), .int .i64 ((pl ((d ++ [0])) 1 : Nat) : Int), .int .i64 ((pl ((d ++ [0])) 2 : Nat) : Int), .int .i64 ((pl ((d ++ [0])) 3 : Nat) : Int), .int .i64 ((pl ((d ++ [0])) 4 : Nat) : Int), .int .i64 ((pl ((d ++ [0])) 5 : Nat) : Int)] := by rw [pl_zero, pl_zero, pl_zero, pl_zero, pl_zero, pl_zero]
theorem arc_put (d : List Nat) (x y : Nat) (hk : d.length < 6) : (#[.int .i64 ((pl ((d ++ [y])) 0 : Nat) : Int), .int .i64 ((pl ((d ++ [y])) 1 : Nat) : Int), .int .i64 ((pl ((d ++ [y])) 2 : Nat) : Int), .int .i64 ((pl ((d ++ [y])) 3 : Nat) : Int), .int .i64 ((pl ((d ++ [y])) 4 : Nat) : Int), .int .i64 ((pl ((d ++ [y])) 5 : Nat) : Int)] : Array Value).setIfInBounds d.length (.int .i64 (x : Int)) = #[.int .i64 ((pl ((d ++ [x])) 0 : Nat) : Int), .int .i64 ((pl ((d ++ [x])) 1 : Nat) : Int), .int .i64 ((pl ((d ++ [x])) 2 : Nat) : Int), .int .i64 ((pl ((d ++ [x])) 3 : Nat) : Int), .int .i64 ((pl ((d ++ [x])) 4 : Nat) : Int), .int .i64 ((pl ((d ++ [x])) 5 : Nat) : Int)] := by
  have h := fun o => pl_end d x y o
  generalize d.length = k at *
  simp only [h]
  generalize pl (d ++ [y]) 0 = a0
  generalize pl (d ++ [y]) 1 = a1
  generalize pl (d ++ [y]) 2 = a2
  generalize pl (d ++ [y]) 3 = a3
  generalize pl (d ++ [y]) 4 = a4
  generalize pl (d ++ [y]) 5 = a5
  match k, hk with
  | 0, _ => simp
  | 1, _ => simp
  | 2, _ => simp
  | 3, _ => simp
  | 4, _ => simp
  | 5, _ => simp
theorem OwnG.set {α : Type} {E : Elt α} {w : World} {B g i : Nat} {v : Value} {xs : List α} (h : OwnG E w B v xs) (hne : v.ownBlock ≠ some g) (u : Value) : OwnG E (w.setCell ⟨g, i, none⟩ u) B v xs := ownsRow_setCell_other (a := ⟨g, i, none⟩) h hne u
set_option maxHeartbeats 2000000 in
set_option maxRecDepth 100000 in
theorem allPlaces_any (v : Value) (ps : List Nat) (bs cs : List Blk) (w : World) (hG : GB ps bs) (h : Bo w v (ints ps) cs) :
    Calls Try.prog 91 #[v] w fun e w' => ∃ u, e = .returned u ∧ OwnG plcE w' w.heap.size u (al ps ps.length) ∧ Below w.heap.size w w' := by
  obtain ⟨pv, bv, rfl, ⟨p, c, rfl, -, hr⟩, -⟩ := h
  have hln : (ints ps).length = ps.length := by simp
  rw [hln]; clear hln
  have h6 := hG.l6
  have hmono := Lib.hid (fun k (hk : k ≤ ps.length) => Nat.le_trans (pr_mono hG hk) hG.n)
  obtain ⟨L, hL⟩ : ∃ L, ps.length = L := ⟨_, rfl⟩
  rw [hL] at h6 hmono ⊢
  replace hL := Lib.hid hL
  replace hG := Lib.hid hG
  obtain ⟨w2, hw2⟩ : ∃ w2, Hid (w2 = (w.alloc (.cells #[.slice p L c, bv] 31)).alloc (.cells #[.int .i64 0, .int .i64 0, .int .i64 0, .int .i64 0, .int .i64 0, .int .i64 0] 68)) := ⟨_, Lib.hid rfl⟩
  have hb2 : Hid (Below w.heap.size w w2) := Lib.hid (by rw [hw2.out]; exact (ba1 w _).alloc (by simp) _)
  have F2 := Lib.hid (show w2.heap[w.heap.size]? = some (.cells #[.slice p L c, bv] 31) by rw [hw2.out]; exact hb_old _ (hb_new _ _))
  have hl2 : w.heap.size < w2.heap.size := hb_lt F2.out
  replace hr := Lib.hid hr
  have hs2 : w.heap.size + 1 < w2.heap.size := by rw [hw2.out]; simp
  have ho2 : Hid (OwnG plcE w2 (w.heap.size + 1) (.slice (some ⟨w.heap.size + 1, 0, none⟩) 1 1) (al ps 0)) := Lib.hid (by
    refine ⟨rfl, .inr ⟨_, 1, #[.int .i64 0, .int .i64 0, .int .i64 0, .int .i64 0, .int .i64 0, .int .i64 0], rfl, Nat.le_refl _, ?_, Nat.le_refl _, by decide, rfl, rfl⟩⟩
    rw [hw2.out]; exact hb_new' _ _ _ (by simp))
  go_enter Try.func91, Try.ntmps91
  go_wp2_with fail
  rw [← hw2.out]
  go_loopw [3, 15] (fun st i wr => ∃ k : Nat, k ≤ L ∧ i = .int .i64 k ∧ Hid (OwnG plcE wr (w.heap.size + 1) st (al ps k)) ∧ Hid (Below (w.heap.size + 1) w2 wr)) (fun _ i _ => L - (intOf i).toNat)
  case atStart => exact ⟨0, Nat.zero_le _, rfl, ho2, Lib.hid (Below.refl _ _)⟩
  case round =>
    obtain ⟨k, hk, rfl, ho, hbr⟩ := hrel
    obtain ⟨wA, rfl⟩ : ∃ x, x = wr := ⟨_, rfl⟩
    have hbw := Lib.hid (hb2.out.trans (hbr.out.mono (show w.heap.size ≤ w.heap.size + 1 by omega)))
    have hlr : w.heap.size + 1 < wA.heap.size := Nat.lt_of_lt_of_le hs2 hbr.out.size
    have Fr := Lib.hid (hb_below hbr.out (by omega) F2.out)
    by_cases hlt : k < L
    · have hkp : k < ps.length := by rw [hL.out]; exact hlt
      obtain ⟨g, rfl, hgl, hc⟩ := hr.out.at (k := k) (by simpa using hkp)
      have hx : (ints ps)[k]'(by simpa using hkp) = ((ps.getD k 1 : Nat) : Int) := by simp [List.getD, List.getElem?_eq_getElem hkp]
      rw [hx] at hc
      have hcr : wA.cell? ⟨g, k, none⟩ = some (.int .i64 ((ps.getD k 1 : Nat) : Int)) := by rw [hbw.out.cell (p := ⟨g, k, none⟩) hgl]; exact hc
      have hpk := hG.out.p k hkp
      have hall := Lib.hid (lgK_all ps k)
      have hlg0 : Hid (lgK ps k 0 = []) := Lib.hid rfl
      have hsuc := Lib.hid (lgK_succ ps k)
      have hexs := Lib.hid exK_succ
      have hml := Lib.hid (al_mem_len hG.out k)
      have hlgl := Lib.hid (fun j => Nat.le_trans (lgK_len hG.out k j) (hmono.out (k + 1) (by omega)))
      have hall2 := Lib.hid (al_len hG.out k)
      have hprk := hmono.out k (by omega)
      clear hx hc
      generalize hC : ps.getD k 1 = C at *
      obtain ⟨n, hn⟩ : ∃ n, (al ps k).length = n := ⟨_, rfl⟩
      have hn1000 : n ≤ 1000 := by rw [← hn, hall2.out]; exact hprk
      obtain ⟨sp, sc, rfl⟩ : ∃ p c, u3 = .slice p n c := by
        obtain ⟨p, c, e, _⟩ := ho.out.rd
        exact ⟨p, c, by rw [e, hn]⟩
      replace hn := Lib.hid hn
      clear hC hprk
      go_wp2_with fail
      go_loopw [6, 22] (fun lg i wr2 => ∃ j : Nat, j ≤ n ∧ i = .int .i64 j ∧ Hid (OwnG plcE wr2 wA.heap.size lg (lgK ps k j)) ∧ Hid (Below wA.heap.size wA wr2)) (fun _ i _ => n - (intOf i).toNat)
      case atStart => exact ⟨0, Nat.zero_le _, rfl, Lib.hid (by rw [hlg0.out]; exact OwnG.nil _ _), Lib.hid (Below.refl _ _)⟩
      case round =>
        obtain ⟨j, hj, rfl, hlo, hbr2⟩ := hrel
        obtain ⟨wB, rfl⟩ : ∃ x, x = wr := ⟨_, rfl⟩
        by_cases hjn : j < n
        · have hjl : j < (al ps k).length := by rw [hn.out]; exact hjn
          obtain ⟨gs, rfl, hgs, e0, e1, e2, e3, e4, e5⟩ := (ho.out.below hbr2.out).rg.plc hjl
          have hdl := hml.out j hjl
          have hsj := Lib.hid (hsuc.out j hjl)
          generalize (al ps k)[j] = d at *
          have hk6 : d.length < 6 := by omega
          obtain ⟨w5, hw5⟩ : ∃ w5, Hid (w5 = wB.alloc (.cells #[.int .i64 ((pl (d) 0 : Nat) : Int), .int .i64 ((pl (d) 1 : Nat) : Int), .int .i64 ((pl (d) 2 : Nat) : Int), .int .i64 ((pl (d) 3 : Nat) : Int), .int .i64 ((pl (d) 4 : Nat) : Int), .int .i64 ((pl (d) 5 : Nat) : Int)] 68)) := ⟨_, Lib.hid rfl⟩
          have hb5 := Lib.hid (show Below wB.heap.size wB w5 by rw [hw5.out]; exact ba1 wB _)
          have A5 := Lib.hid (show w5.heap[wB.heap.size]? = some (.cells #[.int .i64 ((pl (d) 0 : Nat) : Int), .int .i64 ((pl (d) 1 : Nat) : Int), .int .i64 ((pl (d) 2 : Nat) : Int), .int .i64 ((pl (d) 3 : Nat) : Int), .int .i64 ((pl (d) 4 : Nat) : Int), .int .i64 ((pl (d) 5 : Nat) : Int)] 68) by rw [hw5.out]; exact hb_new _ _)
          have hlr2 : wA.heap.size ≤ wB.heap.size := hbr2.out.size
          have hput := Lib.hid (fun x y => arc_put d x y hk6)
          have hze := Lib.hid (arc_zero_end d)
          rw [hdl] at hput
          replace hdl := Lib.hid hdl
          go_wp2_with fail
          rw [← hw5.out]
          go_loopw [6, 27] (fun lg i wr3 => ∃ x : Nat, x ≤ C ∧ i = .int .i64 x ∧ Hid (OwnG plcE wr3 wA.heap.size lg (lgK ps k j ++ exK d x)) ∧ Hid (lg.ownBlock ≠ some wB.heap.size) ∧ Hid (∃ y, wr3.heap[wB.heap.size]? = some (.cells #[.int .i64 ((pl ((d ++ [y])) 0 : Nat) : Int), .int .i64 ((pl ((d ++ [y])) 1 : Nat) : Int), .int .i64 ((pl ((d ++ [y])) 2 : Nat) : Int), .int .i64 ((pl ((d ++ [y])) 3 : Nat) : Int), .int .i64 ((pl ((d ++ [y])) 4 : Nat) : Int), .int .i64 ((pl ((d ++ [y])) 5 : Nat) : Int)] 68)) ∧ Hid (Below wA.heap.size wA wr3)) (fun _ i _ => C - (intOf i).toNat)
          case atStart =>
            refine ⟨0, Nat.zero_le _, rfl, Lib.hid ?_, Lib.hid ?_, Lib.hid ⟨0, ?_⟩, Lib.hid (bt2 hbr2.out hb5.out hbr2.out.size)⟩
            · have : exK d 0 = [] := rfl
              rw [this, List.append_nil]; exact hlo.out.below hb5.out
            · intro e; have := (hlo.out.lt _ e).2; omega
            · rw [← hze.out]; exact A5.out
          case round =>
            obtain ⟨x, hx, rfl, hlo3, hne3, hat3, hbr3⟩ := hrel
            obtain ⟨wC, rfl⟩ : ∃ x, x = wr := ⟨_, rfl⟩
            by_cases hxC : x < C
            · obtain ⟨y, hat⟩ := hat3.out
              replace hat := Lib.hid hat
              have hz := hb_frozen hat.out
              have hca := arc_cell hat.out k (by omega)
              have hla : wB.heap.size < wC.heap.size := hb_lt hat.out
              obtain ⟨w6, hw6⟩ : ∃ w6, Hid (w6 = wC.setCell ⟨wB.heap.size, k, none⟩ (.int .i64 (x : Int))) := ⟨_, Lib.hid rfl⟩
              have A6 := Lib.hid (show w6.heap[wB.heap.size]? = some (.cells #[.int .i64 ((pl ((d ++ [x])) 0 : Nat) : Int), .int .i64 ((pl ((d ++ [x])) 1 : Nat) : Int), .int .i64 ((pl ((d ++ [x])) 2 : Nat) : Int), .int .i64 ((pl ((d ++ [x])) 3 : Nat) : Int), .int .i64 ((pl ((d ++ [x])) 4 : Nat) : Int), .int .i64 ((pl ((d ++ [x])) 5 : Nat) : Int)] 68) by rw [hw6.out, ← hput.out x y]; exact hb_set hat.out _)
              have ho6 := Lib.hid (show OwnG plcE w6 wA.heap.size _ _ by rw [hw6.out]; exact hlo3.out.set hne3.out _)
              have hb6 := Lib.hid (show Below wA.heap.size wA w6 by rw [hw6.out]; exact hbr3.out.setCell hlr2 _)
              have hll := Lib.hid (hlgl.out (j + 1))
              rw [hsj.out, List.length_append] at hll
              have hxl : Hid ((lgK ps k j ++ exK d x).length ≤ 1000000) := Lib.hid (by
                have h1 := hll.out
                have h2 : (exK d C).length = C := by simp [exK]
                have h3 : (exK d x).length = x := by simp [exK]
                rw [List.length_append]; omega)
              have hap : Hid ((lgK ps k j ++ exK d x) ++ [d ++ [x]] = lgK ps k j ++ exK d (x + 1)) := Lib.hid (by rw [hexs.out, List.append_assoc])
              have ca := hb_cell A6.out
              rw [hw6.out] at ca
              have c0 : (wC.setCell ⟨wB.heap.size, k, none⟩ (.int .i64 (x : Int))).cell? ⟨wB.heap.size, 0, none⟩ = some (.int .i64 ((pl (d ++ [x]) 0 : Nat) : Int)) := ca 0
              have c1 : (wC.setCell ⟨wB.heap.size, k, none⟩ (.int .i64 (x : Int))).cell? ⟨wB.heap.size, 1, none⟩ = some (.int .i64 ((pl (d ++ [x]) 1 : Nat) : Int)) := ca 1
              have c2 : (wC.setCell ⟨wB.heap.size, k, none⟩ (.int .i64 (x : Int))).cell? ⟨wB.heap.size, 2, none⟩ = some (.int .i64 ((pl (d ++ [x]) 2 : Nat) : Int)) := ca 2
              have c3 : (wC.setCell ⟨wB.heap.size, k, none⟩ (.int .i64 (x : Int))).cell? ⟨wB.heap.size, 3, none⟩ = some (.int .i64 ((pl (d ++ [x]) 3 : Nat) : Int)) := ca 3
              have c4 : (wC.setCell ⟨wB.heap.size, k, none⟩ (.int .i64 (x : Int))).cell? ⟨wB.heap.size, 4, none⟩ = some (.int .i64 ((pl (d ++ [x]) 4 : Nat) : Int)) := ca 4
              have c5 : (wC.setCell ⟨wB.heap.size, k, none⟩ (.int .i64 (x : Int))).cell? ⟨wB.heap.size, 5, none⟩ = some (.int .i64 ((pl (d ++ [x]) 5 : Nat) : Int)) := ca 5
              clear ca
              have hs6 : w6.heap.size = wC.heap.size := by rw [hw6.out]; simp
              have hla6 : wB.heap.size < w6.heap.size := by omega
              generalize pl (d ++ [y]) k = zz at hca
              rw [hw6.out] at ho6 A6 hb6
              clear hw6 hs6 hla6
              go_wp2_with (at_builtin; refine app_plc _ rfl _ _ rfl wA.heap.size _ _ rfl (ho6.out.alloc _) wC.heap.size (d ++ [x]) rfl (hb_new' _ _ _ (by simp)) hxl.out (by simp; omega) ?_; intro v' w7 ho7 hg7 hat7; have hb7 := Lib.hid (bel_ownG (hb6.out.alloc (by simp; omega) _) (ho6.out.alloc _) hg7 (by simp; omega)); have A7 := Lib.hid ((hg7.block wB.heap.size (by simp; omega) (fun e => hne3.out e.symm)).trans (hb_old _ A6.out)); have hne7 : Hid (v'.ownBlock ≠ some wB.heap.size) := Lib.hid (by rcases hat7 with e | e; (· rw [e]; exact hne3.out); (· rw [e]; intro e2; have := Option.some.inj e2; simp at this; omega)); replace ho7 := Lib.hid ho7; clear hat7 hg7)
              go_roundw
              case rel => exact ⟨x + 1, by omega, by go_num, by rw [← hap.out]; exact ho7, hne7, Lib.hid ⟨x, A7.out⟩, hb7⟩
              all_goals (simp [intOf] <;> omega)
            · obtain rfl : x = C := by omega
              have hlj := Lib.hid hlo3.out
              rw [← hsj.out] at hlj
              go_wp2_with fail
              go_roundw
              case rel => exact ⟨j + 1, by omega, by go_num, hlj, hbr3⟩
              all_goals (simp [intOf] <;> omega)
        · have hlf := Lib.hid hlo.out
          rw [hall.out j (by rw [hn.out]; omega)] at hlf
          have hsz3 : wA.heap.size ≤ wB.heap.size := hbr2.out.size
          go_wp2_with fail
          go_roundw
          case rel => exact ⟨k + 1, by omega, by go_num, Lib.hid (hlf.out.mono (by omega)), Lib.hid (hbr.out.trans (hbr2.out.mono (by omega)))⟩
          all_goals (simp [intOf] <;> omega)
    · obtain rfl : k = L := by omega
      go_wp2_with fail
      go_ret; exact ⟨_, rfl, ho.out.mono (by omega), hbw.out⟩
end Go.Proofs.Ytcfeaaakfjilgaa
