/- The program's search: its walk. -/
import Derived.Test.YtcfeaaakfjilgaaSF
import Derived.Test.YtcfeaaakfjilgaaJ5
import Derived.RegionTactic
import Derived.BigRegion
import Derived.Deep.DeepCutAuto
import Derived.Carry
import Derived.Scope
import Derived.StillTailTactics
import Derived.BigQuiet
namespace Go.Proofs.Ytcfeaaakfjilgaa
set_option linter.unusedSimpArgs false
set_option linter.unusedVariables false
open Go Go.RowKit RM Go.Maps Go.WideMaps
set_option maxRecDepth 1000000 in
set_option maxHeartbeats 20000000 in
theorem searchS_any (pv bv : Value) (ps : List Nat) (bs : List Blk) (d : List Nat) (E : List (List Nat)) (p : Option Addr) (n c : Nat) (M : Nat) (w : World) (hM : M = 1000000000000001) (hG : GB ps bs) (hv : Bo w (.agg #[pv, bv]) (ints ps) bs)
    (hdU : d ∈ allU ps bs) (hE : ∀ e ∈ E, isSt ps e) (hn : E.length = n) (hn9 : n ≤ 1000) (hr : RG plcE w p E) :
    Calls Try.prog 47 #[.agg #[pv, bv], (.agg #[.int .i64 ((pl (d) 0 : Nat) : Int), .int .i64 ((pl (d) 1 : Nat) : Int), .int .i64 ((pl (d) 2 : Nat) : Int), .int .i64 ((pl (d) 3 : Nat) : Int), .int .i64 ((pl (d) 4 : Nat) : Int), .int .i64 ((pl (d) 5 : Nat) : Int)]), .slice p n c] w fun e w' => ∃ b1 b2 k, e = .returned (.agg #[.map (some b1), .map (some b2)]) ∧ ((run M (nbS ps bs) d k).q[k]? = none ∨ ∃ t ∈ E, (run M (nbS ps bs) d k).q[k]? = some t) ∧ SrM ps b1 b2 (run M (nbS ps bs) d k) w' ∧ w.heap.size ≤ b1 ∧ w.heap.size ≤ b2 ∧ b1 < w'.heap.size ∧ b2 < w'.heap.size ∧ b1 ≠ b2 ∧ Below w.heap.size w w' := by
  have hd := ((mem_U hG).1 hdU).1
  have hd0 := Lib.hid hd
  have hmm := @run_makeMap Try.prog
  have hi1 := fun W n => ins_1 d _ (keyS hG hd) W n
  have hi2 := fun W n O1 => ins_2 d _ (keyS hG hd) W n O1
  have hi3 := fun W n O0 => ins_3 d _ (keyS hG hd) W n O0
  have hi4 := fun W n O1 O2 => ins_4 d _ (keyS hG hd) W n O1 O2
  have hi5 := fun W n O0 O2 => ins_5 d _ (keyS hG hd) W n O0 O2
  have hi6 := fun W n O0 O1 => ins_6 d _ (keyS hG hd) W n O0 O1
  go_enter Try.func47, Try.ntmps47
  go_wp2_with fail
  refine wp_scope_straight ?_
  go_upto_region 1 with fail
  obtain ⟨w2, hw2⟩ : ∃ w2, w2 = ((w.alloc (.cells #[pv, bv] 31)).alloc (.cells #[.int .i64 ((pl (d) 0 : Nat) : Int), .int .i64 ((pl (d) 1 : Nat) : Int), .int .i64 ((pl (d) 2 : Nat) : Int), .int .i64 ((pl (d) 3 : Nat) : Int), .int .i64 ((pl (d) 4 : Nat) : Int), .int .i64 ((pl (d) 5 : Nat) : Int)] 68)).alloc (.cells #[.map none, .map none] 73) := ⟨_, rfl⟩
  rw [← hw2]
  have hl1 : w.heap.size + 1 < w2.heap.size := by rw [hw2]; simp
  have ha0 : w2.cell? ⟨w.heap.size + 1, 0, none⟩ = some (.int .i64 ((pl d 0 : Nat) : Int)) := by rw [hw2]; exact hb_cell (hb_old _ (hb_new' _ _ _ (by simp))) 0
  have ha1 : w2.cell? ⟨w.heap.size + 1, 1, none⟩ = some (.int .i64 ((pl d 1 : Nat) : Int)) := by rw [hw2]; exact hb_cell (hb_old _ (hb_new' _ _ _ (by simp))) 1
  have ha2 : w2.cell? ⟨w.heap.size + 1, 2, none⟩ = some (.int .i64 ((pl d 2 : Nat) : Int)) := by rw [hw2]; exact hb_cell (hb_old _ (hb_new' _ _ _ (by simp))) 2
  have ha3 : w2.cell? ⟨w.heap.size + 1, 3, none⟩ = some (.int .i64 ((pl d 3 : Nat) : Int)) := by rw [hw2]; exact hb_cell (hb_old _ (hb_new' _ _ _ (by simp))) 3
  have ha4 : w2.cell? ⟨w.heap.size + 1, 4, none⟩ = some (.int .i64 ((pl d 4 : Nat) : Int)) := by rw [hw2]; exact hb_cell (hb_old _ (hb_new' _ _ _ (by simp))) 4
  have ha5 : w2.cell? ⟨w.heap.size + 1, 5, none⟩ = some (.int .i64 ((pl d 5 : Nat) : Int)) := by rw [hw2]; exact hb_cell (hb_old _ (hb_new' _ _ _ (by simp))) 5
  have bk1 : ∀ O0 : Obj, (World.alloc w2 O0).heap[w.heap.size + 1]? = w2.heap[w.heap.size + 1]? := fun O0 => heap_alloc_old w2 O0 hl1
  have bk2 : ∀ O0 O1 : Obj, (World.alloc (World.alloc w2 O0) O1).heap[w.heap.size + 1]? = w2.heap[w.heap.size + 1]? := fun O0 O1 => (heap_alloc_old (World.alloc w2 O0) O1 (by simp; omega)).trans (heap_alloc_old w2 O0 hl1)
  have bk3 : ∀ O0 O1 O2 : Obj, (World.alloc (World.alloc (World.alloc w2 O0) O1) O2).heap[w.heap.size + 1]? = w2.heap[w.heap.size + 1]? := fun O0 O1 O2 => (heap_alloc_old (World.alloc (World.alloc w2 O0) O1) O2 (by simp; omega)).trans ((heap_alloc_old (World.alloc w2 O0) O1 (by simp; omega)).trans (heap_alloc_old w2 O0 hl1))
  have hc10 : ∀ O0 : Obj, (World.alloc w2 O0).cell? ⟨w.heap.size + 1, 0, none⟩ = some (.int .i64 ((pl d 0 : Nat) : Int)) := fun O0 => (World.cell?_of_block (by exact bk1 O0)).trans ha0
  have hc11 : ∀ O0 : Obj, (World.alloc w2 O0).cell? ⟨w.heap.size + 1, 1, none⟩ = some (.int .i64 ((pl d 1 : Nat) : Int)) := fun O0 => (World.cell?_of_block (by exact bk1 O0)).trans ha1
  have hc12 : ∀ O0 : Obj, (World.alloc w2 O0).cell? ⟨w.heap.size + 1, 2, none⟩ = some (.int .i64 ((pl d 2 : Nat) : Int)) := fun O0 => (World.cell?_of_block (by exact bk1 O0)).trans ha2
  have hc13 : ∀ O0 : Obj, (World.alloc w2 O0).cell? ⟨w.heap.size + 1, 3, none⟩ = some (.int .i64 ((pl d 3 : Nat) : Int)) := fun O0 => (World.cell?_of_block (by exact bk1 O0)).trans ha3
  have hc14 : ∀ O0 : Obj, (World.alloc w2 O0).cell? ⟨w.heap.size + 1, 4, none⟩ = some (.int .i64 ((pl d 4 : Nat) : Int)) := fun O0 => (World.cell?_of_block (by exact bk1 O0)).trans ha4
  have hc15 : ∀ O0 : Obj, (World.alloc w2 O0).cell? ⟨w.heap.size + 1, 5, none⟩ = some (.int .i64 ((pl d 5 : Nat) : Int)) := fun O0 => (World.cell?_of_block (by exact bk1 O0)).trans ha5
  have hc20 : ∀ O0 O1 : Obj, (World.alloc (World.alloc w2 O0) O1).cell? ⟨w.heap.size + 1, 0, none⟩ = some (.int .i64 ((pl d 0 : Nat) : Int)) := fun O0 O1 => (World.cell?_of_block (by exact bk2 O0 O1)).trans ha0
  have hc21 : ∀ O0 O1 : Obj, (World.alloc (World.alloc w2 O0) O1).cell? ⟨w.heap.size + 1, 1, none⟩ = some (.int .i64 ((pl d 1 : Nat) : Int)) := fun O0 O1 => (World.cell?_of_block (by exact bk2 O0 O1)).trans ha1
  have hc22 : ∀ O0 O1 : Obj, (World.alloc (World.alloc w2 O0) O1).cell? ⟨w.heap.size + 1, 2, none⟩ = some (.int .i64 ((pl d 2 : Nat) : Int)) := fun O0 O1 => (World.cell?_of_block (by exact bk2 O0 O1)).trans ha2
  have hc23 : ∀ O0 O1 : Obj, (World.alloc (World.alloc w2 O0) O1).cell? ⟨w.heap.size + 1, 3, none⟩ = some (.int .i64 ((pl d 3 : Nat) : Int)) := fun O0 O1 => (World.cell?_of_block (by exact bk2 O0 O1)).trans ha3
  have hc24 : ∀ O0 O1 : Obj, (World.alloc (World.alloc w2 O0) O1).cell? ⟨w.heap.size + 1, 4, none⟩ = some (.int .i64 ((pl d 4 : Nat) : Int)) := fun O0 O1 => (World.cell?_of_block (by exact bk2 O0 O1)).trans ha4
  have hc25 : ∀ O0 O1 : Obj, (World.alloc (World.alloc w2 O0) O1).cell? ⟨w.heap.size + 1, 5, none⟩ = some (.int .i64 ((pl d 5 : Nat) : Int)) := fun O0 O1 => (World.cell?_of_block (by exact bk2 O0 O1)).trans ha5
  have hc30 : ∀ O0 O1 O2 : Obj, (World.alloc (World.alloc (World.alloc w2 O0) O1) O2).cell? ⟨w.heap.size + 1, 0, none⟩ = some (.int .i64 ((pl d 0 : Nat) : Int)) := fun O0 O1 O2 => (World.cell?_of_block (by exact bk3 O0 O1 O2)).trans ha0
  have hc31 : ∀ O0 O1 O2 : Obj, (World.alloc (World.alloc (World.alloc w2 O0) O1) O2).cell? ⟨w.heap.size + 1, 1, none⟩ = some (.int .i64 ((pl d 1 : Nat) : Int)) := fun O0 O1 O2 => (World.cell?_of_block (by exact bk3 O0 O1 O2)).trans ha1
  have hc32 : ∀ O0 O1 O2 : Obj, (World.alloc (World.alloc (World.alloc w2 O0) O1) O2).cell? ⟨w.heap.size + 1, 2, none⟩ = some (.int .i64 ((pl d 2 : Nat) : Int)) := fun O0 O1 O2 => (World.cell?_of_block (by exact bk3 O0 O1 O2)).trans ha2
  have hc33 : ∀ O0 O1 O2 : Obj, (World.alloc (World.alloc (World.alloc w2 O0) O1) O2).cell? ⟨w.heap.size + 1, 3, none⟩ = some (.int .i64 ((pl d 3 : Nat) : Int)) := fun O0 O1 O2 => (World.cell?_of_block (by exact bk3 O0 O1 O2)).trans ha3
  have hc34 : ∀ O0 O1 O2 : Obj, (World.alloc (World.alloc (World.alloc w2 O0) O1) O2).cell? ⟨w.heap.size + 1, 4, none⟩ = some (.int .i64 ((pl d 4 : Nat) : Int)) := fun O0 O1 O2 => (World.cell?_of_block (by exact bk3 O0 O1 O2)).trans ha4
  have hc35 : ∀ O0 O1 O2 : Obj, (World.alloc (World.alloc (World.alloc w2 O0) O1) O2).cell? ⟨w.heap.size + 1, 5, none⟩ = some (.int .i64 ((pl d 5 : Nat) : Int)) := fun O0 O1 O2 => (World.cell?_of_block (by exact bk3 O0 O1 O2)).trans ha5
  have X2 := Lib.hid (show w2.heap[w.heap.size]? = some (.cells #[pv, bv] 31) by rw [hw2]; exact hb_old _ (hb_old _ (hb_new _ _)))
  have A2 := Lib.hid (show w2.heap[w.heap.size + 1]? = some (.cells #[.int .i64 ((pl (d) 0 : Nat) : Int), .int .i64 ((pl (d) 1 : Nat) : Int), .int .i64 ((pl (d) 2 : Nat) : Int), .int .i64 ((pl (d) 3 : Nat) : Int), .int .i64 ((pl (d) 4 : Nat) : Int), .int .i64 ((pl (d) 5 : Nat) : Int)] 68) by rw [hw2]; exact hb_old _ (hb_new' _ _ _ (by simp)))
  have R2 := Lib.hid (show w2.heap[w.heap.size + 1 + 1]? = some (.cells #[.map none, .map none] 73) by rw [hw2]; exact hb_new' _ _ _ (by simp))
  have hb2 := Lib.hid (show Below w.heap.size w w2 by rw [hw2]; exact ((ba1 w _).alloc (by simp) _).alloc (by simp; omega) _)
  clear hw2 bk1 bk2 bk3
  go_cut [7] (fun t7 wx => ∃ b1 b2 b3, t7 = .pointer (some ⟨b3, 0, none⟩) ∧ wx.heap[b3]? = some (.cells #[.map (some b1), .map (some b2)] 73) ∧ wx.heap[b1]? = some (mOne d 0) ∧ wx.heap[b2]? = some (mOne d 1) ∧ b1 ≠ b2 ∧ w2.heap.size ≤ b1 ∧ w2.heap.size ≤ b2 ∧ w2.heap.size ≤ b3 ∧ Below w2.heap.size w2 wx)
  case first =>
    go_region
    all_goals
      go_wp2_with fail
      go_meet
      first
        | exact ⟨w2.heap.size, w2.heap.size + 1, w2.heap.size + 1 + 1, rfl, (by (first | exact h30 _ _ _ _ | exact h31 _ _ _ _ | exact h32 _ _ _ _)), (by (first | exact h30 _ _ _ _ | exact h31 _ _ _ _ | exact h32 _ _ _ _)), (by (first | exact h30 _ _ _ _ | exact h31 _ _ _ _ | exact h32 _ _ _ _)), by omega, by omega, by omega, by omega, h3b _ _ _ _⟩
        | exact ⟨w2.heap.size, w2.heap.size + 1 + 1, w2.heap.size + 1, rfl, (by (first | exact h30 _ _ _ _ | exact h31 _ _ _ _ | exact h32 _ _ _ _)), (by (first | exact h30 _ _ _ _ | exact h31 _ _ _ _ | exact h32 _ _ _ _)), (by (first | exact h30 _ _ _ _ | exact h31 _ _ _ _ | exact h32 _ _ _ _)), by omega, by omega, by omega, by omega, h3b _ _ _ _⟩
        | exact ⟨w2.heap.size + 1, w2.heap.size, w2.heap.size + 1 + 1, rfl, (by (first | exact h30 _ _ _ _ | exact h31 _ _ _ _ | exact h32 _ _ _ _)), (by (first | exact h30 _ _ _ _ | exact h31 _ _ _ _ | exact h32 _ _ _ _)), (by (first | exact h30 _ _ _ _ | exact h31 _ _ _ _ | exact h32 _ _ _ _)), by omega, by omega, by omega, by omega, h3b _ _ _ _⟩
        | exact ⟨w2.heap.size + 1, w2.heap.size + 1 + 1, w2.heap.size, rfl, (by (first | exact h30 _ _ _ _ | exact h31 _ _ _ _ | exact h32 _ _ _ _)), (by (first | exact h30 _ _ _ _ | exact h31 _ _ _ _ | exact h32 _ _ _ _)), (by (first | exact h30 _ _ _ _ | exact h31 _ _ _ _ | exact h32 _ _ _ _)), by omega, by omega, by omega, by omega, h3b _ _ _ _⟩
        | exact ⟨w2.heap.size + 1 + 1, w2.heap.size, w2.heap.size + 1, rfl, (by (first | exact h30 _ _ _ _ | exact h31 _ _ _ _ | exact h32 _ _ _ _)), (by (first | exact h30 _ _ _ _ | exact h31 _ _ _ _ | exact h32 _ _ _ _)), (by (first | exact h30 _ _ _ _ | exact h31 _ _ _ _ | exact h32 _ _ _ _)), by omega, by omega, by omega, by omega, h3b _ _ _ _⟩
        | exact ⟨w2.heap.size + 1 + 1, w2.heap.size + 1, w2.heap.size, rfl, (by (first | exact h30 _ _ _ _ | exact h31 _ _ _ _ | exact h32 _ _ _ _)), (by (first | exact h30 _ _ _ _ | exact h31 _ _ _ _ | exact h32 _ _ _ _)), (by (first | exact h30 _ _ _ _ | exact h31 _ _ _ _ | exact h32 _ _ _ _)), by omega, by omega, by omega, by omega, h3b _ _ _ _⟩
  case rest =>
    obtain ⟨b1, b2, b3, rfl, hB3, hB1, hB2, h12, g1, g2, g3, hbx⟩ := hcut
    clear hmm hi1 hi2 hi3 hi4 hi5 hi6 hc10 hc11 hc12 hc13 hc14 hc15 hc20 hc21 hc22 hc23 hc24 hc25 hc30 hc31 hc32 hc33 hc34 hc35 ha0 ha1 ha2 ha3 ha4 ha5
    obtain ⟨T, hT⟩ : ∃ T, T = wc.heap.size := ⟨_, rfl⟩
    obtain ⟨S, hS⟩ : ∃ S, S = w2.heap.size := ⟨_, rfl⟩
    rw [← hS] at g1 g2 g3
    have hse0 := Lib.hid (show Se ps b1 b2 b3 S T (Sr.one d) wc wc by rw [hT]; exact se_first hG hd hB1 hB2 hB3 h12 g1 g2 g3)
    have Xc := hb_below hbx (hb_lt X2.out) X2.out
    have Ac := hb_below hbx (hb_lt A2.out) A2.out
    have Rc := hb_below hbx (hb_lt R2.out) R2.out
    have hwS : w.heap.size + 1 + 1 < S := by rw [hS]; exact hb_lt R2.out
    have hST : S ≤ T := by rw [hS, hT]; exact hbx.size
    have hbc := Lib.hid (bt2 hb2.out hbx (by omega))
    clear hbx hB1 hB2 hB3 X2 A2 R2 hb2 hl1
    have a0 : wc.cell? ⟨w.heap.size + 1, 0, none⟩ = some (.int .i64 ((pl d 0 : Nat) : Int)) := hb_cell Ac 0
    have a1 : wc.cell? ⟨w.heap.size + 1, 1, none⟩ = some (.int .i64 ((pl d 1 : Nat) : Int)) := hb_cell Ac 1
    have a2 : wc.cell? ⟨w.heap.size + 1, 2, none⟩ = some (.int .i64 ((pl d 2 : Nat) : Int)) := hb_cell Ac 2
    have a3 : wc.cell? ⟨w.heap.size + 1, 3, none⟩ = some (.int .i64 ((pl d 3 : Nat) : Int)) := hb_cell Ac 3
    have a4 : wc.cell? ⟨w.heap.size + 1, 4, none⟩ = some (.int .i64 ((pl d 4 : Nat) : Int)) := hb_cell Ac 4
    have a5 : wc.cell? ⟨w.heap.size + 1, 5, none⟩ = some (.int .i64 ((pl d 5 : Nat) : Int)) := hb_cell Ac 5
    have la := hb_lt Ac
    have hown0 := Lib.hid (show OwnG plcE (wc.alloc (.cells #[.int .i64 ((pl (d) 0 : Nat) : Int), .int .i64 ((pl (d) 1 : Nat) : Int), .int .i64 ((pl (d) 2 : Nat) : Int), .int .i64 ((pl (d) 3 : Nat) : Int), .int .i64 ((pl (d) 4 : Nat) : Int), .int .i64 ((pl (d) 5 : Nat) : Int)] 68)) T (.slice (some ⟨T, 0, none⟩) 1 1) [d] by rw [hT]; exact own_plc wc d)
    have hLv0 := Lib.hid (lev_zero M (nbS ps bs) d)
    have hlen0 := Lib.hid (fun k => q_len hG (sb_run (M := 1000000000000001) (by omega) (univS hG) hdU k))
    rw [← hM] at hlen0
    have hM1 : 1 ≤ M := by omega
    replace hM := Lib.hid hM
    go_wp2_with fail
    go_step3
    go_wp2_with fail
    try rw [← hT]
    obtain ⟨wd, hwd⟩ : ∃ wd, Hid (wd = wc.alloc (.cells #[.int .i64 ((pl (d) 0 : Nat) : Int), .int .i64 ((pl (d) 1 : Nat) : Int), .int .i64 ((pl (d) 2 : Nat) : Int), .int .i64 ((pl (d) 3 : Nat) : Int), .int .i64 ((pl (d) 4 : Nat) : Int), .int .i64 ((pl (d) 5 : Nat) : Int)] 68)) := ⟨_, Lib.hid rfl⟩
    rw [← hwd.out] at hown0 ⊢
    have hsed := Lib.hid (show Se ps b1 b2 b3 S T (Sr.one d) wc wd by rw [hwd.out]; exact hse0.out.below (ba1 wc _))
    clear a0 a1 a2 a3 a4 a5
    replace hT := Lib.hid hT
    replace hS := Lib.hid hS
    go_loopw [8, 9] (fun lv nv wl => ∃ (k N : Nat) (L : List (List Nat)), nv = .int .i64 N ∧ Hid (Lev M (nbS ps bs) d k N L) ∧ Hid (OwnG plcE wl T lv L) ∧ Hid (Se ps b1 b2 b3 S T (run M (nbS ps bs) d k) wc wl)) (fun _ nv _ => 1001 - (intOf nv).toNat)
    case atStart => exact ⟨0, 1, [d], rfl, hLv0, hown0, hsed⟩
    case round =>
      obtain ⟨k, N, L, rfl, hLv, hlv, hse⟩ := hrel
      generalize wr = wl at *
      generalize u8 = lv at *
      have Xl := hb_below hse.out.low (by omega) Xc
      have Rl := hb_below hse.out.low (by omega) Rc
      have hbl := Lib.hid (hbc.out.trans (hse.out.low.mono (by omega)))
      have hml := hse.out.mp
      obtain ⟨D1, hD1, -⟩ := hml.one
      obtain ⟨D2, hD2, -⟩ := hml.two
      have q1 := hD1.lt
      have q2 := hD2.lt
      clear hD1 hD2
      obtain ⟨lp, lc, rfl, hrg⟩ : ∃ p c, lv = .slice p L.length c ∧ RG plcE wl p L := by obtain ⟨p, c, e, h⟩ := hlv.out.rd; exact ⟨p, c, e, h.2⟩
      by_cases hL : L = []
      · subst hL
        have hend := Lib.hid (show (run M (nbS ps bs) d k).q[k]? = none from List.getElem?_eq_none (List.drop_eq_nil_iff.1 hLv.out.eq.symm))
        have hl0 : ([] : List (List Nat)).length = 0 := rfl
        have x0 : wl.cell? ⟨b3, 0, none⟩ = some (.map (some b1)) := hb_cell hse.out.hd 0
        have x1 : wl.cell? ⟨b3, 1, none⟩ = some (.map (some b2)) := hb_cell hse.out.hd 1
        have r0 : wl.cell? ⟨w.heap.size + 1 + 1, 0, none⟩ = some (.map none) := hb_cell Rl 0
        have r1 : wl.cell? ⟨w.heap.size + 1 + 1, 1, none⟩ = some (.map none) := hb_cell Rl 1
        have rz := hb_frozen Rl
        have rl := hb_lt Rl
        go_wp2_with fail
        obtain ⟨w9, hw9⟩ : ∃ w9, Hid (w9 = ((wl.setCell ⟨w.heap.size + 1 + 1, 0, none⟩ (.map (some b1))).setCell ⟨w.heap.size + 1 + 1, 1, none⟩ (.map (some b2)))) := ⟨_, Lib.hid rfl⟩
        rw [← hw9.out]
        have hg9 := Lib.hid (show wl.grownBy w9 (some (w.heap.size + 1 + 1)) by rw [hw9.out]; exact ((grown_set wl (w.heap.size + 1 + 1) 0 _).trans (grown_set _ (w.heap.size + 1 + 1) 1 _)))
        have R9 := Lib.hid (show w9.heap[w.heap.size + 1 + 1]? = some (.cells #[.map (some b1), .map (some b2)] 73) by rw [hw9.out]; exact hb_set (hb_set Rl _) _)
        have hm9 := Lib.hid (hse.out.mp.grown hg9.out (by simp; omega) (by simp; omega))
        have hb9 := Lib.hid (show Below w.heap.size w w9 from hbl.out.trans ⟨hg9.out.os, hg9.out.tape, hg9.out.output, hg9.out.size, fun i hi => hg9.out.block i (by have := hbl.out.size; omega) (by simp; omega)⟩)
        have hs9 := hg9.out.size
        dsimp only [Exit.noGoto]
        refine bodyPost_ret (v := .agg #[.map (some b1), .map (some b2)]) ?_ rfl ⟨b1, b2, k, rfl, .inl hend.out, hm9.out, by omega, by omega, by omega, by omega, h12, hb9.out⟩
        have c0 : w9.cell? ⟨w.heap.size + 1 + 1, 0, none⟩ = some (.map (some b1)) := hb_cell R9.out 0
        have c1 : w9.cell? ⟨w.heap.size + 1 + 1, 1, none⟩ = some (.map (some b2)) := hb_cell R9.out 1
        have l := hb_lt R9.out
        simp [results, Try.results47, go_sem, c0, c1, l]
      · have hLp : 0 < L.length := List.length_pos_iff.2 hL
        have hN := Lib.hid (hLv.out.n_le (univS hG) hdU hL)
        have hNU := Lib.hid (U_len hG)
        have hl9 : L.length ≤ 1000 := by have h1 := hlen0.out k; have h2 := hLv.out.len hL; omega
        have hq0 := Lib.hid (hLv.out.len hL)
        have hnx := Lib.hid (hLv.out.next hL)
        have hgt := Lib.hid (fun i u hu => hLv.out.get (i := i) (u := u) hu)
        clear hL
        generalize hn8 : L.length = n8 at *
        replace hn8 := Lib.hid hn8
        go_wp2_with fail
        go_loopw [10, 32] (fun nv i wr => ∃ j : Nat, j ≤ n8 ∧ i = .int .i64 j ∧ Hid (OwnG plcE wr wl.heap.size nv ((run M (nbS ps bs) d (k + j)).q.drop (k + n8))) ∧ Hid (Se ps b1 b2 b3 S T (run M (nbS ps bs) d (k + j)) wl wr)) (fun _ i _ => n8 - (intOf i).toNat)
        case atStart => exact ⟨0, Nat.zero_le _, rfl, Lib.hid (by rw [Nat.add_zero, List.drop_of_length_le (by rw [hq0.out]; exact Nat.le_refl _)]; exact OwnG.nil _ _), Lib.hid hse.out.base⟩
        case round =>
          obtain ⟨j, hj, rfl, hnv, hsj⟩ := hrel
          generalize wr = wm at *
          generalize u10 = nv at *
          have hsc := Lib.hid (hse.out.trans hsj.out)
          have Xm := Lib.hid (hb_below hsc.out.low (by omega) Xc)
          have Rm := Lib.hid (hb_below hsc.out.low (by omega) Rc)
          have hbm := Lib.hid (hbc.out.trans (hsc.out.low.mono (by omega)))
          have hTm := hsc.out.le'
          clear Xl Rl q1 q2
          by_cases hlt : j < n8
          · have hjx : j < L.length := by rw [hn8.out]; exact hlt
            obtain ⟨gs, rfl, hgs, e0, e1, e2, e3, e4, e5⟩ := (hlv.out.mid hsj.out.mid (Nat.le_refl T)).rg.plc hjx
            have hget := Lib.hid (hgt.out j L[j] (List.getElem?_eq_getElem hjx))
            generalize L[j] = at' at *
            have hatU := Lib.hid ((sb_run (M := M) hM1 (univS hG) hdU (k + j)).sub at' (List.mem_of_getElem? hget.out.1))
            have hat := Lib.hid ((mem_U hG).1 hatU.out).1
            obtain ⟨w5, hw5⟩ : ∃ w5, Hid (w5 = wm.alloc (.cells #[.int .i64 ((pl (at') 0 : Nat) : Int), .int .i64 ((pl (at') 1 : Nat) : Int), .int .i64 ((pl (at') 2 : Nat) : Int), .int .i64 ((pl (at') 3 : Nat) : Int), .int .i64 ((pl (at') 4 : Nat) : Int), .int .i64 ((pl (at') 5 : Nat) : Int)] 68)) := ⟨_, Lib.hid rfl⟩
            have hb5 := Lib.hid (show Below wm.heap.size wm w5 by rw [hw5.out]; exact ba1 wm _)
            have A5 := Lib.hid (show w5.heap[wm.heap.size]? = some (.cells #[.int .i64 ((pl (at') 0 : Nat) : Int), .int .i64 ((pl (at') 1 : Nat) : Int), .int .i64 ((pl (at') 2 : Nat) : Int), .int .i64 ((pl (at') 3 : Nat) : Int), .int .i64 ((pl (at') 4 : Nat) : Int), .int .i64 ((pl (at') 5 : Nat) : Int)] 68) by rw [hw5.out]; exact hb_new _ _)
            have X5 := Lib.hid (hb_below hb5.out (hb_lt Xm.out) Xm.out)
            have R5 := Lib.hid (hb_below hb5.out (hb_lt Rm.out) Rm.out)
            have hbw5 := Lib.hid (bt2 hbm.out hb5.out hbm.out.size)
            have hCt := Lib.hid (contains_pl p n c ps bs E at' w5 hG hn hn9 hE hat.out (hr.below hbw5.out))
            have y0 : w5.cell? ⟨wm.heap.size, 0, none⟩ = some (.int .i64 ((pl at' 0 : Nat) : Int)) := hb_cell A5.out 0
            have y1 : w5.cell? ⟨wm.heap.size, 1, none⟩ = some (.int .i64 ((pl at' 1 : Nat) : Int)) := hb_cell A5.out 1
            have y2 : w5.cell? ⟨wm.heap.size, 2, none⟩ = some (.int .i64 ((pl at' 2 : Nat) : Int)) := hb_cell A5.out 2
            have y3 : w5.cell? ⟨wm.heap.size, 3, none⟩ = some (.int .i64 ((pl at' 3 : Nat) : Int)) := hb_cell A5.out 3
            have y4 : w5.cell? ⟨wm.heap.size, 4, none⟩ = some (.int .i64 ((pl at' 4 : Nat) : Int)) := hb_cell A5.out 4
            have y5 : w5.cell? ⟨wm.heap.size, 5, none⟩ = some (.int .i64 ((pl at' 5 : Nat) : Int)) := hb_cell A5.out 5
            by_cases hin : at' ∈ E
            · rw [decide_eq_true hin] at hCt
              go_wp2_with fail
              rw [← hw5.out]
              go_wp2_with fail
              refine hCt.out.mono ?_; rintro e w6 ⟨rfl, hb6⟩
              have Rl := hb_below hb6 (hb_lt R5.out) R5.out
              have hs6 := Lib.hid ((hsc.out.below hb5.out).below hb6)
              have hbw6 := Lib.hid (bt2 hbw5.out hb6 hbw5.out.size)
              have x0 : w6.cell? ⟨b3, 0, none⟩ = some (.map (some b1)) := hb_cell hs6.out.hd 0
              have x1 : w6.cell? ⟨b3, 1, none⟩ = some (.map (some b2)) := hb_cell hs6.out.hd 1
              have r0 : w6.cell? ⟨w.heap.size + 1 + 1, 0, none⟩ = some (.map none) := hb_cell Rl 0
              have r1 : w6.cell? ⟨w.heap.size + 1 + 1, 1, none⟩ = some (.map none) := hb_cell Rl 1
              have rz := hb_frozen Rl
              have rl := hb_lt Rl
              have hT6 := hs6.out.le'
              have hL1 := hs6.out.l1
              have hL2 := hs6.out.l2
              go_wp2_with fail
              obtain ⟨w9, hw9⟩ : ∃ w9, Hid (w9 = ((w6.setCell ⟨w.heap.size + 1 + 1, 0, none⟩ (.map (some b1))).setCell ⟨w.heap.size + 1 + 1, 1, none⟩ (.map (some b2)))) := ⟨_, Lib.hid rfl⟩
              rw [← hw9.out]
              have hg9 := Lib.hid (show w6.grownBy w9 (some (w.heap.size + 1 + 1)) by rw [hw9.out]; exact ((grown_set w6 (w.heap.size + 1 + 1) 0 _).trans (grown_set _ (w.heap.size + 1 + 1) 1 _)))
              have R9 := Lib.hid (show w9.heap[w.heap.size + 1 + 1]? = some (.cells #[.map (some b1), .map (some b2)] 73) by rw [hw9.out]; exact hb_set (hb_set Rl _) _)
              have hm9 := Lib.hid (hs6.out.mp.grown hg9.out (by simp; omega) (by simp; omega))
              have hb9 := Lib.hid (show Below w.heap.size w w9 from hbw6.out.trans ⟨hg9.out.os, hg9.out.tape, hg9.out.output, hg9.out.size, fun i hi => hg9.out.block i (by have := hbw6.out.size; omega) (by simp; omega)⟩)
              have hs9 := hg9.out.size
              dsimp only [Exit.noGoto]
              refine bodyPost_ret (v := .agg #[.map (some b1), .map (some b2)]) ?_ rfl ⟨b1, b2, (k + j), rfl, .inr ⟨at', hin, hget.out.1⟩, hm9.out, by omega, by omega, by omega, by omega, h12, hb9.out⟩
              have c0 : w9.cell? ⟨w.heap.size + 1 + 1, 0, none⟩ = some (.map (some b1)) := hb_cell R9.out 0
              have c1 : w9.cell? ⟨w.heap.size + 1 + 1, 1, none⟩ = some (.map (some b2)) := hb_cell R9.out 1
              have l := hb_lt R9.out
              simp [results, Try.results47, go_sem, c0, c1, l]
            · rw [decide_eq_false hin] at hCt
              clear hin
              go_wp2_with fail
              rw [← hw5.out]
              go_wp2_with fail
              refine hCt.out.mono ?_; rintro e w6 ⟨rfl, hb6⟩
              have X6 := Lib.hid (hb_below hb6 (hb_lt X5.out) X5.out)
              have A6 := Lib.hid (hb_below hb6 (hb_lt A5.out) A5.out)
              have hs6 := Lib.hid ((hsj.out.below hb5.out).below hb6)
              have hnv6 := Lib.hid ((hnv.out.below hb5.out).below hb6)
              have hbw6 := Lib.hid (bt2 hbw5.out hb6 hbw5.out.size)
              have hSl := Lib.hid (slides_any (.agg #[pv, bv]) ps bs at' w6 hG (hv.below hbw6.out) hat.out)
              have hsz6 : wm.heap.size < w6.heap.size := hb_lt A6.out
              have f0 : w6.cell? ⟨w.heap.size, 0, none⟩ = some pv := hb_cell X6.out 0
              have f1 : w6.cell? ⟨w.heap.size, 1, none⟩ = some bv := hb_cell X6.out 1
              have z0 : w6.cell? ⟨wm.heap.size, 0, none⟩ = some (.int .i64 ((pl at' 0 : Nat) : Int)) := hb_cell A6.out 0
              have z1 : w6.cell? ⟨wm.heap.size, 1, none⟩ = some (.int .i64 ((pl at' 1 : Nat) : Int)) := hb_cell A6.out 1
              have z2 : w6.cell? ⟨wm.heap.size, 2, none⟩ = some (.int .i64 ((pl at' 2 : Nat) : Int)) := hb_cell A6.out 2
              have z3 : w6.cell? ⟨wm.heap.size, 3, none⟩ = some (.int .i64 ((pl at' 3 : Nat) : Int)) := hb_cell A6.out 3
              have z4 : w6.cell? ⟨wm.heap.size, 4, none⟩ = some (.int .i64 ((pl at' 4 : Nat) : Int)) := hb_cell A6.out 4
              have z5 : w6.cell? ⟨wm.heap.size, 5, none⟩ = some (.int .i64 ((pl at' 5 : Nat) : Int)) := hb_cell A6.out 5
              go_wp2_with fail
              refine hSl.out.mono ?_; rintro e w7 ⟨ur, rfl, hu, hb7⟩
              obtain ⟨up, uc, rfl, hurg⟩ : ∃ p c, ur = .slice p ((slS ps bs at').map slV).length c ∧ RG slE w7 p ((slS ps bs at').map slV) := by obtain ⟨p, c, e, h⟩ := hu.rd; exact ⟨p, c, e, h.2⟩
              have A7 := Lib.hid (hb_below hb7 (hb_lt A6.out) A6.out)
              have hs7 := Lib.hid (hs6.out.below hb7)
              have hnv7 := Lib.hid (hnv6.out.below hb7)
              have hbw7 := Lib.hid (bt2 hbw6.out hb7 hbw6.out.size)
              have hlm7 : w6.heap.size ≤ w7.heap.size := hb7.size
              rw [List.length_map] at hu ⊢
              have hus7 := Lib.hid (fun x e => (hu.lt x e).2)
              have hu6 := Lib.hid hu
              have hnvl := Lib.hid (fun x e => (hnv.out.lt x e).2)
              have hatq := List.mem_of_getElem? hget.out.1
              have hfat := Lib.hid ((run_ok M (nbS ps bs) d (k + j)).dst hatq)
              have hlmm : wm.heap.size < w7.heap.size := hb_lt A7.out
              clear hu hb7 hb6 z0 z1 z2 z3 z4 z5 y0 y1 y2 y3 y4 y5 f0 f1 e0 e1 e2 e3 e4 e5 hatq
              clear hSl hCt hnv6 hs6 X6 A6 hnv A5 X5 R5
              obtain ⟨nu, hnu⟩ : ∃ nu, (slS ps bs at').length = nu := ⟨_, rfl⟩
              rw [hnu] at hus7 hu6 ⊢
              have hnu9 : nu ≤ 1000 := by rw [← hnu]; have := slK_len (ps := ps) (bs := bs) at' ps.length; have := hG.l6; unfold slS; omega
              replace hnu := Lib.hid hnu
              have hlen1 := Lib.hid (fun jj => Nat.le_trans (nodup_sub_len (half_sb (M := M) (n := N) (k := k + j) hM1 (univS hG) hdU hatU.out jj).nd (half_sb (M := M) (n := N) (k := k + j) hM1 (univS hG) hdU hatU.out jj).sub) (U_len hG))
              have hpfx := Lib.hid (fun jj => show k + n8 ≤ (half M (nbS ps bs) d N (k + j) at' jj).q.length by
                have h1 := (ext_run M (nbS ps bs) d (show k ≤ k + j by omega)).q.length_le
                have h2 := (half_ext (M := M) (nb := nbS ps bs) (s0 := d) (n := N) (k := k + j) (s := at') jj).q.length_le
                have h3 := hq0.out
                omega)
              go_wp2_with fail
              go_loopw [10, 43] (fun nv i wr => ∃ jj : Nat, jj ≤ nu ∧ i = .int .i64 jj ∧ Hid (OwnG plcE wr wl.heap.size nv ((half M (nbS ps bs) d N (k + j) at' jj).q.drop (k + n8))) ∧ Hid (Se ps b1 b2 b3 S T (half M (nbS ps bs) d N (k + j) at' jj) wl wr) ∧ Hid (OwnG slE wr w6.heap.size (.slice up nu uc) ((slS ps bs at').map slV)) ∧ Hid (wr.heap[wm.heap.size]? = some (.cells #[.int .i64 ((pl (at') 0 : Nat) : Int), .int .i64 ((pl (at') 1 : Nat) : Int), .int .i64 ((pl (at') 2 : Nat) : Int), .int .i64 ((pl (at') 3 : Nat) : Int), .int .i64 ((pl (at') 4 : Nat) : Int), .int .i64 ((pl (at') 5 : Nat) : Int)] 68)) ∧ Hid (∀ x, nv.ownBlock = some x → x < wm.heap.size ∨ w7.heap.size ≤ x) ∧ Hid (w7.heap.size ≤ wr.heap.size)) (fun _ i _ => nu - (intOf i).toNat)
              case atStart => exact ⟨0, Nat.zero_le _, rfl, hnv7, hs7, hu6, A7, Lib.hid (fun x e => .inl (hnvl.out x e)), Lib.hid (Nat.le_refl _)⟩
              case round =>
                obtain ⟨jj, hjj, rfl, hnw, hsw, huw, Aw, htr, hsz⟩ := hrel
                generalize wr = wq at *
                generalize u10 = nw at *
                by_cases hlj : jj < nu
                · have hsSB := Lib.hid (half_sb (M := M) (n := N) (k := k + j) hM1 (univS hG) hdU hatU.out jj)
                  have hjm : jj < (slS ps bs at').length := by rw [hnu.out]; exact hlj
                  have hjv : jj < ((slS ps bs at').map slV).length := by rw [List.length_map]; exact hjm
                  obtain ⟨gu, rfl, hgu, s0, s1⟩ := huw.out.rg.sl hjv
                  have hmem := List.getElem_mem hjm
                  have hnbj : (nbS ps bs at')[jj]? = some (mvS at' (slS ps bs at')[jj].1 (slS ps bs at')[jj].2) := by unfold nbS; rw [List.getElem?_map, List.getElem?_eq_getElem hjm]; rfl
                  rw [List.getElem_map] at s0 s1
                  generalize (slS ps bs at')[jj] = m at *
                  obtain ⟨mb, mu⟩ := m
                  obtain ⟨x, hx1, hx2⟩ := mv_eq hat.out hmem
                  have hmb := sl_lt hmem
                  dsimp only at hx1 hx2 hmb hnbj
                  replace s0 : wq.cell? ⟨gu, jj * 2, none⟩ = some (.int .i64 (mb : Int)) := s0
                  replace s1 : wq.cell? ⟨gu, jj * 2 + 1, none⟩ = some (.int .i64 (byI mu)) := s1
                  have hnxU := Lib.hid ((univS hG).cl at' hatU.out _ (List.mem_of_getElem? hnbj))
                  have hstep := Lib.hid (half_succ (M := M) (n := N) (k := k + j) (s0 := d) at' jj _ hnbj)
                  have hx9 : x ≤ 9 := by
                    have h1 := st_pl hG.l6 (fun i hi => (hG.p i hi).2) ((mem_U hG).1 hnxU.out).1 mb
                    have h2 : pl (mvS at' mb mu) mb = x := by
                      rw [← hx2]; unfold pl
                      rw [List.getD_eq_getElem?_getD, List.getElem?_set_self (by rw [hat.out.1]; exact hmb)]; rfl
                    omega
                  obtain ⟨w8, hw8⟩ : ∃ w8, Hid (w8 = wq.alloc (.cells #[.int .i64 (mb : Int), .int .i64 (byI mu)] 79)) := ⟨_, Lib.hid rfl⟩
                  have hb8 := Lib.hid (show Below wq.heap.size wq w8 by rw [hw8.out]; exact ba1 wq _)
                  have M8 := Lib.hid (show w8.heap[wq.heap.size]? = some (.cells #[.int .i64 (mb : Int), .int .i64 (byI mu)] 79) by rw [hw8.out]; exact hb_new _ _)
                  have A8 := Lib.hid (hb_below hb8.out (hb_lt Aw.out) Aw.out)
                  have hSd := Lib.hid (slid_any at' mb x (byI mu) w8 (by rw [hat.out.1]; exact hmb) (by have := hG.l6; omega) hx1 hx9)
                  rw [hx2] at hSd
                  generalize mvS at' mb mu = nx at *
                  clear hnbj hmem hx1 hx2 hx9
                  have m0 : w8.cell? ⟨wq.heap.size, 0, none⟩ = some (.int .i64 (mb : Int)) := hb_cell M8.out 0
                  have m1 : w8.cell? ⟨wq.heap.size, 1, none⟩ = some (.int .i64 (byI mu)) := hb_cell M8.out 1
                  have y0 : w8.cell? ⟨wm.heap.size, 0, none⟩ = some (.int .i64 ((pl at' 0 : Nat) : Int)) := hb_cell A8.out 0
                  have y1 : w8.cell? ⟨wm.heap.size, 1, none⟩ = some (.int .i64 ((pl at' 1 : Nat) : Int)) := hb_cell A8.out 1
                  have y2 : w8.cell? ⟨wm.heap.size, 2, none⟩ = some (.int .i64 ((pl at' 2 : Nat) : Int)) := hb_cell A8.out 2
                  have y3 : w8.cell? ⟨wm.heap.size, 3, none⟩ = some (.int .i64 ((pl at' 3 : Nat) : Int)) := hb_cell A8.out 3
                  have y4 : w8.cell? ⟨wm.heap.size, 4, none⟩ = some (.int .i64 ((pl at' 4 : Nat) : Int)) := hb_cell A8.out 4
                  have y5 : w8.cell? ⟨wm.heap.size, 5, none⟩ = some (.int .i64 ((pl at' 5 : Nat) : Int)) := hb_cell A8.out 5
                  have hl8 : wq.heap.size < w8.heap.size := hb_lt M8.out
                  have hla8 := hb_lt A8.out
                  go_upto_region 14 with fail
                  rw [← hw8.out]
                  go_wp2_with fail
                  refine hSd.out.mono ?_; rintro e w9 ⟨rfl, hb9⟩
                  obtain ⟨w10, hw10⟩ : ∃ w10, Hid (w10 = w9.alloc (.cells #[.int .i64 ((pl (nx) 0 : Nat) : Int), .int .i64 ((pl (nx) 1 : Nat) : Int), .int .i64 ((pl (nx) 2 : Nat) : Int), .int .i64 ((pl (nx) 3 : Nat) : Int), .int .i64 ((pl (nx) 4 : Nat) : Int), .int .i64 ((pl (nx) 5 : Nat) : Int)] 68)) := ⟨_, Lib.hid rfl⟩
                  have hb10 := Lib.hid (show Below wq.heap.size wq w10 by rw [hw10.out]; exact bt1 hb8.out (bt1 hb9 (ba1 w9 _)))
                  have N10 := Lib.hid (show w10.heap[w9.heap.size]? = some (.cells #[.int .i64 ((pl (nx) 0 : Nat) : Int), .int .i64 ((pl (nx) 1 : Nat) : Int), .int .i64 ((pl (nx) 2 : Nat) : Int), .int .i64 ((pl (nx) 3 : Nat) : Int), .int .i64 ((pl (nx) 4 : Nat) : Int), .int .i64 ((pl (nx) 5 : Nat) : Int)] 68) by rw [hw10.out]; exact hb_new _ _)
                  have hsd := Lib.hid ((hsw.out.below hb10.out).below (Below.refl _ _).drew)
                  have h910 : wq.heap.size ≤ w9.heap.size := Nat.le_trans hb8.out.size hb9.size
                  have A10 := Lib.hid (hb_below hb10.out (hb_lt Aw.out) Aw.out)
                  have hlk := (hsw.out.below hb10.out).look hG hat.out ((half_ext (M := M) (nb := nbS ps bs) (s0 := d) (n := N) (k := k + j) (s := at') jj).far at' _ hfat.out)
                  have hlk2 := hsd.out.look hG hat.out ((half_ext (M := M) (nb := nbS ps bs) (s0 := d) (n := N) (k := k + j) (s := at') jj).far at' _ hfat.out)
                  have hAd := Lib.hid (addW_M M hM.out bs nx N ((half M (nbS ps bs) d N (k + j) at' jj).way at') hG hnxU.out hsSB.out hsd.out (by have := hN.out; have := hNU.out; omega) (hsSB.out.le at'))
                  rw [← hstep.out] at hAd
                  have x0 : w10.cell? ⟨b3, 0, none⟩ = some (.map (some b1)) := hb_cell (hsw.out.below hb10.out).hd 0
                  have x1 : w10.cell? ⟨b3, 1, none⟩ = some (.map (some b2)) := hb_cell (hsw.out.below hb10.out).hd 1
                  have n0 : w10.cell? ⟨w9.heap.size, 0, none⟩ = some (.int .i64 ((pl nx 0 : Nat) : Int)) := hb_cell N10.out 0
                  have n1 : w10.cell? ⟨w9.heap.size, 1, none⟩ = some (.int .i64 ((pl nx 1 : Nat) : Int)) := hb_cell N10.out 1
                  have n2 : w10.cell? ⟨w9.heap.size, 2, none⟩ = some (.int .i64 ((pl nx 2 : Nat) : Int)) := hb_cell N10.out 2
                  have n3 : w10.cell? ⟨w9.heap.size, 3, none⟩ = some (.int .i64 ((pl nx 3 : Nat) : Int)) := hb_cell N10.out 3
                  have n4 : w10.cell? ⟨w9.heap.size, 4, none⟩ = some (.int .i64 ((pl nx 4 : Nat) : Int)) := hb_cell N10.out 4
                  have n5 : w10.cell? ⟨w9.heap.size, 5, none⟩ = some (.int .i64 ((pl nx 5 : Nat) : Int)) := hb_cell N10.out 5
                  have z0 : w10.cell? ⟨wm.heap.size, 0, none⟩ = some (.int .i64 ((pl at' 0 : Nat) : Int)) := hb_cell A10.out 0
                  have z1 : w10.cell? ⟨wm.heap.size, 1, none⟩ = some (.int .i64 ((pl at' 1 : Nat) : Int)) := hb_cell A10.out 1
                  have z2 : w10.cell? ⟨wm.heap.size, 2, none⟩ = some (.int .i64 ((pl at' 2 : Nat) : Int)) := hb_cell A10.out 2
                  have z3 : w10.cell? ⟨wm.heap.size, 3, none⟩ = some (.int .i64 ((pl at' 3 : Nat) : Int)) := hb_cell A10.out 3
                  have z4 : w10.cell? ⟨wm.heap.size, 4, none⟩ = some (.int .i64 ((pl at' 4 : Nat) : Int)) := hb_cell A10.out 4
                  have z5 : w10.cell? ⟨wm.heap.size, 5, none⟩ = some (.int .i64 ((pl at' 5 : Nat) : Int)) := hb_cell A10.out 5
                  have l10 := hb_lt N10.out
                  go_upto_region 15 with fail
                  rw [← hw10.out]
                  go_still_tail 7, (by kernel_rfl)
                  change wpList _ _ _ _ _ w10.drew
                  go_wp2_with fail
                  refine hAd.out.mono ?_; rintro e w11 ⟨rfl, hs11, hk11⟩
                  have hTl : T ≤ wl.heap.size := hsw.out.le
                  have hTq := hsw.out.le'
                  have hL1 := hsw.out.l1
                  have hL2 := hsw.out.l2
                  have hnd := Lib.hid ((hnw.out.below hb10.out).below (Below.refl _ _).drew)
                  have hn11 := Lib.hid (hnd.out.k2 hsd.out hk11 hTl)
                  have hw610 : w6.heap.size ≤ w10.heap.size := Nat.le_trans (Nat.le_trans hlm7 hsz.out) hb10.out.size
                  have hu11 := Lib.hid (((huw.out.below hb10.out).below (Below.refl _ _).drew).k2 hsd.out hk11 (by omega))
                  have A11 := Lib.hid ((hk11.block wm.heap.size (hb_lt A10.out) (by omega) (by omega)).trans A10.out)
                  have N11 := Lib.hid ((hk11.block w9.heap.size (hb_lt N10.out) (by omega) (by omega)).trans N10.out)
                  have hz11 : w10.heap.size ≤ w11.heap.size := hk11.size
                  have hz10 : wq.heap.size ≤ w10.heap.size := hb10.out.size
                  have hz7 := hsz.out
                  have hqlen := Lib.hid (hlen1.out jj)
                  have hpre := Lib.hid (hpfx.out jj)
                  clear hb9 hk11 x0 x1 hlk hlk2 y0 y1 y2 y3 y4 y5 z0 z1 z2 z3 z4 z5 n0 n1 n2 n3 n4 n5 m0 m1 s0 s1
                  cases hf : (half M (nbS ps bs) d N (k + j) at' jj).far nx with
                  | some mm =>
                    have hq : (half M (nbS ps bs) d N (k + j) at' (jj + 1)).q = (half M (nbS ps bs) d N (k + j) at' jj).q := by rw [hstep.out]; exact add_some hf
                    rw [← hq] at hn11
                    go_wp2_with fail
                    go_roundw
                    case rel => exact ⟨jj + 1, by omega, by go_num, hn11, hs11, hu11, A11, htr, Lib.hid (by omega)⟩
                    all_goals (simp [intOf] <;> omega)
                  | none =>
                    have hq : (half M (nbS ps bs) d N (k + j) at' (jj + 1)).q.drop (k + n8) = (half M (nbS ps bs) d N (k + j) at' jj).q.drop (k + n8) ++ [nx] := by rw [hstep.out, add_none hf, drop_snoc _ _ _ hpre.out]
                    have c0 : w11.cell? ⟨w9.heap.size, 0, none⟩ = some (.int .i64 ((pl nx 0 : Nat) : Int)) := hb_cell N11.out 0
                    have c1 : w11.cell? ⟨w9.heap.size, 1, none⟩ = some (.int .i64 ((pl nx 1 : Nat) : Int)) := hb_cell N11.out 1
                    have c2 : w11.cell? ⟨w9.heap.size, 2, none⟩ = some (.int .i64 ((pl nx 2 : Nat) : Int)) := hb_cell N11.out 2
                    have c3 : w11.cell? ⟨w9.heap.size, 3, none⟩ = some (.int .i64 ((pl nx 3 : Nat) : Int)) := hb_cell N11.out 3
                    have c4 : w11.cell? ⟨w9.heap.size, 4, none⟩ = some (.int .i64 ((pl nx 4 : Nat) : Int)) := hb_cell N11.out 4
                    have c5 : w11.cell? ⟨w9.heap.size, 5, none⟩ = some (.int .i64 ((pl nx 5 : Nat) : Int)) := hb_cell N11.out 5
                    have l11 := hb_lt N11.out
                    have hB11 : wl.heap.size ≤ (w11.alloc (.cells #[.int .i64 ((pl (nx) 0 : Nat) : Int), .int .i64 ((pl (nx) 1 : Nat) : Int), .int .i64 ((pl (nx) 2 : Nat) : Int), .int .i64 ((pl (nx) 3 : Nat) : Int), .int .i64 ((pl (nx) 4 : Nat) : Int), .int .i64 ((pl (nx) 5 : Nat) : Int)] 68)).heap.size := by have := hsw.out.mid.size; simp; omega
                    have hlen11 : ((half M (nbS ps bs) d N (k + j) at' jj).q.drop (k + n8)).length ≤ 1000000 := by rw [List.length_drop]; have := hqlen.out; omega
                    replace hq := Lib.hid hq
                    replace hlen11 := Lib.hid hlen11
                    go_wp2_with (at_builtin; refine app_plc _ rfl _ _ rfl wl.heap.size _ _ rfl (hn11.out.alloc _) w11.heap.size nx rfl (hb_new _ _) hlen11.out hB11 ?_; intro v' w13 ho13 hg13 hor13; replace ho13 := Lib.hid ho13; replace hg13 := Lib.hid hg13; replace hor13 := Lib.hid hor13)
                    have ho14 := Lib.hid (show OwnG plcE w13 wl.heap.size v' ((half M (nbS ps bs) d N (k + j) at' (jj + 1)).q.drop (k + n8)) by rw [hq.out]; exact ho13.out)
                    have hs14 := Lib.hid ((hs11.below (ba1 w11 _)).grown hg13.out (fun x e => (hn11.out.lt x e).1))
                    have hgl := (hu11.out.lt gu rfl).1
                    have hgl2 := hus7.out gu rfl
                    have hu14 := Lib.hid ((hu11.out.alloc _).kept hg13.out (.inr (fun e => by have := htr.out gu e.symm; omega)))
                    have A14 := Lib.hid ((hg13.out.block wm.heap.size (hb_lt (hb_old _ A11.out)) (fun e => by have := htr.out _ e.symm; omega)).trans (hb_old _ A11.out))
                    have hz13 : w11.heap.size < w13.heap.size := by have := hg13.out.size; simp at this; omega
                    have htr14 := Lib.hid (show ∀ x, v'.ownBlock = some x → x < wm.heap.size ∨ w7.heap.size ≤ x from fun x e => by
                      rcases hor13.out with h | h
                      · exact htr.out x (h.symm.trans e)
                      · rw [h] at e
                        have e := Option.some.inj e
                        simp at e; omega)
                    go_roundw
                    case rel => exact ⟨jj + 1, by omega, by go_num, ho14, hs14, hu14, A14, htr14, Lib.hid (by omega)⟩
                    all_goals (simp [intOf] <;> omega)
                · have hje : jj = nu := by omega
                  have hall : half M (nbS ps bs) d N (k + j) at' jj = run M (nbS ps bs) d (k + j + 1) := half_all hget.out.1 hget.out.2 jj (by unfold nbS; rw [List.length_map, hnu.out]; omega)
                  rw [hall] at hnw hsw
                  clear hall
                  replace hje := Lib.hid hje
                  go_wp2_with fail
                  go_roundw
                  case rel =>
                    exact ⟨j + 1, by omega, by go_num, hnw, hsw⟩
                  all_goals (simp [intOf] <;> omega)
          · obtain rfl : j = n8 := by omega
            have hN1 := hN.out
            have hN2 := hNU.out
            have ho15 := Lib.hid (hnv.out.mono hsj.out.le)
            go_wp2_with fail
            go_roundw
            case rel => exact ⟨k + j, N + 1, _, by go_num, hnx, ho15, hsc⟩
            all_goals (simp [intOf] <;> omega)
end Go.Proofs.Ytcfeaaakfjilgaa
