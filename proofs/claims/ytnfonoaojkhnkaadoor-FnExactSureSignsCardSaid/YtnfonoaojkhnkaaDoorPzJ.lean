/- First solutions, solved puzzles, clues and states that fit, both sides; all laws' contracts. -/
import Derived.Test.YtnfonoaojkhnkaaDoorPzI
namespace Go.Proofs.YtnfonoaojkhnkaaDoor
open Go Go.RowKit RM
theorem sFirst_core (n m c : Nat) (L : List Nat) (p : Option Addr) (w : World) (hl : L.length ≤ 128)
    (hS : Hid (∀ W, Below w.heap.size w W → W.heap[w.heap.size]? = some (puzO n (.slice p m c)) → Calls Tryd.prog 46 #[.int .i64 n, .slice p m c] W fun e W' => ∃ v, e = .returned v ∧ OwnT W' W.heap.size v (txZ n L) ∧ Below W.heap.size W W'))
    (hG : Hid (Calls Tryd.prog 38 #[.agg #[.int .i64 n, .slice p m c]] (w.alloc (puzO n (.slice p m c))) fun e w' => e = .returned (.bool true) ∧ Below (w.alloc (puzO n (.slice p m c))).heap.size (w.alloc (puzO n (.slice p m c))) w')) :
    Calls Tryd.prog 29 #[.agg #[.int .i64 n, .slice p m c]] w fun e w' => e = .returned (.tuple #[.string (firstZ n L), .bool (!L.isEmpty)]) ∧ Below w.heap.size w w' := by
  cases L with
  | nil =>
    go_enter Tryd.func29, Tryd.ntmps29
    go_wp2_with fail
    refine hG.out.mono ?_; rintro e w3 ⟨rfl, hb3⟩
    have P3 := Lib.hid (hb_below hb3 (by simp) (hb_new w (puzO n (.slice p m c))))
    replace hb3 := Lib.hid (bt1 (ba1 w _) hb3)
    have hA3 := Lib.hid (hS.out w3 hb3.out P3.out)
    have f0 : w3.cell? ⟨w.heap.size, 0, none⟩ = some (.int .i64 n) := hb_cell P3.out 0
    have f1 : w3.cell? ⟨w.heap.size, 1, none⟩ = some (.slice p m c) := hb_cell P3.out 1
    go_wp2_with fail
    refine hA3.out.mono ?_; rintro e w4 ⟨lv, rfl, ho4, hb4⟩
    obtain ⟨pv, cv, rfl⟩ := ho4.slT
    rw [txZ_len]
    replace hb4 := Lib.hid (bt1 hb3.out hb4)
    have h0 : ((([] : List Nat).length : Int) == 0) = true := rfl
    clear ho4
    go_wp2_with fail
    go_ret2; exact ⟨rfl, hb4.out⟩
  | cons x l =>
    obtain ⟨q, hq⟩ : ∃ q, (x :: l).length = q + 1 := ⟨l.length, rfl⟩
    have hf : Hid (firstZ n (x :: l) = ST n x) := Lib.hid rfl
    have he : Hid ((!(x :: l).isEmpty) = true) := Lib.hid rfl
    rw [hf.out, he.out]
    have hgt : Hid ((txZ n (x :: l))[0]? = some (ST n x)) := Lib.hid rfl
    generalize ST n x = s at *
    go_enter Tryd.func29, Tryd.ntmps29
    go_wp2_with fail
    refine hG.out.mono ?_; rintro e w3 ⟨rfl, hb3⟩
    have P3 := Lib.hid (hb_below hb3 (by simp) (hb_new w (puzO n (.slice p m c))))
    replace hb3 := Lib.hid (bt1 (ba1 w _) hb3)
    have hA3 := Lib.hid (hS.out w3 hb3.out P3.out)
    have f0 : w3.cell? ⟨w.heap.size, 0, none⟩ = some (.int .i64 n) := hb_cell P3.out 0
    have f1 : w3.cell? ⟨w.heap.size, 1, none⟩ = some (.slice p m c) := hb_cell P3.out 1
    go_wp2_with fail
    refine hA3.out.mono ?_; rintro e w4 ⟨lv, rfl, ho4, hb4⟩
    rcases ho4.form with ⟨_, e2⟩ | ⟨g, cap, rfl, _, hgl, hc, _, _⟩
    · have := congrArg List.length e2
      rw [txZ_len, hq] at this
      simp at this
    · have hc0 := hc 0 (by rw [txZ_len, hq]; omega)
      have h00 := hgt.out
      rw [List.getElem?_eq_getElem (by rw [txZ_len, hq]; omega)] at h00
      rw [Option.some.inj h00] at hc0
      rw [txZ_len, hq]
      replace hb4 := Lib.hid (bt1 hb3.out hb4)
      have h0 : (((q + 1 : Nat) : Int) == 0) = false := by simp; omega
      have h1 : (0 : Int) < ((q + 1 : Nat) : Int) := by omega
      clear ho4 hc h00 hq hl
      go_wp2_with fail
      go_ret2; exact ⟨rfl, hb4.out⟩

theorem sFirst_no (R : Int) (m c : Nat) (p : Option Addr) (w : World)
    (hG : Hid (Calls Tryd.prog 38 #[.agg #[.int .i64 R, .slice p m c]] (w.alloc (puzO R (.slice p m c))) fun e w' => e = .returned (.bool false) ∧ Below (w.alloc (puzO R (.slice p m c))).heap.size (w.alloc (puzO R (.slice p m c))) w')) :
    Calls Tryd.prog 29 #[.agg #[.int .i64 R, .slice p m c]] w fun e w' => e = .returned (.tuple #[.string ⟨#[]⟩, .bool false]) ∧ Below w.heap.size w w' := by
  go_enter Tryd.func29, Tryd.ntmps29
  go_wp2_with fail
  refine hG.out.mono ?_; rintro e w3 ⟨rfl, hb3⟩
  replace hb3 := Lib.hid (bt1 (ba1 w _) hb3)
  go_wp2_with fail
  go_ret2; exact ⟨rfl, hb3.out⟩

theorem sFirstSolution (R : Int) (cs : List Clu) (v : Value) (w : World) (h : RdZ w v R cs) :
    Calls Tryd.prog 29 #[v] w fun e w' => e = .returned (.tuple #[.string (firstZ R.toNat (solG R cs)), .bool (!(solG R cs).isEmpty)]) ∧ Below w.heap.size w w' := by
  obtain ⟨p, c, rfl, hm, hr⟩ := h.form
  have hG := pzGood_any _ R cs _ (h.below (ba1 w (puzO R (.slice p cs.length c))))
  rcases goodZ_cases R cs with hg | ⟨n, rfl, h1, h7, hl, hok⟩
  · rw [solG_no hg]
    rw [hg] at hG
    exact sFirst_no R cs.length c p w (Lib.hid hG)
  · have hg : goodZ n cs = true := by rw [← goodZ_eq n cs h1 h7 hl]; exact hok
    rw [solG_yes hg]
    rw [hg] at hG
    exact sFirst_core n cs.length c (solZ n cs) p w (solZ_len n cs h7) (Lib.hid fun W hb _ => pzAll_any n p c cs W h1 h7 hl hok (hr.below hb)) (Lib.hid hG)

theorem pzSolved_any (n : Nat) (p : Option Addr) (c : Nat) (cs : List Clu) (w : World) (h1 : 1 ≤ n) (h7 : n ≤ 7) (hl : cs.length ≤ 6) (hok : cs.all (cluOk n) = true) (hr : RG cluE w p cs) :
    Calls Tryd.prog 51 #[.int .i64 n, .slice p cs.length c] w fun e w' => e = .returned (.bool (((solZ n cs).length : Int) == 1)) ∧ Below w.heap.size w w' := by
  have hA := Lib.hid (pzAll_any n p c cs w h1 h7 hl hok hr)
  have hlen := solZ_len n cs h7
  generalize solZ n cs = L at *
  generalize cs.length = m at *
  go_enter Tryd.func51, Tryd.ntmps51
  go_wp2_with fail
  refine hA.out.mono ?_; rintro e w4 ⟨lv, rfl, ho4, hb4⟩
  obtain ⟨pv, cv, rfl⟩ := ho4.slT
  rw [txZ_len]
  clear ho4
  replace hb4 := Lib.hid hb4
  go_wp2_with fail
  go_ret; exact ⟨rfl, hb4.out⟩

theorem sIsSolved (R : Int) (cs : List Clu) (v : Value) (w : World) (h : RdZ w v R cs) :
    Calls Tryd.prog 33 #[v] w fun e w' => e = .returned (.tuple #[.bool (((solG R cs).length : Int) == 1), .bool (goodZ R cs)]) ∧ Below w.heap.size w w' := by
  obtain ⟨p, c, rfl, hm, hr⟩ := h.form
  obtain ⟨w2, hw2⟩ : ∃ w2, Hid (w2 = w.alloc (puzO R (.slice p cs.length c))) := ⟨_, Lib.hid rfl⟩
  have hb2 : Hid (Below w.heap.size w w2) := Lib.hid (by rw [hw2.out]; exact ba1 w _)
  have hG := Lib.hid (pzGood_any _ R cs w2 (h.below hb2.out))
  have P2 := Lib.hid (show w2.heap[w.heap.size]? = some (puzO R (.slice p cs.length c)) by rw [hw2.out]; exact hb_new _ _)
  rcases goodZ_cases R cs with hg | ⟨n, rfl, h1, h7, hl, hok⟩
  · have e0 : (((solG R cs).length : Int) == 1) = false := by rw [solG_no hg]; rfl
    rw [e0, hg]
    rw [hg] at hG
    generalize cs.length = m at *
    clear hg e0 hm hr h
    go_enter Tryd.func33, Tryd.ntmps33
    go_wp2_with fail
    rw [← hw2.out]
    refine hG.out.mono ?_; rintro e w3 ⟨rfl, hb3⟩
    replace hb3 := Lib.hid (bt1 hb2.out hb3)
    go_wp2_with fail
    go_ret2; exact ⟨rfl, hb3.out⟩
  · have hg : goodZ n cs = true := by rw [← goodZ_eq n cs h1 h7 hl]; exact hok
    rw [solG_yes hg, hg]
    rw [hg] at hG
    have hA := Lib.hid fun W (hb : Below w.heap.size w W) => pzSolved_any n p c cs W h1 h7 hl hok (hr.below hb)
    generalize (((solZ n cs).length : Int) == 1) = K at *
    generalize cs.length = m at *
    clear hg hm hr h hok
    go_enter Tryd.func33, Tryd.ntmps33
    go_wp2_with fail
    rw [← hw2.out]
    refine hG.out.mono ?_; rintro e w3 ⟨rfl, hb3⟩
    have P3 := Lib.hid (hb_below hb3 (hb_lt P2.out) P2.out)
    have f0 : w3.cell? ⟨w.heap.size, 0, none⟩ = some (.int .i64 n) := hb_cell P3.out 0
    have f1 : w3.cell? ⟨w.heap.size, 1, none⟩ = some (.slice p m c) := hb_cell P3.out 1
    replace hb3 := Lib.hid (bt1 hb2.out hb3)
    go_wp2_with fail
    refine (hA.out _ hb3.out).mono ?_; rintro e w4 ⟨rfl, hb4⟩
    replace hb4 := Lib.hid (bt1 hb3.out hb4)
    go_wp2_with fail
    go_ret2; exact ⟨rfl, hb4.out⟩

theorem IsPuzzle_both (R : Int) (cs : List Clu) : ∃ r0 : Bool,
    (∀ w v, RdZ w v R cs → Calls Tryd.prog 15 #[v] w fun e w' => e = .returned (.bool r0) ∧ Below w.heap.size w w') ∧
    (∀ w v, TabOk w → RdZ w v R cs → Calls Tryd.prog 17 #[v] w fun e w' => e = .returned (.bool r0) ∧ Below w.heap.size w w') :=
  ⟨_, fun w v h => sIsPuzzle R cs v w h, fun w v hT h => iIsPuzzle R cs v w h hT⟩

theorem CountSolutions_both (R : Int) (cs : List Clu) : ∃ (r0 : Int) (r1 : Bool),
    (∀ w v, RdZ w v R cs → Calls Tryd.prog 27 #[v] w fun e w' => e = .returned (.tuple #[.int .i64 r0, .bool r1]) ∧ Below w.heap.size w w') ∧
    (∀ w v, TabOk w → RdZ w v R cs → Calls Tryd.prog 28 #[v] w fun e w' => e = .returned (.tuple #[.int .i64 r0, .bool r1]) ∧ Below w.heap.size w w') :=
  ⟨_, _, fun w v h => sCountSolutions R cs v w h, fun w v hT h => iCountSolutions R cs v w h hT⟩

theorem FirstSolution_both (R : Int) (cs : List Clu) : ∃ (r0 : ByteArray) (r1 : Bool),
    (∀ w v, RdZ w v R cs → Calls Tryd.prog 29 #[v] w fun e w' => e = .returned (.tuple #[.string r0, .bool r1]) ∧ Below w.heap.size w w') ∧
    (∀ w v, TabOk w → RdZ w v R cs → Calls Tryd.prog 30 #[v] w fun e w' => e = .returned (.tuple #[.string r0, .bool r1]) ∧ Below w.heap.size w w') :=
  ⟨_, _, fun w v h => sFirstSolution R cs v w h, fun w v hT h => iFirstSolution R cs v w h hT⟩

theorem IsSolved_both (R : Int) (cs : List Clu) : ∃ (r0 r1 : Bool),
    (∀ w v, RdZ w v R cs → Calls Tryd.prog 33 #[v] w fun e w' => e = .returned (.tuple #[.bool r0, .bool r1]) ∧ Below w.heap.size w w') ∧
    (∀ w v, TabOk w → RdZ w v R cs → Calls Tryd.prog 34 #[v] w fun e w' => e = .returned (.tuple #[.bool r0, .bool r1]) ∧ Below w.heap.size w w') :=
  ⟨_, _, fun w v h => sIsSolved R cs v w h, fun w v hT h => iIsSolved R cs v w h hT⟩

theorem Solutions_both (R : Int) (cs : List Clu) : ∃ (r : List ByteArray) (ok : Bool), r.length ≤ 2000000 ∧
    (∀ w v, RdZ w v R cs → Calls Tryd.prog 21 #[v] w fun e w' => RetT w r ok e w') ∧
    (∀ w v, TabOk w → RdZ w v R cs → Calls Tryd.prog 22 #[v] w fun e w' => RetT w r ok e w') :=
  ⟨_, _, by rw [txZ_len]; have := solG_len R cs; omega, fun w v h => sSolutions R cs v w h, fun w v hT h => iSolutions R cs v w h hT⟩

end Go.Proofs.YtnfonoaojkhnkaaDoor
