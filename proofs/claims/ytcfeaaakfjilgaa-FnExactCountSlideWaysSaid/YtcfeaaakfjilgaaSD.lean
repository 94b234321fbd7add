/- Whether a state is among states, by the program. -/
import Derived.Test.YtcfeaaakfjilgaaSC
import Derived.Test.YtcfeaaakfjilgaaJ0
import Derived.BigQuiet
namespace Go.Proofs.Ytcfeaaakfjilgaa
set_option linter.unusedSimpArgs false
set_option linter.unusedVariables false
open Go Go.RowKit RM
abbrev cI (x : Int) : Value := .int .i64 x
theorem all_range_int : ∀ (xs ys : List Int), xs.length = ys.length → ((List.range xs.length).all fun i => xs.getD i 0 == ys.getD i 0) = (xs == ys)
  | [], [], _ => rfl
  | x :: xs, y :: ys, h => by
    have ih := all_range_int xs ys (by simpa using h)
    rw [List.length_cons, List.range_succ_eq_map, List.all_cons, List.all_map]
    simp only [List.getD_cons_zero, Function.comp_def, List.getD_cons_succ, ih]
    simp [List.cons_beq_cons]
  | [], _ :: _, h => by simp at h
  | _ :: _, [], h => by simp at h
theorem equalIn_ints {P : Program} (w : World) (d : Nat) (t e : TypeId) (n : Nat) (ht : P.underlying t = some (.array n e)) (he : P.underlying e = some (.int .i64)) (hsz : ∀ w, (sizeOf e).run P w = .ok 1 w)
    (xs ys : List Int) (hx : xs.length = n) (hy : ys.length = n) :
    (Op.equalIn (d + 2) t (.agg (xs.map cI).toArray) (.agg (ys.map cI).toArray)).run P w = .ok (xs == ys) w := by
  rw [← all_range_int xs ys (hx.trans hy.symm), hx, List.range_eq_range', Op.equalIn]
  simp only [Sem.run_bind, run_underlying ht, Result.andThen_ok, hsz, Std.Legacy.Range.forIn_eq_forIn_range', Std.Legacy.Range.size, Nat.sub_zero, Nat.add_sub_cancel, Nat.div_one]
  have hl : ∀ i ∈ List.range' 0 n 1, i < n := fun i hi => by simpa using (List.mem_range'_1.1 hi).2
  generalize List.range' 0 n 1 = l at hl ⊢
  induction l with
  | nil => simp
  | cons i l ih =>
    have hi : i < n := hl i (by simp)
    have px : (part e (xs.map cI).toArray (i * 1)).run P w = .ok (cI (xs.getD i 0)) w := by
      simp [part, isAgg, run_underlying he, List.getD, List.getElem?_eq_getElem (show i < xs.length by omega)]
    have py : (part e (ys.map cI).toArray (i * 1)).run P w = .ok (cI (ys.getD i 0)) w := by
      simp [part, isAgg, run_underlying he, List.getD, List.getElem?_eq_getElem (show i < ys.length by omega)]
    have pe : (Op.equalIn (d + 1) e (cI (xs.getD i 0)) (cI (ys.getD i 0))).run P w = .ok (xs.getD i 0 == ys.getD i 0) w := by
      rw [cI, cI, run_equalIn_int w d e .i64 .i64 _ _ he]
    simp only [List.forIn_cons, Sem.run_bind, px, py, pe, Result.andThen_ok, List.all_cons]
    cases hb : (xs.getD i 0 == ys.getD i 0)
    · simp
    · simp only [Bool.not_true, Bool.false_eq_true, if_false, Sem.run_pure, Result.andThen_ok, Bool.true_and]
      exact ih fun j hj => hl j (by simp [hj])
def plI (d : List Nat) : List Int := [((pl d 0 : Nat) : Int), ((pl d 1 : Nat) : Int), ((pl d 2 : Nat) : Int), ((pl d 3 : Nat) : Int), ((pl d 4 : Nat) : Int), ((pl d 5 : Nat) : Int)]
theorem szInt (w : World) : (sizeOf 3).run Try.prog w = .ok 1 w := by
  have := Try.sizeOf3 w
  exact this
theorem eq_plc (w : World) (d e : List Nat) : (binOp .eql 68 (.agg #[.int .i64 ((pl (d) 0 : Nat) : Int), .int .i64 ((pl (d) 1 : Nat) : Int), .int .i64 ((pl (d) 2 : Nat) : Int), .int .i64 ((pl (d) 3 : Nat) : Int), .int .i64 ((pl (d) 4 : Nat) : Int), .int .i64 ((pl (d) 5 : Nat) : Int)]) (.agg #[.int .i64 ((pl (e) 0 : Nat) : Int), .int .i64 ((pl (e) 1 : Nat) : Int), .int .i64 ((pl (e) 2 : Nat) : Int), .int .i64 ((pl (e) 3 : Nat) : Int), .int .i64 ((pl (e) 4 : Nat) : Int), .int .i64 ((pl (e) 5 : Nat) : Int)])).run Try.prog w = .ok (.bool (plI d == plI e)) w := by
  have h := equalIn_ints (P := Try.prog) w 9998 68 3 6 arrP.hu Try.underlying3 (fun w => szInt w) (plI d) (plI e) rfl rfl
  rw [run_eql_struct]
  have h2 : (Op.equalIn 10000 68 (.agg #[.int .i64 ((pl (d) 0 : Nat) : Int), .int .i64 ((pl (d) 1 : Nat) : Int), .int .i64 ((pl (d) 2 : Nat) : Int), .int .i64 ((pl (d) 3 : Nat) : Int), .int .i64 ((pl (d) 4 : Nat) : Int), .int .i64 ((pl (d) 5 : Nat) : Int)]) (.agg #[.int .i64 ((pl (e) 0 : Nat) : Int), .int .i64 ((pl (e) 1 : Nat) : Int), .int .i64 ((pl (e) 2 : Nat) : Int), .int .i64 ((pl (e) 3 : Nat) : Int), .int .i64 ((pl (e) 4 : Nat) : Int), .int .i64 ((pl (e) 5 : Nat) : Int)])).run Try.prog w = .ok (plI d == plI e) w := h
  rw [h2]
  rfl
theorem plI_inj {ps d e : List Nat} {bs : List Blk} (hG : GB ps bs) (hd : isSt ps d) (he : isSt ps e) : (plI d == plI e) = decide (d = e) := by
  by_cases h : d = e
  · subst h; simp
  · rw [decide_eq_false h, beq_eq_false_iff_ne]
    intro h2
    apply h
    apply kP_inj hG hd he
    unfold plI at h2
    unfold kP
    simp only [List.cons.injEq] at h2
    obtain ⟨a, b, c, d1, e1, f, -⟩ := h2
    rw [a, b, c, d1, e1, f]
theorem gPl : Try.prog.eqGuardType Try.prog.depth 68 = false := by kernel_rfl
theorem eqg_pl (w : World) (op : BinOp) (x y : Operand) (xs ys : Array Value) : (eqGuard op 68 x y (.agg xs) (.agg ys)).run Try.prog w = .ok () w := run_eqGuard_agg w op _ x y xs ys gPl
theorem memP_snoc {L : List (List Nat)} {m : List Nat} (k : Nat) (hk : k < L.length) (h : m ∉ L.take k) (hne : m ≠ L[k]) : m ∉ L.take (k + 1) := by
  rw [List.take_succ_eq_append_getElem hk]
  intro hm
  rcases List.mem_append.1 hm with h1 | h1
  · exact h h1
  · exact hne (List.mem_singleton.1 h1)
set_option maxRecDepth 100000 in
theorem index_pl (p : Option Addr) (n c : Nat) (ps : List Nat) (bs : List Blk) (L : List (List Nat)) (d : List Nat) (w : World) (hG : GB ps bs) (hn : L.length = n) (hn9 : n ≤ 1000) (hL : ∀ e ∈ L, isSt ps e) (hd : isSt ps d) (h : RG plcE w p L) :
    Calls Try.prog 97 #[.slice p n c, (.agg #[.int .i64 ((pl (d) 0 : Nat) : Int), .int .i64 ((pl (d) 1 : Nat) : Int), .int .i64 ((pl (d) 2 : Nat) : Int), .int .i64 ((pl (d) 3 : Nat) : Int), .int .i64 ((pl (d) 4 : Nat) : Int), .int .i64 ((pl (d) 5 : Nat) : Int)])] w fun e w' => ∃ r : Int, e = .returned (.int .i64 r) ∧ (0 ≤ r ↔ d ∈ L) ∧ Below w.heap.size w w' := by
  replace h := Lib.hid h
  replace hn := Lib.hid hn
  have heq := Lib.hid (fun w (e : List Nat) (he : e ∈ L) => (eq_plc w d e).trans (by rw [plI_inj hG hd (hL e he)]))
  clear hG hL hd
  obtain ⟨w2, hw2⟩ : ∃ w2, Hid (w2 = w.alloc (.cells #[.int .i64 ((pl (d) 0 : Nat) : Int), .int .i64 ((pl (d) 1 : Nat) : Int), .int .i64 ((pl (d) 2 : Nat) : Int), .int .i64 ((pl (d) 3 : Nat) : Int), .int .i64 ((pl (d) 4 : Nat) : Int), .int .i64 ((pl (d) 5 : Nat) : Int)] 68)) := ⟨_, Lib.hid rfl⟩
  have hb2 : Hid (Below w.heap.size w w2) := Lib.hid (by rw [hw2.out]; exact ba1 w _)
  have F := Lib.hid (show w2.heap[w.heap.size]? = some (.cells #[.int .i64 ((pl (d) 0 : Nat) : Int), .int .i64 ((pl (d) 1 : Nat) : Int), .int .i64 ((pl (d) 2 : Nat) : Int), .int .i64 ((pl (d) 3 : Nat) : Int), .int .i64 ((pl (d) 4 : Nat) : Int), .int .i64 ((pl (d) 5 : Nat) : Int)] 68) by rw [hw2.out]; exact hb_new _ _)
  have hl2 : w.heap.size < w2.heap.size := hb_lt F.out
  go_enter Try.func97, Try.ntmps97
  go_wp2_with fail
  rw [← hw2.out]
  go_loopw [5, 8] (fun _ i wr => ∃ k : Nat, k ≤ n ∧ i = .int .i64 k ∧ Hid (d ∉ L.take k) ∧ Hid (Below w2.heap.size w2 wr)) (fun _ i _ => n - (intOf i).toNat)
  case atStart => exact ⟨0, Nat.zero_le _, rfl, Lib.hid (by simp), Lib.hid (Below.refl _ _)⟩
  case round =>
    obtain ⟨k, hk, rfl, ha, hbr⟩ := hrel
    have hb := Lib.hid (bt1 hb2.out hbr.out)
    have Fr := Lib.hid (hb_below hbr.out hl2 F.out)
    have f0 : wr.cell? ⟨w.heap.size, 0, none⟩ = some (.int .i64 ((pl d 0 : Nat) : Int)) := hb_cell Fr.out 0
    have f1 : wr.cell? ⟨w.heap.size, 1, none⟩ = some (.int .i64 ((pl d 1 : Nat) : Int)) := hb_cell Fr.out 1
    have f2 : wr.cell? ⟨w.heap.size, 2, none⟩ = some (.int .i64 ((pl d 2 : Nat) : Int)) := hb_cell Fr.out 2
    have f3 : wr.cell? ⟨w.heap.size, 3, none⟩ = some (.int .i64 ((pl d 3 : Nat) : Int)) := hb_cell Fr.out 3
    have f4 : wr.cell? ⟨w.heap.size, 4, none⟩ = some (.int .i64 ((pl d 4 : Nat) : Int)) := hb_cell Fr.out 4
    have f5 : wr.cell? ⟨w.heap.size, 5, none⟩ = some (.int .i64 ((pl d 5 : Nat) : Int)) := hb_cell Fr.out 5
    have q1 := fun W op x y xs ys => eqg_pl W op x y xs ys
    by_cases hlt : k < n
    · have hkx : k < L.length := by rw [hn.out]; exact hlt
      obtain ⟨g, rfl, hgl, e0, e1, e2, e3, e4, e5⟩ := (h.out.below hb.out).plc hkx
      have hno := Lib.hid (memP_snoc k hkx ha.out)
      have hin : Hid (L[k] ∈ L) := Lib.hid (List.getElem_mem hkx)
      have q2 := fun W => heq.out W L[k] hin.out
      generalize L[k] = l at *
      by_cases hx : d = l
      · subst hx
        rw [decide_eq_true rfl] at q2
        go_wp2_with fail
        go_quiet (fail)
        go_wp2_with fail
        go_ret; exact ⟨_, rfl, ⟨fun _ => hin.out, fun _ => by omega⟩, below_drewN hb.out _⟩
      · rw [decide_eq_false hx] at q2
        replace hx := Lib.hid hx
        go_wp2_with fail
        go_quiet (fail)
        go_wp2_with fail
        go_roundw
        case rel => exact ⟨k + 1, by omega, by go_num, Lib.hid (hno.out hx.out), Lib.hid (below_drewN hbr.out _)⟩
        all_goals (simp [intOf] <;> omega)
    · have HF : Hid (d ∉ L) := Lib.hid (by
        have := ha.out; rwa [List.take_of_length_le (by rw [hn.out]; omega)] at this)
      go_wp2_with fail
      go_ret; exact ⟨_, rfl, ⟨fun e => absurd e (by omega), fun e => absurd e HF.out⟩, hb.out⟩
set_option maxRecDepth 100000 in
theorem contains_pl (p : Option Addr) (n c : Nat) (ps : List Nat) (bs : List Blk) (L : List (List Nat)) (d : List Nat) (w : World) (hG : GB ps bs) (hn : L.length = n) (hn9 : n ≤ 1000) (hL : ∀ e ∈ L, isSt ps e) (hd : isSt ps d) (h : RG plcE w p L) :
    Calls Try.prog 77 #[.slice p n c, (.agg #[.int .i64 ((pl (d) 0 : Nat) : Int), .int .i64 ((pl (d) 1 : Nat) : Int), .int .i64 ((pl (d) 2 : Nat) : Int), .int .i64 ((pl (d) 3 : Nat) : Int), .int .i64 ((pl (d) 4 : Nat) : Int), .int .i64 ((pl (d) 5 : Nat) : Int)])] w fun e w' => e = .returned (.bool (decide (d ∈ L))) ∧ Below w.heap.size w w' := by
  obtain ⟨w2, hw2⟩ : ∃ w2, Hid (w2 = w.alloc (.cells #[.int .i64 ((pl (d) 0 : Nat) : Int), .int .i64 ((pl (d) 1 : Nat) : Int), .int .i64 ((pl (d) 2 : Nat) : Int), .int .i64 ((pl (d) 3 : Nat) : Int), .int .i64 ((pl (d) 4 : Nat) : Int), .int .i64 ((pl (d) 5 : Nat) : Int)] 68)) := ⟨_, Lib.hid rfl⟩
  have hb2 : Hid (Below w.heap.size w w2) := Lib.hid (by rw [hw2.out]; exact ba1 w _)
  have hI := Lib.hid (index_pl p n c ps bs L d w2 hG hn hn9 hL hd (h.below hb2.out))
  have F := Lib.hid (show w2.heap[w.heap.size]? = some (.cells #[.int .i64 ((pl (d) 0 : Nat) : Int), .int .i64 ((pl (d) 1 : Nat) : Int), .int .i64 ((pl (d) 2 : Nat) : Int), .int .i64 ((pl (d) 3 : Nat) : Int), .int .i64 ((pl (d) 4 : Nat) : Int), .int .i64 ((pl (d) 5 : Nat) : Int)] 68) by rw [hw2.out]; exact hb_new _ _)
  have f0 : w2.cell? ⟨w.heap.size, 0, none⟩ = some (.int .i64 ((pl d 0 : Nat) : Int)) := hb_cell F.out 0
  have f1 : w2.cell? ⟨w.heap.size, 1, none⟩ = some (.int .i64 ((pl d 1 : Nat) : Int)) := hb_cell F.out 1
  have f2 : w2.cell? ⟨w.heap.size, 2, none⟩ = some (.int .i64 ((pl d 2 : Nat) : Int)) := hb_cell F.out 2
  have f3 : w2.cell? ⟨w.heap.size, 3, none⟩ = some (.int .i64 ((pl d 3 : Nat) : Int)) := hb_cell F.out 3
  have f4 : w2.cell? ⟨w.heap.size, 4, none⟩ = some (.int .i64 ((pl d 4 : Nat) : Int)) := hb_cell F.out 4
  have f5 : w2.cell? ⟨w.heap.size, 5, none⟩ = some (.int .i64 ((pl d 5 : Nat) : Int)) := hb_cell F.out 5
  clear h hn hG hL hd
  by_cases hin : d ∈ L
  · rw [decide_eq_true hin]
    replace hin := Lib.hid hin
    go_enter Try.func77, Try.ntmps77
    go_wp2_with fail
    rw [← hw2.out]
    go_wp2_with fail
    refine hI.out.mono ?_; rintro e w3 ⟨r, rfl, hr, hb⟩
    have h0 : 0 ≤ r := hr.2 hin.out
    clear hr
    replace hb := Lib.hid hb
    go_wp2_with fail
    go_ret; exact ⟨ret_bool (by simp [h0]), bt1 hb2.out hb.out⟩
  · rw [decide_eq_false hin]
    replace hin := Lib.hid hin
    go_enter Try.func77, Try.ntmps77
    go_wp2_with fail
    rw [← hw2.out]
    go_wp2_with fail
    refine hI.out.mono ?_; rintro e w3 ⟨r, rfl, hr, hb⟩
    have h0 : ¬ 0 ≤ r := fun e => hin.out (hr.1 e)
    clear hr
    replace hb := Lib.hid hb
    go_wp2_with fail
    go_ret; exact ⟨ret_bool (by simp [h0]), bt1 hb2.out hb.out⟩
end Go.Proofs.Ytcfeaaakfjilgaa
