/- Whether a slide is among slides. -/
import Derived.Test.YtjhljhopmfefhabJ0
import Derived.BigQuiet
namespace Go.Proofs.Ytjhljhopmfefhab
open Go Go.RowKit RM
theorem mem_snoc {L : List (Int × Int)} {m : Int × Int} (k : Nat) (hk : k < L.length) (h : m ∉ L.take k) (hne : m ≠ L[k]) : m ∉ L.take (k + 1) := by
  rw [List.take_succ_eq_append_getElem hk]
  intro hm
  rcases List.mem_append.1 hm with h1 | h1
  · exact h h1
  · exact hne (List.mem_singleton.1 h1)
theorem index_sl (p : Option Addr) (n c : Nat) (L : List (Int × Int)) (x y : Int) (w : World) (hn : L.length = n) (hn9 : n ≤ 1000) (h : RG slE w p L) :
    Calls Try.prog 77 #[.slice p n c, .agg #[.int .i64 x, .int .i64 y]] w fun e w' => ∃ r : Int, e = .returned (.int .i64 r) ∧ (0 ≤ r ↔ (x, y) ∈ L) ∧ Below w.heap.size w w' := by
  replace h := Lib.hid h
  replace hn := Lib.hid hn
  obtain ⟨w2, hw2⟩ : ∃ w2, Hid (w2 = w.alloc (.cells #[.int .i64 x, .int .i64 y] 57)) := ⟨_, Lib.hid rfl⟩
  have hb2 : Hid (Below w.heap.size w w2) := Lib.hid (by rw [hw2.out]; exact ba1 w _)
  have F := Lib.hid (show w2.heap[w.heap.size]? = some (.cells #[.int .i64 x, .int .i64 y] 57) by rw [hw2.out]; exact hb_new _ _)
  have hl2 : w.heap.size < w2.heap.size := hb_lt F.out
  go_enter Try.func77, Try.ntmps77
  go_wp2_with fail
  rw [← hw2.out]
  go_loopw [5, 8] (fun _ i wr => ∃ k : Nat, k ≤ n ∧ i = .int .i64 k ∧ Hid ((x, y) ∉ L.take k) ∧ Hid (Below w2.heap.size w2 wr)) (fun _ i _ => n - (intOf i).toNat)
  case atStart => exact ⟨0, Nat.zero_le _, rfl, Lib.hid (by simp), Lib.hid (Below.refl _ _)⟩
  case round =>
    obtain ⟨k, hk, rfl, ha, hbr⟩ := hrel
    have hb := Lib.hid (bt1 hb2.out hbr.out)
    have Fr := Lib.hid (hb_below hbr.out hl2 F.out)
    have f0 : wr.cell? ⟨w.heap.size, 0, none⟩ = some (.int .i64 x) := hb_cell Fr.out 0
    have f1 : wr.cell? ⟨w.heap.size, 1, none⟩ = some (.int .i64 y) := hb_cell Fr.out 1
    have q1 := fun W op x y xs ys => eqg_sl W op x y xs ys
    by_cases hlt : k < n
    · have hkx : k < L.length := by rw [hn.out]; exact hlt
      obtain ⟨g, rfl, hgl, e0, e1⟩ := (h.out.below hb.out).sl hkx
      have hno := Lib.hid (mem_snoc k hkx ha.out)
      obtain ⟨lx, ly, hke⟩ : ∃ a b, L[k] = (a, b) := ⟨_, _, rfl⟩
      have hin : Hid ((lx, ly) ∈ L) := Lib.hid (by rw [← hke]; exact List.getElem_mem hkx)
      rw [hke] at e0 e1 hno
      clear hke
      by_cases hx : x = lx ∧ y = ly
      · obtain ⟨rfl, rfl⟩ := hx
        have q2 : ∀ W, (binOp .eql 57 (.agg #[.int .i64 x, .int .i64 y]) (.agg #[.int .i64 x, .int .i64 y])).run Try.prog W = .ok (.bool true) W := by intro W; rw [eq_sl]; simp
        go_wp2_with fail
        go_quiet (fail)
        go_wp2_with fail
        go_ret; exact ⟨_, rfl, ⟨fun _ => hin.out, fun _ => by omega⟩, below_drewN hb.out _⟩
      · have hne : Hid ((x, y) ≠ (lx, ly)) := Lib.hid (fun e => hx ⟨congrArg Prod.fst e, congrArg Prod.snd e⟩)
        have q2 : ∀ W, (binOp .eql 57 (.agg #[.int .i64 x, .int .i64 y]) (.agg #[.int .i64 lx, .int .i64 ly])).run Try.prog W = .ok (.bool false) W := by intro W; rw [eq_sl]; simp; simpa using hx
        clear hx
        go_wp2_with fail
        go_quiet (fail)
        go_wp2_with fail
        go_roundw
        case rel => exact ⟨k + 1, by omega, by go_num, Lib.hid (hno.out hne.out), Lib.hid (below_drewN hbr.out _)⟩
        all_goals (simp [intOf] <;> omega)
    · have HF : Hid ((x, y) ∉ L) := Lib.hid (by
        have := ha.out; rwa [List.take_of_length_le (by rw [hn.out]; omega)] at this)
      go_wp2_with fail
      go_ret; exact ⟨_, rfl, ⟨fun e => absurd e (by omega), fun e => absurd e HF.out⟩, hb.out⟩
theorem contains_sl (p : Option Addr) (n c : Nat) (L : List (Int × Int)) (x y : Int) (w : World) (hn : L.length = n) (hn9 : n ≤ 1000) (h : RG slE w p L) :
    Calls Try.prog 60 #[.slice p n c, .agg #[.int .i64 x, .int .i64 y]] w fun e w' => e = .returned (.bool (decide ((x, y) ∈ L))) ∧ Below w.heap.size w w' := by
  obtain ⟨w2, hw2⟩ : ∃ w2, Hid (w2 = w.alloc (.cells #[.int .i64 x, .int .i64 y] 57)) := ⟨_, Lib.hid rfl⟩
  have hb2 : Hid (Below w.heap.size w w2) := Lib.hid (by rw [hw2.out]; exact ba1 w _)
  have hI := Lib.hid (index_sl p n c L x y w2 hn hn9 (h.below hb2.out))
  have F := Lib.hid (show w2.heap[w.heap.size]? = some (.cells #[.int .i64 x, .int .i64 y] 57) by rw [hw2.out]; exact hb_new _ _)
  have f0 : w2.cell? ⟨w.heap.size, 0, none⟩ = some (.int .i64 x) := hb_cell F.out 0
  have f1 : w2.cell? ⟨w.heap.size, 1, none⟩ = some (.int .i64 y) := hb_cell F.out 1
  clear h hn
  by_cases hin : (x, y) ∈ L
  · rw [decide_eq_true hin]
    replace hin := Lib.hid hin
    go_enter Try.func60, Try.ntmps60
    go_wp2_with fail
    rw [← hw2.out]
    go_wp2_with fail
    refine hI.out.mono ?_; rintro e w3 ⟨r, rfl, hr, hb⟩
    have h0 : 0 ≤ r := hr.2 hin.out
    clear hr
    replace hb := Lib.hid hb
    go_wp2_with fail
    go_ret; exact ⟨ret_bool (by simp [h0]), bt1 hb2.out hb.out⟩
  · rw [decide_eq_false hin]
    replace hin := Lib.hid hin
    go_enter Try.func60, Try.ntmps60
    go_wp2_with fail
    rw [← hw2.out]
    go_wp2_with fail
    refine hI.out.mono ?_; rintro e w3 ⟨r, rfl, hr, hb⟩
    have h0 : ¬ 0 ≤ r := fun e => hin.out (hr.1 e)
    clear hr
    replace hb := Lib.hid hb
    go_wp2_with fail
    go_ret; exact ⟨ret_bool (by simp [h0]), bt1 hb2.out hb.out⟩
theorem toSlide_any (x y : Int) (w : World) : Calls Try.prog 33 #[.agg #[.int .i64 x, .int .i64 y]] w fun e w' => e = .returned (.agg #[.int .i64 x, .int .i64 y]) ∧ Below w.heap.size w w' := by
  go_enter Try.func33, Try.ntmps33
  go_wp2_with fail
  refine bodyPost_ret (v := .agg #[.int .i64 x, .int .i64 y]) ?_ rfl ⟨rfl, ?_⟩
  · simp [results, Try.results33, go_sem]
  · exact ((ba1 w _).alloc (by simp) _).alloc (by simp; omega) _
end Go.Proofs.Ytjhljhopmfefhab
