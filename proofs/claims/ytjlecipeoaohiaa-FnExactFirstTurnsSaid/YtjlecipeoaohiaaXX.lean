/- The number of a state of a box, and the state with a number, by the model; all turns, by the model. -/
import Derived.Test.YtjlecipeoaohiaaXT
import Derived.Test.YtjlecipeoaohiaaXH
import Derived.Test.YtjlecipeoaohiaaXI
import Derived.Test.YtjlecipeoaohiaaRR
import Derived.BigQuiet
import Derived.Deep.QuietTactic
namespace Go.Proofs.Ytjlecipeoaohiaa
open Go Go.RowKit RM
theorem GX.univ {p s : Nat} {rs : List ByteArray} (h : GX p s rs) : Univ (nbX p s rs) (allX p s) := univX h.all h.len h.s2
theorem nX_take (s : Nat) (d : List Nat) (k : Nat) (h : k < d.length) : nX s (d.take (k + 1)) = nX s (d.take k) * s + d.getD k 0 := by
  rw [List.take_succ_eq_append_getElem h, nX_snoc, getD_at d k 0 h]
theorem nX_takeLe {p s : Nat} {d : List Nat} (h : stOk p s d) (hs : s ≤ 5) (k : Nat) (hk : k ≤ 6) : nX s (d.take k) ≤ 15625 := by
  have h1 := nX_lt (s := s) (d.take k) (fun x hx => stOk_mem h x (List.mem_of_mem_take hx))
  have h2 := pow_small hs (d.take k).length (by rw [List.length_take]; omega)
  omega
theorem bxval_eq (zx y N : Nat) (h1 : zx ≤ 100000) (h2 : y ≤ 9) (h : N = zx + y) : wrap64 ((zx : Int) + (48 + (y : Int) - 48)) = (N : Int) := by
  have e : (zx : Int) + (48 + (y : Int) - 48) = (N : Int) := by omega
  rw [e]; unfold wrap64; omega
set_option maxRecDepth 100000 in
set_option maxHeartbeats 1000000 in
theorem bxNumber_any (p s : Nat) (u : Value) (d : List Nat) (w : World) (hp : p ≤ 6) (hs1 : 2 ≤ s) (hs : s ≤ 5) (hd : stOk p s d) :
    Calls Try.prog 67 #[.agg #[.int .i64 p, .int .i64 s, u], .string (tS d)] w fun e w' => e = .returned (.int .i64 ((nX s d : Nat) : Int)) ∧ Below w.heap.size w w' := by
  have hsz := tS_size d
  have hN : nX s d = nX s (d.take d.length) := by rw [List.take_length]
  rw [hN]
  have h0 : nX s (d.take 0) = 0 := rfl
  have hst := Lib.hid (fun k hk => nX_take s d k hk)
  have hle := Lib.hid (fun k hk => nX_takeLe hd hs k hk)
  have hch := Lib.hid (fun k (hk : k < (tS d).size) => tS_get d k hk)
  have hdg := Lib.hid (fun k => stOk_getD hd (by omega) k)
  have hl : d.length ≤ 6 := by rw [hd.1]; exact hp
  rw [← hsz] at hst hl ⊢
  obtain ⟨t, ht⟩ : ∃ t, tS d = t := ⟨_, rfl⟩
  rw [ht] at hst hl hch ⊢
  obtain ⟨f, hf⟩ : ∃ f : Nat → Nat, f = fun k => nX s (d.take k) := ⟨_, rfl⟩
  have hstf := Lib.hid (fun k hk => show f (k + 1) = f k * s + d.getD k 0 by rw [hf]; exact hst.out k hk)
  have hlef := Lib.hid (fun k hk => show f k ≤ 15625 by rw [hf]; exact hle.out k hk)
  have h0f : f 0 = 0 := by rw [hf]; exact h0
  have e9 : nX s (d.take t.size) = f t.size := by rw [hf]
  rw [e9]
  clear e9 hf hst hle h0 ht hsz hN hd
  replace h0f := Lib.hid h0f
  obtain ⟨w1, hw1⟩ : ∃ w1, Hid (w1 = (w.alloc (boxO p s u)).iter t 0) := ⟨_, Lib.hid rfl⟩
  have hb1 : Hid (Below w.heap.size w w1) := Lib.hid (by rw [hw1.out]; exact (ba1 w _).alloc (by simp) (.stringIter t 0))
  have F1 := Lib.hid (show w1.heap[w.heap.size]? = some (boxO p s u) by rw [hw1.out]; exact hb_old (.stringIter t 0) (hb_new _ _))
  have I1 := Lib.hid (show w1.heap[w.heap.size + 1]? = some (.stringIter t 0) by rw [hw1.out]; exact hb_new' (w.alloc (boxO p s u)) (.stringIter t 0) _ (by simp))
  go_enter Try.func67, Try.ntmps67
  go_wp2_with fail
  rw [← hw1.out]
  go_loopw [5, 6] (fun n _ wr => ∃ k : Nat, k ≤ t.size ∧ n = .int .i64 ((f k : Nat) : Int) ∧ wr.heap[w.heap.size + 1]? = some (.stringIter t k) ∧ Hid (Below (w.heap.size + 1) w1 wr)) (fun _ _ wr => t.size - wr.iterPos (w.heap.size + 1))
  case atStart => exact ⟨0, Nat.zero_le _, by rw [h0f.out]; rfl, I1.out, Lib.hid (Below.refl _ _)⟩
  case round =>
    obtain ⟨k, hkk, rfl, hit, hb⟩ := hrel
    have hlt0 := lt_of_block hit
    have hpos : wr.iterPos (w.heap.size + 1) = k := iterPos_of hit
    by_cases hlt : k < t.size
    · have hnx := fun ty => Lib.run_next_any_at (P := Try.prog) wr (w.heap.size + 1) t k ty hit hlt
      have hcn : t[k].toNat = 48 + d.getD k 0 := by rw [hch.out k hlt]; exact u8_dig _ (by have := hdg.out k; omega)
      have hdec : (Utf8.decode t k).2 = 1 := by rw [decode_ascii t k hlt (by have := hdg.out k; omega)]
      generalize Utf8.decode t k = D at *
      have hit2 := Lib.iterAt_heap wr (w.heap.size + 1) t k (k + D.2) hit
      have hb2 := Lib.hid (Lib.below_iterAt hb.out (k := w.heap.size + 1) (Nat.le_refl _) t (k + D.2))
      obtain ⟨W1, hW1⟩ : ∃ W1, W1 = wr.iterAt (w.heap.size + 1) t (k + D.2) := ⟨_, rfl⟩
      rw [← hW1] at hnx hit2 hb2
      have hpos2 : W1.iterPos (w.heap.size + 1) = k + D.2 := iterPos_of hit2
      rw [hdec] at hit2 hpos2
      replace hit2 := Lib.hid hit2
      replace hpos2 := Lib.hid hpos2
      clear hW1 hit hb hdec
      have F2 := Lib.hid (hb_below hb2.out (by omega) F1.out)
      have f1 : W1.cell? ⟨w.heap.size, 1, none⟩ = some (.int .i64 s) := hb_cell F2.out 1
      have hb1' := hlef.out k (by omega)
      have hb2' := hlef.out (k + 1) (by omega)
      have hdk := hdg.out k
      have hnn := hstf.out k hlt
      rw [hnn] at hb2'
      generalize d.getD k 0 = y at *
      generalize f k = z at *
      have ew : IntKind.i64.wrap ((z : Int) * (s : Int)) = ((z * s : Nat) : Int) := by rw [IntKind.wrap_i64, ← Int.natCast_mul]; omega
      generalize hzx : z * s = zx at *
      obtain ⟨N, hN⟩ : ∃ N, f (k + 1) = N := ⟨_, rfl⟩
      rw [hN] at hnn
      replace hN := Lib.hid hN
      replace hnn := Lib.hid hnn
      replace hcn := Lib.hid hcn
      clear hzx
      go_upto_region 5 with fail
      go_quiet (fail)
      go_wp2_with fail
      go_roundw
      case rel => exact ⟨k + 1, by omega, congrArg (Value.int .i64) (by have h1 := hcn.out; have h2 := hnn.out; have h3 := hN.out; omega), hit2.out, Lib.hid (below_drewN hb2.out _)⟩
      case measure => rw [hpos]; show _ - W1.iterPos (w.heap.size + 1) < _; rw [hpos2.out]; omega
    · obtain rfl : k = t.size := by omega
      have hnx : ∀ ty, (Instr.next (.pointer (some ⟨w.heap.size + 1, 0, none⟩)) true ty).run Try.prog wr = .ok (.tuple #[.bool false]) wr := fun ty => Lib.run_next_end_at (P := Try.prog) wr (w.heap.size + 1) t _ ty hit hlt
      go_wp2_with fail
      go_ret
      exact ⟨rfl, hb1.out.trans (hb.out.mono (by omega))⟩
end Go.Proofs.Ytjlecipeoaohiaa
