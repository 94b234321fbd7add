/- Numbers of solutions, solutions and the first one, both sides. -/
import Derived.Test.YtnfonoaojkhnkaaDoorPzG
namespace Go.Proofs.YtnfonoaojkhnkaaDoor
open Go Go.RowKit RM
theorem count_any (R : Int) (cs : List Clu) (v : Value) (w : World) (h : RdZ w v R cs) (hT : TabOk w) :
    Calls Tryd.prog 52 #[v] w fun e w' => e = .returned (.int .i64 (solG R cs).length) ∧ Below w.heap.size w w' := by
  obtain ⟨p, c, rfl, hm, hr⟩ := h.form
  have hS := Lib.hid (solve_any R cs _ (w.alloc (puzO R (.slice p cs.length c))) (h.below (ba1 w _)) (hT.below (ba1 w _)))
  generalize goodZ R cs = G at *
  generalize cs.length = m at *
  have hl := solG_len R cs
  generalize solG R cs = L at *
  clear h hm hr hT
  go_enter Tryd.func52, Tryd.ntmps52
  go_wp2_with fail
  refine hS.out.mono ?_; rintro e w3 ⟨v', rfl, ho3, hb3⟩
  obtain ⟨pv, cv, rfl⟩ := ho3.sl
  rw [brX_len]
  replace hb3 := Lib.hid (bt1 (ba1 w _) hb3)
  go_wp2_with fail
  go_ret; exact ⟨rfl, hb3.out⟩

theorem iCountSolutions (R : Int) (cs : List Clu) (v : Value) (w : World) (h : RdZ w v R cs) (hT : TabOk w) :
    Calls Tryd.prog 28 #[v] w fun e w' => e = .returned (.tuple #[.int .i64 (solG R cs).length, .bool (goodZ R cs)]) ∧ Below w.heap.size w w' := by
  obtain ⟨p, c, rfl, hm, hr⟩ := h.form
  have hS := Lib.hid (solve_any R cs _ (w.alloc (puzO R (.slice p cs.length c))) (h.below (ba1 w _)) (hT.below (ba1 w _)))
  generalize goodZ R cs = G at *
  generalize cs.length = m at *
  have hl := solG_len R cs
  generalize solG R cs = L at *
  clear h hm hr hT
  go_enter Tryd.func28, Tryd.ntmps28
  go_wp2_with fail
  refine hS.out.mono ?_; rintro e w3 ⟨v', rfl, ho3, hb3⟩
  obtain ⟨pv, cv, rfl⟩ := ho3.sl
  rw [brX_len]
  replace hb3 := Lib.hid (bt1 (ba1 w _) hb3)
  go_wp2_with fail
  go_ret2; exact ⟨rfl, hb3.out⟩

/-- the first of some solutions, as a text -/
def firstZ (n : Nat) : List Nat → ByteArray
  | [] => ⟨#[]⟩
  | x :: _ => ST n x
theorem iFirst_core (R : Int) (n m c : Nat) (p : Option Addr) (L : List Nat) (ok : Bool) (w : World) (hn : n ≤ 7) (hx : ∀ x ∈ L, x < 128) (hl : L.length ≤ 128)
    (hS : Hid (Calls Tryd.prog 47 #[.agg #[.int .i64 R, .slice p m c]] (w.alloc (puzO R (.slice p m c))) fun e w' => ∃ v', e = .returned (.tuple #[v', .bool ok]) ∧ OwnG brE w' (w.alloc (puzO R (.slice p m c))).heap.size v' (brX n L) ∧ Below (w.alloc (puzO R (.slice p m c))).heap.size (w.alloc (puzO R (.slice p m c))) w')) :
    Calls Tryd.prog 30 #[.agg #[.int .i64 R, .slice p m c]] w fun e w' => e = .returned (.tuple #[.string (firstZ n L), .bool (!L.isEmpty)]) ∧ Below w.heap.size w w' := by
  cases L with
  | nil =>
    go_enter Tryd.func30, Tryd.ntmps30
    go_wp2_with fail
    refine hS.out.mono ?_; rintro e w3 ⟨v', rfl, ho3, hb3⟩
    obtain ⟨pv, cv, rfl⟩ := ho3.sl
    rw [brX_len]
    replace hb3 := Lib.hid (bt1 (ba1 w _) hb3)
    have h0 : ((([] : List Nat).length : Int) == 0) = true := rfl
    go_wp2_with fail
    go_ret2; exact ⟨rfl, hb3.out⟩
  | cons x l =>
    have hX := Lib.hid fun w => text_any n x w (by have := hx x (by simp); omega) (by omega)
    have hlen : (x :: l).length ≤ 128 := hl
    obtain ⟨q, hq⟩ : ∃ q, (x :: l).length = q + 1 := ⟨l.length, rfl⟩
    have hf : Hid (firstZ n (x :: l) = ST n x) := Lib.hid rfl
    have he : Hid ((!(x :: l).isEmpty) = true) := Lib.hid rfl
    rw [hf.out, he.out]
    generalize ST n x = s at *
    go_enter Tryd.func30, Tryd.ntmps30
    go_wp2_with fail
    refine hS.out.mono ?_; rintro e w3 ⟨v', rfl, ho3, hb3⟩
    obtain ⟨pv, cv, e1, hm, hr⟩ := ho3.rd
    subst e1
    obtain ⟨g, rfl, hgl, hc⟩ := hr (by unfold brX; simp)
    rw [brX_len, hq] at *
    have c0 : w3.cell? ⟨g, 0, none⟩ = some (.int .i64 ((ctz x : Nat) : Int)) := hc 0 (by rw [brX_len]; simp) 0 (by decide)
    have c1 : w3.cell? ⟨g, 1, none⟩ = some (.bool (onB x)) := hc 0 (by rw [brX_len]; simp) 1 (by decide)
    have c2 : w3.cell? ⟨g, 2, none⟩ = some (.int .i64 ((n : Nat) : Int)) := hc 0 (by rw [brX_len]; simp) 2 (by decide)
    have c3 : w3.cell? ⟨g, 3, none⟩ = some (.int .u64 ((x : Nat) : Int)) := hc 0 (by rw [brX_len]; simp) 3 (by decide)
    replace hb3 := Lib.hid (bt1 (ba1 w _) hb3)
    have h0 : (((q + 1 : Nat) : Int) == 0) = false := by simp; omega
    have h1 : (0 : Int) < ((q + 1 : Nat) : Int) := by omega
    clear hc hr hm ho3 hx hl hq hlen
    go_wp2_with fail
    refine (hX.out _).mono ?_; rintro e w4 ⟨rfl, hb4⟩
    replace hb4 := Lib.hid (bt1 hb3.out hb4)
    go_wp2_with fail
    go_ret2; exact ⟨rfl, hb4.out⟩

theorem solZ_lt (n : Nat) (cs : List Clu) : ∀ x ∈ solZ n cs, x < 2 ^ n := by
  intro x hx
  unfold solZ at hx
  have := (List.mem_filter.1 hx).1
  obtain ⟨q, hq, rfl⟩ := List.mem_map.1 this
  exact gray_lt n q (List.mem_range.1 hq)
theorem solG_lt (R : Int) (cs : List Clu) : ∀ x ∈ solG R cs, x < 128 := by
  rcases goodZ_cases R cs with h | ⟨n, rfl, h1, h7, hl, ho⟩
  · rw [solG_no h]; intro x hx; cases hx
  · have hg : goodZ n cs = true := by rw [← goodZ_eq n cs h1 h7 hl]; exact ho
    rw [solG_yes hg]
    intro x hx
    have := solZ_lt n cs x hx
    have := pow7 h7
    omega
theorem iFirstSolution (R : Int) (cs : List Clu) (v : Value) (w : World) (h : RdZ w v R cs) (hT : TabOk w) :
    Calls Tryd.prog 30 #[v] w fun e w' => e = .returned (.tuple #[.string (firstZ R.toNat (solG R cs)), .bool (!(solG R cs).isEmpty)]) ∧ Below w.heap.size w w' := by
  obtain ⟨p, c, rfl, hm, hr⟩ := h.form
  have hS := solve_any R cs _ (w.alloc (puzO R (.slice p cs.length c))) (h.below (ba1 w _)) (hT.below (ba1 w _))
  rcases goodZ_cases R cs with hg | ⟨n, rfl, h1, h7, hl, ho⟩
  · have e0 := solG_no hg
    rw [e0] at hS ⊢
    exact iFirst_core R 0 cs.length c p [] _ w (by omega) (fun x hx => by cases hx) (by simp) (Lib.hid (by
      refine hS.mono ?_
      rintro e w' ⟨v', h1, h2, h3⟩
      exact ⟨v', h1, h2, h3⟩))
  · exact iFirst_core n n cs.length c p (solG n cs) _ w h7 (solG_lt n cs) (solG_len n cs) (Lib.hid hS)

end Go.Proofs.YtnfonoaojkhnkaaDoor
