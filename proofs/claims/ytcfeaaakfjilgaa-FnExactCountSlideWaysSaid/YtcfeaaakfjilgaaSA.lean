/- Maps whose keys are places: what they hold. -/
import Derived.Test.YtcfeaaakfjilgaaE7
import Derived.Test.YtcfeaaakfjilgaaF4
import Derived.Maps.OwnOps
import Derived.Maps.OwnSet
import Derived.Maps.RangeWalk
import Derived.Maps.Views
import Derived.WideKeyArr
import Derived.DeepKeys3
namespace Go.Proofs.Ytcfeaaakfjilgaa
set_option linter.unusedSimpArgs false
set_option linter.unusedVariables false
open Go Go.RowKit RM Go.Maps Go.WideMaps
theorem arrP : ArrKey Try.prog 68 3 6 := ⟨Try.underlying68, by kernel_rfl, by kernel_rfl, by kernel_rfl⟩
theorem lawP : Keyed Try.prog 68 := Keyed.of_law (deep_law (m := 3) (by decide) (by kernel_rfl) (by kernel_rfl) (by kernel_rfl))
/-- a state as the key of a map -/
def kP (d : List Nat) : Lit := .string (keyBytes [.int .i64 ((pl d 0 : Nat) : Int), .int .i64 ((pl d 1 : Nat) : Int), .int .i64 ((pl d 2 : Nat) : Int), .int .i64 ((pl d 3 : Nat) : Int), .int .i64 ((pl d 4 : Nat) : Int), .int .i64 ((pl d 5 : Nat) : Int)])
theorem wf_small (n : Nat) (h : n ≤ 1000000) : (Lit.int .i64 (n : Int)).wf = true := by
  show (decide (IntKind.i64.min ≤ (n : Int)) && decide ((n : Int) ≤ IntKind.i64.max)) = true
  rw [Bool.and_eq_true, decide_eq_true_eq, decide_eq_true_eq]
  show (-9223372036854775808 : Int) ≤ (n : Int) ∧ (n : Int) ≤ 9223372036854775807
  omega
set_option maxRecDepth 100000 in
theorem keyP (d : List Nat) (h : ∀ i, pl d i ≤ 9) : keyOf Try.prog 68 (.agg #[.int .i64 ((pl (d) 0 : Nat) : Int), .int .i64 ((pl (d) 1 : Nat) : Int), .int .i64 ((pl (d) 2 : Nat) : Int), .int .i64 ((pl (d) 3 : Nat) : Int), .int .i64 ((pl (d) 4 : Nat) : Int), .int .i64 ((pl (d) 5 : Nat) : Int)]) = some (kP d) := by
  have hkt : Try.prog.keyType 68 = true := by kernel_rfl
  obtain ⟨m, hm⟩ : ∃ m, Try.prog.types.size = m + 1 := by
    have h0 : decide (0 < Try.prog.types.size) = true := by kernel_rfl
    have h1 := of_decide_eq_true h0
    exact ⟨Try.prog.types.size - 1, by omega⟩
  have w := fun i => wf_small (pl d i) (by have := h i; omega)
  have he : Try.prog.underlying 3 = some (.int .i64) := Try.underlying3
  unfold kP
  have w0 := w 0
  have w1 := w 1
  have w2 := w 2
  have w3 := w 3
  have w4 := w 4
  have w5 := w 5
  unfold keyOf
  simp only [arrP.hu]
  rw [if_pos (by simp [hkt, Value.formed, arrP.hu, arrP.size]), hm]
  unfold Program.keyLits
  simp only [arrP.hu, Value.cells]
  rw [if_pos (by rw [arrP.size]; rfl), show List.range 6 = [0, 1, 2, 3, 4, 5] from rfl]
  simp only [List.mapM_cons, List.mapM_nil]
  simp [arrP.one, Program.keyLits, he, w0, w1, w2, w3, w4, w5]
theorem st_pl {ps d : List Nat} (h6 : ps.length ≤ 6) (hp : ∀ i, i < ps.length → ps.getD i 1 ≤ 5) (hd : isSt ps d) (i : Nat) : pl d i ≤ 9 := by
  unfold pl
  by_cases hi : i < ps.length
  · have := hd.2 i hi; have := hp i hi; omega
  · rw [List.getD_eq_getElem?_getD, List.getElem?_eq_none (by rw [hd.1]; omega)]; simp
theorem keyS {ps d : List Nat} {bs : List Blk} (hG : GB ps bs) (hd : isSt ps d) : keyOf Try.prog 68 (.agg #[.int .i64 ((pl (d) 0 : Nat) : Int), .int .i64 ((pl (d) 1 : Nat) : Int), .int .i64 ((pl (d) 2 : Nat) : Int), .int .i64 ((pl (d) 3 : Nat) : Int), .int .i64 ((pl (d) 4 : Nat) : Int), .int .i64 ((pl (d) 5 : Nat) : Int)]) = some (kP d) := keyP d (st_pl hG.l6 (fun i hi => (hG.p i hi).2) hd)
theorem kP_inj {ps d e : List Nat} {bs : List Blk} (hG : GB ps bs) (hd : isSt ps d) (he : isSt ps e) (h : kP d = kP e) : d = e := by
  have h1 := lawP.inj (keyS hG hd) (by rw [h]; exact keyS hG he)
  injection h1 with h1
  have h6 := hG.l6
  have key : ∀ i, i < 6 → pl d i = pl e i := by
    simp at h1
    obtain ⟨a0, a1, a2, a3, a4, a5⟩ := h1
    intro i hi
    match i, hi with
    | 0, _ => omega
    | 1, _ => omega
    | 2, _ => omega
    | 3, _ => omega
    | 4, _ => omega
    | 5, _ => omega
  apply List.ext_getElem
  · rw [hd.1, he.1]
  · intro i h2 h3
    have := key i (by rw [hd.1] at h2; omega)
    unfold pl at this
    rw [getD_eq d i 0 h2, getD_eq e i 0 h3] at this
    exact this
/-- a map of numbers by states -/
structure MF (ps : List Nat) (D : DataW Unit) (f : List Nat → Option Nat) : Prop where
  im : IsMap D
  has : ∀ d, isSt ps d → Maps.has D (kP d) = (f d).isSome
  at_ : ∀ d, isSt ps d → D.atKey (kP d) (.lit (.int .i64 0)) = .lit (.int .i64 (((f d).getD 0 : Nat) : Int))
  only : ∀ kl, Maps.has D kl = true → ∃ d, isSt ps d ∧ kl = kP d
theorem MF.zero (ps : List Nat) : MF ps (.map []) (fun _ => none) := ⟨Maps.isMap_empty, fun _ _ => rfl, fun _ _ => rfl, fun kl h => by cases h⟩
theorem MF.put {ps : List Nat} {bs : List Blk} {D : DataW Unit} {f : List Nat → Option Nat} (h : MF ps D f) (hG : GB ps bs) {d : List Nat} (hd : isSt ps d) (n : Nat) (hM : IsMap (D.put (kP d) (.lit (.int .i64 (n : Int))))) : MF ps (D.put (kP d) (.lit (.int .i64 (n : Int)))) (fun u => if u = d then some n else f u) := by
  have hk : WideAt.IsKeyLit (kP d) := trivial
  refine ⟨hM, fun u hu => ?_, fun u hu => ?_, fun kl hh => ?_⟩
  · by_cases e : u = d
    · subst e; rw [has_put_same h.im hk, if_pos rfl]; rfl
    · rw [has_put_other (fun e2 => e (kP_inj hG hu hd e2)), h.has u hu, if_neg e]
  · by_cases e : u = d
    · subst e; rw [atKey_put_same h.im hk, if_pos rfl]; rfl
    · rw [atKey_put_other (fun e2 => e (kP_inj hG hu hd e2)), h.at_ u hu, if_neg e]
  · by_cases e : kl = kP d
    · exact ⟨d, hd, e⟩
    · rw [has_put_other e] at hh; exact h.only kl hh
theorem MF.congr {ps : List Nat} {D : DataW Unit} {f g : List Nat → Option Nat} (h : MF ps D f) (e : ∀ d, f d = g d) : MF ps D g := by
  have : f = g := funext e
  rw [← this]; exact h
abbrev OMap (w : World) (b n : Nat) (D : DataW Unit) : Prop := w.ownsMap Try.prog 68 (plainElem (H := Unit) Try.prog 3) b n D
abbrev MapP (w : World) (b : Nat) (D : DataW Unit) : Prop := OMap w b (Maps.size D) D
theorem ownP_tight {w : World} {b n : Nat} {D : DataW Unit} (h : OMap w b n D) : MapP w b D := by
  obtain ⟨es, clock, hb, F, hs, hD⟩ := h
  exact ⟨es, clock, hb, F, by rw [hD, size_eq, length_read]; exact Nat.le_refl _, hD⟩
/-- how many entries such a map has -/
theorem MF.size {ps : List Nat} {bs : List Blk} {w : World} {b n : Nat} {D : DataW Unit} {f : List Nat → Option Nat} (h : MF ps D f) (hG : GB ps bs) (ho : OMap w b n D) (q : List (List Nat)) (hq : q.Nodup) (hm : ∀ d, d ∈ q ↔ f d ≠ none) (hs : ∀ d ∈ q, isSt ps d) : Maps.size D = q.length := by
  classical
  obtain ⟨es, rfl, hp, hk⟩ := ho.entries lawP
  have e1 : Maps.size (.map es : DataW Unit) = es.length := rfl
  rw [e1]
  have hin : ∀ kl, kl ∈ es.map (·.1) ↔ Maps.has (.map es) kl = true := fun kl => by
    rw [has_eq, List.any_eq_true, List.mem_map]
    constructor
    · rintro ⟨p, hp, rfl⟩; exact ⟨p, hp, WideAt.sameKey_self (hk p hp)⟩
    · rintro ⟨p, hp, e⟩; exact ⟨p, hp, WideAt.sameKey_eq e⟩
  have hn1 : (es.map (·.1)).Nodup := by
    rw [List.nodup_iff_pairwise_ne, List.pairwise_map]; exact hp
  have hn2 : (q.map kP).Nodup := by
    rw [List.nodup_iff_pairwise_ne, List.pairwise_map]
    exact (List.nodup_iff_pairwise_ne.1 hq).imp_of_mem (fun {a b} ha hb hne e => hne (kP_inj hG (hs a ha) (hs b hb) e))
  apply Nat.le_antisymm
  · have := nodup_sub_len (U := q.map kP) hn1 (fun kl hkl => by
      have h1 := (hin kl).1 hkl
      obtain ⟨d, hd, rfl⟩ := h.only kl h1
      rw [h.has d hd] at h1
      exact List.mem_map.2 ⟨d, (hm d).2 (fun e => by rw [e] at h1; cases h1), rfl⟩)
    rwa [List.length_map, List.length_map] at this
  · have := nodup_sub_len (U := es.map (·.1)) hn2 (fun kl hkl => by
      obtain ⟨d, hd, rfl⟩ := List.mem_map.1 hkl
      refine (hin _).2 ?_
      rw [h.has d (hs d hd)]
      cases e : f d with
      | none => exact absurd e ((hm d).1 hd)
      | some n => rfl)
    rwa [List.length_map, List.length_map] at this
end Go.Proofs.Ytcfeaaakfjilgaa
