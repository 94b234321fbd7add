/- Maps of numbers whose keys are arrays or structs, whatever they stand for. -/
import Derived.Test.YtjlecipeoaohiaaBase0
import Derived.Maps.OwnOps
import Derived.Maps.OwnSet
import Derived.Maps.RangeWalk
import Derived.Maps.Views
import Derived.WideKeyArr
import Derived.DeepKeys3
import Derived.Deep.OwnRows
import Derived.Carry
namespace Go.Proofs.Ytjlecipeoaohiaa
set_option linter.unusedSimpArgs false
set_option linter.unusedVariables false
open Go Go.RowKit RM Go.Maps Go.WideMaps Go.ChangeMaps
/-- a kind of keys: their type, which there are, how they lie in memory, how they are told -/
structure KS (α : Type) where
  t : TypeId
  ok : α → Prop
  v : α → Value
  l : α → Lit
  law : Keyed Try.prog t
  key : ∀ a, ok a → keyOf Try.prog t (v a) = some (l a)
  inj : ∀ a b, ok a → ok b → l a = l b → a = b
  lit : ∀ a, WideAt.IsKeyLit (l a)
section
variable {α : Type} {K : KS α}
/-- a map of numbers by keys -/
structure MI (K : KS α) (D : DataW Unit) (f : α → Option Nat) : Prop where
  im : IsMap D
  has : ∀ d, K.ok d → Maps.has D (K.l d) = (f d).isSome
  at_ : ∀ d, K.ok d → D.atKey (K.l d) (.lit (.int .i64 0)) = .lit (.int .i64 (((f d).getD 0 : Nat) : Int))
  only : ∀ kl, Maps.has D kl = true → ∃ d, K.ok d ∧ kl = K.l d
theorem MI.zero (K : KS α) : MI K (.map []) (fun _ => none) := ⟨Maps.isMap_empty, fun _ _ => rfl, fun _ _ => rfl, fun kl h => by cases h⟩
theorem MI.put [DecidableEq α] {D : DataW Unit} {f : α → Option Nat} (h : MI K D f) {d : α} (hd : K.ok d) (n : Nat) (hM : IsMap (D.put (K.l d) (.lit (.int .i64 (n : Int))))) : MI K (D.put (K.l d) (.lit (.int .i64 (n : Int)))) (fun u => if u = d then some n else f u) := by
  have hk : WideAt.IsKeyLit (K.l d) := K.lit d
  refine ⟨hM, fun u hu => ?_, fun u hu => ?_, fun kl hh => ?_⟩
  · by_cases e : u = d
    · subst e; rw [has_put_same h.im hk, if_pos rfl]; rfl
    · rw [has_put_other (fun e2 => e (K.inj _ _ hu hd e2)), h.has u hu, if_neg e]
  · by_cases e : u = d
    · subst e; rw [atKey_put_same h.im hk, if_pos rfl]; rfl
    · rw [atKey_put_other (fun e2 => e (K.inj _ _ hu hd e2)), h.at_ u hu, if_neg e]
  · by_cases e : kl = K.l d
    · exact ⟨d, hd, e⟩
    · rw [has_put_other e] at hh; exact h.only kl hh
theorem MI.congr {D : DataW Unit} {f g : α → Option Nat} (h : MI K D f) (e : ∀ d, f d = g d) : MI K D g := by
  have : f = g := funext e
  rw [← this]; exact h
abbrev OMapI (K : KS α) (w : World) (b n : Nat) (D : DataW Unit) : Prop := w.ownsMap Try.prog K.t (plainElem (H := Unit) Try.prog 3) b n D
abbrev MapI (K : KS α) (w : World) (b : Nat) (D : DataW Unit) : Prop := OMapI K w b (Maps.size D) D
theorem ownI_tight {w : World} {b n : Nat} {D : DataW Unit} (h : OMapI K w b n D) : MapI K w b D := by
  obtain ⟨es, clock, hb, F, hs, hD⟩ := h
  exact ⟨es, clock, hb, F, by rw [hD, size_eq, length_read]; exact Nat.le_refl _, hD⟩
/-- how many entries such a map has -/
theorem MI.size {w : World} {b n : Nat} {D : DataW Unit} {f : α → Option Nat} (h : MI K D f) (ho : OMapI K w b n D) (q : List α) (hq : q.Nodup) (hm : ∀ d, d ∈ q ↔ f d ≠ none) (hs : ∀ d ∈ q, K.ok d) : Maps.size D = q.length := by
  classical
  obtain ⟨es, rfl, hp, hk⟩ := ho.entries K.law
  have e1 : Maps.size (.map es : DataW Unit) = es.length := rfl
  rw [e1]
  have hin : ∀ kl, kl ∈ es.map (·.1) ↔ Maps.has (.map es) kl = true := fun kl => by
    rw [has_eq, List.any_eq_true, List.mem_map]
    constructor
    · rintro ⟨p, hp, rfl⟩; exact ⟨p, hp, WideAt.sameKey_self (hk p hp)⟩
    · rintro ⟨p, hp, e⟩; exact ⟨p, hp, WideAt.sameKey_eq e⟩
  have hn1 : (es.map (·.1)).Nodup := by
    rw [List.nodup_iff_pairwise_ne, List.pairwise_map]; exact hp
  have hn2 : (q.map K.l).Nodup := by
    rw [List.nodup_iff_pairwise_ne, List.pairwise_map]
    exact (List.nodup_iff_pairwise_ne.1 hq).imp_of_mem (fun {a b} ha hb hne e => hne (K.inj _ _ (hs a ha) (hs b hb) e))
  apply Nat.le_antisymm
  · have := nodup_sub_len (U := q.map K.l) hn1 (fun kl hkl => by
      have h1 := (hin kl).1 hkl
      obtain ⟨d, hd, rfl⟩ := h.only kl h1
      rw [h.has d hd] at h1
      exact List.mem_map.2 ⟨d, (hm d).2 (fun e => by rw [e] at h1; cases h1), rfl⟩)
    rwa [List.length_map, List.length_map] at this
  · have := nodup_sub_len (U := es.map (·.1)) hn2 (fun kl hkl => by
      obtain ⟨d, hd, rfl⟩ := List.mem_map.1 hkl
      refine (hin _).2 ?_
      rw [h.has d (hs d hd)]
      cases e : f d with
      | none => exact absurd e ((hm d).1 hd)
      | some n => rfl)
    rwa [List.length_map, List.length_map] at this
set_option maxRecDepth 1000000 in
theorem mlkI {tm : TypeId} (hum : Try.prog.underlying tm = some (.map K.t 3)) {d : α} {b : Nat} {D : DataW Unit} {f : α → Option Nat} {w : World} (hd : K.ok d) (hm : MapI K w b D) (hF : MI K D f) : (Instr.lookup tm (.map (some b)) (K.v d) false).run Try.prog w = .ok (.int .i64 (((f d).getD 0 : Nat) : Int)) w := by
  obtain ⟨c, h1, h2, -⟩ := hm.lookup_int K.law hum Try.underlying3 (Try.zeroValue3 w) (K.key d hd)
  rw [hF.at_ d hd] at h2
  have e : (((f d).getD 0 : Nat) : Int) = c := by
    have := h2; injection this with this; injection this
  rw [h1, e]
set_option maxRecDepth 1000000 in
theorem mlkO {tm : TypeId} (hum : Try.prog.underlying tm = some (.map K.t 3)) {d : α} {b : Nat} {D : DataW Unit} {f : α → Option Nat} {w : World} (hd : K.ok d) (hm : MapI K w b D) (hF : MI K D f) : (Instr.lookup tm (.map (some b)) (K.v d) true).run Try.prog w = .ok (.tuple #[.int .i64 (((f d).getD 0 : Nat) : Int), .bool (f d).isSome]) w := by
  obtain ⟨v, qs, h1, h2⟩ := hm.look_ok K.law hum (Try.zeroValue3 w) (plainElem_int (H := Unit) Try.underlying3 (by decide)) (K.key d hd)
  obtain ⟨c, rfl, h3, -⟩ := plainElem_int_inv Try.underlying3 h2
  rw [hF.at_ d hd] at h3
  have e : (((f d).getD 0 : Nat) : Int) = c := by
    have := h3; injection this with this; injection this with this; injection this
  rw [h1, e, hF.has d hd]
set_option maxRecDepth 1000000 in
theorem mupI [DecidableEq α] {tm : TypeId} (hum : Try.prog.underlying tm = some (.map K.t 3)) {d : α} {b : Nat} {D : DataW Unit} {f : α → Option Nat} {w : World} (hd : K.ok d) (hm : MapI K w b D) (hF : MI K D f) (hz : Maps.size D ≤ 100000) (n : Nat) (hn : n ≤ 1000000000000001) :
    ∃ w', (Instr.mapUpdate tm (.map (some b)) (K.v d) (.int .i64 (n : Int))).run Try.prog w = .ok () w' ∧ ∃ D', MapI K w' b D' ∧ MI K D' (fun u => if u = d then some n else f u) ∧ w.grownBy w' (some b) := by
  have hw : (Lit.int .i64 (n : Int)).wf = true := by
    show (decide (IntKind.i64.min ≤ (n : Int)) && decide ((n : Int) ≤ IntKind.i64.max)) = true
    rw [Bool.and_eq_true, decide_eq_true_eq, decide_eq_true_eq]
    show (-9223372036854775808 : Int) ≤ (n : Int) ∧ (n : Int) ≤ 9223372036854775807
    omega
  have hlt : Maps.size D < maxLen := Nat.lt_of_le_of_lt hz (by decide)
  obtain ⟨w', h1, h2, h3⟩ := hm.update K.law hum hlt (K.key d hd) (plainElem_int (H := Unit) Try.underlying3 hw)
  exact ⟨w', h1, _, ownI_tight h2, hF.put hd n (h2.isMap), h3⟩
/-- a map with one entry, as it is made -/
abbrev mOneI (v : Value) (n : Int) : Obj := .map #[⟨v, .int .i64 n, 0⟩] 1
set_option maxRecDepth 1000000 in
theorem mins_run {tm : TypeId} (hum : Try.prog.underlying tm = some (.map K.t 3)) (W : World) (b : Nat) (d : α) (n : Int) (hd : K.ok d) (hb : W.heap[b]? = some (.map #[] 0)) :
    (Instr.mapUpdate tm (.map (some b)) (K.v d) (.int .i64 n)).run Try.prog W = .ok () (setBlock W b (mOneI (K.v d) n)) := by
  have h1 : (Instr.findKey K.t (K.v d) (#[] : Array MapEntry).toList).run Try.prog W = .ok none W := by
    rcases K.law.find W (K.key d hd) (#[] : Array MapEntry).toList (fun x hx => by cases hx) with ⟨h1, h2⟩ | ⟨j, e0, h1, h2, h3⟩
    · exact h1
    · cases h2
  simp [Instr.mapUpdate, run_underlying hum, MapKept.run_getObj_map hb, K.law.check W false (K.key d hd), h1, MapKept.run_setObj_map _ hb, Result.andThen, setBlock]
theorem mapOneI [DecidableEq α] {tm : TypeId} (hum : Try.prog.underlying tm = some (.map K.t 3)) {d : α} (hd : K.ok d) {W : World} {b : Nat} (n : Nat) (hn : n ≤ 1000000) (h : W.heap[b]? = some (mOneI (K.v d) n)) : ∃ D, MapI K W b D ∧ MI K D (fun u => if u = d then some n else none) := by
  have hm0 : MapI K (W.alloc (.map #[] 0)) W.heap.size (.map []) := World.ownsMap_made W Try.prog K.t _
  have hbb : (W.alloc (.map #[] 0)).heap[W.heap.size]? = some (.map #[] 0) := hb_new _ _
  obtain ⟨w', h1, D', h2, h3, -⟩ := mupI hum hd hm0 (MI.zero K) (Nat.zero_le _) n (by omega)
  rw [mins_run hum _ _ _ _ hd hbb] at h1
  have e : setBlock (W.alloc (.map #[] 0)) W.heap.size (mOneI (K.v d) n) = w' := by injection h1
  obtain ⟨es, clock, q1, q2, q3, q4⟩ := h2
  have hs : w'.heap[W.heap.size]? = some (mOneI (K.v d) n) := by rw [← e]; exact heap_setBlock_same hbb _
  rw [hs] at q1
  refine ⟨D', ⟨es, clock, h.trans q1, q2, q3, q4⟩, h3⟩
end
end Go.Proofs.Ytjlecipeoaohiaa
