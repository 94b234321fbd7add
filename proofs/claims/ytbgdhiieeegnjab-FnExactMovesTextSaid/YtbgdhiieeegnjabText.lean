/- Moves as letters, written. -/
import Derived.Test.YtbgdhiieeegnjabArgs
import Derived.Test.YtbgdhiieeegnjabBytes
import Derived.Test.YtbgdhiieeegnjabParse
namespace Go.Proofs.Ytbgdhiieeegnjab
open Go Go.RowKit RM

def ringB (k : Int) : Bool := decide (0 ≤ k) && decide (k ≤ 19)
def letC (k : Int) : UInt8 := UInt8.ofNat (97 + k.toNat)
def mtx (xs : List Int) : List UInt8 := xs.map letC
def mtB (xs : List Int) : Bool := decide (xs.length ≤ 2000) && xs.all ringB
def mtS (xs : List Int) : ByteArray := if mtB xs then ⟨(mtx xs).toArray⟩ else ⟨#[]⟩

theorem ring_cases (k : Int) : (ringB k = true ∧ 0 ≤ k ∧ k ≤ 19) ∨ (ringB k = false ∧ (k < 0 ∨ 19 < k)) := by
  unfold ringB
  by_cases h : 0 ≤ k ∧ k ≤ 19
  · left; simp [h]
  · right; simp; omega
theorem all_snoc (xs : List Int) (k : Nat) (h : k < xs.length) : (xs.take (k + 1)).all ringB = ((xs.take k).all ringB && ringB xs[k]) := by
  rw [List.take_succ_eq_append_getElem h, List.all_append]; simp
theorem all_false (xs : List Int) (k : Nat) (h : k < xs.length) (hf : ringB xs[k] = false) : xs.all ringB = false := by
  rw [← Bool.not_eq_true]; intro ht
  rw [List.all_eq_true] at ht
  have := ht xs[k] (List.getElem_mem h)
  rw [hf] at this; cases this
theorem mtx_snoc (xs : List Int) (k : Nat) (h : k < xs.length) : mtx (xs.take (k + 1)) = mtx (xs.take k) ++ [letC xs[k]] := by
  unfold mtx; rw [List.take_succ_eq_append_getElem h, List.map_append]; rfl

theorem enc_nat : ∀ j : Nat, j < 20 → Utf8.encode (97 + (j : Int)) = ⟨#[letC (j : Int)]⟩ := by decide +kernel
theorem enc_let (z : Int) (h1 : 0 ≤ z) (h2 : z ≤ 19) : Utf8.encode (97 + z) = ⟨#[letC z]⟩ := by
  obtain ⟨j, rfl⟩ := Int.eq_ofNat_of_zero_le h1
  exact enc_nat j (by omega)
theorem l1All_nil (p : Option Addr) (cap : Nat) (w : World) :
    Calls Try.prog 31 #[.slice p 0 cap, .int .i64 0, .int .i64 19] w fun e w' => e = .returned (.bool true) ∧ w = w' := by
  go_enter Try.func31, Try.ntmps31
  go_wp2_with fail
  go_loop [11] (fun i => i = .int .i64 0) (fun _ => 0)
  case atStart => rfl
  case round =>
    obtain rfl := hrel
    go_wp2
    go_ret; exact ⟨rfl, rfl⟩

theorem l1All_some (xs : List Int) (b : Nat) (cap : Nat) (n : Nat) (w : World) (hn : n ≤ 1048576) (hx : Hid (xs.length = n))
    (hc : Hid (∀ i (h : i < xs.length), w.cell? ⟨b, i, none⟩ = some (.int .i64 xs[i]))) :
    Calls Try.prog 31 #[.slice (some ⟨b, 0, none⟩) n cap, .int .i64 0, .int .i64 19] w fun e w' => e = .returned (.bool (xs.all ringB)) ∧ w = w' := by
  go_enter Try.func31, Try.ntmps31
  go_wp2_with fail
  go_loop [11] (fun i => ∃ k : Nat, k ≤ n ∧ i = .int .i64 k ∧ Hid ((xs.take k).all ringB = true)) (fun i => n - (intOf i).toNat)
  case atStart => exact ⟨0, by omega, rfl, rfl⟩
  case round =>
    obtain ⟨k, hk, rfl, ha⟩ := hrel
    by_cases hlt : k < n
    · have hkx : k < xs.length := by rw [hx.out]; exact hlt
      have hrd := hc.out k hkx
      have hat := Lib.hid (all_snoc xs k hkx)
      rcases ring_cases xs[k] with ⟨hr, h1, h2⟩ | ⟨hr, h1⟩
      · have HR := Lib.hid (show (xs.take (k + 1)).all ringB = true by rw [hat.out, ha.out, hr]; rfl)
        clear hr
        generalize xs[k] = z at *
        go_wp2_with (go_at_call 41; refine (l1In_yes _ _ _ _ h1 h2).mono ?_; rintro e w' ⟨rfl, rfl⟩)
        go_round
        case rel => exact ⟨k + 1, by omega, by go_num, HR⟩
        all_goals (simp [intOf] <;> omega)
      · have HF := Lib.hid (all_false xs k hkx hr)
        clear hr
        generalize xs[k] = z at *
        go_wp2_with (go_at_call 41; refine (l1In_no _ _ _ _ h1).mono ?_; rintro e w' ⟨rfl, rfl⟩)
        go_ret; exact ⟨ret_bool HF.out.symm, rfl⟩
    · have HF : Hid (xs.all ringB = true) := Lib.hid (by have := ha.out; rw [List.take_of_length_le (by rw [hx.out]; omega)] at this; exact this)
      go_wp2_with fail
      go_ret; exact ⟨ret_bool HF.out.symm, rfl⟩

theorem riShown_nil (p : Option Addr) (cap : Nat) (w : World) :
    Calls Try.prog 32 #[.slice p 0 cap] w fun e w' => e = .returned (.string ⟨#[]⟩) ∧ w = w' := by
  go_enter Try.func32, Try.ntmps32
  go_wp2_with fail
  go_loop [3, 8] (fun o i => i = .int .i64 0 ∧ o = .string ⟨#[]⟩) (fun _ _ => 0)
  case atStart => exact ⟨rfl, rfl⟩
  case round =>
    obtain ⟨rfl, rfl⟩ := hrel
    go_wp2
    go_ret; exact ⟨rfl, rfl⟩

theorem riShown_some (xs : List Int) (b : Nat) (cap : Nat) (n : Nat) (w : World) (hn : n ≤ 2000) (hx : Hid (xs.length = n)) (hr : Hid (∀ i (h : i < xs.length), 0 ≤ xs[i] ∧ xs[i] ≤ 19))
    (hc : Hid (∀ i (h : i < xs.length), w.cell? ⟨b, i, none⟩ = some (.int .i64 xs[i]))) :
    Calls Try.prog 32 #[.slice (some ⟨b, 0, none⟩) n cap] w fun e w' => e = .returned (.string ⟨(mtx xs).toArray⟩) ∧ w = w' := by
  go_enter Try.func32, Try.ntmps32
  go_wp2_with fail
  go_loop [3, 8] (fun o i => ∃ (k : Nat) (t : ByteArray), k ≤ n ∧ i = .int .i64 k ∧ o = .string t ∧ t.size ≤ k ∧ Hid (t = ⟨(mtx (xs.take k)).toArray⟩)) (fun _ i => n - (intOf i).toNat)
  case atStart => exact ⟨0, ⟨#[]⟩, by omega, rfl, rfl, by decide, rfl⟩
  case round =>
    obtain ⟨k, t, hk, rfl, rfl, hts, ht⟩ := hrel
    by_cases hlt : k < n
    · have hkx : k < xs.length := by rw [hx.out]; exact hlt
      have hrd := hc.out k hkx
      have hat := Lib.hid (mtx_snoc xs k hkx)
      obtain ⟨r1, r2⟩ := hr.out k hkx
      have hen := enc_let _ r1 r2
      generalize xs[k] = z at *
      generalize letC z = c at *
      go_wp2
      go_round
      case rel => exact ⟨k + 1, t ++ ⟨#[c]⟩, by omega, by go_num, rfl, by rw [ba_ext_app]; show t.size + 1 ≤ k + 1; omega, Lib.hid (by
        apply ba_ext
        rw [ba_app, hat.out, ht.out])⟩
      all_goals (simp [intOf] <;> omega)
    · obtain rfl : k = n := by omega
      have HF : Hid (t = ⟨(mtx xs).toArray⟩) := Lib.hid (by have := ht.out; rw [List.take_of_length_le (by rw [hx.out]; omega)] at this; exact this)
      go_wp2_with fail
      go_ret; exact ⟨ret_str HF.out, rfl⟩

theorem letC_val (z : Int) (h1 : 0 ≤ z) (h2 : z ≤ 19) : 97 + z = ((letC z).toNat : Int) := by
  obtain ⟨j, rfl⟩ := Int.eq_ofNat_of_zero_le h1
  have : ∀ j : Nat, j < 20 → 97 + (j : Int) = ((letC (j : Int)).toNat : Int) := by decide +kernel
  exact this j (by omega)
theorem iText_long (p : Option Addr) (n cap : Nat) (w : World) (hn : 2000 < n) :
    Calls Try.prog 14 #[.slice p n cap] w fun e w' => e = .returned (.tuple #[.string ⟨#[]⟩, .bool false]) ∧ Below w.heap.size w w' := by
  go_enter Try.func14, Try.ntmps14
  go_wp2_with (go_at_call 33; refine (isMoveCount_no _ _ (by omega)).mono ?_; rintro e w' ⟨rfl, rfl⟩)
  go_ret2; exact ⟨rfl, Below.refl _ _⟩

theorem iText_nil (p : Option Addr) (cap : Nat) (w : World) :
    Calls Try.prog 14 #[.slice p 0 cap] w fun e w' => e = .returned (.tuple #[.string ⟨#[]⟩, .bool true]) ∧ Below w.heap.size w w' := by
  go_enter Try.func14, Try.ntmps14
  go_wp2_with (first | (go_at_call 33; refine (isMoveCount_yes _ _ (by omega)).mono ?_; rintro e w' ⟨rfl, rfl⟩) | (at_make; refine make_byte _ rfl _ _ rfl _ _ 0 rfl rfl (by omega) ?_; intro w1 hown1 hb1))
  have hcv := str_byte _ _ _ _ 0 _ hown1 rfl
  have hb1 := Lib.hid hb1
  clear hown1
  go_loopw [16] (fun i wr => i = .int .i64 0 ∧ wr = w1) (fun _ _ => 0)
  case atStart => exact ⟨rfl, rfl⟩
  case round =>
    obtain ⟨rfl, rfl⟩ := hrel
    go_wp2
    go_ret2; exact ⟨rfl, hb1.out⟩

theorem iText_some (xs : List Int) (b : Nat) (cap : Nat) (n : Nat) (w : World) (hn : n ≤ 2000) (hl : b < w.heap.size) (hx : Hid (xs.length = n))
    (hc : Hid (∀ i (h : i < xs.length), w.cell? ⟨b, i, none⟩ = some (.int .i64 xs[i]))) :
    Calls Try.prog 14 #[.slice (some ⟨b, 0, none⟩) n cap] w fun e w' => e = .returned (.tuple #[.string (mtS xs), .bool (mtB xs)]) ∧ Below w.heap.size w w' := by
  have hno : Hid (xs.all ringB = false → mtS xs = ⟨#[]⟩ ∧ mtB xs = false) := Lib.hid fun h => by
    have : mtB xs = false := by unfold mtB; rw [h]; simp
    exact ⟨by unfold mtS; rw [this]; rfl, this⟩
  have hyes : Hid (xs.all ringB = true → mtS xs = ⟨(mtx xs).toArray⟩ ∧ mtB xs = true) := Lib.hid fun h => by
    have : mtB xs = true := by unfold mtB; rw [h, hx.out]; simp [hn]
    exact ⟨by unfold mtS; rw [this]; rfl, this⟩
  go_enter Try.func14, Try.ntmps14
  go_wp2_with (first | (go_at_call 33; refine (isMoveCount_yes _ _ (by omega)).mono ?_; rintro e w' ⟨rfl, rfl⟩) | (at_make; refine make_byte _ rfl _ _ rfl _ _ n rfl rfl (by omega) ?_; intro w1 hown1 hb1))
  have hown1 := Lib.hid hown1
  have hb1 := Lib.hid hb1
  go_loopw [16] (fun i wr => ∃ k : Nat, k ≤ n ∧ i = .int .i64 k ∧ Hid (OwnB wr w.heap.size (.slice (some ⟨w.heap.size, 0, none⟩) n n) (mtx (xs.take k) ++ List.replicate (n - k) 0)) ∧ Hid (Below w.heap.size w wr) ∧ Hid ((xs.take k).all ringB = true)) (fun i _ => n - (intOf i).toNat)
  case atStart => exact ⟨0, by omega, rfl, Lib.hid (by simpa [mtx] using hown1.out), hb1, rfl⟩
  case round =>
    obtain ⟨k, hk, rfl, ho, hb, ha⟩ := hrel
    clear hown1 hb1
    by_cases hlt : k < n
    · have hkx : k < xs.length := by rw [hx.out]; exact hlt
      have hml : Hid ((mtx (xs.take k)).length = k) := Lib.hid (by simp [mtx]; omega)
      have hlk : Hid ((mtx (xs.take k) ++ List.replicate (n - k) 0).length = n) := Lib.hid (by rw [List.length_append, hml.out, List.length_replicate]; omega)
      have hsp : Hid (List.replicate (n - k) (0 : UInt8) = 0 :: List.replicate (n - (k + 1)) 0) := Lib.hid (by
        rw [show n - k = (n - (k + 1)) + 1 from by omega]; rfl)
      have hmt := Lib.hid (mtx_snoc xs k hkx)
      have hat := Lib.hid (all_snoc xs k hkx)
      have hrd : wr.cell? ⟨b, k, none⟩ = some (.int .i64 xs[k]) := by
        rw [hb.out.cell (p := ⟨b, k, none⟩) hl]; exact hc.out k hkx
      obtain ⟨hce, hfr⟩ := ho.out.cell hlk.out k (by rw [hlk.out]; exact hlt)
      obtain ⟨y, hy⟩ : ∃ y, y = (((mtx (xs.take k) ++ List.replicate (n - k) 0)[k]'(by rw [hlk.out]; exact hlt)).toNat : Int) := ⟨_, rfl⟩
      rw [← hy] at hce
      rcases ring_cases xs[k] with ⟨hr, h1, h2⟩ | ⟨hr, h1⟩
      · have HR := Lib.hid (show (xs.take (k + 1)).all ringB = true by rw [hat.out, ha.out, hr]; rfl)
        have hst := Lib.hid (ho.out.stored hlk.out k (letC xs[k]))
        have hlv := Lib.hid (letC_val _ h1 h2)
        clear hy hr
        generalize xs[k] = z at *
        go_wp2
        rw [hlv.out]
        go_roundw
        case rel =>
          refine ⟨k + 1, by omega, by go_num, Lib.hid ?_, Lib.hid ?_, HR⟩
          · have h3 := hst.out.1
            rw [hsp.out, List.set_append_right _ _ (by rw [hml.out]; exact Nat.le_refl _), hml.out, Nat.sub_self, List.set_cons_zero] at h3
            rw [hmt.out, List.append_assoc]; exact h3
          · exact hb.out.grown hst.out.2 hb.out.size (fun j e => by cases e; exact Nat.le_refl _)
        all_goals (simp [intOf] <;> omega)
      · have HF := Lib.hid (hno.out (all_false xs k hkx hr))
        clear hy hr
        generalize xs[k] = z at *
        rcases h1 with h1 | h1
        all_goals
          go_wp2
          go_ret2
          rw [HF.out.1, HF.out.2]
          exact ⟨rfl, hb.out⟩
    · obtain rfl : k = n := by omega
      have HF := Lib.hid (hyes.out (by have := ha.out; rw [List.take_of_length_le (by rw [hx.out]; omega)] at this; exact this))
      have ho2 := ho.out
      rw [List.take_of_length_le (by rw [hx.out]; omega)] at ho2
      simp only [Nat.sub_self, List.replicate_zero, List.append_nil] at ho2
      have hcv := str_byte _ _ _ _ k _ ho2 (by simp [mtx, hx.out])
      clear ho2
      go_wp2
      go_ret2
      rw [HF.out.1, HF.out.2]
      exact ⟨rfl, hb.out⟩

/-- the text of moves, of a slice that the law made -/
theorem iText_any (v : Value) (xs : List Int) (B : Nat) (w : World) (h : OwnI w B v xs) :
    Calls Try.prog 14 #[v] w fun e w' => e = .returned (.tuple #[.string (mtS xs), .bool (mtB xs)]) ∧ Below w.heap.size w w' := by
  rcases h.form with ⟨rfl, rfl⟩ | ⟨g, cap, rfl, _, hl, hc, _, _⟩
  · exact iText_nil _ _ w
  · by_cases hn : xs.length ≤ 2000
    · exact iText_some xs g cap xs.length w hn hl (Lib.hid rfl) (Lib.hid hc)
    · have hb : mtB xs = false := by
        unfold mtB
        have : decide (xs.length ≤ 2000) = false := by simp; omega
        rw [this]; rfl
      have hs : mtS xs = ⟨#[]⟩ := by unfold mtS; rw [hb]; rfl
      rw [hb, hs]; exact iText_long _ _ _ w (by omega)

theorem sText_no (v : Value) (p : Option Addr) (n cap : Nat) (w : World) (hv : v = .slice p n cap) (h : 2000 < n) :
    Calls Try.prog 12 #[v] w fun e w' => e = .returned (.tuple #[.string ⟨#[]⟩, .bool false]) ∧ Below w.heap.size w w' := by
  subst hv
  go_enter Try.func12, Try.ntmps12
  go_wp2_with fail
  go_ret2; exact ⟨rfl, Below.refl _ _⟩

theorem sText_bad (p : Option Addr) (n cap : Nat) (w : World) (h : n ≤ 2000) (hA : Hid (∀ w', w = w' → Calls Try.prog 31 #[.slice p n cap, .int .i64 0, .int .i64 19] w' fun e w'' => e = .returned (.bool false) ∧ w' = w'')) :
    Calls Try.prog 12 #[.slice p n cap] w fun e w' => e = .returned (.tuple #[.string ⟨#[]⟩, .bool false]) ∧ Below w.heap.size w w' := by
  go_enter Try.func12, Try.ntmps12
  go_wp2_with fail
  refine (hA.out _ rfl).mono ?_; rintro e w' ⟨rfl, rfl⟩
  go_wp2_with fail
  go_ret2; exact ⟨rfl, Below.refl _ _⟩

theorem sText_good (p : Option Addr) (n cap : Nat) (t : ByteArray) (w : World) (h : n ≤ 2000) (hA : Hid (∀ w', w = w' → Calls Try.prog 31 #[.slice p n cap, .int .i64 0, .int .i64 19] w' fun e w'' => e = .returned (.bool true) ∧ w' = w''))
    (hS : Hid (∀ w', w = w' → Calls Try.prog 32 #[.slice p n cap] w' fun e w'' => e = .returned (.string t) ∧ w' = w'')) :
    Calls Try.prog 12 #[.slice p n cap] w fun e w' => e = .returned (.tuple #[.string t, .bool true]) ∧ Below w.heap.size w w' := by
  go_enter Try.func12, Try.ntmps12
  go_wp2_with fail
  refine (hA.out _ rfl).mono ?_; rintro e w' ⟨rfl, rfl⟩
  go_wp2_with fail
  refine (hS.out _ rfl).mono ?_; rintro e w' ⟨rfl, rfl⟩
  go_wp2_with fail
  go_ret2; exact ⟨rfl, Below.refl _ _⟩

theorem sText_any (v : Value) (xs : List Int) (B : Nat) (w : World) (h : OwnI w B v xs) :
    Calls Try.prog 12 #[v] w fun e w' => e = .returned (.tuple #[.string (mtS xs), .bool (mtB xs)]) ∧ Below w.heap.size w w' := by
  rcases h.form with ⟨rfl, rfl⟩ | ⟨g, cap, rfl, _, hl, hc, _, _⟩
  · exact sText_good none 0 0 ⟨#[]⟩ w (by omega) (Lib.hid fun w' _ => l1All_nil _ _ w') (Lib.hid fun w' _ => riShown_nil _ _ w')
  · by_cases hn : xs.length ≤ 2000
    · have hA : ∀ w', w = w' → Calls Try.prog 31 #[.slice (some ⟨g, 0, none⟩) xs.length cap, .int .i64 0, .int .i64 19] w' fun e w'' => e = .returned (.bool (xs.all ringB)) ∧ w' = w'' := fun w' e => by
        subst e; exact l1All_some xs g cap _ w (by omega) (Lib.hid rfl) (Lib.hid hc)
      cases ha : xs.all ringB
      · rw [ha] at hA
        have hb : mtB xs = false := by unfold mtB; rw [ha]; simp
        have hs : mtS xs = ⟨#[]⟩ := by unfold mtS; rw [hb]; rfl
        rw [hb, hs]; exact sText_bad _ _ _ w hn (Lib.hid hA)
      · rw [ha] at hA
        have hb : mtB xs = true := by unfold mtB; rw [ha]; simp [hn]
        have hs : mtS xs = ⟨(mtx xs).toArray⟩ := by unfold mtS; rw [hb]; rfl
        rw [hb, hs]
        refine sText_good _ _ _ _ w hn (Lib.hid hA) (Lib.hid fun w' e => ?_)
        subst e
        refine riShown_some xs g cap _ w hn (Lib.hid rfl) (Lib.hid fun i hi => ?_) (Lib.hid hc)
        rw [List.all_eq_true] at ha
        have := ha xs[i] (List.getElem_mem hi)
        unfold ringB at this; simp at this; exact this
    · have hb : mtB xs = false := by
        unfold mtB
        have : decide (xs.length ≤ 2000) = false := by simp; omega
        rw [this]; rfl
      have hs : mtS xs = ⟨#[]⟩ := by unfold mtS; rw [hb]; rfl
      rw [hb, hs]; exact sText_no _ _ _ _ w rfl (by omega)

end Go.Proofs.Ytbgdhiieeegnjab
