/- How many parts there are, by the model; a line of states, by the model. -/
import Derived.Test.YtcfeaaakfjilgabFM
import Derived.Test.YtcfeaaakfjilgabFP
import Derived.Test.YtcfeaaakfjilgabV6
namespace Go.Proofs.Ytcfeaaakfjilgab
set_option linter.unusedSimpArgs false
set_option linter.unusedVariables false
open Go Go.RowKit RM
def bE : Elt Bool where
  e := 4
  n := 1
  bytes := 1
  z := .bool false
  d := false
  cells b := [.bool b]
  len _ := rfl
  one x u hu := by simp at hu; subst hu; rfl
  pos := by decide
  zs := rfl
  info := by kernel_rfl
  small := by decide
/-- a state is reached from one of some -/
def cov (D : Nat → Nat → Option Nat) (l : List Nat) (x : Nat) : Bool := l.any fun y => (D y x).isSome
theorem cov_snoc (D : Nat → Nat → Option Nat) (l : List Nat) (z x : Nat) : cov D (l ++ [z]) x = (cov D l x || (D z x).isSome) := by
  unfold cov; rw [List.any_append]; simp
theorem cov_iff (D : Nat → Nat → Option Nat) (l : List Nat) (x : Nat) : cov D l x = true ↔ ∃ y ∈ l, rch D y x := by
  unfold cov rch; rw [List.any_eq_true]
theorem cov_no (D : Nat → Nat → Option Nat) (l : List Nat) (x : Nat) (h : cov D l x = false) : ∀ y ∈ l, ¬ rch D y x := fun y hy hr => by
  rw [(cov_iff D l x).2 ⟨y, hy, hr⟩] at h; cases h
/-- which states are covered, by their numbers; the first j of them with one more -/
def cvR (D : Nat → Nat → Option Nat) (l : List Nat) (z N j : Nat) : List Bool := (List.range N).map fun i => if i < j then cov D (l ++ [z]) (gray i) else cov D l (gray i)
theorem cvR_len (D : Nat → Nat → Option Nat) (l : List Nat) (z N j : Nat) : (cvR D l z N j).length = N := by simp [cvR]
theorem cvR_get (D : Nat → Nat → Option Nat) (l : List Nat) (z N j i : Nat) (h : i < (cvR D l z N j).length) : (cvR D l z N j)[i] = if i < j then cov D (l ++ [z]) (gray i) else cov D l (gray i) := by simp [cvR]
theorem cvR_set (D : Nat → Nat → Option Nat) (l : List Nat) (z N j : Nat) : (cvR D l z N j).set j (cov D (l ++ [z]) (gray j)) = cvR D l z N (j + 1) := by
  apply List.ext_getElem
  · simp [cvR]
  · intro i h1 h2
    rw [List.getElem_set, cvR_get, cvR_get]
    by_cases e : j = i
    · subst e; rw [if_pos rfl, if_pos (by omega)]
    · rw [if_neg e]
      by_cases h : i < j
      · rw [if_pos h, if_pos (by omega)]
      · rw [if_neg h, if_neg (by omega)]
theorem cvR_full (D : Nat → Nat → Option Nat) (l : List Nat) (z z' N j : Nat) (hj : N ≤ j) : cvR D l z N j = cvR D (l ++ [z]) z' N 0 := by
  apply List.ext_getElem
  · simp [cvR]
  · intro i h1 h2
    rw [cvR_get, cvR_get, if_pos (by rw [cvR_len] at h1; omega), if_neg (by omega)]
theorem cvR_any (D : Nat → Nat → Option Nat) (l : List Nat) (z z' N : Nat) : cvR D l z N 0 = cvR D l z' N 0 := by
  unfold cvR; apply List.map_congr_left; intro i _; rw [if_neg (by omega), if_neg (by omega)]
theorem cvR_nil (D : Nat → Nat → Option Nat) (z N : Nat) : cvR D [] z N 0 = List.replicate N false := by
  apply List.ext_getElem
  · simp [cvR]
  · intro i h1 h2
    rw [cvR_get, if_neg (by omega)]; simp [cov]
/-- states apart that cover the first numbers -/
structure PartsTo (N : Nat) (D : Nat → Nat → Option Nat) (l : List Nat) (k : Nat) : Prop where
  ap : Apart N D l
  cv : ∀ i, i < k → cov D l (gray i) = true
  len : l.length ≤ k
theorem PartsTo.skip {N k : Nat} {D : Nat → Nat → Option Nat} {l : List Nat} (h : PartsTo N D l k) (hc : cov D l (gray k) = true) : PartsTo N D l (k + 1) :=
  ⟨h.ap, fun i hi => by
    by_cases e : i = k
    · subst e; exact hc
    · exact h.cv i (by omega), by have := h.len; omega⟩
theorem PartsTo.more {n k : Nat} {D : Nat → Nat → Option Nat} {l : List Nat} (hE : Eqv (2 ^ n) D) (h : PartsTo (2 ^ n) D l k) (hk : k < 2 ^ n) (hc : cov D l (gray k) = false) : PartsTo (2 ^ n) D (l ++ [gray k]) (k + 1) := by
  have hg := gray_lt n k hk
  refine ⟨h.ap.snoc hg (cov_no D l _ hc), fun i hi => ?_, by rw [List.length_append]; have := h.len; simp; omega⟩
  rw [cov_snoc]
  by_cases e : i = k
  · subst e; rw [Bool.or_eq_true]; exact .inr (hE.refl _ hg)
  · rw [h.cv i (by omega)]; rfl
theorem PartsTo.done {n : Nat} {D : Nat → Nat → Option Nat} {l : List Nat} (h : PartsTo (2 ^ n) D l (2 ^ n)) : Parts (2 ^ n) D l.length :=
  ⟨l, h.ap, fun x hx => (cov_iff D l x).1 (by have := h.cv (num x) (num_lt n x hx); rwa [gray_num] at this), rfl⟩
set_option maxRecDepth 100000 in
set_option maxHeartbeats 2000000 in
theorem keParts_any (v : Value) (ks : List ByteArray) (n : Nat) (w : World) (h : RdT w v ks) (h2 : n ≤ 10) (hn : ks.length = n) (hG : goodK ks = true) :
    Calls Try.prog 21 #[v] w fun e w' => ∃ c : Nat, Parts (2 ^ n) (kD n (fkS ks)) c ∧ e = .returned (.int .i64 (c : Int)) ∧ Below w.heap.size w w' := by
  obtain ⟨N, hNd⟩ : ∃ N, Hid (N = 2 ^ n) := ⟨_, Lib.hid rfl⟩
  have hN : N ≤ 1024 := by rw [hNd.out]; exact Nat.pow_le_pow_right (n := 2) (by decide) h2
  have hX : (2 : Int) ^ n = (N : Int) := by rw [hNd.out]; simp
  have hK := keys_keyd ks hG
  rw [hn] at hK
  have hE := hK.eqv
  have hSt := Lib.hid (fun m w (hm : m < N) => riState_any n m w (by omega) (by omega))
  have hFar := Lib.hid (fun m w' (hb : Below w.heap.size w w') (hm : m < N) => keFar_any v ks n (gray m) w' (h.below hb) h2 (gray_lt n m (by rw [← hNd.out]; exact hm)) hn hG)
  have hmore := Lib.hid (fun k l (h : PartsTo (2 ^ n) (kD n (fkS ks)) l k) hk hc => h.more hE hk hc)
  have hdone := Lib.hid (fun l (h : PartsTo (2 ^ n) (kD n (fkS ks)) l (2 ^ n)) => h.done)
  have h0 : Hid (PartsTo (2 ^ n) (kD n (fkS ks)) [] 0) := Lib.hid ⟨Apart.nil _ _, fun i hi => by omega, Nat.zero_le _⟩
  rw [← hNd.out] at hFar hmore hdone h0 ⊢
  clear hE hK hG
  obtain ⟨p, c, rfl, -, -⟩ := h
  rw [hn] at *
  generalize kD n (fkS ks) = D at *
  go_enter Try.func21, Try.ntmps21
  go_wp2_with (at_make; refine make_G bE _ rfl _ _ 59 rfl Try.underlying59 _ _ N rfl rfl (by omega) ?_; intro w1 ho1 hb1)
  obtain ⟨g, hg⟩ : ∃ g, Hid (g = w.heap.size) := ⟨_, Lib.hid rfl⟩
  rw [← hg.out] at ho1 ⊢
  have hrow0 := Lib.hid (show OwnG bE w1 w.heap.size (.slice (some ⟨g, 0, none⟩) N N) (cvR D [] 0 N 0) by rw [cvR_nil, hg.out]; rw [hg.out] at ho1; exact ho1)
  replace hb1 := Lib.hid hb1
  clear ho1
  go_wp2_with fail
  go_loopw [4, 16] (fun c i wr => ∃ (k : Nat) (l : List Nat), k ≤ N ∧ i = .int .i64 k ∧ c = .int .i64 ((l.length : Nat) : Int) ∧ l.length ≤ k ∧ Hid (PartsTo N D l k) ∧ Hid (OwnG bE wr w.heap.size (.slice (some ⟨g, 0, none⟩) N N) (cvR D l 0 N 0)) ∧ Hid (Below w.heap.size w wr)) (fun _ i _ => N - (intOf i).toNat)
  case atStart => exact ⟨0, [], Nat.zero_le _, rfl, rfl, Nat.zero_le _, h0, hrow0, hb1⟩
  case round =>
    obtain ⟨k, l, hk, rfl, rfl, hlk, hP, ho, hbr⟩ := hrel
    rename World => wA
    obtain ⟨L, hL⟩ : ∃ L, Hid (l.length = L) := ⟨_, Lib.hid rfl⟩
    rw [hL.out] at hlk ⊢
    by_cases hlt : k < N
    · have c0 := ho.out.cells (cvR_len _ _ _ _ _).symm k (by rw [cvR_len]; exact hlt) 0 (by decide)
      replace c0 : wA.cell? ⟨g, k, none⟩ = some (.bool (cov D l (gray k))) := by
        have e : k * bE.n + 0 = k := Nat.mul_one k
        rw [e] at c0
        rw [c0, cvR_get, if_neg (by omega)]; rfl
      cases hc : cov D l (gray k) with
      | true =>
        rw [hc] at c0
        have hP2 := Lib.hid (hP.out.skip hc)
        clear hc
        go_wp2_with fail
        go_roundw
        case rel => exact ⟨k + 1, l, by omega, by go_num, by rw [hL.out], by rw [hL.out]; omega, hP2, ho, hbr⟩
        all_goals (simp [intOf] <;> omega)
      | false =>
        rw [hc] at c0
        have hP2 := Lib.hid (hmore.out k l hP.out hlt hc)
        have hL2 : Hid ((l ++ [gray k]).length = L + 1) := Lib.hid (by rw [List.length_append, hL.out]; rfl)
        have hStk := Lib.hid (fun w => hSt.out k w hlt)
        have hFk := Lib.hid (fun w' hb => hFar.out k w' hb hlt)
        clear hc
        generalize ST n (gray k) = tx at *
        have hcs : Hid (∀ i, (cov D l (gray i) || (D (gray k) (gray i)).isSome) = cov D (l ++ [gray k]) (gray i)) := Lib.hid (fun i => (cov_snoc D l _ _).symm)
        have hge := Lib.hid (fun i => fI_ge (D (gray k) (gray i)))
        go_wp2_with fail
        refine (hStk.out _).mono ?_; rintro e w4 ⟨rfl, qd, rfl⟩
        have hbq := bt1 hbr.out (below_drewN (Below.refl _ _) qd)
        have hoq := Lib.hid (ho.out.below (below_drewN (Below.refl _ _) qd))
        go_wp2_with fail
        refine (hFk.out _ hbq).mono ?_; rintro e w5 ⟨gm, gw, rfl, ho5, hb5⟩
        have ho5' := Lib.hid (hoq.out.below hb5)
        replace hb5 := Lib.hid (bt1 hbq hb5)
        have hgm := (ho5.lt gm rfl)
        have hcell := Lib.hid (fun y (hy : y < N) wr (hg : w5.grownBy wr (some g)) => show wr.cell? ⟨gm, y, none⟩ = some (.int .i64 (fI (D (gray k) (gray y)))) by
          have hne : gm ≠ g := fun e => by
            have h1 := (ho.out.lt g rfl).2
            have h2 := hgm.1
            have h3 : (wA.drewN qd).heap.size = wA.heap.size := rfl
            rw [h3] at h2; omega
          rw [World.cell?_of_block (hg.block gm hgm.2 (fun e => hne (Option.some.inj e)))]
          have := (ho5.cell (by simp) y (by simpa using hy)).1
          simpa using this)
        have hrow5 := Lib.hid (show OwnG bE w5 w.heap.size (.slice (some ⟨g, 0, none⟩) N N) (cvR D l (gray k) N 0) by rw [cvR_any D l (gray k) 0]; exact ho5'.out)
        clear ho5 hoq hbq c0 ho5'
        go_wp2_with fail
        go_loopw [36] (fun i wr => ∃ y : Nat, y ≤ N ∧ i = .int .i64 y ∧ Hid (OwnG bE wr w.heap.size (.slice (some ⟨g, 0, none⟩) N N) (cvR D l (gray k) N y)) ∧ Hid (w5.grownBy wr (some g))) (fun i _ => N - (intOf i).toNat)
        case atStart => exact ⟨0, Nat.zero_le _, rfl, hrow5, Lib.hid ⟨rfl, rfl, rfl, Nat.le_refl _, fun _ _ _ => rfl⟩⟩
        case round =>
          obtain ⟨y, hy, rfl, hoy, hgy⟩ := hrel
          rename World => wB
          by_cases hyl : y < N
          · have cm := hcell.out y hyl wB hgy.out
            have hyx : y < (cvR D l (gray k) N y).length := by rw [cvR_len]; exact hyl
            have cs := hoy.out.cells (cvR_len _ _ _ _ _).symm y hyx 0 (by decide)
            replace cs : wB.cell? ⟨g, y, none⟩ = some (.bool (cov D l (gray y))) := by
              have e : y * bE.n + 0 = y := Nat.mul_one y
              rw [e] at cs
              rw [cs, cvR_get, if_neg (by omega)]; rfl
            have cf := hoy.out.frozen (cvR_len _ _ _ _ _).symm y
            have hgk := hge.out y
            have hck := hcs.out y
            have hst : Hid (∀ b, b = cov D (l ++ [gray k]) (gray y) → OwnG bE (wB.setCell ⟨g, y, none⟩ (.bool b)) w.heap.size (.slice (some ⟨g, 0, none⟩) N N) (cvR D l (gray k) N (y + 1)) ∧ w5.grownBy (wB.setCell ⟨g, y, none⟩ (.bool b)) (some g)) := Lib.hid (fun b hb => by
              obtain ⟨a1, a2⟩ := hoy.out.stored (cvR_len _ _ _ _ _).symm y hyx 0 (by decide) (.bool b) b rfl
              have e : y * bE.n + 0 = y := Nat.mul_one y
              rw [e] at a1 a2
              rw [hb, cvR_set] at a1
              rw [hb] at a2 ⊢
              exact ⟨a1, hgy.out.trans a2⟩)
            generalize cov D (l ++ [gray k]) (gray y) = C2 at *
            generalize cov D l (gray y) = C1 at *
            generalize (D (gray k) (gray y)).isSome = C3 at *
            generalize fI (D (gray k) (gray y)) = fi at *
            cases C1 with
            | true =>
              have hS := hst.out true (by rw [← hck]; rfl)
              clear hst hgk
              go_wp2_with fail
              go_roundw
              case rel => exact ⟨y + 1, by omega, by go_num, Lib.hid hS.1, Lib.hid hS.2⟩
              all_goals (simp [intOf] <;> omega)
            | false =>
              have hS := hst.out C2 rfl
              clear hst
              go_wp2_with fail
              go_roundw
              case rel => exact ⟨y + 1, by omega, by go_num, Lib.hid hS.1, Lib.hid hS.2⟩
              all_goals (simp [intOf] <;> omega)
          · obtain rfl : y = N := by omega
            have hrowN := Lib.hid (show OwnG bE wB w.heap.size (.slice (some ⟨g, 0, none⟩) y y) (cvR D (l ++ [gray k]) 0 y 0) by rw [← cvR_full D l (gray k) 0 y y (Nat.le_refl _)]; exact hoy.out)
            have hbN : Hid (Below w.heap.size w wB) := Lib.hid (hb5.out.grown hgy.out hb5.out.size (fun k e => by have := Option.some.inj e; have := (hrow0.out.lt g rfl).1; omega))
            go_wp2_with fail
            go_roundw
            case rel => exact ⟨k + 1, l ++ [gray k], by omega, by go_num, by rw [hL2.out]; go_num, by rw [hL2.out]; omega, hP2, hrowN, hbN⟩
            all_goals (simp [intOf] <;> omega)
    · obtain rfl : k = N := by omega
      have hd := hdone.out l hP.out
      rw [hL.out] at hd
      go_wp2_with fail
      go_ret; exact ⟨L, hd, rfl, hbr.out⟩
end Go.Proofs.Ytcfeaaakfjilgab
