/- The model's search in breadth. -/
import Derived.Test.YtmbijomjilicgabDoorB5
import Derived.Test.YtmbijomjilicgabDoorStrs
import Derived.Deep.DeepCutAuto
import Derived.BigRegion
import Derived.Deep.OwnRows
namespace Go.Proofs.YtmbijomjilicgabDoor
open Go Go.RowKit RM

theorem OwnT.lenOf {w : World} {B : Nat} {v : Value} {xs : List ByteArray} (h : OwnT w B v xs) : lenOf v = xs.length := by
  rcases h.form with ⟨rfl, rfl⟩ | ⟨g, cap, rfl, _⟩ <;> rfl
theorem own_lit (w : World) (s : ByteArray) (B : Nat) (hB : B ≤ w.heap.size) : OwnT (w.alloc (.cells #[.string s] 9)) B (.slice (some ⟨w.heap.size, 0, none⟩) 1 1) [s] :=
  ⟨rfl, .inr ⟨_, 1, #[.string s], rfl, hB, alloc_at _ _, Nat.le_refl _, by decide, rfl, rfl⟩⟩
structure TI (B : Nat) (w0 w : World) (N gm gw : Nat) (q : Value) (Q : List ByteArray) (M W : List Int) : Prop where
  mv : OwnI w B (.slice (some ⟨gm, 0, none⟩) N N) M
  wy : OwnI w B (.slice (some ⟨gw, 0, none⟩) N N) W
  qu : OwnT w B q Q
  ne : gm ≠ gw
  bel : Below B w0 w
  le : B ≤ w.heap.size
structure TJ (B : Nat) (w0 w : World) (N gm gw : Nat) (q : Value) (Q : List ByteArray) (M W : List Int) (v : Value) (Bv : Nat) (pm : List Int) : Prop where
  si : TI B w0 w N gm gw q Q M W
  vm : OwnI w Bv v pm
  hm : gm < Bv
  hw : gw < Bv
section
variable {B : Nat} {w0 w w' : World} {N gm gw : Nat} {q q' : Value} {Q : List ByteArray} {M W : List Int} {v : Value} {Bv : Nat} {pm : List Int}
theorem TI.below (h : TI B w0 w N gm gw q Q M W) (hb : Below w.heap.size w w') : TI B w0 w' N gm gw q Q M W :=
  ⟨h.mv.below hb, h.wy.below hb, h.qu.below hb, h.ne, h.bel.trans (hb.mono h.le), Nat.le_trans h.le hb.size⟩
theorem TI.storeM (h : TI B w0 w N gm gw q Q M W) (hM : M.length = N) (k : Nat) (y : Int) : TI B w0 (w.setCell ⟨gm, k, none⟩ (.int .i64 y)) N gm gw q Q (M.set k y) W := by
  obtain ⟨hs, hg⟩ := h.mv.stored hM k y
  have hm := (h.mv.lt gm rfl)
  exact ⟨hs, h.wy.kept hg (.inr fun e => h.ne (Option.some.inj e).symm), h.qu.kept hg (own_ne_type h.qu h.mv (by decide)), h.ne, h.bel.setCell hm.1 _, by simpa using h.le⟩
theorem TI.storeW (h : TI B w0 w N gm gw q Q M W) (hW : W.length = N) (k : Nat) (y : Int) : TI B w0 (w.setCell ⟨gw, k, none⟩ (.int .i64 y)) N gm gw q Q M (W.set k y) := by
  obtain ⟨hs, hg⟩ := h.wy.stored hW k y
  have hm := (h.wy.lt gw rfl)
  exact ⟨h.mv.kept hg (.inr fun e => h.ne (Option.some.inj e)), hs, h.qu.kept hg (own_ne_type h.qu h.wy (by decide)), h.ne, h.bel.setCell hm.1 _, by simpa using h.le⟩
theorem TI.push {z : ByteArray} (h : TI B w0 w N gm gw q Q M W) (hq : OwnT w' B q' (Q ++ [z])) (hg : w.grownBy w' q.ownBlock) : TI B w0 w' N gm gw q' (Q ++ [z]) M W :=
  ⟨h.mv.kept hg (own_ne_type h.mv h.qu (by decide)), h.wy.kept hg (own_ne_type h.wy h.qu (by decide)), hq, h.ne, h.bel.grown hg h.le (fun k e => (h.qu.lt k e).1), Nat.le_trans h.le hg.size⟩
theorem TJ.below (h : TJ B w0 w N gm gw q Q M W v Bv pm) (hb : Below w.heap.size w w') : TJ B w0 w' N gm gw q Q M W v Bv pm :=
  ⟨h.si.below hb, h.vm.below hb, h.hm, h.hw⟩
theorem TJ.storeM (h : TJ B w0 w N gm gw q Q M W v Bv pm) (hM : M.length = N) (k : Nat) (y : Int) : TJ B w0 (w.setCell ⟨gm, k, none⟩ (.int .i64 y)) N gm gw q Q (M.set k y) W v Bv pm := by
  refine ⟨h.si.storeM hM k y, h.vm.kept (h.si.mv.stored hM k y).2 ?_, h.hm, h.hw⟩
  cases e : v.ownBlock with
  | none => left; rfl
  | some a => right; intro e2; have := (h.vm.lt a e).1; have := h.hm; have := Option.some.inj e2; omega
theorem TJ.storeW (h : TJ B w0 w N gm gw q Q M W v Bv pm) (hW : W.length = N) (k : Nat) (y : Int) : TJ B w0 (w.setCell ⟨gw, k, none⟩ (.int .i64 y)) N gm gw q Q M (W.set k y) v Bv pm := by
  refine ⟨h.si.storeW hW k y, h.vm.kept (h.si.wy.stored hW k y).2 ?_, h.hm, h.hw⟩
  cases e : v.ownBlock with
  | none => left; rfl
  | some a => right; intro e2; have := (h.vm.lt a e).1; have := h.hw; have := Option.some.inj e2; omega
theorem TJ.push {z : ByteArray} (h : TJ B w0 w N gm gw q Q M W v Bv pm) (hq : OwnT w' B q' (Q ++ [z])) (hg : w.grownBy w' q.ownBlock) : TJ B w0 w' N gm gw q' (Q ++ [z]) M W v Bv pm :=
  ⟨h.si.push hq hg, h.vm.kept hg (own_ne_type h.vm h.si.qu (by decide)), h.hm, h.hw⟩
end
theorem own_made' {w : World} {B g N : Nat} (h : w.heap[g]? = some (.cells (madeCells #[.int .i64 0] N) 3)) (hB : B ≤ g) (hN : N ≤ 2000000) : OwnI w B (.slice (some ⟨g, 0, none⟩) N N) (List.replicate N 0) := by
  have e : vint (List.replicate N 0) = (madeCells #[.int .i64 0] N).toList := by rw [toList_madeCells_one]; simp [vint]
  have e2 : (madeCells #[Value.int .i64 0] N).size = N := by
    have := congrArg List.length e; simpa [vint] using this.symm
  unfold OwnI World.ownsRow
  rw [List.length_replicate]
  refine ⟨by simp [vint], .inr ⟨g, N, _, rfl, hB, h, Nat.le_refl _, by unfold maxLen; omega, by rw [e2]; omega, ?_⟩⟩
  rw [e, List.take_of_length_le (by rw [Array.length_toList, e2]; omega)]
theorem h2_0 (a : World) (o1 o2 : Obj) (k : Nat) (hk : k = a.heap.size) : ((a.alloc o1).alloc o2).drew.heap[k]? = some o1 := by
  show ((a.alloc o1).alloc o2).heap[k]? = some o1
  rw [Below.heap_alloc _ _ _ (by simp; omega)]; exact alloc_at' _ _ _ hk.symm
theorem h2_1 (a : World) (o1 o2 : Obj) (k : Nat) (hk : k = a.heap.size + 1) : ((a.alloc o1).alloc o2).drew.heap[k]? = some o2 := by
  show ((a.alloc o1).alloc o2).heap[k]? = some o2
  exact alloc_at' _ _ _ (by simp; omega)
abbrev mF (N s : Nat) (Q : List Nat) : List Int := fRow N id (fun z => (dd s z : Int)) (-1) Q
abbrev wF (N : Nat) (Q : List Nat) : List Int := fRow N id (fun _ => 1) 0 Q
theorem mF_one (N S : Nat) : (List.replicate N (-1) : List Int).set S 0 = mF N S [S] := by
  rw [← fRow_nil N id (fun z => (dd S z : Int)) (-1), fRow_set N id (fun z => (dd S z : Int)) (-1) [] S 0 (by simp [dd_self]) (fun _ _ h => h)]; rfl
theorem wF_one (N S : Nat) : (List.replicate N 0 : List Int).set S 1 = wF N [S] := by
  rw [← fRow_nil N id (fun _ => 1) 0, fRow_set N id (fun _ => 1) 0 [] S 1 rfl (fun _ _ h => h)]; rfl
theorem mF_set (N s y : Nat) (Q : List Nat) : (mF N s Q).set y (dd s y : Int) = mF N s (Q ++ [y]) := fRow_set N id _ (-1) Q y _ rfl (fun _ _ h => h)
theorem wF_set (N y : Nat) (Q : List Nat) : (wF N Q).set y 1 = wF N (Q ++ [y]) := fRow_set N id _ 0 Q y _ rfl (fun _ _ h => h)

set_option maxRecDepth 100000 in
set_option maxHeartbeats 4000000 in
theorem far_core (s : ByteArray) (T : Nat → ByteArray) (pm : Nat → List Int) (n S N : Nat) (w : World) (hs : s.size = n) (hn : n ≤ 12) (h4 : 4 ≤ N) (hN : N ≤ 4096) (hSN : S < N) (hX : (2 : Int) ^ n = (N : Int)) (hPN : Hid (PN N)) (hsT : Hid (s = T S))
    (hpl : Hid (∀ z, z < N → (pm z).length = (nb N z).length))
    (hNum : Hid (∀ z w, z < N → Calls Tryd.prog 55 #[.string (T z)] w fun e w' => e = .returned (.int .i64 (z : Int)) ∧ w = w'))
    (hMo : Hid (∀ z w, z < N → Calls Tryd.prog 50 #[.string (T z)] w fun e w' => ∃ v, e = .returned v ∧ OwnI w' w.heap.size v (pm z) ∧ Below w.heap.size w w'))
    (hMa : Hid (∀ z j w (_ : z < N) (h : j < (pm z).length) (h' : j < (nb N z).length), Calls Tryd.prog 51 #[.string (T z), .int .i64 (pm z)[j]] w fun e w' => e = .returned (.string (T (nb N z)[j])) ∧ ∃ q, w' = w.drewN q)) :
    Calls Tryd.prog 34 #[.string s] w fun e w' => ∃ gm gw, e = .returned (.tuple #[.slice (some ⟨gm, 0, none⟩) N N, .slice (some ⟨gw, 0, none⟩) N N]) ∧
      OwnI w' w.heap.size (.slice (some ⟨gm, 0, none⟩) N N) ((List.range N).map fun y => (dd S y : Int)) ∧ OwnI w' w.heap.size (.slice (some ⟨gw, 0, none⟩) N N) (List.replicate N 1) ∧ Below w.heap.size w w' := by
  have hmk := run_make_row' (P := Tryd.prog) 22 3 (.int .i64 0) 8 Tryd.underlying22 intInfo rfl .i64 .i64 N (by omega) (by omega)
  have hsN := Lib.hid (hNum.out S · hSN)
  rw [← hsT.out] at hsN
  go_enter Tryd.func34, Tryd.ntmps34
  go_upto_region 1 with fail
  go_cut [4, 5] (fun t4 t5 wx => ∃ gm gw, t4 = .slice (some ⟨gm, 0, none⟩) N N ∧ t5 = .slice (some ⟨gw, 0, none⟩) N N ∧ wx.heap[gm]? = some (.cells (madeCells #[.int .i64 0] N) 3) ∧ wx.heap[gw]? = some (.cells (madeCells #[.int .i64 0] N) 3) ∧ gm ≠ gw ∧ w.heap.size ≤ gm ∧ w.heap.size ≤ gw ∧ Below w.heap.size w wx)
  case first =>
    go_region
    all_goals
      go_wp2_with fail
      go_meet
      first
        | exact ⟨_, _, rfl, rfl, h2_0 _ _ _ _ rfl, h2_1 _ _ _ _ rfl, by omega, by omega, by omega, (((Below.refl _ _).alloc (Nat.le_refl _) _).alloc (by simp) _).drew⟩
        | exact ⟨_, _, rfl, rfl, h2_1 _ _ _ _ rfl, h2_0 _ _ _ _ rfl, by omega, by omega, by omega, (((Below.refl _ _).alloc (Nat.le_refl _) _).alloc (by simp) _).drew⟩
  case rest =>
    obtain ⟨gm, gw, rfl, rfl, hm, hw, hne, hgm, hgw, hbx⟩ := hcut
    have hT0 : TI w.heap.size w wc N gm gw (.slice none 0 0) [] (List.replicate N 0) (List.replicate N 0) := ⟨own_made' hm hgm (by omega), own_made' hw hgw (by omega), OwnT.nil _ _, hne, hbx, hbx.size⟩
    have hT0 := Lib.hid hT0
    clear hm hw hbx
    go_wp2_with fail
    go_loopw [25] (fun i wr => ∃ k : Nat, k ≤ N ∧ i = .int .i64 k ∧ Hid (TI w.heap.size w wr N gm gw (.slice none 0 0) [] (List.replicate k (-1) ++ List.replicate (N - k) 0) (List.replicate N 0))) (fun i _ => N - (intOf i).toNat)
    case atStart => exact ⟨0, Nat.zero_le _, rfl, Lib.hid (by simpa using hT0.out)⟩
    case round =>
      obtain ⟨k, hk, rfl, hS⟩ := hrel
      by_cases hlt : k < N
      · have hlk : Hid ((List.replicate k (-1 : Int) ++ List.replicate (N - k) 0).length = N) := Lib.hid (by simp; omega)
        obtain ⟨c0, cf⟩ := hS.out.mv.cell hlk.out k (by rw [hlk.out]; exact hlt)
        obtain ⟨y, hy⟩ : ∃ y, Hid (y = (List.replicate k (-1 : Int) ++ List.replicate (N - k) 0)[k]'(by rw [hlk.out]; exact hlt)) := ⟨_, Lib.hid rfl⟩
        rw [← hy.out] at c0
        go_wp2_with fail
        go_roundw
        case rel =>
          refine ⟨k + 1, by omega, by go_num, Lib.hid ?_⟩
          have h9 := hS.out.storeM hlk.out k (-1)
          have e : (List.replicate k (-1 : Int) ++ List.replicate (N - k) 0).set k (-1) = List.replicate (k + 1) (-1) ++ List.replicate (N - (k + 1)) 0 := by
            rw [List.set_append_right _ _ (by simp), List.length_replicate, Nat.sub_self, show N - k = (N - (k + 1)) + 1 from by omega, List.replicate_succ, List.set_cons_zero, List.replicate_succ', List.append_assoc]; rfl
          rw [e] at h9; exact h9
        all_goals (simp [intOf] <;> omega)
      · obtain rfl : N = k := by omega
        have hS1 := hS.out
        rw [Nat.sub_self, List.replicate_zero, List.append_nil] at hS1
        obtain ⟨c0, cf⟩ := hS1.mv.cell (by simp) S (by simpa using hSN)
        obtain ⟨f0, ff⟩ := hS1.wy.cell (by simp) S (by simpa using hSN)
        rw [List.getElem_replicate] at c0 f0
        have hS1 := Lib.hid hS1
        go_wp2_with fail
        refine (hsN.out _).mono ?_; rintro e w2 ⟨rfl, rfl⟩
        have hne' : gw ≠ gm := fun e => hne e.symm
        go_upto_region 10 with fail
        obtain ⟨W2, hW2⟩ : ∃ W2, W2 = (wr.setCell ⟨gm, S, none⟩ (.int .i64 0)).setCell ⟨gw, S, none⟩ (.int .i64 1) := ⟨_, rfl⟩
        have hS2 := (hS1.out.storeM (by simp) S 0).storeW (by simp) S 1
        rw [← hW2, mF_one, wF_one] at hS2
        rw [← hW2]
        clear hW2 c0 cf f0 ff
        have hS3 := hS2.below (ba W2 (.cells #[.string s] 9))
        have hS4 : TI w.heap.size w (W2.alloc (.cells #[.string s] 9)) N gm gw (.slice (some ⟨W2.heap.size, 0, none⟩) 1 1) ([S].map T) (mF N S [S]) (wF N [S]) :=
          ⟨hS3.mv, hS3.wy, by rw [List.map_cons, List.map_nil, ← hsT.out]; exact own_lit W2 s _ hS2.le, hS3.ne, hS3.bel, hS3.le⟩
        have hS4 := Lib.hid hS4
        clear hS2 hS3
        go_wp2_with fail
        go_loopw [8, 9] (fun q i wr => ∃ (Q : List Nat) (k : Nat), i = .int .i64 k ∧ Hid (Bfs N S Q k []) ∧ Hid (TI w.heap.size w wr N gm gw q (Q.map T) (mF N S Q) (wF N Q))) (fun _ i _ => N - (intOf i).toNat)
        case atStart => exact ⟨[S], 0, rfl, Lib.hid (Bfs.init hSN), hS4⟩
        case round =>
          obtain ⟨Q, k, rfl, hB, hS⟩ := hrel
          have hQN := hB.out.len
          rcases hS.out.qu.form with ⟨_, e⟩ | ⟨gq, cap, hqe, hgq, hgql, hqc, _, _⟩
          · exfalso
            have := hB.out.src
            rw [List.map_eq_nil_iff] at e; rw [e] at this; simp at this
          rw [List.length_map] at hqe
          subst hqe
          by_cases hlt : k < Q.length
          · have a0 := hqc k (by simpa using hlt)
            obtain ⟨z, hz⟩ : ∃ z, Hid (z = Q[k]) := ⟨_, Lib.hid rfl⟩
            have hzN : z < N := by rw [hz.out]; exact hB.out.lt _ (List.getElem_mem hlt)
            obtain ⟨sz, hsz⟩ : ∃ sz, Hid (sz = T z) := ⟨_, Lib.hid rfl⟩
            rw [show (Q.map T)[k]'(by simpa using hlt) = sz from by rw [hsz.out, hz.out]; simp] at a0
            clear hqc
            have hzQ : Hid (z ∈ Q) := Lib.hid (by rw [hz.out]; exact List.getElem_mem hlt)
            have hNz := Lib.hid (hNum.out z · hzN)
            have hMz := Lib.hid (hMo.out z · hzN)
            rw [← hsz.out] at hNz hMz
            go_wp2_with fail
            refine (hNz.out _).mono ?_; rintro e w3 ⟨rfl, rfl⟩
            go_wp2_with fail
            refine (hMz.out _).mono ?_; rintro e w3 ⟨v, rfl, hov, hb2⟩
            have hpne : pm z ≠ [] := by
              intro e
              have := hpl.out z hzN
              rw [e] at this
              have h2 : nb N z ≠ [] := by unfold nb rg; split <;> simp
              exact h2 (List.length_eq_zero_iff.1 this.symm)
            rcases hov.form with ⟨_, e⟩ | ⟨gv, capv, rfl, hgv, hgvl, hvc, _, _⟩
            · exact absurd e hpne
            clear hpne hvc
            obtain ⟨L, hL⟩ : ∃ L, Hid (L = (pm z).length) := ⟨_, Lib.hid rfl⟩
            rw [← hL.out] at hov
            rw [← hL.out]
            have hLn : Hid (L = (nb N z).length) := Lib.hid (by rw [hL.out]; exact hpl.out z hzN)
            have hL3 : L ≤ 3 := by rw [hLn.out]; exact nb_len N z
            have hdN : dd S z < N := dd_le hSN hzN
            obtain ⟨D, hD⟩ : ∃ D, Hid (D = dd S z) := ⟨_, Lib.hid rfl⟩
            rw [← hD.out] at hdN
            have hJ0 := Lib.hid (show TJ w.heap.size w w3 N gm gw (.slice (some ⟨gq, 0, none⟩) Q.length cap) (Q.map T) (mF N S Q) (wF N Q) (.slice (some ⟨gv, 0, none⟩) L capv) wr.heap.size (pm z) from
              ⟨hS.out.below hb2, hov, (hS.out.mv.lt gm rfl).2, (hS.out.wy.lt gw rfl).2⟩)
            have hov := Lib.hid hov
            have hb2 := Lib.hid hb2
            clear a0
            go_wp2_with fail
            go_loopw [8, 59] (fun q jv wi => ∃ (Q' : List Nat) (j : Nat), jv = .int .i64 j ∧ j ≤ L ∧ Hid (Bfs N S Q' k ((nb N z).take j)) ∧ Hid (Q'[k]? = some z) ∧ Hid (TJ w.heap.size w wi N gm gw q (Q'.map T) (mF N S Q') (wF N Q') (.slice (some ⟨gv, 0, none⟩) L capv) wr.heap.size (pm z))) (fun _ jv _ => L - (intOf jv).toNat)
            case atStart => exact ⟨Q, 0, rfl, Nat.zero_le _, Lib.hid (by simpa using hB.out), Lib.hid (by rw [List.getElem?_eq_getElem hlt, hz.out]), hJ0⟩
            case round =>
              obtain ⟨Q', j, rfl, hj, hB', hQk, hJ⟩ := hrel
              by_cases hjl : j < L
              · have hjp : j < (pm z).length := by rw [← hL.out]; exact hjl
                have hjn : j < (nb N z).length := by rw [← hLn.out]; exact hjl
                obtain ⟨mk, hmk'⟩ : ∃ mk, Hid (mk = (pm z)[j]) := ⟨_, Lib.hid rfl⟩
                obtain ⟨t, ht⟩ : ∃ t, Hid (t = (nb N z)[j]) := ⟨_, Lib.hid rfl⟩
                obtain ⟨st, hst⟩ : ∃ st, Hid (st = T t) := ⟨_, Lib.hid rfl⟩
                have hMk := Lib.hid (hMa.out z j · hzN hjp hjn)
                rw [← hsz.out, ← hmk'.out, ← ht.out, ← hst.out] at hMk
                have hkl : k < Q'.length := (List.getElem?_eq_some_iff.1 hQk.out).1
                have hkz : Q'[k] = z := (List.getElem?_eq_some_iff.1 hQk.out).2
                have hJeq : nb N Q'[k] = (nb N z).take j ++ t :: (nb N z).drop (j + 1) := by
                  have := List.take_append_drop j (nb N z)
                  rw [List.drop_eq_getElem_cons hjn, ← ht.out] at this
                  rw [hkz]; exact this.symm
                have hTake : Hid ((nb N z).take (j + 1) = (nb N z).take j ++ [t]) := Lib.hid (by rw [List.take_succ_eq_append_getElem hjn, ← ht.out])
                have htN : t < N := ((mem_nb hzN hPN.out).1 (by rw [ht.out]; exact List.getElem_mem _)).1
                have hNt := Lib.hid (hNum.out t · htN)
                rw [← hst.out] at hNt
                have hQl := hB'.out.len
                obtain ⟨ev, _⟩ := hJ.out.vm.cell hL.out.symm j hjp
                rw [← hmk'.out] at ev
                rcases hJ.out.si.qu.form with ⟨_, e⟩ | ⟨gq2, cap2, hqe, hgq2, hgql2, hqc, _, _⟩
                · exfalso
                  rw [List.map_eq_nil_iff] at e; rw [e] at hkl; simp at hkl
                rw [List.length_map] at hqe
                subst hqe
                have a0 := hqc k (by simpa using hkl)
                rw [show (Q'.map T)[k]'(by simpa using hkl) = sz from by rw [hsz.out]; simp [hkz]] at a0
                have hfresh := Lib.hid (fun hd => hB'.out.fresh hPN.out hSN hkl hJeq hd)
                have hold := Lib.hid (fun hd => hB'.out.old hPN.out hSN hkl hJeq hd)
                have hkz' := Lib.hid hkz
                have hzQ' : Hid (z ∈ Q') := Lib.hid (by rw [← hkz]; exact List.getElem_mem _)
                have hTi := Lib.hid hJ
                clear hJeq hqc hkz
                go_wp2_with fail
                refine (hMk.out _).mono ?_; rintro e w4 ⟨rfl, qd, rfl⟩
                obtain ⟨W5, hW5⟩ : ∃ W5, W5 = wr.drewN qd := ⟨_, rfl⟩
                have hJ5 := hJ.out.below (below_q _ qd)
                rw [← hW5] at hJ5
                rw [← hW5]
                have hJ5' := Lib.hid hJ5
                clear hW5 a0 ev
                go_wp2_with fail
                refine (hNt.out _).mono ?_; rintro e w5 ⟨rfl, rfl⟩
                obtain ⟨c0, cf⟩ := hJ5.si.mv.cell (fRow_len _ _ _ _ _) t (by rw [fRow_len]; exact htN)
                obtain ⟨c1, cf1⟩ := hJ5.si.mv.cell (fRow_len _ _ _ _ _) z (by rw [fRow_len]; exact hzN)
                rw [fRow_get, id_eq] at c0 c1
                rw [if_pos hzQ'.out, ← hD.out] at c1
                clear hJ5
                by_cases hd : dd S t = dd S z + 1
                · obtain ⟨hnew, -, hB2⟩ := hfresh.out (by rw [hkz'.out]; exact hd)
                  rw [if_neg hnew] at c0
                  have hdD : Hid (((D : Int) + 1) = (dd S t : Int)) := Lib.hid (by rw [hD.out]; omega)
                  have hB2' := Lib.hid hB2
                  have hnew' := Lib.hid hnew
                  clear hd hB2 hnew
                  go_upto_region 22 with fail
                  obtain ⟨W6, hW6⟩ : ∃ W6, W6 = W5.setCell ⟨gm, t, none⟩ (.int .i64 ((D : Int) + 1)) := ⟨_, rfl⟩
                  have hJ6 := hJ5'.out.storeM (fRow_len _ _ _ _ _) t ((D : Int) + 1)
                  rw [← hW6] at hJ6
                  rw [← hW6]
                  rw [hdD.out, mF_set] at hJ6
                  have hJ6 := Lib.hid hJ6
                  clear hW6 c0 cf c1 cf1
                  have hcv : Hid (((dd S t : Nat) : Int) = (D : Int) + 1) := Lib.hid hdD.out.symm
                  have hmapq : Hid ((Q' ++ [t]).map T = Q'.map T ++ [st]) := Lib.hid (by rw [hst.out]; simp)
                  go_wp2_with (at_builtin; refine app_txt _ rfl _ _ rfl w.heap.size _ _ rfl ((hJ6.out.below (ba W6 (.cells #[.string st] 9))).si.qu) W6.heap.size st rfl (by simp) (by rw [List.length_map]; omega) (Nat.le_trans hJ6.out.si.le (by simp)) ?_; intro v' w7 ho7 hg7; have hJ7 := (hJ6.out.below (ba W6 (.cells #[.string st] 9))).push ho7 hg7; rw [← hmapq.out] at hJ7; clear ho7 hg7; obtain ⟨c0, cf⟩ := hJ7.si.mv.cell (fRow_len _ _ _ _ _) t (by rw [fRow_len]; exact htN); obtain ⟨c1, cf1⟩ := hJ7.si.mv.cell (fRow_len _ _ _ _ _) z (by rw [fRow_len]; exact hzN); obtain ⟨f0, ff⟩ := hJ7.si.wy.cell (fRow_len _ _ _ _ _) t (by rw [fRow_len]; exact htN); obtain ⟨f1, ff1⟩ := hJ7.si.wy.cell (fRow_len _ _ _ _ _) z (by rw [fRow_len]; exact hzN); rw [fRow_get, id_eq, if_pos (by simp), hcv.out] at c0; rw [fRow_get, id_eq, if_pos (by simp [hzQ'.out]), ← hD.out] at c1; rw [fRow_get, id_eq, if_neg hnew'.out] at f0; rw [fRow_get, id_eq, if_pos hzQ'.out] at f1; have hJ7' := Lib.hid hJ7; clear hJ7)
                  go_quiet (fail)
                  go_wp2_with fail
                  go_region
                  go_wp2_with fail
                  go_roundw
                  case rel =>
                    refine ⟨Q' ++ [t], j + 1, by go_num, by omega, Lib.hid (by rw [hTake.out]; exact hB2'.out), Lib.hid (by rw [List.getElem?_append_left hkl]; exact hQk.out), Lib.hid ?_⟩
                    have hS9 := (hJ7'.out.below (below_q _ nq)).storeW (fRow_len _ _ _ _ _) t 1
                    rw [wF_set] at hS9
                    exact hS9.below (Below.refl _ _).drew
                  all_goals (simp [intOf] <;> omega)
                · obtain ⟨hmem, -, hB2⟩ := hold.out (by rw [hkz'.out]; exact hd)
                  rw [if_pos hmem] at c0
                  obtain ⟨E, hE⟩ : ∃ E, Hid (E = dd S t) := ⟨_, Lib.hid rfl⟩
                  rw [← hE.out] at c0
                  have hne2 : ((E : Int) == (D : Int) + 1) = false := by
                    rw [beq_eq_false_iff_ne]; intro e; apply hd; rw [← hE.out, ← hD.out]; omega
                  have hB2' := Lib.hid hB2
                  clear hd hB2 hmem
                  go_wp2_with fail
                  go_quiet (fail)
                  go_wp2_with fail
                  go_roundw
                  case rel => exact ⟨Q', j + 1, by go_num, by omega, Lib.hid (by rw [hTake.out]; exact hB2'.out), hQk, Lib.hid (hJ5'.out.below (below_q _ nq))⟩
                  all_goals (simp [intOf] <;> omega)
              · obtain rfl : j = L := by omega
                have hB3 : Bfs N S Q' (k + 1) [] := by
                  have hkl : k < Q'.length := (List.getElem?_eq_some_iff.1 hQk.out).1
                  have hkz : Q'[k] = z := (List.getElem?_eq_some_iff.1 hQk.out).2
                  have h1 := hB'.out
                  rw [List.take_of_length_le (by rw [← hLn.out]; exact Nat.le_refl _), ← hkz] at h1
                  exact Bfs.next hPN.out hSN hkl h1
                have hB3 := Lib.hid hB3
                go_wp2_with fail
                go_roundw
                case rel => exact ⟨Q', k + 1, by go_num, hB3, Lib.hid hJ.out.si⟩
                all_goals (simp [intOf] <;> omega)
          · have hkQ : k = Q.length := by have := hB.out.le; omega
            have hall : ∀ z, z < N → z ∈ Q := Bfs.all hSN (by have := hB.out; rw [hkQ] at this; exact this)
            have hall := Lib.hid hall
            clear hkQ hqc
            go_wp2_with fail
            go_ret2
            have q1 : mF N S Q = (List.range N).map fun y => (dd S y : Int) := fRow_all _ _ _ _ _ fun y hy => hall.out _ hy
            have q2 : wF N Q = List.replicate N 1 := by
              refine (fRow_all N id (fun _ => 1) 0 Q fun y hy => hall.out _ hy).trans ?_
              apply List.ext_getElem
              · simp
              · intro j h1 h2; simp
            exact ⟨gm, gw, rfl, by rw [← q1]; exact hS.out.mv, by rw [← q2]; exact hS.out.wy, hS.out.bel⟩
theorem far_ST (n x : Nat) (w : World) (h2 : 2 ≤ n) (hn : n ≤ 12) (hx : x < 2 ^ n) :
    Calls Tryd.prog 34 #[.string (ST n x)] w fun e w' => ∃ gm gw, e = .returned (.tuple #[.slice (some ⟨gm, 0, none⟩) (2 ^ n) (2 ^ n), .slice (some ⟨gw, 0, none⟩) (2 ^ n) (2 ^ n)]) ∧
      OwnI w' w.heap.size (.slice (some ⟨gm, 0, none⟩) (2 ^ n) (2 ^ n)) ((List.range (2 ^ n)).map fun y => (dd (num x) y : Int)) ∧ OwnI w' w.heap.size (.slice (some ⟨gw, 0, none⟩) (2 ^ n) (2 ^ n)) (List.replicate (2 ^ n) 1) ∧ Below w.heap.size w w' := by
  have hp : 2 ^ 2 ≤ 2 ^ n := Nat.pow_le_pow_right (by omega) h2
  have hq : 2 ^ n ≤ 2 ^ 12 := Nat.pow_le_pow_right (by omega) hn
  refine far_core (ST n x) (fun z => ST n (gray z)) (fun z => pmL n (gray z)) n (num x) (2 ^ n) w (ST_size n x) hn (by omega) (by omega) (num_lt n x hx) (pow_cast n) (Lib.hid (pn_pow n h2)) (Lib.hid (by rw [gray_num])) (Lib.hid fun z hz => pmL_len n z h2 hz)
    (Lib.hid fun z w hz => ?_) (Lib.hid fun z w hz => twMoves_ST n _ w h2 (by omega)) (Lib.hid fun z j w hz h h' => ?_)
  · have := riNumber_ST n (gray z) w (by omega) (gray_lt n z hz)
    rw [num_gray] at this; exact this
  · have := twMake_ST n (gray z) (pmL n (gray z))[j] w h2 (by omega) (pm_can n _ _ (List.getElem_mem _))
    rw [pmL_get n z j h2 hz h] at this; exact this
end Go.Proofs.YtmbijomjilicgabDoor
