/- The model's search by keys: how far each state is. -/
import Derived.Test.YtcfeaaakfjilgabDoorW5
import Derived.Deep.DeepCutAuto
import Derived.BigRegion
import Derived.BigQuiet
namespace Go.Proofs.YtcfeaaakfjilgabDoor
set_option linter.unusedSimpArgs false
set_option linter.unusedVariables false
open Go Go.RowKit RM
set_option maxRecDepth 100000 in
set_option maxHeartbeats 4000000 in
theorem keFar_core (v : Value) (s : ByteArray) (T : Nat → ByteArray) (nb : Nat → List Nat) (pm : Nat → List Int) (n S N : Nat) (w : World) (hs : s.size = n) (hn : n ≤ 10) (hN : N ≤ 1024) (hSN : S < N) (hX : (2 : Int) ^ n = (N : Int)) (hsT : Hid (s = T S)) (hU : Hid (Univ nb (List.range N)))
    (hlt : Hid (∀ k z d, (run 1 nb S k).far z = some d → d < N)) (hpl : Hid (∀ z, z < N → (pm z).length = (nb z).length ∧ (pm z).length ≤ 10))
    (hNum : Hid (∀ z w, z < N → Calls Tryd.prog 31 #[.string (T z)] w fun e w' => e = .returned (.int .i64 (z : Int)) ∧ w = w'))
    (hMo : Hid (∀ z w', z < N → Below w.heap.size w w' → Calls Tryd.prog 32 #[v, .string (T z)] w' fun e w'' => ∃ u, e = .returned u ∧ OwnI w'' w'.heap.size u (pm z) ∧ Below w'.heap.size w' w''))
    (hMa : Hid (∀ z j w (_ : z < N) (h : j < (pm z).length) (h' : j < (nb z).length), Calls Tryd.prog 33 #[.string (T z), .int .i64 (pm z)[j]] w fun e w' => e = .returned (.string (T (nb z)[j])) ∧ ∃ q, w' = w.drewN q)) :
    Calls Tryd.prog 30 #[v, .string s] w fun e w' => ∃ gm gw, e = .returned (.tuple #[.slice (some ⟨gm, 0, none⟩) N N, .slice (some ⟨gw, 0, none⟩) N N]) ∧
      OwnI w' w.heap.size (.slice (some ⟨gm, 0, none⟩) N N) (mR N (fin 1 nb (List.range N) S).far) ∧ Below w.heap.size w w' := by
  have hmk := run_make_row' (P := Tryd.prog) 24 3 (.int .i64 0) 8 Tryd.underlying24 intInfo rfl .i64 .i64 N (by omega) (by omega)
  have hsN := Lib.hid (hNum.out S · hSN)
  rw [← hsT.out] at hsN
  go_enter Tryd.func30, Tryd.ntmps30
  go_upto_region 1 with fail
  go_cut [6, 7] (fun t4 t5 wx => ∃ gm gw, t4 = .slice (some ⟨gm, 0, none⟩) N N ∧ t5 = .slice (some ⟨gw, 0, none⟩) N N ∧ wx.heap[gm]? = some (.cells (madeCells #[.int .i64 0] N) 3) ∧ wx.heap[gw]? = some (.cells (madeCells #[.int .i64 0] N) 3) ∧ gm ≠ gw ∧ w.heap.size ≤ gm ∧ w.heap.size ≤ gw ∧ Below w.heap.size w wx)
  case first =>
    go_region
    all_goals
      go_wp2_with fail
      go_meet
      first
        | exact ⟨_, _, rfl, rfl, h2_0 _ _ _ _ rfl, h2_1 _ _ _ _ rfl, by omega, by omega, by omega, (((Below.refl _ _).alloc (Nat.le_refl _) _).alloc (by simp) _).drew⟩
        | exact ⟨_, _, rfl, rfl, h2_1 _ _ _ _ rfl, h2_0 _ _ _ _ rfl, by omega, by omega, by omega, (((Below.refl _ _).alloc (Nat.le_refl _) _).alloc (by simp) _).drew⟩
  case rest =>
    obtain ⟨gm, gw, rfl, rfl, hm, hw, hne, hgm, hgw, hbx⟩ := hcut
    have hT0 : TI w.heap.size w wc N gm gw (.slice none 0 0) [] (List.replicate N 0) (List.replicate N 0) := ⟨own_made' hm hgm (by omega), own_made' hw hgw (by omega), OwnT.nil _ _, hne, hbx, hbx.size⟩
    have hT0 := Lib.hid hT0
    clear hm hw hbx
    go_wp2_with fail
    go_loopw [27] (fun i wr => ∃ k : Nat, k ≤ N ∧ i = .int .i64 k ∧ Hid (TI w.heap.size w wr N gm gw (.slice none 0 0) [] (List.replicate k (-1) ++ List.replicate (N - k) 0) (List.replicate N 0))) (fun i _ => N - (intOf i).toNat)
    case atStart => exact ⟨0, Nat.zero_le _, rfl, Lib.hid (by simpa using hT0.out)⟩
    case round =>
      obtain ⟨k, hk, rfl, hS⟩ := hrel
      by_cases hltk : k < N
      · have hlk : Hid ((List.replicate k (-1 : Int) ++ List.replicate (N - k) 0).length = N) := Lib.hid (by simp; omega)
        obtain ⟨c0, cf⟩ := hS.out.mv.cell hlk.out k (by rw [hlk.out]; exact hltk)
        obtain ⟨y, hy⟩ : ∃ y, Hid (y = (List.replicate k (-1 : Int) ++ List.replicate (N - k) 0)[k]'(by rw [hlk.out]; exact hltk)) := ⟨_, Lib.hid rfl⟩
        rw [← hy.out] at c0
        go_wp2_with fail
        go_roundw
        case rel =>
          refine ⟨k + 1, by omega, by go_num, Lib.hid ?_⟩
          have h9 := hS.out.storeM hlk.out k (-1)
          have e : (List.replicate k (-1 : Int) ++ List.replicate (N - k) 0).set k (-1) = List.replicate (k + 1) (-1) ++ List.replicate (N - (k + 1)) 0 := by
            rw [List.set_append_right _ _ (by simp), List.length_replicate, Nat.sub_self, show N - k = (N - (k + 1)) + 1 from by omega, List.replicate_succ, List.set_cons_zero, List.replicate_succ', List.append_assoc]; rfl
          rw [e] at h9; exact h9
        all_goals (simp [intOf] <;> omega)
      · obtain rfl : N = k := by omega
        have hS1 := hS.out
        rw [Nat.sub_self, List.replicate_zero, List.append_nil] at hS1
        obtain ⟨c0, cf⟩ := hS1.mv.cell (by simp) S (by simpa using hSN)
        obtain ⟨f0, ff⟩ := hS1.wy.cell (by simp) S (by simpa using hSN)
        rw [List.getElem_replicate] at c0 f0
        have hS1 := Lib.hid hS1
        go_wp2_with fail
        refine (hsN.out _).mono ?_; rintro e w2 ⟨rfl, rfl⟩
        have hne' : gw ≠ gm := fun e => hne e.symm
        go_upto_region 10 with fail
        obtain ⟨W2, hW2⟩ : ∃ W2, W2 = (wr.setCell ⟨gm, S, none⟩ (.int .i64 0)).setCell ⟨gw, S, none⟩ (.int .i64 1) := ⟨_, rfl⟩
        have hS2 := (hS1.out.storeM (by simp) S 0).storeW (by simp) S 1
        have hone : (List.replicate N (-1) : List Int).set S 0 = mR N (Sr.one S).far := mR_one N S
        rw [← hW2, hone] at hS2
        rw [← hW2]
        clear hW2 c0 cf f0 ff hone
        have hS3 := hS2.below (ba1 W2 (.cells #[.string s] 9))
        have hS4 : ∃ W, W.length = N ∧ TI w.heap.size w (W2.alloc (.cells #[.string s] 9)) N gm gw (.slice (some ⟨W2.heap.size, 0, none⟩) 1 1) ((run 1 nb S 0).q.map T) (mR N (run 1 nb S 0).far) W :=
          ⟨_, by simp, ⟨hS3.mv, hS3.wy, by show OwnT _ _ _ [T S]; rw [← hsT.out]; exact own_lit W2 s _ hS2.le, hS3.ne, hS3.bel, hS3.le⟩⟩
        obtain ⟨Wy, hWl, hS4⟩ := hS4
        have hS4 := Lib.hid hS4
        clear hS2 hS3
        go_wp2_with fail
        go_loopw [10, 11] (fun q i wr => ∃ (k : Nat) (W : List Int), i = .int .i64 k ∧ k ≤ (run 1 nb S k).q.length ∧ W.length = N ∧ Hid (TI w.heap.size w wr N gm gw q ((run 1 nb S k).q.map T) (mR N (run 1 nb S k).far) W)) (fun _ i _ => N - (intOf i).toNat)
        case atStart => exact ⟨0, Wy, rfl, Nat.zero_le _, hWl, hS4⟩
        case round =>
          obtain ⟨k, Wy, rfl, hkq, hWl, hS⟩ := hrel
          have hQN := run_len hU.out hSN (k := k)
          rcases hS.out.qu.form with ⟨_, e⟩ | ⟨gq, cap, hqe, hgq, hgql, hqc, _, _⟩
          · exfalso
            have h1 := (run_ok 1 nb S k).mem S
            rw [List.map_eq_nil_iff] at e; rw [e] at h1
            have := h1.2 (by rw [(run_ok 1 nb S k).zero]; simp)
            cases this
          rw [List.length_map] at hqe
          subst hqe
          obtain ⟨l0, hl0⟩ : ∃ l, Hid (l = (run 1 nb S k).q.length) := ⟨_, Lib.hid rfl⟩
          rw [← hl0.out] at hkq hQN ⊢
          by_cases hkl : k < l0
          · have hklq : k < (run 1 nb S k).q.length := by rw [← hl0.out]; exact hkl
            have a0 := hqc k (by simpa using hklq)
            obtain ⟨z, hz⟩ : ∃ z, Hid (z = (run 1 nb S k).q[k]) := ⟨_, Lib.hid rfl⟩
            have hat : Hid ((run 1 nb S k).q[k]? = some z) := Lib.hid (by rw [hz.out]; exact List.getElem?_eq_getElem hklq)
            have hzN : z < N := run_lt hU.out hSN (List.mem_of_getElem? hat.out)
            obtain ⟨sz, hsz⟩ : ∃ sz, Hid (sz = T z) := ⟨_, Lib.hid rfl⟩
            rw [show ((run 1 nb S k).q.map T)[k]'(by simpa using hklq) = sz from by rw [hsz.out, hz.out]; simp] at a0
            clear hqc
            have hNz := Lib.hid (hNum.out z · hzN)
            have hMz := Lib.hid (fun w' hb => hMo.out z w' hzN hb)
            rw [← hsz.out] at hNz hMz
            obtain ⟨D, hD⟩ : ∃ D, Hid (D = (run 1 nb S k).dst z) := ⟨_, Lib.hid rfl⟩
            have hDN : D < N := by rw [hD.out]; exact hlt.out k z _ (run_dst hat.out)
            go_wp2_with fail
            refine (hNz.out _).mono ?_; rintro e w3 ⟨rfl, rfl⟩
            go_wp2_with fail
            refine (hMz.out _ hS.out.bel).mono ?_; rintro e w3 ⟨u, rfl, hov, hb2⟩
            obtain ⟨pv, capv, rfl, -, -⟩ := hov.rd
            obtain ⟨L, hL⟩ : ∃ L, Hid (L = (pm z).length) := ⟨_, Lib.hid rfl⟩
            rw [← hL.out] at hov
            rw [← hL.out]
            have hLn : Hid (L = (nb z).length) := Lib.hid (by rw [hL.out]; exact (hpl.out z hzN).1)
            have hL10 : L ≤ 10 := by rw [hL.out]; exact (hpl.out z hzN).2
            have hJ0 := Lib.hid (show TJ w.heap.size w w3 N gm gw (.slice (some ⟨gq, 0, none⟩) l0 cap) ((run 1 nb S k).q.map T) (mR N (run 1 nb S k).far) Wy (.slice pv L capv) wr.heap.size (pm z) from
              ⟨by rw [hl0.out]; exact hS.out.below hb2, hov, (hS.out.mv.lt gm rfl).2, (hS.out.wy.lt gw rfl).2⟩)
            replace hov := Lib.hid hov
            replace hb2 := Lib.hid hb2
            clear a0
            go_wp2_with fail
            go_loopw [10, 62] (fun q jv wi => ∃ (st : Sr Nat) (j : Nat) (W : List Int), jv = .int .i64 j ∧ j ≤ L ∧ W.length = N ∧ Hid (Inn N nb S k z j st) ∧ Hid (TJ w.heap.size w wi N gm gw q (st.q.map T) (mR N st.far) W (.slice pv L capv) wr.heap.size (pm z))) (fun _ jv _ => L - (intOf jv).toNat)
            case atStart => exact ⟨_, 0, Wy, rfl, Nat.zero_le _, hWl, Lib.hid (Inn.zero hat.out), hJ0⟩
            case round =>
              obtain ⟨st, j, Wj, rfl, hj, hWjl, hI, hJ⟩ := hrel
              by_cases hjl : j < L
              · have hjp : j < (pm z).length := by rw [← hL.out]; exact hjl
                have hjn : j < (nb z).length := by rw [← hLn.out]; exact hjl
                have hQl := hI.out.len hU.out hSN
                have hstep := hI.out.step hjn
                obtain ⟨mk, hmk'⟩ : ∃ mk, Hid (mk = (pm z)[j]) := ⟨_, Lib.hid rfl⟩
                obtain ⟨t, ht⟩ : ∃ t, Hid (t = (nb z)[j]) := ⟨_, Lib.hid rfl⟩
                obtain ⟨tx, htx⟩ : ∃ tx, Hid (tx = T t) := ⟨_, Lib.hid rfl⟩
                have hMk := Lib.hid (hMa.out z j · hzN hjp hjn)
                rw [← hsz.out, ← hmk'.out, ← ht.out, ← htx.out] at hMk
                rw [← ht.out, ← hD.out] at hstep
                replace hstep := Lib.hid hstep
                have htN : t < N := List.mem_range.1 (hU.out.cl z (List.mem_range.2 hzN) t (by rw [ht.out]; exact List.getElem_mem _))
                have hNt := Lib.hid (hNum.out t · htN)
                rw [← htx.out] at hNt
                rcases hJ.out.vm.form with ⟨_, e⟩ | ⟨gv, capv', hve, hgv, hgvl, hvc, _, _⟩
                · exfalso; rw [e] at hjp; cases hjp
                injection hve with hp1 hp2 hp3
                subst hp1 hp3
                clear hp2
                obtain ⟨ev, _⟩ := hJ.out.vm.cell hL.out.symm j hjp
                rw [← hmk'.out] at ev
                have hkz := hI.out.get
                have hkl2 : k < st.q.length := (List.getElem?_eq_some_iff.1 hkz).1
                rcases hJ.out.si.qu.form with ⟨_, e⟩ | ⟨gq2, cap2, hqe, hgq2, hgql2, hqc, _, _⟩
                · exfalso
                  rw [List.map_eq_nil_iff] at e; rw [e] at hkl2; cases hkl2
                rw [List.length_map] at hqe
                subst hqe
                have a0 := hqc k (by simpa using hkl2)
                rw [show (st.q.map T)[k]'(by simpa using hkl2) = sz from by rw [hsz.out]; simp [(List.getElem?_eq_some_iff.1 hkz).2]] at a0
                obtain ⟨lq, hlq⟩ : ∃ l, Hid (l = st.q.length) := ⟨_, Lib.hid rfl⟩
                have hJq := hJ.out
                rw [← hlq.out] at hQl hkl2 hJq ⊢
                replace hJq := Lib.hid hJq
                clear hqc hkz hvc
                go_wp2_with fail
                refine (hMk.out _).mono ?_; rintro e w4 ⟨rfl, qd, rfl⟩
                rename World => wi
                obtain ⟨W5, hW5⟩ : ∃ W5, W5 = wi.drewN qd := ⟨_, rfl⟩
                have hJ5 := hJq.out.below (below_drewN (Below.refl _ _) qd)
                rw [← hW5] at hJ5 ⊢
                replace hJ5 := Lib.hid hJ5
                have hb5 := Lib.hid (show Below wi.heap.size wi W5 by rw [hW5]; exact below_drewN (Below.refl _ _) qd)
                clear hW5 a0 ev
                go_wp2_with fail
                refine (hNt.out _).mono ?_; rintro e w5 ⟨rfl, rfl⟩
                have hfz := hI.out.far
                rw [← hD.out] at hfz
                cases htf : st.far t with
                | none =>
                  obtain ⟨c0, cf⟩ := hJ5.out.cells0 htN htf
                  obtain ⟨c1, cf1, -, -⟩ := hJ5.out.cells hWjl hzN hfz
                  rcases Sr.add_q (st := st) (t := t) (M := 1) (n := D + 1) (w := st.way z) with ⟨_, q2, f2, f3⟩ | ⟨m, e, _⟩
                  rotate_left
                  · rw [htf] at e; cases e
                  generalize st.add 1 (D + 1) (st.way z) t = st2 at *
                  have hfz2 : Hid (st2.far z = some D) := Lib.hid (by rw [f3 z (fun e => by rw [e, htf] at hfz; cases hfz)]; exact hfz)
                  have hm : Hid ((mR N st.far).set t ((D : Int) + 1) = mR N st2.far) := Lib.hid (mR_set N st.far st2.far t (D + 1) f2 f3)
                  have hmapq : Hid (st2.q.map T = st.q.map T ++ [tx]) := Lib.hid (by rw [q2, htx.out]; simp)
                  replace f2 := Lib.hid f2
                  clear q2 f3 hfz htf
                  go_upto_region 22 with fail
                  obtain ⟨W6, hW6⟩ : ∃ W6, W6 = W5.setCell ⟨gm, t, none⟩ (.int .i64 ((D : Int) + 1)) := ⟨_, rfl⟩
                  have hJ6 := hJ5.out.storeM (mR_len _ _) t ((D : Int) + 1)
                  rw [← hW6, hm.out] at hJ6
                  rw [← hW6]
                  replace hJ6 := Lib.hid hJ6
                  clear hW6 c0 cf c1 cf1
                  go_wp2_with (at_builtin; refine app_txt _ rfl _ _ rfl w.heap.size _ _ rfl ((hJ6.out.below (ba1 W6 (.cells #[.string tx] 9))).si.qu) W6.heap.size tx rfl (by simp) (by have := hlq.out; rw [List.length_map]; omega) (Nat.le_trans hJ6.out.si.le (by simp)) ?_; intro v' w7 ho7 hg7; have hJ7 := (hJ6.out.below (ba1 W6 (.cells #[.string tx] 9))).push ho7 hg7; rw [← hmapq.out] at hJ7; clear ho7 hg7; obtain ⟨c0, cf, ⟨y0, e0⟩, ef0⟩ := hJ7.cells hWjl htN f2.out; obtain ⟨c1, cf1, ⟨y1, e1⟩, ef1⟩ := hJ7.cells hWjl hzN hfz2.out; rw [show ((D + 1 : Nat) : Int) = (D : Int) + 1 from by omega] at c0; have hJ7' := Lib.hid hJ7; clear hJ7)
                  go_quiet (fail)
                  go_wp2_with fail
                  go_region
                  go_wp2_with fail
                  go_roundw
                  case rel =>
                    refine ⟨st2, j + 1, Wj.set t (wrap64 (y0 + y1)), by go_num, by omega, by simpa using hWjl, hstep, Lib.hid ?_⟩
                    have hS9 := (hJ7'.out.below (below_drewN (Below.refl _ _) nq)).storeW hWjl t (wrap64 (y0 + y1))
                    exact hS9.below (Below.refl _ _).drew
                  all_goals (simp [intOf] <;> omega)
                | some E =>
                  obtain ⟨c0, cf, ⟨y0, e0⟩, ef0⟩ := hJ5.out.cells hWjl htN htf
                  obtain ⟨c1, cf1, ⟨y1, e1⟩, ef1⟩ := hJ5.out.cells hWjl hzN hfz
                  rcases Sr.add_q (st := st) (t := t) (M := 1) (n := D + 1) (w := st.way z) with ⟨e, _⟩ | ⟨m, _, q2, f2⟩
                  · rw [htf] at e; cases e
                  generalize st.add 1 (D + 1) (st.way z) t = st2 at *
                  have hJ2 : Hid (TJ w.heap.size w W5 N gm gw (.slice (some ⟨gq2, 0, none⟩) lq cap2) (st2.q.map T) (mR N st2.far) Wj (.slice (some ⟨gv, 0, none⟩) L capv) wr.heap.size (pm z)) := Lib.hid (by rw [q2, f2]; exact hJ5.out)
                  clear q2 f2 hfz htf
                  have hE0 : decide ((E : Int) < 0) = false := by simp
                  by_cases hE : E = D + 1
                  · rw [show ((E : Nat) : Int) = (D : Int) + 1 from by omega] at c0
                    have hD0 : decide ((D : Int) + 1 < 0) = false := by simp; omega
                    clear hE hE0
                    go_wp2_with fail
                    go_quiet (fail)
                    go_wp2_with fail
                    go_region
                    go_wp2_with fail
                    go_roundw
                    case rel =>
                      refine ⟨st2, j + 1, Wj.set t (wrap64 (y0 + y1)), by go_num, by omega, by simpa using hWjl, hstep, Lib.hid ?_⟩
                      have hS9 := (hJ2.out.below (below_drewN (Below.refl _ _) nq)).storeW hWjl t (wrap64 (y0 + y1))
                      exact hS9.below (Below.refl _ _).drew
                    all_goals (simp [intOf] <;> omega)
                  · have hne2 : ((E : Int) == (D : Int) + 1) = false := by
                      rw [beq_eq_false_iff_ne]; intro e; apply hE; omega
                    clear hE
                    go_wp2_with fail
                    go_quiet (fail)
                    go_wp2_with fail
                    go_roundw
                    case rel => exact ⟨st2, j + 1, Wj, by go_num, by omega, hWjl, hstep, Lib.hid (hJ2.out.below (below_drewN (Below.refl _ _) nq))⟩
                    all_goals (simp [intOf] <;> omega)
              · obtain rfl : j = L := by omega
                have hst := hI.out.done hLn.out
                go_wp2_with fail
                go_roundw
                case rel =>
                  subst hst
                  refine ⟨k + 1, Wj, by go_num, ?_, hWjl, Lib.hid hJ.out.si⟩
                  have h1 := (ext_step 1 nb S k).q.length_le
                  have h2 := hl0.out
                  omega
                all_goals (simp [intOf] <;> omega)
          · have hkQ : k = l0 := by omega
            have hfin := run_fin hU.out hSN (k := k) (by rw [← hl0.out]; omega)
            go_wp2_with fail
            go_ret2
            exact ⟨gm, gw, rfl, by rw [← hfin]; exact hS.out.mv, hS.out.bel⟩
end Go.Proofs.YtcfeaaakfjilgabDoor
