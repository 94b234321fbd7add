/- Digits as a text, by the program. -/
import Derived.Test.YtjlecipeoaohiaaXE
import Derived.Test.YtjlecipeoaohiaaBase0
namespace Go.Proofs.Ytjlecipeoaohiaa
open Go Go.RowKit RM
abbrev ints (ps : List Nat) : List Int := ps.map fun (p : Nat) => (p : Int)
/-- the signs of places -/
def sgS (d : List Nat) : List UInt8 := d.map fun x => UInt8.ofNat (48 + x)
theorem sgS_len (d : List Nat) : (sgS d).length = d.length := by simp [sgS]
theorem sgS_snoc (d : List Nat) (k : Nat) (h : k < d.length) : (sgS d).take (k + 1) = (sgS d).take k ++ [UInt8.ofNat (48 + d[k])] := by
  rw [List.take_succ_eq_append_getElem (by rw [sgS_len]; exact h)]
  simp [sgS]
set_option maxRecDepth 100000 in
theorem digitsText_any (p : Option Addr) (n c : Nat) (d : List Nat) (w : World) (hn : d.length = n) (hn9 : n ≤ 1000) (hd : ∀ k (hk : k < d.length), d[k] ≤ 9) (h : RI w p (ints d)) :
    Calls Try.prog 46 #[.slice p n c] w fun e w' => e = .returned (.string (tS d)) ∧ Below w.heap.size w w' := by
  replace h := Lib.hid h
  replace hd := Lib.hid hd
  have hsl := Lib.hid (sgS_len d)
  have hsn := Lib.hid (sgS_snoc d)
  have htx : Hid (tS d = ⟨(sgS d).toArray⟩) := Lib.hid rfl
  replace hn := Lib.hid hn
  go_enter Try.func46, Try.ntmps46
  go_wp2_with (at_make; refine make_byte _ rfl _ _ rfl _ _ n rfl rfl (by omega) ?_; intro w1 hown1 hb1)
  replace hown1 := Lib.hid hown1
  replace hb1 := Lib.hid hb1
  go_loopw [4, 5, 11] (fun _ _ i wr => ∃ k : Nat, k ≤ n ∧ i = .int .i64 k ∧ Hid (OwnB wr w.heap.size (.slice (some ⟨w.heap.size, 0, none⟩) n n) ((sgS d).take k ++ List.replicate (n - k) 0)) ∧ Hid (Below w.heap.size w wr)) (fun _ _ i _ => n - (intOf i).toNat)
  case atStart => exact ⟨0, Nat.zero_le _, rfl, Lib.hid (by simpa using hown1.out), hb1⟩
  case round =>
    obtain ⟨k, hk, rfl, ho, hb⟩ := hrel
    clear hown1 hb1
    by_cases hlt : k < n
    · have hkd : k < d.length := by rw [hn.out]; exact hlt
      obtain ⟨g, rfl, hgl, hc⟩ := h.out.at (k := k) (by simpa using hkd)
      have hx : (ints d)[k]'(by simpa using hkd) = ((d[k] : Nat) : Int) := by simp
      rw [hx] at hc
      have hcr : wr.cell? ⟨g, k, none⟩ = some (.int .i64 ((d[k] : Nat) : Int)) := by rw [hb.out.cell (p := ⟨g, k, none⟩) hgl]; exact hc
      have h9 := hd.out k hkd
      have hlk : Hid (((sgS d).take k ++ List.replicate (n - k) 0).length = n) := Lib.hid (by rw [List.length_append, List.length_take, hsl.out, List.length_replicate]; omega)
      have hsp : Hid (List.replicate (n - k) (0 : UInt8) = 0 :: List.replicate (n - (k + 1)) 0) := Lib.hid (by
        rw [show n - k = (n - (k + 1)) + 1 from by omega]; rfl)
      have htl : Hid (((sgS d).take k).length = k) := Lib.hid (by rw [List.length_take, hsl.out]; omega)
      have hsk := Lib.hid (hsn.out k hkd)
      obtain ⟨hce, hfr⟩ := ho.out.cell hlk.out k (by rw [hlk.out]; exact hlt)
      have hst := Lib.hid (ho.out.stored hlk.out k (UInt8.ofNat (48 + d[k])))
      rw [u8_dig _ h9] at hst
      clear hx hc
      generalize ((sgS d).take k ++ List.replicate (n - k) 0)[k]'(by rw [hlk.out]; exact hlt) = y at hce
      generalize d[k] = z at *
      have u1 : IntKind.u8.wrap (z : Int) = (z : Int) := by rw [IntKind.wrap_u8]; omega
      have u2 : IntKind.u8.wrap (48 + (z : Int)) = 48 + (z : Int) := by rw [IntKind.wrap_u8]; omega
      go_wp2_with fail
      go_roundw
      case rel =>
        refine ⟨k + 1, by omega, by go_num, Lib.hid ?_, Lib.hid ?_⟩
        · have h3 := hst.out.1
          rw [hsp.out, List.set_append_right _ _ (by rw [htl.out]; exact Nat.le_refl _), htl.out, Nat.sub_self, List.set_cons_zero] at h3
          rw [hsk.out, List.append_assoc]; exact h3
        · exact hb.out.grown hst.out.2 hb.out.size (fun j e => by cases e; exact Nat.le_refl _)
      all_goals (simp [intOf] <;> omega)
    · obtain rfl : k = n := by omega
      have ho2 := ho.out
      rw [List.take_of_length_le (by rw [hsl.out, hn.out]; exact Nat.le_refl _)] at ho2
      simp only [Nat.sub_self, List.replicate_zero, List.append_nil] at ho2
      have hcv := str_byte _ _ _ _ k _ ho2 (by rw [hsl.out, hn.out])
      rw [← htx.out] at hcv
      clear ho2
      go_wp2_with fail
      go_ret
      exact ⟨rfl, hb.out⟩

end Go.Proofs.Ytjlecipeoaohiaa
