/- Digits as texts, on both sides (for a seat without the states of bolts). -/
import Derived.Test.YtjhljhopmfefhaaE2
import Derived.Test.YtjhljhopmfefhaaBytes
import Derived.Test.YtjhljhopmfefhaaStrs4
import Derived.Test.YtjhljhopmfefhaaJoin
namespace Go.Proofs.Ytjhljhopmfefhaa
open Go Go.RowKit RM
theorem own_dig (w : World) (x : Nat) (hx : x ≤ 9) : OwnB (w.alloc (.cells #[.int .u8 (48 + (x : Int))] 5)) w.heap.size (.slice (some ⟨w.heap.size, 0, none⟩) 1 1) [UInt8.ofNat (48 + x)] := by
  refine ⟨rfl, .inr ⟨_, 1, #[.int .u8 (48 + (x : Int))], rfl, Nat.le_refl _, hb_new _ _, Nat.le_refl _, by decide, rfl, ?_⟩⟩
  have e : ((UInt8.ofNat (48 + x)).toNat : Int) = 48 + (x : Int) := by rw [u8_dig x hx]; omega
  show [Value.int .u8 (48 + (x : Int))] = [Value.int .u8 ((UInt8.ofNat (48 + x)).toNat : Int)]
  rw [e]
theorem tS_app (d e : List Nat) : tS (d ++ e) = tS d ++ tS e := by
  apply ByteArray.ext
  simp [tS]
set_option maxRecDepth 100000 in
theorem l1Num_dig (x : Nat) (w : World) (hx : x ≤ 9) : Calls Try.prog 55 #[.int .i64 x] w fun e w' => e = .returned (.string (tS [x])) ∧ Below w.heap.size w w' := by
  have hcv := str_byte _ _ _ _ 1 _ (own_dig w x hx) rfl
  have hu : IntKind.u8.wrap (48 + (x : Int)) = 48 + (x : Int) := by rw [IntKind.wrap_u8]; omega
  go_enter Try.func55, Try.ntmps55
  go_wp2
  go_ret; exact ⟨ret_str (by simp [tS]), ba1 w _⟩
/-- the signs of places -/
def sgS (d : List Nat) : List UInt8 := d.map fun x => UInt8.ofNat (48 + x)
theorem sgS_len (d : List Nat) : (sgS d).length = d.length := by simp [sgS]
theorem sgS_snoc (d : List Nat) (k : Nat) (h : k < d.length) : (sgS d).take (k + 1) = (sgS d).take k ++ [UInt8.ofNat (48 + d[k])] := by
  rw [List.take_succ_eq_append_getElem (by rw [sgS_len]; exact h)]
  simp [sgS]
set_option maxRecDepth 100000 in
theorem digitsText_any (p : Option Addr) (n c : Nat) (d : List Nat) (w : World) (hn : d.length = n) (hn9 : n ≤ 1000) (hd : ∀ k (hk : k < d.length), d[k] ≤ 9) (h : RI w p (ints d)) :
    Calls Try.prog 45 #[.slice p n c] w fun e w' => e = .returned (.string (tS d)) ∧ Below w.heap.size w w' := by
  replace h := Lib.hid h
  replace hd := Lib.hid hd
  have hsl := Lib.hid (sgS_len d)
  have hsn := Lib.hid (sgS_snoc d)
  have htx : Hid (tS d = ⟨(sgS d).toArray⟩) := Lib.hid rfl
  replace hn := Lib.hid hn
  go_enter Try.func45, Try.ntmps45
  go_wp2_with (at_make; refine make_byte _ rfl _ _ rfl _ _ n rfl rfl (by omega) ?_; intro w1 hown1 hb1)
  replace hown1 := Lib.hid hown1
  replace hb1 := Lib.hid hb1
  go_loopw [4, 5, 11] (fun _ _ i wr => ∃ k : Nat, k ≤ n ∧ i = .int .i64 k ∧ Hid (OwnB wr w.heap.size (.slice (some ⟨w.heap.size, 0, none⟩) n n) ((sgS d).take k ++ List.replicate (n - k) 0)) ∧ Hid (Below w.heap.size w wr)) (fun _ _ i _ => n - (intOf i).toNat)
  case atStart => exact ⟨0, Nat.zero_le _, rfl, Lib.hid (by simpa using hown1.out), hb1⟩
  case round =>
    obtain ⟨k, hk, rfl, ho, hb⟩ := hrel
    clear hown1 hb1
    by_cases hlt : k < n
    · have hkd : k < d.length := by rw [hn.out]; exact hlt
      obtain ⟨g, rfl, hgl, hc⟩ := h.out.at (k := k) (by simpa using hkd)
      have hx : (ints d)[k]'(by simpa using hkd) = ((d[k] : Nat) : Int) := by simp
      rw [hx] at hc
      have hcr : wr.cell? ⟨g, k, none⟩ = some (.int .i64 ((d[k] : Nat) : Int)) := by rw [hb.out.cell (p := ⟨g, k, none⟩) hgl]; exact hc
      have h9 := hd.out k hkd
      have hlk : Hid (((sgS d).take k ++ List.replicate (n - k) 0).length = n) := Lib.hid (by rw [List.length_append, List.length_take, hsl.out, List.length_replicate]; omega)
      have hsp : Hid (List.replicate (n - k) (0 : UInt8) = 0 :: List.replicate (n - (k + 1)) 0) := Lib.hid (by
        rw [show n - k = (n - (k + 1)) + 1 from by omega]; rfl)
      have htl : Hid (((sgS d).take k).length = k) := Lib.hid (by rw [List.length_take, hsl.out]; omega)
      have hsk := Lib.hid (hsn.out k hkd)
      obtain ⟨hce, hfr⟩ := ho.out.cell hlk.out k (by rw [hlk.out]; exact hlt)
      have hst := Lib.hid (ho.out.stored hlk.out k (UInt8.ofNat (48 + d[k])))
      rw [u8_dig _ h9] at hst
      clear hx hc
      generalize ((sgS d).take k ++ List.replicate (n - k) 0)[k]'(by rw [hlk.out]; exact hlt) = y at hce
      generalize d[k] = z at *
      have u1 : IntKind.u8.wrap (z : Int) = (z : Int) := by rw [IntKind.wrap_u8]; omega
      have u2 : IntKind.u8.wrap (48 + (z : Int)) = 48 + (z : Int) := by rw [IntKind.wrap_u8]; omega
      go_wp2_with fail
      go_roundw
      case rel =>
        refine ⟨k + 1, by omega, by go_num, Lib.hid ?_, Lib.hid ?_⟩
        · have h3 := hst.out.1
          rw [hsp.out, List.set_append_right _ _ (by rw [htl.out]; exact Nat.le_refl _), htl.out, Nat.sub_self, List.set_cons_zero] at h3
          rw [hsk.out, List.append_assoc]; exact h3
        · exact hb.out.grown hst.out.2 hb.out.size (fun j e => by cases e; exact Nat.le_refl _)
      all_goals (simp [intOf] <;> omega)
    · obtain rfl : k = n := by omega
      have ho2 := ho.out
      rw [List.take_of_length_le (by rw [hsl.out, hn.out]; exact Nat.le_refl _)] at ho2
      simp only [Nat.sub_self, List.replicate_zero, List.append_nil] at ho2
      have hcv := str_byte _ _ _ _ k _ ho2 (by rw [hsl.out, hn.out])
      rw [← htx.out] at hcv
      clear ho2
      go_wp2_with fail
      go_ret
      exact ⟨rfl, hb.out⟩

/-- the separator's text; a block's digits; bolts as text -/
def sepB : ByteArray := ⟨#[59]⟩
def kD (k : Blk) : List Nat := [k.a.toNat, k.i.toNat, k.b.toNat, k.j.toNat]
def txB (t : ByteArray) (l : List Blk) : ByteArray := l.foldl (fun s k => s ++ (sepB ++ tS (kD k))) t
theorem txB_snoc (t : ByteArray) (l : List Blk) (k : Nat) (h : k < l.length) : txB t (l.take (k + 1)) = txB t (l.take k) ++ (sepB ++ tS (kD l[k])) := by
  unfold txB; rw [List.take_succ_eq_append_getElem h, List.foldl_append]; rfl
theorem txB_size (t : ByteArray) (l : List Blk) : (txB t l).size = t.size + 5 * l.length := by
  unfold txB
  induction l generalizing t with
  | nil => simp
  | cons k l ih =>
    rw [List.foldl_cons, ih, ByteArray.size_append, ByteArray.size_append, tS_size]
    have h1 : sepB.size = 1 := rfl
    have h2 : (kD k).length = 4 := rfl
    rw [h1, h2, List.length_cons]; omega
theorem kD_text (a i b j : Nat) : sepB ++ tS [a] ++ tS [i] ++ tS [b] ++ tS [j] = sepB ++ tS (kD ⟨a, i, b, j⟩) := by
  have : kD ⟨a, i, b, j⟩ = [a] ++ ([i] ++ ([b] ++ [j])) := by simp [kD]
  rw [this, tS_app, tS_app, tS_app]
  simp only [ByteArray.append_assoc]
theorem data_inj {a b : ByteArray} (h : a.data.toList = b.data.toList) : a = b := ByteArray.ext (Array.ext' h)
theorem join_txB (t : ByteArray) (l : List Blk) : (⟨(Lib.join ((t :: l.map (fun k => tS (kD k))).map (·.data.toList)) sepB.data.toList).toArray⟩ : ByteArray) = txB t l := by
  have key : ∀ (l : List Blk) (t : ByteArray), Lib.join ((t :: l.map (fun k => tS (kD k))).map (·.data.toList)) sepB.data.toList = (txB t l).data.toList := by
    intro l
    induction l with
    | nil => intro t; simp [txB, Lib.join_one]
    | cons k l ih =>
      intro t
      have e : txB t (k :: l) = txB (t ++ (sepB ++ tS (kD k))) l := rfl
      rw [e, ← ih]
      simp only [List.map_cons, Lib.join_cons]
      simp [Lib.joinTail, ByteArray.data_append]
  apply data_inj
  simp only [key]
end Go.Proofs.Ytjhljhopmfefhaa
