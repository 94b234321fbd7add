/- Which texts strings.Trim leaves nothing of: those all of whose signs are in the set. -/
import Derived.Test.YtjlecipeoaohiacDoorLg
import Derived.Test.YtjlecipeoaohiacDoorTrim
namespace Go.Proofs.YtjlecipeoaohiacDoor
open Go Go.RowKit RM
theorem mem_dropW {α : Type} {p : α → Bool} {x : α} (hp : p x = false) : ∀ {l : List α}, x ∈ l → x ∈ l.dropWhile p
  | a :: l, h => by
    rw [List.dropWhile_cons]
    split
    · next ha =>
      rcases List.mem_cons.1 h with rfl | h
      · rw [hp] at ha; cases ha
      · exact mem_dropW hp h
    · exact h
theorem dropW_nil {α : Type} {p : α → Bool} : ∀ {l : List α}, (∀ x ∈ l, p x = true) → l.dropWhile p = []
  | [], _ => rfl
  | a :: l, h => by
    rw [List.dropWhile_cons, if_pos (h a (by simp))]
    exact dropW_nil fun x hx => h x (by simp [hx])
theorem trimS_nil (l cs : List UInt8) : Lib.trimS l cs = [] ↔ ∀ x ∈ l, cs.contains x = true := by
  constructor
  · intro h x hx
    rw [← Bool.not_eq_false]
    intro hc
    have h1 : x ∈ Lib.trimRightS l cs := by
      unfold Lib.trimRightS
      rw [List.mem_reverse]
      exact mem_dropW hc (List.mem_reverse.2 hx)
    have h2 : x ∈ Lib.trimS l cs := by
      unfold Lib.trimS Lib.trimLeftS
      exact mem_dropW hc h1
    rw [h] at h2; cases h2
  · intro h
    have h1 : Lib.trimRightS l cs = [] := by
      unfold Lib.trimRightS
      rw [dropW_nil (fun x hx => h x (List.mem_reverse.1 hx))]; rfl
    unfold Lib.trimS
    rw [h1]; rfl
theorem okq_in (c : UInt8) : okq c = [48, 49, 63].contains c := by
  unfold okq
  simp only [List.contains_cons, List.contains_nil, Bool.or_false]
  cases c == 63 <;> cases c == 48 <;> cases c == 49 <;> rfl
/-- what the program asks of a text's signs -/
theorem trim_okq (t : ByteArray) : ((Lib.trimS t.data.toList [48, 49, 63]) = []) ↔ t.data.toList.all okq = true := by
  rw [trimS_nil, List.all_eq_true]
  constructor
  · intro h x hx; rw [okq_in]; exact h x hx
  · intro h x hx; rw [← okq_in]; exact h x hx
theorem isLC2_any (n : Int) (w : World) : Calls Tryd.prog 61 #[.int .i64 n] w fun e w' => e = .returned (.bool (decide (1 ≤ n) && decide (n ≤ 10))) ∧ w = w' := by
  cases e1 : decide (1 ≤ n) <;> cases e2 : decide (n ≤ 10) <;>
  · have e3 : decide (n ≥ 1) = decide (1 ≤ n) := rfl
    rw [e1] at e3
    go_enter Tryd.func61, Tryd.ntmps61
    go_wp2_with fail
    go_ret; exact ⟨rfl, rfl⟩
end Go.Proofs.YtjlecipeoaohiacDoor
