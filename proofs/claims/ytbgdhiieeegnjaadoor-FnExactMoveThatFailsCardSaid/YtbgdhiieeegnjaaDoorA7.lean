/- PlayMoves and MoveThatFails: both ways. -/
import Derived.Test.YtbgdhiieeegnjaaDoorA6
namespace Go.Proofs.YtbgdhiieeegnjaaDoor
open Go Go.RowKit RM

/-- what the law PlayMoves asks for -/
def plB (n x : Nat) (ms : List Int) : Bool := decide (ms.length ≤ 2000) && decide ((play n x ms).2 = ms.length)
def plS (n x : Nat) (ms : List Int) : ByteArray := if plB n x ms then ST n (play n x ms).1 else ⟨#[]⟩
def mfB (n x : Nat) (ms : List Int) : Bool := decide (ms.length ≤ 2000) && decide ((play n x ms).2 ≠ ms.length)
def mfI (n x : Nat) (ms : List Int) : Int := if mfB n x ms then ((play n x ms).2 : Int) else 0

theorem OwnI.arg {w : World} {B : Nat} {v : Value} {xs : List Int} (h : OwnI w B v xs) : ∃ a cap, v = .slice a xs.length cap ∧ ArgI w a xs := by
  rcases h.form with ⟨rfl, rfl⟩ | ⟨g, cap, rfl, hg, hl, hc, _, _⟩
  · exact ⟨none, 0, rfl, .inl rfl⟩
  · exact ⟨_, cap, rfl, .inr ⟨g, 0, rfl, hl, fun i hi => by rw [Nat.zero_add]; exact hc i hi⟩⟩

theorem iPlay_bad (s : ByteArray) (a : Option Addr) (len cap : Nat) (w : World) (hs : s.size ≤ maxLen) (h : goodB s.data.toList = false) :
    Calls Tryd.prog 28 #[.string s, .slice a len cap] w fun e w' => AnsS w ⟨#[]⟩ false e w' := by
  have hB := Lib.hid fun w => by have := barOf_bad s w hs h; rw [bz] at this; exact this
  clear h
  go_enter Tryd.func28, Tryd.ntmps28
  go_wp2_with fail
  refine (hB.out _).mono ?_; rintro e w1 ⟨rfl, hb⟩
  have hb := Lib.hid hb
  go_wp2_with fail
  go_ret2; exact ⟨rfl, bt hb.out (ba _ _)⟩

theorem iPlay_long (s : ByteArray) (n x : Nat) (a : Option Addr) (len cap : Nat) (w : World) (hT : TabOk w) (hl : 2000 < len) (hB : Hid (∀ w, TabOk w → Calls Tryd.prog 45 #[.string s] w fun e w' => e = .returned (.tuple #[(.agg #[.int .i64 ((ctz (x) : Nat) : Int), .bool (onB (x)), .int .i64 ((n : Nat) : Int), .int .u64 ((x : Nat) : Int)]), .bool true]) ∧ Below w.heap.size w w')) :
    Calls Tryd.prog 28 #[.string s, .slice a len cap] w fun e w' => AnsS w ⟨#[]⟩ false e w' := by
  have hT := Lib.hid hT
  go_enter Tryd.func28, Tryd.ntmps28
  go_wp2_with fail
  refine (hB.out _ hT.out).mono ?_; rintro e w1 ⟨rfl, hb⟩
  have hb := Lib.hid hb
  go_wp2_with fail
  refine (moveCount_no _ _ (by omega)).mono ?_; rintro e w2 ⟨rfl, rfl⟩
  go_wp2_with fail
  go_ret2; exact ⟨rfl, bt hb.out (ba _ _)⟩

theorem iPlay_some (s : ByteArray) (n x y k : Nat) (a : Option Addr) (len cap : Nat) (t : ByteArray) (w : World) (hT : TabOk w) (hl : len ≤ 2000) (hk : k ≤ len) (hB : Hid (∀ w, TabOk w → Calls Tryd.prog 45 #[.string s] w fun e w' => e = .returned (.tuple #[(.agg #[.int .i64 ((ctz (x) : Nat) : Int), .bool (onB (x)), .int .i64 ((n : Nat) : Int), .int .u64 ((x : Nat) : Int)]), .bool true]) ∧ Below w.heap.size w w'))
    (hP : Hid (∀ w', Below w.heap.size w w' → TabOk w' → Calls Tryd.prog 59 #[(.agg #[.int .i64 ((ctz (x) : Nat) : Int), .bool (onB (x)), .int .i64 ((n : Nat) : Int), .int .u64 ((x : Nat) : Int)]), .slice a len cap] w' fun e w'' => e = .returned (.tuple #[(.agg #[.int .i64 ((ctz (y) : Nat) : Int), .bool (onB (y)), .int .i64 ((n : Nat) : Int), .int .u64 ((y : Nat) : Int)]), .int .i64 k]) ∧ Below w'.heap.size w' w''))
    (hX : Hid (∀ w, Calls Tryd.prog 51 #[(.agg #[.int .i64 ((ctz (y) : Nat) : Int), .bool (onB (y)), .int .i64 ((n : Nat) : Int), .int .u64 ((y : Nat) : Int)])] w fun e w' => e = .returned (.string t) ∧ Below w.heap.size w w')) :
    Calls Tryd.prog 28 #[.string s, .slice a len cap] w fun e w' => AnsS w (if k = len then t else ⟨#[]⟩) (decide (k = len)) e w' := by
  have hT := Lib.hid hT
  by_cases hkl : k = len
  · subst hkl
    simp only [if_pos, decide_true]
    go_enter Tryd.func28, Tryd.ntmps28
    go_wp2_with fail
    refine (hB.out _ hT.out).mono ?_; rintro e w1 ⟨rfl, hb⟩
    have hT1 := Lib.hid (hT.out.below hb)
    have hb := Lib.hid hb
    go_wp2_with fail
    refine (moveCount_yes _ _ (by omega)).mono ?_; rintro e w2 ⟨rfl, rfl⟩
    go_wp2_with fail
    refine (hP.out _ (bt hb.out (ba _ _)) (hT1.out.alloc _)).mono ?_; rintro e w2 ⟨rfl, hb2⟩
    have hb2 := Lib.hid hb2
    go_wp2_with fail
    refine (hX.out _).mono ?_; rintro e w3 ⟨rfl, hb3⟩
    have hb3 := Lib.hid hb3
    go_wp2_with fail
    go_ret2; exact ⟨rfl, bt (bt (bt (bt hb.out (ba _ _)) hb2.out) (ba _ _)) hb3.out⟩
  · rw [if_neg hkl, decide_eq_false hkl]
    go_enter Tryd.func28, Tryd.ntmps28
    go_wp2_with fail
    refine (hB.out _ hT.out).mono ?_; rintro e w1 ⟨rfl, hb⟩
    have hT1 := Lib.hid (hT.out.below hb)
    have hb := Lib.hid hb
    go_wp2_with fail
    refine (moveCount_yes _ _ (by omega)).mono ?_; rintro e w2 ⟨rfl, rfl⟩
    go_wp2_with fail
    refine (hP.out _ (bt hb.out (ba _ _)) (hT1.out.alloc _)).mono ?_; rintro e w2 ⟨rfl, hb2⟩
    have hb2 := Lib.hid hb2
    go_wp2_with fail
    go_ret2; exact ⟨rfl, bt (bt (bt hb.out (ba _ _)) hb2.out) (ba _ _)⟩

theorem iFail_bad (s : ByteArray) (a : Option Addr) (len cap : Nat) (w : World) (hs : s.size ≤ maxLen) (h : goodB s.data.toList = false) :
    Calls Tryd.prog 30 #[.string s, .slice a len cap] w fun e w' => AnsI w 0 false e w' := by
  have hB := Lib.hid fun w => by have := barOf_bad s w hs h; rw [bz] at this; exact this
  clear h
  go_enter Tryd.func30, Tryd.ntmps30
  go_wp2_with fail
  refine (hB.out _).mono ?_; rintro e w1 ⟨rfl, hb⟩
  have hb := Lib.hid hb
  go_wp2_with fail
  go_ret2; exact ⟨rfl, bt hb.out (ba _ _)⟩

theorem iFail_long (s : ByteArray) (n x : Nat) (a : Option Addr) (len cap : Nat) (w : World) (hT : TabOk w) (hl : 2000 < len) (hB : Hid (∀ w, TabOk w → Calls Tryd.prog 45 #[.string s] w fun e w' => e = .returned (.tuple #[(.agg #[.int .i64 ((ctz (x) : Nat) : Int), .bool (onB (x)), .int .i64 ((n : Nat) : Int), .int .u64 ((x : Nat) : Int)]), .bool true]) ∧ Below w.heap.size w w')) :
    Calls Tryd.prog 30 #[.string s, .slice a len cap] w fun e w' => AnsI w 0 false e w' := by
  have hT := Lib.hid hT
  go_enter Tryd.func30, Tryd.ntmps30
  go_wp2_with fail
  refine (hB.out _ hT.out).mono ?_; rintro e w1 ⟨rfl, hb⟩
  have hb := Lib.hid hb
  go_wp2_with fail
  refine (moveCount_no _ _ (by omega)).mono ?_; rintro e w2 ⟨rfl, rfl⟩
  go_wp2_with fail
  go_ret2; exact ⟨rfl, bt hb.out (ba _ _)⟩

theorem iFail_some (s : ByteArray) (n x y k : Nat) (a : Option Addr) (len cap : Nat) (w : World) (hT : TabOk w) (hl : len ≤ 2000) (hk : k ≤ len) (hB : Hid (∀ w, TabOk w → Calls Tryd.prog 45 #[.string s] w fun e w' => e = .returned (.tuple #[(.agg #[.int .i64 ((ctz (x) : Nat) : Int), .bool (onB (x)), .int .i64 ((n : Nat) : Int), .int .u64 ((x : Nat) : Int)]), .bool true]) ∧ Below w.heap.size w w'))
    (hP : Hid (∀ w', Below w.heap.size w w' → TabOk w' → Calls Tryd.prog 59 #[(.agg #[.int .i64 ((ctz (x) : Nat) : Int), .bool (onB (x)), .int .i64 ((n : Nat) : Int), .int .u64 ((x : Nat) : Int)]), .slice a len cap] w' fun e w'' => e = .returned (.tuple #[(.agg #[.int .i64 ((ctz (y) : Nat) : Int), .bool (onB (y)), .int .i64 ((n : Nat) : Int), .int .u64 ((y : Nat) : Int)]), .int .i64 k]) ∧ Below w'.heap.size w' w'')) :
    Calls Tryd.prog 30 #[.string s, .slice a len cap] w fun e w' => AnsI w (if k = len then 0 else (k : Int)) (decide (k ≠ len)) e w' := by
  have hT := Lib.hid hT
  by_cases hkl : k = len
  · subst hkl
    simp only [if_pos, ne_eq, not_true_eq_false, decide_false]
    go_enter Tryd.func30, Tryd.ntmps30
    go_wp2_with fail
    refine (hB.out _ hT.out).mono ?_; rintro e w1 ⟨rfl, hb⟩
    have hT1 := Lib.hid (hT.out.below hb)
    have hb := Lib.hid hb
    go_wp2_with fail
    refine (moveCount_yes _ _ (by omega)).mono ?_; rintro e w2 ⟨rfl, rfl⟩
    go_wp2_with fail
    refine (hP.out _ (bt hb.out (ba _ _)) (hT1.out.alloc _)).mono ?_; rintro e w2 ⟨rfl, hb2⟩
    have hb2 := Lib.hid hb2
    go_wp2_with fail
    go_ret2; exact ⟨rfl, bt (bt (bt hb.out (ba _ _)) hb2.out) (ba _ _)⟩
  · rw [if_neg hkl, decide_eq_true hkl]
    go_enter Tryd.func30, Tryd.ntmps30
    go_wp2_with fail
    refine (hB.out _ hT.out).mono ?_; rintro e w1 ⟨rfl, hb⟩
    have hT1 := Lib.hid (hT.out.below hb)
    have hb := Lib.hid hb
    go_wp2_with fail
    refine (moveCount_yes _ _ (by omega)).mono ?_; rintro e w2 ⟨rfl, rfl⟩
    go_wp2_with fail
    refine (hP.out _ (bt hb.out (ba _ _)) (hT1.out.alloc _)).mono ?_; rintro e w2 ⟨rfl, hb2⟩
    have hb2 := Lib.hid hb2
    go_wp2_with fail
    go_ret2; exact ⟨rfl, bt (bt (bt hb.out (ba _ _)) hb2.out) (ba _ _)⟩

theorem sPlay_bad (s : ByteArray) (a : Option Addr) (len cap : Nat) (w : World) (hs : s.size ≤ maxLen) (h : goodB s.data.toList = false) :
    Calls Tryd.prog 26 #[.string s, .slice a len cap] w fun e w' => AnsS w ⟨#[]⟩ false e w' := by
  have hG := Lib.hid fun w => by
    have := riGood_any s w hs
    rw [h] at this; exact this
  clear h
  go_enter Tryd.func26, Tryd.ntmps26
  go_wp2_with fail
  refine (hG.out _).mono ?_; rintro e w1 ⟨rfl, rfl⟩
  go_wp2_with fail
  go_ret2; exact ⟨rfl, Below.refl _ _⟩

theorem sPlay_long (s : ByteArray) (a : Option Addr) (len cap : Nat) (w : World) (hl : 2000 < len) (hG : Hid (∀ w, Calls Tryd.prog 43 #[.string s] w fun e w' => e = .returned (.bool true) ∧ w = w')) :
    Calls Tryd.prog 26 #[.string s, .slice a len cap] w fun e w' => AnsS w ⟨#[]⟩ false e w' := by
  go_enter Tryd.func26, Tryd.ntmps26
  go_wp2_with fail
  refine (hG.out _).mono ?_; rintro e w1 ⟨rfl, rfl⟩
  go_wp2_with fail
  go_ret2; exact ⟨rfl, Below.refl _ _⟩

theorem sPlay_some (s t : ByteArray) (k : Nat) (a : Option Addr) (len cap : Nat) (w : World) (hl : len ≤ 2000) (hG : Hid (∀ w, Calls Tryd.prog 43 #[.string s] w fun e w' => e = .returned (.bool true) ∧ w = w'))
    (hP : Hid (Calls Tryd.prog 57 #[.string s, .slice a len cap] w fun e w'' => e = .returned (.tuple #[.string t, .int .i64 (if k = len then -1 else (k : Int))]) ∧ ∃ q, w'' = w.drewN q)) :
    Calls Tryd.prog 26 #[.string s, .slice a len cap] w fun e w' => AnsS w (if k = len then t else ⟨#[]⟩) (decide (k = len)) e w' := by
  by_cases hkl : k = len
  · rw [if_pos hkl] at hP
    rw [if_pos hkl, decide_eq_true hkl]
    go_enter Tryd.func26, Tryd.ntmps26
    go_wp2_with fail
    refine (hG.out _).mono ?_; rintro e w1 ⟨rfl, rfl⟩
    go_wp2_with fail
    refine hP.out.mono ?_; rintro e w1 ⟨rfl, q, rfl⟩
    clear hP
    go_wp2_with fail
    go_ret2; exact ⟨rfl, below_q _ _⟩
  · rw [if_neg hkl] at hP
    rw [if_neg hkl, decide_eq_false hkl]
    go_enter Tryd.func26, Tryd.ntmps26
    go_wp2_with fail
    refine (hG.out _).mono ?_; rintro e w1 ⟨rfl, rfl⟩
    go_wp2_with fail
    refine hP.out.mono ?_; rintro e w1 ⟨rfl, q, rfl⟩
    clear hP
    go_wp2_with fail
    go_ret2; exact ⟨rfl, below_q _ _⟩

theorem sFail_bad (s : ByteArray) (a : Option Addr) (len cap : Nat) (w : World) (hs : s.size ≤ maxLen) (h : goodB s.data.toList = false) :
    Calls Tryd.prog 29 #[.string s, .slice a len cap] w fun e w' => AnsI w 0 false e w' := by
  have hG := Lib.hid fun w => by
    have := riGood_any s w hs
    rw [h] at this; exact this
  clear h
  go_enter Tryd.func29, Tryd.ntmps29
  go_wp2_with fail
  refine (hG.out _).mono ?_; rintro e w1 ⟨rfl, rfl⟩
  go_wp2_with fail
  go_ret2; exact ⟨rfl, Below.refl _ _⟩

theorem sFail_long (s : ByteArray) (a : Option Addr) (len cap : Nat) (w : World) (hl : 2000 < len) (hG : Hid (∀ w, Calls Tryd.prog 43 #[.string s] w fun e w' => e = .returned (.bool true) ∧ w = w')) :
    Calls Tryd.prog 29 #[.string s, .slice a len cap] w fun e w' => AnsI w 0 false e w' := by
  go_enter Tryd.func29, Tryd.ntmps29
  go_wp2_with fail
  refine (hG.out _).mono ?_; rintro e w1 ⟨rfl, rfl⟩
  go_wp2_with fail
  go_ret2; exact ⟨rfl, Below.refl _ _⟩

theorem sFail_some (s t : ByteArray) (k : Nat) (a : Option Addr) (len cap : Nat) (w : World) (hl : len ≤ 2000) (hG : Hid (∀ w, Calls Tryd.prog 43 #[.string s] w fun e w' => e = .returned (.bool true) ∧ w = w'))
    (hP : Hid (Calls Tryd.prog 57 #[.string s, .slice a len cap] w fun e w'' => e = .returned (.tuple #[.string t, .int .i64 (if k = len then -1 else (k : Int))]) ∧ ∃ q, w'' = w.drewN q)) :
    Calls Tryd.prog 29 #[.string s, .slice a len cap] w fun e w' => AnsI w (if k = len then 0 else (k : Int)) (decide (k ≠ len)) e w' := by
  by_cases hkl : k = len
  · rw [if_pos hkl] at hP
    rw [if_pos hkl, decide_eq_false (not_not_intro hkl)]
    go_enter Tryd.func29, Tryd.ntmps29
    go_wp2_with fail
    refine (hG.out _).mono ?_; rintro e w1 ⟨rfl, rfl⟩
    go_wp2_with fail
    refine hP.out.mono ?_; rintro e w1 ⟨rfl, q, rfl⟩
    clear hP
    go_wp2_with fail
    go_ret2; exact ⟨rfl, below_q _ _⟩
  · rw [if_neg hkl] at hP
    rw [if_neg hkl, decide_eq_true hkl]
    go_enter Tryd.func29, Tryd.ntmps29
    go_wp2_with fail
    refine (hG.out _).mono ?_; rintro e w1 ⟨rfl, rfl⟩
    go_wp2_with fail
    refine hP.out.mono ?_; rintro e w1 ⟨rfl, q, rfl⟩
    clear hP
    go_wp2_with fail
    go_ret2; exact ⟨rfl, below_q _ _⟩

theorem iPlay_ST (n x : Nat) (a : Option Addr) (cap : Nat) (ms : List Int) (w : World) (h1 : 1 ≤ n) (hn : n ≤ 20) (hx : x < 2 ^ n) (hT : TabOk w) (h : ArgI w a ms) :
    Calls Tryd.prog 28 #[.string (ST n x), .slice a ms.length cap] w fun e w' => AnsS w (plS n x ms) (plB n x ms) e w' := by
  by_cases hl : ms.length ≤ 2000
  · have := iPlay_some (ST n x) n x (play n x ms).1 (play n x ms).2 a ms.length cap (ST n (play n x ms).1) w hT hl (play_le n ms x) (Lib.hid fun w hw => barOf_ST n x w h1 hn hx hw)
      (Lib.hid fun w' hb hw => played_any n x a cap ms w' h1 hn hx hl hw (h.below hb)) (Lib.hid fun w => text_any n _ w (Nat.lt_of_lt_of_le (play_lt n h1 ms x hx) (pow20 hn)) hn)
    unfold plS plB; simp [hl]; exact this
  · have := iPlay_long (ST n x) n x a ms.length cap w hT (by omega) (Lib.hid fun w hw => barOf_ST n x w h1 hn hx hw)
    unfold plS plB; simp [hl]; exact this

theorem sPlay_ST (n x : Nat) (a : Option Addr) (cap : Nat) (ms : List Int) (w : World) (h1 : 1 ≤ n) (hn : n ≤ 20) (hx : x < 2 ^ n) (h : ArgI w a ms) :
    Calls Tryd.prog 26 #[.string (ST n x), .slice a ms.length cap] w fun e w' => AnsS w (plS n x ms) (plB n x ms) e w' := by
  have hG := Lib.hid fun w => by
    have := riGood_any (ST n x) w (by rw [ST_size]; unfold maxLen; omega)
    rw [good_ST n x h1 hn] at this; exact this
  by_cases hl : ms.length ≤ 2000
  · have := sPlay_some (ST n x) (ST n (play n x ms).1) (play n x ms).2 a ms.length cap w hl hG (Lib.hid (riPlay_any n x a cap ms w h1 hn hx hl h))
    unfold plS plB; simp [hl]; exact this
  · have := sPlay_long (ST n x) a ms.length cap w (by omega) hG
    unfold plS plB; simp [hl]; exact this

theorem iFail_ST (n x : Nat) (a : Option Addr) (cap : Nat) (ms : List Int) (w : World) (h1 : 1 ≤ n) (hn : n ≤ 20) (hx : x < 2 ^ n) (hT : TabOk w) (h : ArgI w a ms) :
    Calls Tryd.prog 30 #[.string (ST n x), .slice a ms.length cap] w fun e w' => AnsI w (mfI n x ms) (mfB n x ms) e w' := by
  by_cases hl : ms.length ≤ 2000
  · have := iFail_some (ST n x) n x (play n x ms).1 (play n x ms).2 a ms.length cap w hT hl (play_le n ms x) (Lib.hid fun w hw => barOf_ST n x w h1 hn hx hw)
      (Lib.hid fun w' hb hw => played_any n x a cap ms w' h1 hn hx hl hw (h.below hb))
    have e : mfI n x ms = if (play n x ms).2 = ms.length then 0 else ((play n x ms).2 : Int) := by
      unfold mfI mfB; by_cases q : (play n x ms).2 = ms.length <;> simp [hl, q]
    have e2 : mfB n x ms = decide ((play n x ms).2 ≠ ms.length) := by unfold mfB; simp [hl]
    rw [e, e2]; exact this
  · have := iFail_long (ST n x) n x a ms.length cap w hT (by omega) (Lib.hid fun w hw => barOf_ST n x w h1 hn hx hw)
    unfold mfI mfB; simp [hl]; exact this

theorem sFail_ST (n x : Nat) (a : Option Addr) (cap : Nat) (ms : List Int) (w : World) (h1 : 1 ≤ n) (hn : n ≤ 20) (hx : x < 2 ^ n) (h : ArgI w a ms) :
    Calls Tryd.prog 29 #[.string (ST n x), .slice a ms.length cap] w fun e w' => AnsI w (mfI n x ms) (mfB n x ms) e w' := by
  have hG := Lib.hid fun w => by
    have := riGood_any (ST n x) w (by rw [ST_size]; unfold maxLen; omega)
    rw [good_ST n x h1 hn] at this; exact this
  by_cases hl : ms.length ≤ 2000
  · have := sFail_some (ST n x) (ST n (play n x ms).1) (play n x ms).2 a ms.length cap w hl hG (Lib.hid (riPlay_any n x a cap ms w h1 hn hx hl h))
    have e : mfI n x ms = if (play n x ms).2 = ms.length then 0 else ((play n x ms).2 : Int) := by
      unfold mfI mfB; by_cases q : (play n x ms).2 = ms.length <;> simp [hl, q]
    have e2 : mfB n x ms = decide ((play n x ms).2 ≠ ms.length) := by unfold mfB; simp [hl]
    rw [e, e2]; exact this
  · have := sFail_long (ST n x) a ms.length cap w (by omega) hG
    unfold mfI mfB; simp [hl]; exact this

end Go.Proofs.YtbgdhiieeegnjaaDoor
