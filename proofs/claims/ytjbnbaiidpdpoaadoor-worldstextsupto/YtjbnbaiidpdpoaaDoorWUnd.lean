/-
  Undec, the program's: a number in up to ten digits, or the error: for every text and every bound. No condition.
-/
import Derived.Test.YtjbnbaiidpdpoaaDoorWKit
import Derived.Laws.RangeAny
namespace Go.Proofs.YtjbnbaiidpdpoaaDoor.Wm
open Go.RowKit

theorem drop_at (l : List UInt8) (k : Nat) (h : k < l.length) : l.drop k = l[k] :: l.drop (k + 1) := List.drop_eq_getElem_cons h
theorem toNat_lt (c : UInt8) : c.toNat < 256 := c.toNat_lt
def digs : Nat → List UInt8 → Option Nat
  | n, [] => some n
  | n, c :: r => if c.toNat < 48 ∨ 57 < c.toNat then none else digs (n * 10 + (c.toNat - 48)) r
theorem tup2 {a a' b b' : Int} (h1 : a = a') (h2 : b = b') : Ending.returned (.tuple #[.int .i64 a, .int .i64 b]) = Ending.returned (.tuple #[.int .i64 a', .int .i64 b']) := by rw [h1, h2]
theorem iter_below (w : World) (s : ByteArray) (k : Nat) : Below w.heap.size w (w.iter s k) := below_alloc w _
theorem bytes_at (s : ByteArray) (k : Nat) (h : k < s.size) : s.data.toList[k]'h = s[k] := rfl

set_option maxHeartbeats 1000000 in
theorem undec_short (w : World) (s : ByteArray) (most : Int) (hs : s.size ≤ 9223372036854775807) (h : s.size = 0 ∨ 10 < s.size) :
    Calls Tryd.prog 63 #[.string s, .int .i64 most] w fun e w' => e = .returned (.tuple #[.int .i64 0, .int .i64 2]) ∧ w' = w := by
  rcases h with h | h
  · have hb : ((s.size : Int) == 0) = true := by simp [h]
    clear h
    go_enter Tryd.func63, Tryd.ntmps63
    go_wp2
    all_goals go_ret2
    all_goals exact ⟨rfl, rfl⟩
  · have hb : ((s.size : Int) == 0) = false := beq_eq_false_iff_ne.2 (by omega)
    go_enter Tryd.func63, Tryd.ntmps63
    go_wp2
    all_goals go_ret2
    all_goals exact ⟨rfl, rfl⟩
set_option maxRecDepth 100000 in
set_option maxHeartbeats 1000000 in
theorem undec_lead (w : World) (s : ByteArray) (most : Int) (hs : s.size ≤ 10) (h1 : 2 ≤ s.size) (h48 : (((s[0]'(by omega)).toNat : Int) == 48) = true) :
    Calls Tryd.prog 63 #[.string s, .int .i64 most] w fun e w' => e = .returned (.tuple #[.int .i64 0, .int .i64 2]) ∧ w' = w := by
  go_enter Tryd.func63, Tryd.ntmps63
  go_wp2
  all_goals go_ret2
  all_goals exact ⟨rfl, rfl⟩
def told (ans : Option Nat) (most : Int) : Int × Int :=
  match ans with
  | none => (0, 2)
  | some n => if most < (n : Int) then (0, 2) else ((n : Int), 0)
theorem digs_step (l : List UInt8) (k acc : Nat) (h : k < l.length) (h1 : 48 ≤ (l[k]).toNat) (h2 : (l[k]).toNat ≤ 57) : digs acc (l.drop k) = digs (acc * 10 + ((l[k]).toNat - 48)) (l.drop (k + 1)) := by
  rw [drop_at l k h, digs, if_neg (by omega)]
theorem digs_bad (l : List UInt8) (k acc : Nat) (h : k < l.length) (h1 : (l[k]).toNat < 48 ∨ 57 < (l[k]).toNat) : digs acc (l.drop k) = none := by
  rw [drop_at l k h, digs, if_pos h1]
set_option maxRecDepth 100000 in
set_option maxHeartbeats 2000000 in
theorem undec_loop (w : World) (s : ByteArray) (most : Int) (hs : s.size ≤ 10) (h1 : 1 ≤ s.size) (h48 : (((s[0]'h1).toNat : Int) == 48) = false ∨ s.size ≤ 1) :
    Calls Tryd.prog 63 #[.string s, .int .i64 most] w fun e w' => Below w.heap.size w w' ∧ e = .returned (.tuple #[.int .i64 (told (digs 0 s.data.toList) most).1, .int .i64 (told (digs 0 s.data.toList) most).2]) := by
  have HX : Hid (digs 0 (s.data.toList.drop 0) = digs 0 s.data.toList) := rfl
  generalize digs 0 s.data.toList = ans at *
  have hsz : s.data.toList.length = s.size := rfl
  have HSZ := show Hid (s.data.toList.length = s.size) from hsz
  have hb0 : ((s.size : Int) == 0) = false := beq_eq_false_iff_ne.2 (by omega)
  have hb10 : decide (10 < (s.size : Int)) = false := by simp; omega
  clear hsz
  rcases h48 with h48 | h48
  all_goals
    go_enter Tryd.func63, Tryd.ntmps63
    go_wp2
  all_goals
    go_loopw [6] (fun n wr => ∃ k acc : Nat, k ≤ s.size ∧ wr = w.iter s k ∧ n = .int .i64 (acc : Int) ∧ acc < 10 ^ k ∧ Hid (digs acc (s.data.toList.drop k) = ans)) (fun _ wr => s.size - wr.iterPos w.heap.size)
    case atStart => exact ⟨0, 0, by omega, rfl, rfl, by decide, HX⟩
    case round =>
      obtain ⟨k, acc, hk, rfl, rfl, hacc, HA⟩ := hrel
      clear HX h48
      have hp10 : 10 ^ k ≤ 10 ^ 10 := Nat.pow_le_pow_right (by omega) (by omega)
      have hacc2 : acc < 10000000000 := by omega
      have HAC := show Hid (acc < 10 ^ k) from hacc
      clear hacc hp10
      by_cases hlt : k < s.size
      · by_cases hd : 48 ≤ (s[k]).toNat ∧ (s[k]).toNat ≤ 57
        · have hA := HA.out
          rw [digs_step s.data.toList k acc hlt hd.1 hd.2, bytes_at s k hlt] at hA
          have hnx : ∀ ty, (Instr.next (.pointer (some ⟨w.heap.size, 0, none⟩)) true ty).run Tryd.prog (w.iter s k) = _ := fun ty => run_next_ascii w s k ty hlt (by omega)
          generalize (s[k]).toNat = m at *
          have HA2 := show Hid (digs (acc * 10 + (m - 48)) (s.data.toList.drop (k + 1)) = ans) from hA
          obtain ⟨hd1, hd2⟩ := hd
          clear hA HA
          go_wp2
          go_roundw
          case rel =>
            refine ⟨k + 1, acc * 10 + (m - 48), by omega, rfl, val_int (by omega), ?_, HA2⟩
            have := HAC.out
            rw [Nat.pow_succ]
            omega
          case measure => simp; omega
        · have hbad : (s[k]).toNat < 48 ∨ 57 < (s[k]).toNat := by omega
          have hA := HA.out
          rw [digs_bad s.data.toList k acc hlt hbad] at hA
          have HA2 := show Hid (none = ans) from hA
          clear hA HA hd
          by_cases h128 : (s[k]).toNat < 128
          · have hnx : ∀ ty, (Instr.next (.pointer (some ⟨w.heap.size, 0, none⟩)) true ty).run Tryd.prog (w.iter s k) = _ := fun ty => run_next_ascii w s k ty hlt h128
            generalize (s[k]).toNat = m at *
            rcases hbad with hbad | hbad
            · have hb1 : decide ((m : Int) < 48) = true := by simp; omega
              go_wp2
              go_ret2
              exact ⟨iter_below _ _ _, tup2 (by rw [← HA2.out]; rfl) (by rw [← HA2.out]; rfl)⟩
            · have hb1 : decide ((m : Int) < 48) = false := by simp; omega
              go_wp2
              go_ret2
              exact ⟨iter_below _ _ _, tup2 (by rw [← HA2.out]; rfl) (by rw [← HA2.out]; rfl)⟩
          · have hnx : ∀ ty, (Instr.next (.pointer (some ⟨w.heap.size, 0, none⟩)) true ty).run Tryd.prog (w.iter s k) = _ := fun ty => run_next_any w s k ty hlt
            have hh := (decode_high s k hlt (by omega)).1
            generalize (Utf8.decode s k).1 = m at *
            generalize (Utf8.decode s k).2 = d at *
            have hb1 : decide ((m : Int) < 48) = false := by simp; omega
            clear hbad h128
            go_wp2
            go_ret2
            exact ⟨iter_below _ _ _, tup2 (by rw [← HA2.out]; rfl) (by rw [← HA2.out]; rfl)⟩
      · have hA := HA.out
        rw [List.drop_eq_nil_of_le (by rw [HSZ.out]; omega)] at hA
        have HA2 := show Hid (some acc = ans) from hA
        have hnx : ∀ ty, (Instr.next (.pointer (some ⟨w.heap.size, 0, none⟩)) true ty).run Tryd.prog (w.iter s k) = _ := fun ty => run_next_end w s k ty hlt
        clear hA HA
        by_cases hm : most < (acc : Int)
        · go_wp2
          go_ret2
          exact ⟨iter_below _ _ _, tup2 (by rw [← HA2.out]; simp only [told, if_pos hm]) (by rw [← HA2.out]; simp only [told, if_pos hm])⟩
        · go_wp2
          go_ret2
          exact ⟨iter_below _ _ _, tup2 (by rw [← HA2.out]; simp only [told, if_neg (Int.not_lt.2 hm)]) (by rw [← HA2.out]; simp only [told, if_neg (Int.not_lt.2 hm)])⟩
def undecB (s : ByteArray) (most : Int) : Int × Int :=
  if s.size = 0 ∨ 10 < s.size then (0, 2) else if 2 ≤ s.size ∧ (s.data.toList.getD 0 0).toNat = 48 then (0, 2) else told (digs 0 s.data.toList) most
theorem first_at (s : ByteArray) (h : 0 < s.size) : s.data.toList.getD 0 0 = s[0] := by
  have : 0 < s.data.toList.length := h
  rw [List.getD, List.getElem?_eq_getElem this]
  rfl
theorem undec_both (f : FuncId) (w : World) (s : ByteArray) (most : Int)
    (c1 : (s.size = 0 ∨ 10 < s.size) → Calls Tryd.prog f #[.string s, .int .i64 most] w fun e w' => e = .returned (.tuple #[.int .i64 0, .int .i64 2]) ∧ Below w.heap.size w w')
    (c2 : s.size ≤ 10 → ∀ h1 : 2 ≤ s.size, (((s[0]'(by omega)).toNat : Int) == 48) = true → Calls Tryd.prog f #[.string s, .int .i64 most] w fun e w' => e = .returned (.tuple #[.int .i64 0, .int .i64 2]) ∧ Below w.heap.size w w')
    (c3 : s.size ≤ 10 → ∀ h1 : 1 ≤ s.size, ((((s[0]'h1).toNat : Int) == 48) = false ∨ s.size ≤ 1) → Calls Tryd.prog f #[.string s, .int .i64 most] w fun e w' => e = .returned (.tuple #[.int .i64 (told (digs 0 s.data.toList) most).1, .int .i64 (told (digs 0 s.data.toList) most).2]) ∧ Below w.heap.size w w') :
    Calls Tryd.prog f #[.string s, .int .i64 most] w fun e w' => e = .returned (.tuple #[.int .i64 (undecB s most).1, .int .i64 (undecB s most).2]) ∧ Below w.heap.size w w' := by
  by_cases h1 : s.size = 0 ∨ 10 < s.size
  · rw [undecB, if_pos h1]
    exact c1 h1
  · by_cases h2 : 2 ≤ s.size ∧ (s.data.toList.getD 0 0).toNat = 48
    · rw [undecB, if_neg h1, if_pos h2]
      refine c2 (by omega) h2.1 ?_
      rw [first_at s (by omega)] at h2
      simp [h2.2]
    · rw [undecB, if_neg h1, if_neg h2]
      refine c3 (by omega) (by omega) ?_
      by_cases hs : s.size ≤ 1
      · exact Or.inr hs
      · left
        rw [first_at s (by omega)] at h2
        rw [beq_eq_false_iff_ne]
        intro e
        exact h2 ⟨by omega, by omega⟩
theorem undec_all (w : World) (s : ByteArray) (most : Int) (hs : s.size ≤ 9223372036854775807) :
    Calls Tryd.prog 63 #[.string s, .int .i64 most] w fun e w' => e = .returned (.tuple #[.int .i64 (undecB s most).1, .int .i64 (undecB s most).2]) ∧ Below w.heap.size w w' :=
  undec_both _ w s most (fun h => (undec_short w s most hs h).mono fun _ _ ⟨a, b⟩ => ⟨a, by rw [b]; exact Below.refl _ _⟩) (fun h h1 h48 => (undec_lead w s most h h1 h48).mono fun _ _ ⟨a, b⟩ => ⟨a, by rw [b]; exact Below.refl _ _⟩)
    (fun h h1 h48 => (undec_loop w s most h h1 h48).mono fun _ _ ⟨a, b⟩ => ⟨b, a⟩)
end Go.Proofs.YtjbnbaiidpdpoaaDoor.Wm
