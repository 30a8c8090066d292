/-
  The calls shaped and check of a table: for every row that a machine can hold. No other condition.
-/
import Derived.Test.YtkpbpecikibohaaDoorFShape
namespace Go.Proofs.YtkpbpecikibohaaDoor
open Go.RowKit
open Fm (Nd)

theorem eq_nd (w : World) {a b : Nd} (ha : Fm.good a) (hb : Fm.good b) : (Op.equalIn 10000 54 (ndV a) (ndV b)).run Tryd.prog w = .ok (decide (a = b)) w := by
  obtain ⟨r, hr, hiff⟩ := run_equal_deep (P := Tryd.prog) w (m := 2) (by omega) (k := 54) (by kernel_rfl) (by kernel_rfl) (key_nd ha) (key_nd hb)
  have e : r = decide (a = b) := by
    rw [Bool.eq_iff_iff, hiff]
    simp
    exact ⟨fun h => key_inj ha hb h, fun h => by rw [h]⟩
  rw [← e]
  exact hr
theorem nil_bytes (s : ByteArray) : (s.toList == []) = (s.size == 0) := by
  rw [ByteArray.toList_eq]
  obtain ⟨⟨l⟩⟩ := s
  show (l == []) = (l.length == 0)
  cases l <;> rfl
theorem bot_eq (n : Nd) (hk : n.k = 2) : decide (n = Fm.bot) = (n.s.size == 0 && n.l == 0 && n.r == 0) := by
  obtain ⟨k, ⟨⟨s⟩⟩, l, r⟩ := n
  simp only at hk
  subst hk
  show decide (_ = (⟨2, ⟨⟨[]⟩⟩, 0, 0⟩ : Nd)) = (s.length == 0 && l == 0 && r == 0)
  rw [Bool.eq_iff_iff]
  cases s <;> simp
set_option maxRecDepth 100000 in
set_option maxHeartbeats 2000000 in
theorem shaped_any (w : World) {b m : Nat} {v : Value} {t : List Nd} (h : Tb w b m v t) (n : Nd) (hn : Fm.good n) :
    Calls Tryd.prog 62 #[.pointer (some ⟨b, 0, none⟩), ndV n] w fun e w' => e = .returned (.bool (Fm.shaped t n)) ∧ Below w.heap.size w w' := by
  have heq := fun w => eq_nd w hn Fm.good_bot
  have hbe := bot_eq n
  have hsn := nil_bytes n.s
  have HS := show Hid (Fm.shaped t n = if n.k = 1 then n.l == 0 && n.r == 0 else if n.k = 2 then n.s.size == 0 && n.l == 0 && n.r == 0 else if Fm.jn n.k then n.s.size == 0 && Fm.has t n.l && Fm.has t n.r else false) from rfl
  have KH := show Hid (∀ w', Below w.heap.size w w' → ∀ i : Int, Calls Tryd.prog 65 #[.pointer (some ⟨b, 0, none⟩), .int .i64 i] w' fun e w'' => e = .returned (.bool (Fm.has t i)) ∧ w'' = w') from fun w' hb i => has_any w' (h.later hb) i
  have KJ := show Hid (∀ (k : Int) (w : World), Calls Tryd.prog 73 #[.int .i64 k] w fun e w' => e = .returned (.bool (Fm.jn k)) ∧ w' = w) from fun k w => joins_any w k
  have HB := show Hid (∀ o, Below w.heap.size w (w.alloc o)) from fun o => below_alloc w o
  generalize Fm.shaped t n = r at *
  obtain ⟨q0, hq0⟩ : ∃ q0, q0 = decide (n = Fm.bot) := ⟨_, rfl⟩
  rw [← hq0] at hbe heq
  clear hq0
  unfold ndV Fm.bot at *
  obtain ⟨k, s, l, q⟩ := n
  simp only at heq hbe hsn HS ⊢
  generalize s.size = sz at *
  clear h hn
  by_cases h1 : k = 1
  · subst h1
    have hr := HS.out
    rw [if_pos rfl] at hr
    have HR := show Hid _ from hr
    clear hr HS heq hbe
    by_cases h0 : l = 0
    all_goals
      go_enter Tryd.func62, Tryd.ntmps62
      go_wp2_with fail
      go_ret
      exact ⟨ret_bool (by rw [HR.out]; simp_all), HB.out _⟩
  · by_cases h2 : k = 2
    · subst h2
      have hr := HS.out
      rw [if_neg h1, if_pos rfl, ← hbe rfl] at hr
      have HR := show Hid _ from hr
      clear hr HS hbe
      go_enter Tryd.func62, Tryd.ntmps62
      go_wp2_with fail
      go_ret
      exact ⟨ret_bool (by rw [HR.out]), HB.out _⟩
    · have hr := HS.out
      rw [if_neg h1, if_neg h2] at hr
      have HR := show Hid _ from hr
      clear hr HS heq hbe
      have hk1 : (k == 1) = false := beq_eq_false_iff_ne.2 h1
      have hk2 : (k == 2) = false := beq_eq_false_iff_ne.2 h2
      clear h1 h2
      go_enter Tryd.func62, Tryd.ntmps62
      go_wp2_with fail
      refine (KJ.out _ _).mono ?_
      rintro e w1 ⟨rfl, rfl⟩
      cases hj : Fm.jn k
      · go_wp2_with fail
        go_ret
        exact ⟨ret_bool (by rw [HR.out, hj]; simp), HB.out _⟩
      · rw [hj] at HR
        cases hz : (sz == 0)
        · rw [hz] at HR hsn
          go_wp2_with fail
          go_ret
          exact ⟨ret_bool (by rw [HR.out]; simp), HB.out _⟩
        · rw [hz] at HR hsn
          go_wp2_with fail
          refine (KH.out _ (HB.out _) _).mono ?_
          rintro e w1 ⟨rfl, rfl⟩
          cases hl : Fm.has t l
          · go_wp2_with fail
            go_ret
            exact ⟨ret_bool (by rw [HR.out, hl]; simp), HB.out _⟩
          · go_wp2_with fail
            refine (KH.out _ (HB.out _) _).mono ?_
            rintro e w1 ⟨rfl, rfl⟩
            go_wp2_with fail
            go_ret
            exact ⟨ret_bool (by rw [HR.out, hl]; simp), HB.out _⟩
theorem check_eq (t : List Nd) (n : Nd) : Fm.check t n = if Fm.shaped t n then (if n.k = 1 then (if Fm.word n.s.data.toList then 0 else 32) else 0) else 31 := rfl
set_option maxRecDepth 100000 in
set_option maxHeartbeats 2000000 in
theorem check_any (w : World) {b m : Nat} {v : Value} {t : List Nd} (h : Tb w b m v t) (n : Nd) (hn : Fm.good n) :
    Calls Tryd.prog 38 #[.pointer (some ⟨b, 0, none⟩), ndV n] w fun e w' => e = .returned (.int .i64 (Fm.check t n)) ∧ Below w.heap.size w w' := by
  have HE := show Hid _ from check_eq t n
  have KS := show Hid (∀ w', Below w.heap.size w w' → Calls Tryd.prog 62 #[.pointer (some ⟨b, 0, none⟩), ndV n] w' fun e w'' => e = .returned (.bool (Fm.shaped t n)) ∧ Below w'.heap.size w' w'') from fun w' hb => shaped_any w' (h.later hb) n hn
  have KW := show Hid (∀ w' : World, Calls Tryd.prog 63 #[.string n.s] w' fun e w'' => e = .returned (.bool (Fm.word n.s.data.toList)) ∧ w'' = w') from fun w' => word_any w' n.s hn.2.1
  generalize Fm.check t n = r at *
  generalize Fm.shaped t n = sh at *
  generalize Fm.word n.s.data.toList = wd at *
  have HB := show Hid (Below w.heap.size w (w.alloc (Obj.cells #[.int .i64 n.k, .string n.s, .int .i64 n.l, .int .i64 n.r] 54))) from below_alloc w _
  have HA := show Hid (At4 (w.alloc (Obj.cells #[.int .i64 n.k, .string n.s, .int .i64 n.l, .int .i64 n.r] 54)) w.heap.size 0 n) from ⟨by rw [cell_of_row _ _ 0 _ _ _ (heap_alloc_new _ _)]; rfl, by rw [cell_of_row _ _ 1 _ _ _ (heap_alloc_new _ _)]; rfl, by rw [cell_of_row _ _ 2 _ _ _ (heap_alloc_new _ _)]; rfl, by rw [cell_of_row _ _ 3 _ _ _ (heap_alloc_new _ _)]; rfl⟩
  unfold ndV at *
  obtain ⟨k, s, l, q⟩ := n
  simp only at HE KS KW HB HA ⊢
  clear h hn
  go_enter Tryd.func38, Tryd.ntmps38
  go_wp2_with fail
  refine (KS.out _ HB.out).mono ?_
  rintro e w1 ⟨rfl, hb1⟩
  have hlt : w.heap.size < (w.alloc (Obj.cells #[.int .i64 k, .string s, .int .i64 l, .int .i64 q] 54)).heap.size := by simp
  have c0 := (hb1.cell (p := ⟨w.heap.size, 0, none⟩) hlt).trans HA.out.c0
  have c1 := (hb1.cell (p := ⟨w.heap.size, 1, none⟩) hlt).trans HA.out.c1
  have HB1 := show Hid (Below w.heap.size w w1) from HB.out.trans (hb1.mono (by simp))
  simp only at c0 c1
  clear hb1 hlt HA HB KS
  cases sh
  · go_wp2_with fail
    go_ret
    exact ⟨ret_int (by rw [HE.out]; simp), HB1.out⟩
  · by_cases h1 : k = 1
    · subst h1
      go_wp2_with fail
      refine (KW.out _).mono ?_
      rintro e w2 ⟨rfl, rfl⟩
      cases wd
      all_goals
        go_wp2_with fail
        go_ret
        exact ⟨ret_int (by rw [HE.out]; simp), HB1.out⟩
    · have hk1 : (k == 1) = false := beq_eq_false_iff_ne.2 h1
      go_wp2_with fail
      go_ret
      exact ⟨ret_int (by rw [HE.out]; simp [h1]), HB1.out⟩
end Go.Proofs.YtkpbpecikibohaaDoor
