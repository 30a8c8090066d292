/-
  The calls Replace and Frame: for every table that calls made, and all numbers and names.
-/
import Derived.Test.YthfedlodikbdgaaUPut
namespace Go.Proofs.Ythfedlodikbdgaa
open Go.RowKit Go.Maps
open Fm (Nd)

section
variable {b m : Nat} {v : Value} {t : List Nd}
set_option maxHeartbeats 1000000 in
theorem repC_any (w : World) (h : Tb w b m v t) (oB yB tB : Nat) (old y : Int) (hf : w.cell? ⟨oB, 0, none⟩ = some (.int .i64 old)) (hy : w.cell? ⟨yB, 0, none⟩ = some (.int .i64 y)) (ht : w.cell? ⟨tB, 0, none⟩ = some (.pointer (some ⟨b, 0, none⟩))) (i : Nat) (x : Nd) (hx : Fm.good x) :
    Calls Try.prog 47 #[.int .i64 (i : Int), ndV x, .pointer (some ⟨oB, 0, none⟩), .pointer (some ⟨yB, 0, none⟩), .pointer (some ⟨tB, 0, none⟩)] w fun e w' => e = .returned (.tuple #[.int .i64 (Sb.repF old y t i x).1, .int .i64 (Sb.repF old y t i x).2.1]) ∧ After w b m v (Sb.repF old y t i x).2.2 w' := by
  obtain ⟨xk, xs, xl, xr⟩ := x
  obtain ⟨w1, hw1⟩ : ∃ w1, w1 = w.alloc (Obj.cells #[.int .i64 xk, .string xs, .int .i64 xl, .int .i64 xr] 59) := ⟨_, rfl⟩
  have hb1 : Below w.heap.size w w1 := by rw [hw1]; exact below_alloc _ _
  have hf1 : w1.cell? ⟨oB, 0, none⟩ = some (.int .i64 old) := (Kp.of_below (S := fun _ => False) hb1).cell hf (fun h => h)
  have hy1 : w1.cell? ⟨yB, 0, none⟩ = some (.int .i64 y) := (Kp.of_below (S := fun _ => False) hb1).cell hy (fun h => h)
  have ht1 : w1.cell? ⟨tB, 0, none⟩ = some (.pointer (some ⟨b, 0, none⟩)) := (Kp.of_below (S := fun _ => False) hb1).cell ht (fun h => h)
  have KP := show Hid (Calls Try.prog 39 #[.pointer (some ⟨b, 0, none⟩), .agg #[.int .i64 xk, .string xs, .int .i64 xl, .int .i64 xr]] w1 fun e w' => e = .returned (.tuple #[.int .i64 (Fm.put t ⟨xk, xs, xl, xr⟩).1, .int .i64 (Fm.put t ⟨xk, xs, xl, xr⟩).2.1]) ∧ After w1 b m v (Fm.put t ⟨xk, xs, xl, xr⟩).2.2 w') from put_any w1 (h.later hb1) ⟨xk, xs, xl, xr⟩ hx
  have HB := show Hid (Below w.heap.size w w1 ∧ After w b m v t w1) from ⟨hb1, After.of_below h hb1⟩
  unfold ndV
  rw [hw1] at hf1 ht1 hy1
  by_cases hl : (i : Int) = old
  · have e1 : Sb.repF old y t i ⟨xk, xs, xl, xr⟩ = (y, 0, t) := by unfold Sb.repF; rw [if_pos hl]
    rw [e1]
    clear KP h e1
    subst hl
    go_enter Try.func47, Try.ntmps47
    go_wp2_with fail
    go_ret2
    rw [← hw1]
    exact ⟨rfl, HB.out.2⟩
  · have e1 : Sb.repF old y t i ⟨xk, xs, xl, xr⟩ = Fm.put t ⟨xk, xs, xl, xr⟩ := by unfold Sb.repF; rw [if_neg hl]
    have hne : ((i : Int) == old) = false := by simpa using hl
    rw [e1]
    clear h e1
    generalize Fm.put t ⟨xk, xs, xl, xr⟩ = r at *
    go_enter Try.func47, Try.ntmps47
    go_wp2_with fail
    rw [← hw1]
    refine KP.out.mono ?_
    rintro e w2 ⟨rfl, hA⟩
    have HA := show Hid (After w b m v r.2.2 w2) from hA.from_below HB.out.1
    clear KP hA
    go_wp2_with fail
    go_ret2
    exact ⟨rfl, HA.out⟩
set_option maxRecDepth 100000 in
set_option maxHeartbeats 4000000 in
theorem Replace_any (w : World) (h : Tb w b m v t) (id old y : Int) :
    Calls Try.prog 15 #[.pointer (some ⟨b, 0, none⟩), .int .i64 id, .int .i64 old, .int .i64 y] w fun e w' => e = .returned (.tuple #[.int .i64 (Sb.repR t id old y).1, .int .i64 (Sb.repR t id old y).2.1]) ∧ After w b m v (Sb.repR t id old y).2.2 w' := by
  have HTB := show Hid (Tb w b m v t) from h
  have HPR := show Hid ((Sb.refR t [id, old, y] = 31 → Sb.repR t id old y = (0, 31, t)) ∧ (Sb.refR t [id, old, y] = 0 → Sb.repR t id old y = Sb.anew (Sb.repF old y) t id.toNat)) from by
    refine ⟨fun h => ?_, fun h1 => ?_⟩
    · unfold Sb.repR; rw [h]; rfl
    · unfold Sb.repR; rw [if_pos h1]
  obtain ⟨w1, hw1⟩ : ∃ w1, w1 = (((w.alloc (Obj.cells #[.pointer (some ⟨b, 0, none⟩)] 24)).alloc (Obj.cells #[.int .i64 old] 3)).alloc (Obj.cells #[.int .i64 y] 3)).alloc (Obj.cells #[.int .i64 id, .int .i64 old, .int .i64 y] 3) := ⟨_, rfl⟩
  obtain ⟨w0, hw0⟩ : ∃ w0, w0 = ((w.alloc (Obj.cells #[.pointer (some ⟨b, 0, none⟩)] 24)).alloc (Obj.cells #[.int .i64 old] 3)).alloc (Obj.cells #[.int .i64 y] 3) := ⟨_, rfl⟩
  have hb0 : Below w.heap.size w w0 := by rw [hw0]; exact ((below_alloc w _).alloc (below_alloc w _).size _).alloc ((below_alloc w _).alloc (below_alloc w _).size _).size _
  have hs0 : w0.heap.size = w.heap.size + 3 := by rw [hw0]; simp
  have hw01 : w1 = w0.alloc (Obj.cells #[.int .i64 id, .int .i64 old, .int .i64 y] 3) := by rw [hw1, hw0]
  have hb01 : Below w0.heap.size w0 w1 := by rw [hw01]; exact below_alloc _ _
  have hb1 : Below w.heap.size w w1 := hb0.trans (hb01.mono hb0.size)
  have hIL : IsL w1 (.slice (some ⟨w.heap.size + 3, 0, none⟩) 3 3) [id, old, y] := by rw [hw01, ← hs0]; exact isL3 w0 id old y
  have hct : w1.cell? ⟨w.heap.size, 0, none⟩ = some (.pointer (some ⟨b, 0, none⟩)) := by rw [hw1]; simp [go_sem, World.cell?_alloc_past]
  have hco : w1.cell? ⟨w.heap.size + 1, 0, none⟩ = some (.int .i64 old) := by rw [hw1]; simp [go_sem]
  have hcy : w1.cell? ⟨w.heap.size + 2, 0, none⟩ = some (.int .i64 y) := by rw [hw1]; simp [go_sem]
  have KR := show Hid (Calls Try.prog 35 #[.pointer (some ⟨b, 0, none⟩), .slice (some ⟨w.heap.size + 3, 0, none⟩) 3 3] w1 fun e w' => e = .returned (.int .i64 (Sb.refR t [id, old, y])) ∧ Below w1.heap.size w1 w') from refused_any w1 (h.later hb1) _ _ hIL
  have HR := show Hid _ from refR_vals t [id, old, y]
  have HCC := show Hid (∀ w2, Below w1.heap.size w1 w2 → w2.cell? ⟨w.heap.size, 0, none⟩ = some (.pointer (some ⟨b, 0, none⟩)) ∧ w2.cell? ⟨w.heap.size + 1, 0, none⟩ = some (.int .i64 old) ∧ w2.cell? ⟨w.heap.size + 2, 0, none⟩ = some (.int .i64 y)) from fun w2 h2 =>
    ⟨(Kp.of_below (S := fun _ => False) h2).cell hct (fun h => h), (Kp.of_below (S := fun _ => False) h2).cell hco (fun h => h), (Kp.of_below (S := fun _ => False) h2).cell hcy (fun h => h)⟩
  have HB1 := show Hid (Below w.heap.size w w1) from hb1
  clear hct hco hcy hIL hb1 hb01 hw01 hb0 hw0 hs0 h
  generalize Sb.refR t [id, old, y] = rr at *
  generalize Sb.repR t id old y = ans at *
  go_enter Try.func15, Try.ntmps15
  go_wp2_with fail
  rw [← hw1]
  refine KR.out.mono ?_
  rintro e w2 ⟨rfl, hb2⟩
  have HB2 := show Hid (Below w.heap.size w w2) from HB1.out.trans (hb2.mono HB1.out.size)
  obtain ⟨hct, hco, hcy⟩ := HCC.out w2 hb2
  clear KR
  rcases HR.out with ⟨h0, hin⟩ | h31
  · subst h0
    have ha := HPR.out.2 (by simp)
    obtain ⟨hi0, hi1⟩ := Fm.has_iff.1 (hin id (by simp))
    have hy0 := hin y (by simp)
    obtain ⟨idn, rfl⟩ : ∃ idn : Nat, id = idn := ⟨id.toNat, by omega⟩
    rw [Int.toNat_natCast] at ha
    have KA := show Hid (Calls Try.prog 37 #[.pointer (some ⟨b, 0, none⟩), .int .i64 (idn : Int), .func (.func 47) #[] #[.pointer (some ⟨w.heap.size + 1, 0, none⟩), .pointer (some ⟨w.heap.size + 2, 0, none⟩), .pointer (some ⟨w.heap.size, 0, none⟩)]] w2 fun e w' => e = .returned (.tuple #[.int .i64 (Sb.anew (Sb.repF old y) t idn).1, .int .i64 (Sb.anew (Sb.repF old y) t idn).2.1]) ∧ After w2 b m v (Sb.anew (Sb.repF old y) t idn).2.2 w') from
      anew_any w2 (HTB.out.later HB2.out) idn (by omega) 47 [.pointer (some ⟨w.heap.size + 1, 0, none⟩), .pointer (some ⟨w.heap.size + 2, 0, none⟩), .pointer (some ⟨w.heap.size, 0, none⟩)] (fun _ _ => Try.call47 _ _) (Sb.repF old y) (Sb.repF_fair hy0) (by
        intro w5 v5 t5 i x hk5 hT5 hL5 _ _ hx _
        have hout : ∀ j, w.heap.size ≤ j → ¬ Ft b m v j := fun j hj hf => by have := HTB.out.foot j hf; omega
        exact repC_any w5 hT5 (w.heap.size + 1) (w.heap.size + 2) w.heap.size old y (hk5.cell hco (hout _ (by omega))) (hk5.cell hcy (hout _ (by omega))) (hk5.cell hct (hout _ (Nat.le_refl _))) i x hx)
    have HAN := show Hid _ from ha
    clear hco hcy hin HPR HR ha HCC
    generalize Sb.anew (Sb.repF old y) t idn = r at *
    go_wp2_with fail
    refine KA.out.mono ?_
    rintro e w5 ⟨rfl, hA5⟩
    have HA5 := show Hid (After w b m v r.2.2 w5) from hA5.from_below HB2.out
    clear KA hA5 hct
    go_wp2_with fail
    go_ret2
    exact ⟨by rw [HAN.out]; rfl, by rw [HAN.out]; exact HA5.out⟩
  · subst h31
    have ha := HPR.out.1 (by simp)
    have HA := show Hid (After w b m v t w2) from After.of_below HTB.out HB2.out
    subst ha
    clear HPR HR HCC hct hco hcy
    go_wp2_with fail
    go_ret2
    exact ⟨rfl, HA.out⟩
theorem isH1 (w : World) (s : ByteArray) (x : Int) : IsH (w.alloc (Obj.cells #[.string s, .int .i64 x] 39)) (.slice (some ⟨w.heap.size, 0, none⟩) 1 1) [(s, x)] := by
  refine ⟨_, _, rfl, by simp, fun k hk => ⟨_, _, rfl, ?_⟩⟩
  have : k = 0 := by simp at hk; omega
  subst this
  exact ⟨by rw [cell_of_row _ _ _ _ _ _ (heap_alloc_new _ _)]; rfl, by rw [cell_of_row _ _ _ _ _ _ (heap_alloc_new _ _)]; rfl⟩
theorem isH2 (w : World) (s : ByteArray) (x : Int) (s' : ByteArray) (x' : Int) : IsH (w.alloc (Obj.cells #[.string s, .int .i64 x, .string s', .int .i64 x'] 39)) (.slice (some ⟨w.heap.size, 0, none⟩) 2 2) [(s, x), (s', x')] := by
  refine ⟨_, _, rfl, by simp, fun k hk => ⟨_, _, rfl, ?_⟩⟩
  have : k = 0 ∨ k = 1 := by simp at hk; omega
  rcases this with rfl | rfl
  · exact ⟨by rw [cell_of_row _ _ _ _ _ _ (heap_alloc_new _ _)]; rfl, by rw [cell_of_row _ _ _ _ _ _ (heap_alloc_new _ _)]; rfl⟩
  · exact ⟨by rw [cell_of_row _ _ _ _ _ _ (heap_alloc_new _ _)]; rfl, by rw [cell_of_row _ _ _ _ _ _ (heap_alloc_new _ _)]; rfl⟩
set_option maxHeartbeats 1000000 in
theorem Frame_any (w : World) (h : Tb w b m v t) (id : Int) (s : ByteArray) (fill : Int) (hs : s.size ≤ 140737488351232) (hfi : Fm.i64 fill) :
    Calls Try.prog 17 #[.pointer (some ⟨b, 0, none⟩), .int .i64 id, .string s, .int .i64 fill] w fun e w' => e = .returned (.tuple #[.int .i64 (Sb.putR t id [(s, fill)]).1, .int .i64 (Sb.putR t id [(s, fill)]).2.1]) ∧ After w b m v (Sb.putR t id [(s, fill)]).2.2 w' := by
  obtain ⟨w1, hw1⟩ : ∃ w1, w1 = w.alloc (Obj.cells #[.string s, .int .i64 fill] 39) := ⟨_, rfl⟩
  have hb1 : Below w.heap.size w w1 := by rw [hw1]; exact below_alloc _ _
  have KP := show Hid (Calls Try.prog 11 #[.pointer (some ⟨b, 0, none⟩), .int .i64 id, .slice (some ⟨w.heap.size, 0, none⟩) 1 1] w1 fun e w' => e = .returned (.tuple #[.int .i64 (Sb.putR t id [(s, fill)]).1, .int .i64 (Sb.putR t id [(s, fill)]).2.1]) ∧ After w1 b m v (Sb.putR t id [(s, fill)]).2.2 w') from
    Put_any w1 (h.later hb1) id _ [(s, fill)] (by rw [hw1]; exact isH1 w s fill) (fun x hx => by simp at hx; subst hx; exact ⟨hs, hfi⟩)
  have HB := show Hid (Below w.heap.size w w1) from hb1
  clear h hb1
  generalize Sb.putR t id [(s, fill)] = r at *
  go_enter Try.func17, Try.ntmps17
  go_wp2_with fail
  rw [← hw1]
  refine KP.out.mono ?_
  rintro e w2 ⟨rfl, hA⟩
  have HA := show Hid (After w b m v r.2.2 w2) from hA.from_below HB.out
  clear KP hA
  go_wp2_with fail
  go_ret2
  exact ⟨rfl, HA.out⟩
end
end Go.Proofs.Ythfedlodikbdgaa
