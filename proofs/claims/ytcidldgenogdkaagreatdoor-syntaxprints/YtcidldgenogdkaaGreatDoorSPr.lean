/-
  Plain mathematics of writing formulas; and the calls isFalse, isNot, isTrue, level, sign. For every table and number. No other condition.
-/
import Derived.Test.YtcidldgenogdkaaGreatDoorSKit
namespace Go.Proofs.YtcidldgenogdkaaGreatDoor
open Go.RowKit Go.Maps
open Fm (Nd)

namespace Pr
def isFalse (t : List Nd) (i : Int) : Bool := (nodeOf t i).k == 2
def isNot (t : List Nd) (n : Nd) : Bool := n.k == 5 && isFalse t n.r
def isTrue (t : List Nd) (n : Nd) : Bool := isNot t n && n.l == n.r
def lvl (t : List Nd) (i : Int) : Int :=
  if (nodeOf t i).k = 3 then 3 else if (nodeOf t i).k = 4 then 2 else if (nodeOf t i).k = 5 ∧ isNot t (nodeOf t i) = false then 1 else 4
def sign (k : Int) : ByteArray := if k = 3 then ⟨#[32, 38, 32]⟩ else if k = 4 then ⟨#[32, 124, 32]⟩ else ⟨#[32, 45, 62, 32]⟩
/-- A piece of a text, or a part. -/
inductive Pc where
  | tx (s : ByteArray)
  | pt (j : Int)
def enc (t : List Nd) (i least : Int) : List Pc := if least ≤ lvl t i then [.pt i] else [.tx ⟨#[40]⟩, .pt i, .tx ⟨#[41]⟩]
def pcs (t : List Nd) (i : Int) : List Pc :=
  if (nodeOf t i).k = 1 then [.tx (nodeOf t i).s]
  else if (nodeOf t i).k = 2 then [.tx ⟨#[102, 97, 108, 115, 101]⟩]
  else if isTrue t (nodeOf t i) then [.tx ⟨#[116, 114, 117, 101]⟩]
  else if isNot t (nodeOf t i) then .tx ⟨#[126]⟩ :: enc t (nodeOf t i).l 4
  else if (nodeOf t i).k = 5 then enc t (nodeOf t i).l (lvl t i + 1) ++ (.tx (sign (nodeOf t i).k) :: enc t (nodeOf t i).r (lvl t i))
  else enc t (nodeOf t i).l (lvl t i) ++ (.tx (sign (nodeOf t i).k) :: enc t (nodeOf t i).r (lvl t i + 1))
end Pr
section
variable (w : World) {b m : Nat} {v : Value} {t : List Nd}
theorem field_nd0 (w : World) (k : Int) (s : ByteArray) (l r : Int) : (Instr.field 104 (.agg #[.int .i64 k, .string s, .int .i64 l, .int .i64 r]) 0).run Tryz.prog w = .ok (.int .i64 k) w := by kernel_rfl
set_option maxHeartbeats 1000000 in
theorem isFalse_any (h : Tb w b m v t) (i : Int) : Calls Tryz.prog 97 #[.agg #[.pointer (some ⟨b, 0, none⟩)], .int .i64 i] w fun e w' => e = .returned (.bool (Pr.isFalse t i)) ∧ Below w.heap.size w w' := by
  have K := show Hid (∀ w1, Below w.heap.size w w1 → Calls Tryz.prog 70 #[.pointer (some ⟨b, 0, none⟩), .int .i64 i] w1 fun e w' => e = .returned (.tuple #[ndV (nodeOf t i), .bool (Fm.has t i)]) ∧ Below w1.heap.size w1 w') from fun w1 hb => node_any w1 (h.later hb) i
  have HE := show Hid (Pr.isFalse t i = ((nodeOf t i).k == 2)) from rfl
  generalize Pr.isFalse t i = q at *
  generalize nodeOf t i = n at *
  generalize Fm.has t i = hh at *
  obtain ⟨nk, ns, nl, nr⟩ := n
  unfold ndV at *
  simp only at *
  clear h
  go_enter Tryz.func97, Tryz.ntmps97
  go_wp2_with fail
  refine (K.out _ (below_alloc _ _)).mono ?_
  rintro e w1 ⟨rfl, hb⟩
  have HB := show Hid (Below w.heap.size w w1) from (below_alloc _ _).trans (hb.mono (by simp))
  clear hb K
  go_wp2_with fail
  go_ret
  exact ⟨ret_bool (by rw [HE.out]), HB.out.alloc HB.out.size _⟩
set_option maxHeartbeats 1000000 in
theorem isNot_any (h : Tb w b m v t) (n : Nd) : Calls Tryz.prog 72 #[.agg #[.pointer (some ⟨b, 0, none⟩)], ndV n] w fun e w' => e = .returned (.bool (Pr.isNot t n)) ∧ Below w.heap.size w w' := by
  obtain ⟨nk, ns, nl, nr⟩ := n
  have K := show Hid (∀ w1, Below w.heap.size w w1 → Calls Tryz.prog 97 #[.agg #[.pointer (some ⟨b, 0, none⟩)], .int .i64 nr] w1 fun e w' => e = .returned (.bool (Pr.isFalse t nr)) ∧ Below w1.heap.size w1 w') from fun w1 hb => isFalse_any w1 (h.later hb) nr
  have HE := show Hid (Pr.isNot t ⟨nk, ns, nl, nr⟩ = (nk == 5 && Pr.isFalse t nr)) from rfl
  generalize Pr.isNot t ⟨nk, ns, nl, nr⟩ = q at *
  generalize Pr.isFalse t nr = q2 at *
  unfold ndV at *
  have B0 := show Hid (Below w.heap.size w ((w.alloc (Obj.cells #[.pointer (some ⟨b, 0, none⟩)] 82)).alloc (Obj.cells #[.int .i64 nk, .string ns, .int .i64 nl, .int .i64 nr] 104))) from ((Below.refl _ _).alloc (Nat.le_refl _) _).alloc (by simp) _
  simp only at *
  clear h
  by_cases hk : nk = 5
  · subst hk
    go_enter Tryz.func72, Tryz.ntmps72
    go_wp2_with fail
    refine (K.out _ B0.out).mono ?_
    rintro e w1 ⟨rfl, hb⟩
    have HB := show Hid (Below w.heap.size w w1) from B0.out.trans (hb.mono B0.out.size)
    clear hb K
    go_wp2_with fail
    go_ret
    exact ⟨ret_bool (by rw [HE.out]; simp), HB.out⟩
  · have hk2 : (nk == 5) = false := by simp [hk]
    clear hk
    go_enter Tryz.func72, Tryz.ntmps72
    go_wp2_with fail
    go_ret
    exact ⟨ret_bool (by rw [HE.out, hk2]; rfl), B0.out⟩
set_option maxHeartbeats 1000000 in
theorem isTrue_any (h : Tb w b m v t) (n : Nd) : Calls Tryz.prog 71 #[.agg #[.pointer (some ⟨b, 0, none⟩)], ndV n] w fun e w' => e = .returned (.bool (Pr.isTrue t n)) ∧ Below w.heap.size w w' := by
  have K := show Hid (∀ w1, Below w.heap.size w w1 → Calls Tryz.prog 72 #[.agg #[.pointer (some ⟨b, 0, none⟩)], ndV n] w1 fun e w' => e = .returned (.bool (Pr.isNot t n)) ∧ Below w1.heap.size w1 w') from fun w1 hb => isNot_any w1 (h.later hb) n
  have HE := show Hid (Pr.isTrue t n = (Pr.isNot t n && n.l == n.r)) from rfl
  generalize Pr.isTrue t n = q at *
  generalize Pr.isNot t n = q2 at *
  obtain ⟨nk, ns, nl, nr⟩ := n
  unfold ndV at *
  simp only at *
  clear h
  have b0 : Below w.heap.size w ((w.alloc (Obj.cells #[.pointer (some ⟨b, 0, none⟩)] 82)).alloc (Obj.cells #[.int .i64 nk, .string ns, .int .i64 nl, .int .i64 nr] 104)) := ((Below.refl _ _).alloc (Nat.le_refl _) _).alloc (by simp) _
  have B0 := show Hid _ from b0
  clear b0
  go_enter Tryz.func71, Tryz.ntmps71
  go_wp2_with fail
  refine (K.out _ B0.out).mono ?_
  rintro e w1 ⟨rfl, hb⟩
  have HB := show Hid (Below w.heap.size w w1) from B0.out.trans (hb.mono B0.out.size)
  have hn : N4 w1 (w.heap.size + 1) ⟨nk, ns, nl, nr⟩ := (hb.block _ (by simp)).trans (heap_alloc2_new _ _ _)
  have c2 := hn.c2
  have c3 := hn.c3
  simp only at c2 c3
  clear hb K hn
  cases q2
  · go_wp2_with fail
    go_ret
    exact ⟨ret_bool (by rw [HE.out]; rfl), HB.out⟩
  · go_wp2_with fail
    go_ret
    exact ⟨ret_bool (by rw [HE.out]; simp), HB.out⟩
set_option maxHeartbeats 1000000 in
theorem level_any (h : Tb w b m v t) (i : Int) : Calls Tryz.prog 69 #[.agg #[.pointer (some ⟨b, 0, none⟩)], .int .i64 i] w fun e w' => e = .returned (.int .i64 (Pr.lvl t i)) ∧ Below w.heap.size w w' := by
  have K := show Hid (∀ w1, Below w.heap.size w w1 → Calls Tryz.prog 70 #[.pointer (some ⟨b, 0, none⟩), .int .i64 i] w1 fun e w' => e = .returned (.tuple #[ndV (nodeOf t i), .bool (Fm.has t i)]) ∧ Below w1.heap.size w1 w') from fun w1 hb => node_any w1 (h.later hb) i
  have KN := show Hid (∀ w1, Below w.heap.size w w1 → Calls Tryz.prog 72 #[.agg #[.pointer (some ⟨b, 0, none⟩)], ndV (nodeOf t i)] w1 fun e w' => e = .returned (.bool (Pr.isNot t (nodeOf t i))) ∧ Below w1.heap.size w1 w') from fun w1 hb => isNot_any w1 (h.later hb) _
  have HE := show Hid (Pr.lvl t i = if (nodeOf t i).k = 3 then 3 else if (nodeOf t i).k = 4 then 2 else if (nodeOf t i).k = 5 ∧ Pr.isNot t (nodeOf t i) = false then 1 else 4) from rfl
  generalize Pr.lvl t i = q at *
  generalize Pr.isNot t (nodeOf t i) = q2 at *
  generalize nodeOf t i = n at *
  generalize Fm.has t i = hh at *
  obtain ⟨nk, ns, nl, nr⟩ := n
  unfold ndV at *
  simp only at *
  clear h
  go_enter Tryz.func69, Tryz.ntmps69
  go_wp2_with fail
  refine (K.out _ (below_alloc _ _)).mono ?_
  rintro e w1 ⟨rfl, hb⟩
  have HB := show Hid (Below w.heap.size w w1 ∧ Box w1 w.heap.size (.pointer (some ⟨b, 0, none⟩)) 82) from ⟨(below_alloc _ _).trans (hb.mono (by simp)), (hb.block _ (by simp)).trans (heap_alloc_new _ _)⟩
  have z0 := HB.out.2.c0
  have zlt := HB.out.2.lt
  clear hb K
  by_cases h3 : nk = 3
  · subst h3
    have hq := HE.out
    simp only [if_true] at hq
    subst hq
    go_wp2_with fail
    go_ret
    exact ⟨rfl, HB.out.1.alloc HB.out.1.size _⟩
  have e3 : (nk == 3) = false := by simp [h3]
  by_cases h4 : nk = 4
  · subst h4
    have hq := HE.out
    simp at hq
    subst hq
    go_wp2_with fail
    go_ret
    exact ⟨rfl, HB.out.1.alloc HB.out.1.size _⟩
  have e4 : (nk == 4) = false := by simp [h4]
  by_cases h5 : nk = 5
  · subst h5
    clear h3 h4
    go_wp2_with fail
    refine (KN.out _ (HB.out.1.alloc HB.out.1.size _)).mono ?_
    rintro e w2 ⟨rfl, hb2⟩
    have HB2 := show Hid (Below w.heap.size w w2) from (HB.out.1.alloc HB.out.1.size _).trans (hb2.mono (by have := HB.out.1.size; simp; omega))
    clear hb2 KN
    cases q2
    · have hq := HE.out
      simp at hq
      subst hq
      go_wp2_with fail
      go_ret
      exact ⟨rfl, HB2.out⟩
    · have hq := HE.out
      simp at hq
      subst hq
      go_wp2_with fail
      go_ret
      exact ⟨rfl, HB2.out⟩
  · have e5 : (nk == 5) = false := by simp [h5]
    have hq := HE.out
    rw [if_neg h3, if_neg h4, if_neg (fun h => h5 h.1)] at hq
    subst hq
    clear h3 h4 h5
    go_wp2_with fail
    go_ret
    exact ⟨rfl, HB.out.1.alloc HB.out.1.size _⟩
set_option maxHeartbeats 1000000 in
theorem signP_any (k : Int) : Calls Tryz.prog 73 #[.int .i64 k] w fun e w' => e = .returned (.string (Pr.sign k)) ∧ w' = w := by
  unfold Pr.sign
  by_cases h3 : k = 3
  · subst h3
    go_enter Tryz.func73, Tryz.ntmps73
    go_wp2_with fail
    go_ret
    exact ⟨rfl, rfl⟩
  · have e3 : (k == 3) = false := by simp [h3]
    rw [if_neg h3]
    by_cases h4 : k = 4
    · subst h4
      go_enter Tryz.func73, Tryz.ntmps73
      go_wp2_with fail
      go_ret
      exact ⟨rfl, rfl⟩
    · have e4 : (k == 4) = false := by simp [h4]
      rw [if_neg h4]
      clear h3 h4
      go_enter Tryz.func73, Tryz.ntmps73
      go_wp2_with fail
      go_ret
      exact ⟨rfl, rfl⟩
end
end Go.Proofs.YtcidldgenogdkaaGreatDoor
