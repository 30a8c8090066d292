/-
  The calls falling, slices.Compare and Less: for every two rows of numbers that a machine can hold. No other condition.
-/
import Derived.Test.YthdcppkohalkmaaGreatMCount
import Derived.Test.YthdcppkohalkmaaGreatMOrd
import Derived.Test.YthdcppkohalkmaaGreatShelfA
import Derived.Lib.OwnBridge
namespace Go.Proofs.YthdcppkohalkmaaGreat
open Go.RowKit Go.Maps Go.Sort Go.Lib
open Fm (Nd)

def cfD (x y : Int) : Int := Lib.compareInt y x
theorem ltD (x y : Int) : ltOf cfD x y = decide (y < x) := by
  unfold ltOf cfD Lib.compareInt
  by_cases h1 : y < x
  · simp [h1]
  · by_cases h2 : x < y <;> simp [h1, h2]
theorem swoD : SWO (ltOf cfD) where
  irrefl x := by rw [ltD]; simp
  trans x y z h1 h2 := by rw [ltD] at *; simp at *; omega
  ntrans x y z h1 h2 := by rw [ltD] at *; simp at *; omega
theorem totD (x y : Int) (h1 : ltOf cfD x y = false) (h2 : ltOf cfD y x = false) : x = y := by rw [ltD] at *; simp at *; omega
theorem geD : (fun x y : Int => !ltOf cfD y x) = fun x y => decide (y ≤ x) := by
  funext x y
  rw [ltD, Bool.eq_iff_iff]
  simp
set_option maxHeartbeats 1000000 in
theorem cmp_falling (x y : Int) (w : World) : Calls Tryz.prog 81 #[.int .i64 x, .int .i64 y] w fun e w' => e = .returned (.int .i64 (cfD x y)) ∧ ∃ q, w' = w.drewN q := by
  have K := show Hid (Calls Tryz.prog 82 #[.int .i64 y, .int .i64 x] w fun e w' => e = .returned (.int .i64 (cfD x y)) ∧ w' = w) from Tryz.cmp_Compare_int y x w
  generalize cfD x y = r at *
  go_enter Tryz.func81, Tryz.ntmps81
  go_wp2_with fail
  refine K.out.mono ?_
  rintro e w' ⟨rfl, rfl⟩
  go_wp2_with fail
  go_ret
  exact ⟨rfl, 0, rfl⟩
theorem grown_sort {α : Type} [Inhabited α] (enc : α → Value) (w : World) (g n : Nat) (d : Array α) (os : Array Obj) : w.grownBy (sortWorld enc w g 0 n d os) (some g) := by
  unfold sortWorld
  refine ⟨rfl, rfl, rfl, by simp, fun k hk hne => ?_⟩
  have hkg : g ≠ k := fun e => hne (by rw [e])
  rw [heap_grow_old _ _ (by simpa using hk)]
  simp [putRow, mapBlock, Sort.ahead, Array.getElem?_modify, hkg]
theorem isL_own {w : World} {B : Nat} {v : Value} {n : Nat} {l : List Int} (h : w.ownsRow B 3 1 v n (l.map (Value.int .i64))) (hn : n ≤ 9223372036854775807) : IsL w v l := by
  have hl : l.length = n := by simpa using h.1
  subst hl
  rcases h.2 with ⟨rfl, h0⟩ | ⟨g, cap, cur, rfl, hg, hh, h1, h2, h3, h4⟩
  · obtain rfl : l = [] := by simpa using h0
    exact ⟨_, _, rfl, hn, fun k hk => by simp at hk⟩
  · refine ⟨_, _, rfl, hn, fun k hk => ⟨g, 0, rfl, ?_⟩⟩
    rw [cell_of_row w g _ cur _ _ hh, Nat.zero_add, ← Array.getElem?_toList]
    have e1 : (cur.toList.take (l.length * 1))[k]? = (l.map (Value.int .i64))[k]? := by rw [h4]
    rw [List.getElem?_take, if_pos (by omega), List.getElem?_map, List.getElem?_eq_getElem hk] at e1
    exact e1
/-- A row of the call's own sorted: the same slice holds what falls. -/
theorem isL_sort {w : World} {g cap n : Nat} {os : Array Obj} {l : List Int} (hH : Holds (Value.int .i64) w g 0 l.toArray) (hg : g < w.heap.size) (hn : l.length ≤ 9223372036854775807) : IsL (sortWorld (Value.int .i64) w g 0 n (Ms.fall l).toArray os) (.slice (some ⟨g, 0, none⟩) l.length cap) (Ms.fall l) := by
  have hs : (Ms.fall l).toArray.size = l.toArray.size := by simp [Ms.fall_len]
  have h := holds_sortWorld (Value.int .i64) w g 0 n l.toArray (Ms.fall l).toArray os hg hH hs
  refine ⟨_, _, by rw [Ms.fall_len], by rw [Ms.fall_len]; exact hn, fun k hk => ⟨g, 0, rfl, ?_⟩⟩
  have := (h k (by simpa using hk)).1
  rw [this]
  simp [getElem!_pos, hk]
/-- What a call that answers a row of numbers leaves. -/
def Rows1 (w : World) (l : List Int) (e : Ending) (w' : World) : Prop := ∃ p c, e = .returned (.slice p l.length c) ∧ IsL w' (.slice p l.length c) l ∧ Below w.heap.size w w'
set_option maxRecDepth 100000 in
set_option maxHeartbeats 2000000 in
theorem falling_any (w : World) (v : Value) (l : List Int) (hv : IsL w v l) (hl : l.length * 8 ≤ 140737488355328) :
    Calls Tryz.prog 55 #[v] w (Rows1 w (Ms.fall l)) := by
  have hv0 := hv
  obtain ⟨p, c, rfl, hlen, hcell⟩ := hv
  have KC := show Hid (Calls Tryz.prog 79 #[.slice p l.length c] w fun e w' => ∃ v', e = .returned v' ∧ w'.ownsRow w.heap.size 3 1 v' l.length (l.map (Value.int .i64)) ∧ Below w.heap.size w w') from by
    cases hp : p with
    | none =>
      have h0 : l = [] := by
        cases l with
        | nil => rfl
        | cons x r =>
          obtain ⟨b, o, e, _⟩ := hcell 0 (by simp)
          rw [hp] at e
          cases e
      subst h0
      exact (Tryz.slices_Clone_int_nil 0 c w).mono fun e w' ⟨he, hw⟩ => ⟨_, he, World.ownsRow_nil _ _ _ _, by rw [hw]; exact Below.refl _ _⟩
    | some a =>
      cases l with
      | nil => exact (Tryz.slices_Clone_int_zero a c w).mono fun e w' ⟨v', he, ho, _, hb⟩ => ⟨v', he, ho, hb⟩
      | cons x r =>
        obtain ⟨b, o, e, _⟩ := hcell 0 (by simp)
        rw [hp] at e
        obtain rfl : a = ⟨b, o, none⟩ := by cases e; rfl
        have := Tryz.slices_Clone_int b o (x :: r).length c (x :: r) w (Nat.le_refl _) hl (fun j hj => by
          obtain ⟨b2, o2, e2, h2⟩ := hcell j hj
          rw [hp] at e2
          cases e2
          rw [h2, List.getD_eq_getElem?_getD, List.getElem?_eq_getElem hj]
          rfl)
        rw [List.take_length] at this
        exact this.mono fun e w' ⟨v', he, ho, _, hb⟩ => ⟨v', he, ho, hb⟩
  have KS := show Hid (∀ w1 v1, w1.ownsRow w.heap.size 3 1 v1 l.length (l.map (Value.int .i64)) → Below w.heap.size w w1 → ∃ p1 c1, v1 = .slice p1 l.length c1 ∧ Calls Tryz.prog 80 #[.slice p1 l.length c1, .func (.func 81) #[] #[]] w1 fun e w' => e = .returned (.tuple #[]) ∧ IsL w' (.slice p1 l.length c1) (Ms.fall l) ∧ Below w.heap.size w w') from fun w1 v1 ho hb => by
    by_cases h0 : l = []
    · subst h0
      have hf : Ms.fall [] = [] := by simp [Ms.fall]
      rw [hf]
      rcases ho.2 with ⟨rfl, _⟩ | ⟨g, cap, cur, rfl, _⟩
      · exact ⟨_, _, rfl, (Tryz.slices_SortFunc_none (α := Int) none 0 _ w1).mono fun e w' ⟨he, hw⟩ => ⟨he, ⟨_, _, rfl, by simp, fun k hk => by simp at hk⟩, by rw [hw]; exact hb⟩⟩
      · exact ⟨_, _, rfl, (Tryz.slices_SortFunc_none (α := Int) _ cap _ w1).mono fun e w' ⟨he, hw⟩ => ⟨he, ⟨_, _, rfl, by simp, fun k hk => by simp at hk⟩, by rw [hw]; exact hb⟩⟩
    · have hne : v1 ≠ .slice none 0 0 := fun e => by
        rcases ho.2 with ⟨_, h1⟩ | ⟨g, cap, cur, h1, _⟩
        · exact h0 (by simpa using h1)
        · rw [e] at h1; cases h1
      obtain ⟨g, cap, rfl, hg, hlt, _, _, _, hH⟩ := holds_of_ownsRow ho hne
      refine ⟨_, _, rfl, ?_⟩
      have eg : ∀ args w, (callFunc 81 args).run Tryz.prog w = .ok (.enter 81 args) w := fun _ _ => Tryz.call81 _ _
      have hcr : CmpReads Tryz.prog 81 #[] (Value.int .i64) cfD g 0 l.toArray.size w1 := fun _ _ _ _ x y => cmp_falling x y _
      have h := Tryz.slices_SortFunc_total (Value.int .i64) (fun _ => rfl) cfD swoD 81 #[] g 0 cap l.toArray w1 eg hcr.lays hH hlt (by simp; omega) totD
      rw [geD, List.size_toArray] at h
      refine h.mono fun e w' ⟨he, n, os, hw⟩ => ⟨he, ?_, ?_⟩
      · rw [hw]; exact isL_sort hH hlt hlen
      · rw [hw]; exact hb.grown (grown_sort _ _ _ _ _ _) hb.size (fun j e => by simp at e; omega)
  clear hv0 hcell
  go_enter Tryz.func55, Tryz.ntmps55
  go_wp2_with fail
  refine KC.out.mono ?_
  rintro e w1 ⟨v1, rfl, ho1, hb1⟩
  obtain ⟨p1, c1, rfl, h1⟩ := KS.out w1 v1 ho1 hb1
  have K1 := show Hid (Calls Tryz.prog 80 #[.slice p1 l.length c1, .func (.func 81) #[] #[]] w1 fun e w' => e = .returned (.tuple #[]) ∧ IsL w' (.slice p1 l.length c1) (Ms.fall l) ∧ Below w.heap.size w w') from h1
  clear h1 KS KC ho1 hb1
  go_wp2_with fail
  refine K1.out.mono ?_
  rintro e w2 ⟨rfl, hI, hb2⟩
  have HE := show Hid (IsL w2 (.slice p1 l.length c1) (Ms.fall l) ∧ Below w.heap.size w w2) from ⟨hI, hb2⟩
  clear hI hb2 K1
  go_wp2_with fail
  go_ret
  refine ⟨p1, c1, ?_, ?_, HE.out.2⟩
  · rw [Ms.fall_len]; rfl
  · rw [Ms.fall_len]; exact HE.out.1
theorem cmpI_vals (x y : Int) : Lib.compareInt x y = if x < y then -1 else if y < x then 1 else 0 := rfl
theorem lx_drop {a b : List Int} : ∀ k, (∀ j, j < k → a[j]? = b[j]?) → k ≤ a.length → k ≤ b.length → Ms.lx a b = Ms.lx (a.drop k) (b.drop k)
  | 0, _, _, _ => rfl
  | k + 1, h, ha, hb => by
    rw [lx_drop k (fun j hj => h j (by omega)) (by omega) (by omega)]
    have e := h k (by omega)
    rw [List.getElem?_eq_getElem (by omega), List.getElem?_eq_getElem (by omega)] at e
    rw [List.drop_eq_getElem_cons (by omega : k < a.length), List.drop_eq_getElem_cons (by omega : k < b.length), Option.some.inj e]
    simp [Ms.lx]
set_option maxRecDepth 100000 in
set_option maxHeartbeats 2000000 in
theorem compare_any (w : World) (va vb : Value) (a b : List Int) (ha : IsL w va a) (hb : IsL w vb b) :
    Calls Tryz.prog 56 #[va, vb] w fun e w' => e = .returned (.int .i64 (Ms.lx a b)) ∧ w' = w := by
  obtain ⟨pa, ca, rfl, hla, hca⟩ := ha
  obtain ⟨pb, cb, rfl, hlb, hcb⟩ := hb
  have HA := show Hid (∀ k (hk : k < a.length), ∃ b o, pa = some ⟨b, o, none⟩ ∧ w.cell? ⟨b, o + k, none⟩ = some (.int .i64 a[k])) from hca
  have HB := show Hid (∀ k (hk : k < b.length), ∃ g o, pb = some ⟨g, o, none⟩ ∧ w.cell? ⟨g, o + k, none⟩ = some (.int .i64 b[k])) from hcb
  have KC := show Hid (∀ (x y : Int) (w : World), Calls Tryz.prog 82 #[.int .i64 x, .int .i64 y] w fun e w' => e = .returned (.int .i64 (Lib.compareInt x y)) ∧ w' = w) from fun x y w => Tryz.cmp_Compare_int x y w
  have HD := show Hid (∀ k, (∀ j, j < k → a[j]? = b[j]?) → k ≤ a.length → k ≤ b.length → Ms.lx a b = Ms.lx (a.drop k) (b.drop k)) from fun k => lx_drop k
  generalize Ms.lx a b = ans at *
  clear hca hcb
  go_enter Tryz.func56, Tryz.ntmps56
  go_wp2_with fail
  go_loopw [11] (fun i wr => ∃ k : Nat, k ≤ a.length ∧ k ≤ b.length ∧ i = .int .i64 (k : Int) ∧ wr = w ∧ Hid (∀ j, j < k → a[j]? = b[j]?)) (fun i _ => a.length - (intOf i).toNat)
  case atStart => exact ⟨0, by omega, by omega, rfl, rfl, fun j h => by omega⟩
  case round =>
    obtain ⟨k, hka, hkb, rfl, rfl, HE⟩ := hrel
    by_cases hlt : k < a.length
    · obtain ⟨ba, oa, rfl, hca⟩ := HA.out k hlt
      have hki : (k : Int) < (a.length : Int) := by omega
      by_cases hltb : k < b.length
      · obtain ⟨bb, ob, rfl, hcb⟩ := HB.out k hltb
        have hkj : ¬ (b.length : Int) ≤ (k : Int) := by omega
        have hkj2 : (k : Int) < (b.length : Int) := by omega
        have HV := show Hid (ans = if a[k] < b[k] then -1 else if b[k] < a[k] then 1 else Ms.lx (a.drop (k + 1)) (b.drop (k + 1))) from by
          show ans = _
          rw [HD.out k HE.out hka hkb, List.drop_eq_getElem_cons hlt, List.drop_eq_getElem_cons hltb]
          rfl
        have HE2 := show Hid (a[k] = b[k] → ∀ j, j < k + 1 → a[j]? = b[j]?) from fun h j hj => by
          by_cases e : j = k
          · subst e; rw [List.getElem?_eq_getElem hlt, List.getElem?_eq_getElem hltb, h]
          · exact HE.out j (by omega)
        clear HD HA HB
        generalize a[k] = x at *
        generalize b[k] = y at *
        have KX := show Hid (∀ w : World, Calls Tryz.prog 82 #[.int .i64 x, .int .i64 y] w fun e w' => e = .returned (.int .i64 (Lib.compareInt x y)) ∧ w' = w) from KC.out x y
        clear KC
        by_cases h1 : x < y
        · have hc : Lib.compareInt x y = -1 := by rw [cmpI_vals, if_pos h1]
          rw [hc] at KX
          have hv := HV.out
          rw [if_pos h1] at hv
          subst hv
          go_wp2_with fail
          refine (KX.out _).mono ?_
          rintro e w' ⟨rfl, rfl⟩
          go_wp2_with fail
          go_ret
          exact ⟨rfl, rfl⟩
        · by_cases h2 : y < x
          · have hc : Lib.compareInt x y = 1 := by rw [cmpI_vals, if_neg h1, if_pos h2]
            rw [hc] at KX
            have hv := HV.out
            rw [if_neg h1, if_pos h2] at hv
            subst hv
            go_wp2_with fail
            refine (KX.out _).mono ?_
            rintro e w' ⟨rfl, rfl⟩
            go_wp2_with fail
            go_ret
            exact ⟨rfl, rfl⟩
          · have hc : Lib.compareInt x y = 0 := by rw [cmpI_vals, if_neg h1, if_neg h2]
            rw [hc] at KX
            have HE3 := show Hid _ from HE2.out (by omega)
            clear HE2 HV hc
            go_wp2_with fail
            refine (KX.out _).mono ?_
            rintro e w' ⟨rfl, hw'⟩
            subst w'
            go_wp2_with fail
            go_roundw
            case rel => exact ⟨k + 1, by omega, by omega, by go_num, (by first | rfl | trivial), HE3⟩
            case measure => first | (simp [intOf]; done) | (simp [intOf]; omega)
      · have hv : ans = 1 := by
          rw [HD.out k HE.out hka hkb, List.drop_eq_getElem_cons hlt, List.drop_eq_nil_of_le (by omega : b.length ≤ k)]
          rfl
        subst hv
        have hkj : (b.length : Int) ≤ (k : Int) := by omega
        clear HD HA HB HE KC
        go_wp2_with fail
        go_ret
        exact ⟨rfl, rfl⟩
    · have hke : k = a.length := by omega
      subst hke
      by_cases hltb : a.length < b.length
      · have hv : ans = -1 := by
          rw [HD.out _ HE.out hka hkb, List.drop_eq_nil_of_le (Nat.le_refl _), List.drop_eq_getElem_cons hltb]
          rfl
        subst hv
        have hkj : (a.length : Int) < (b.length : Int) := by omega
        clear HD HA HB HE KC
        go_wp2_with fail
        go_ret
        exact ⟨rfl, rfl⟩
      · have hv : ans = 0 := by
          rw [HD.out _ HE.out hka hkb, List.drop_eq_nil_of_le (Nat.le_refl _), List.drop_eq_nil_of_le (by omega)]
          rfl
        subst hv
        have hkj : ¬ (a.length : Int) < (b.length : Int) := by omega
        clear HD HA HB HE KC
        go_wp2_with fail
        go_ret
        exact ⟨rfl, rfl⟩
set_option maxHeartbeats 1000000 in
theorem less_any (w : World) (va vb : Value) (a b : List Int) (ha : IsL w va a) (hb : IsL w vb b) (hla : a.length * 8 ≤ 140737488355328) (hlb : b.length * 8 ≤ 140737488355328) :
    Calls Tryz.prog 29 #[va, vb] w fun e w' => e = .returned (.bool (Ms.less a b)) ∧ Below w.heap.size w w' := by
  have K1 := show Hid (Calls Tryz.prog 55 #[va] w (Rows1 w (Ms.fall a))) from falling_any w va a ha hla
  have K2 := show Hid (∀ w1, Below w.heap.size w w1 → Calls Tryz.prog 55 #[vb] w1 (Rows1 w1 (Ms.fall b))) from fun w1 h => falling_any w1 vb b (hb.later h) hlb
  have K3 := show Hid (∀ w1 v1 v2, IsL w1 v1 (Ms.fall a) → IsL w1 v2 (Ms.fall b) → Calls Tryz.prog 56 #[v1, v2] w1 fun e w' => e = .returned (.int .i64 (Ms.lx (Ms.fall a) (Ms.fall b))) ∧ w' = w1) from fun w1 v1 v2 h1 h2 => compare_any w1 v1 v2 _ _ h1 h2
  have HL := show Hid (Ms.less a b = decide (Ms.lx (Ms.fall a) (Ms.fall b) < 0)) from rfl
  obtain ⟨pa, ca, rfl, _⟩ := ha
  obtain ⟨pb, cb, rfl, _⟩ := hb
  generalize Ms.less a b = ans at *
  go_enter Tryz.func29, Tryz.ntmps29
  go_wp2_with fail
  refine K1.out.mono ?_
  rintro e w1 ⟨p1, c1, rfl, hI1, hb1⟩
  have K2' := show Hid (Calls Tryz.prog 55 #[.slice pb b.length cb] w1 (Rows1 w1 (Ms.fall b))) from K2.out w1 hb1
  have H1 := show Hid (IsL w1 (.slice p1 (Ms.fall a).length c1) (Ms.fall a) ∧ Below w.heap.size w w1) from ⟨hI1, hb1⟩
  clear K1 K2 hI1 hb1
  go_wp2_with fail
  refine K2'.out.mono ?_
  rintro e w2 ⟨p2, c2, rfl, hI2, hb2⟩
  have K3' := show Hid _ from K3.out w2 _ _ (H1.out.1.later hb2) hI2
  have H2 := show Hid (Below w.heap.size w w2) from H1.out.2.trans (hb2.mono H1.out.2.size)
  clear K3 K2' H1 hI2 hb2
  go_wp2_with fail
  refine Calls.mono K3'.out ?_
  rintro e w3 ⟨rfl, hw3⟩
  subst w3
  clear K3'
  generalize Ms.lx (Ms.fall a) (Ms.fall b) = r at *
  go_wp2_with fail
  go_ret
  exact ⟨by rw [HL.out]; rfl, H2.out⟩
end Go.Proofs.YthdcppkohalkmaaGreat
