/-
  The law MeasureRows, as the program walks it: true for every row of formulas and every three rows of numbers that a machine can hold. No other condition.
-/
import Derived.Test.YthdcppkohalkmaaGreatRWo
import Derived.Test.YthdcppkohalkmaaGreatMTells
namespace Go.Proofs.YthdcppkohalkmaaGreat
open Go.RowKit Go.Maps Go.Sort Go.Lib
open Fm (Nd)

theorem isL_nil (w : World) : IsL w (.slice none 0 0) [] := ⟨_, _, rfl, by simp, fun k hk => by simp at hk⟩
/-- What Weights answers. -/
def wtsR (t : List Nd) (ids : List Int) : List Int × Int := if ids.all (Fm.has t) then (Ms.fall (wts t ids), 0) else ([], 31)
theorem copy_own (W : World) : (W.alloc (Obj.cells #[] 3)).ownsRow W.heap.size 3 1 (.slice (some ⟨W.heap.size, 0, none⟩) 0 0) 0 [] := ⟨rfl, .inr ⟨W.heap.size, 0, #[], rfl, Nat.le_refl _, heap_alloc_new _ _, Nat.le_refl _, Nat.zero_le _, rfl, rfl⟩⟩
theorem copy_bel {W w2 : World} (hg : (W.alloc (Obj.cells #[] 3)).grownBy w2 (some W.heap.size)) : Below W.heap.size W w2 := (below_alloc _ _).grown hg (by simp) (fun k hk => by cases hk; exact Nat.le_refl _)
theorem copy_more {w W w2 : World} (hb : Below w.heap.size w W) (hg : (W.alloc (Obj.cells #[] 3)).grownBy w2 (some W.heap.size)) : (w2.alloc (Obj.cells #[] 3)).ownsRow w2.heap.size 3 1 (.slice (some ⟨w2.heap.size, 0, none⟩) 0 0) 0 [] ∧ Below w.heap.size w (w2.alloc (Obj.cells #[] 3)) := by
  have h := hb.trans ((copy_bel hg).mono hb.size)
  exact ⟨copy_own w2, h.alloc h.size _⟩
set_option maxRecDepth 100000 in
set_option maxHeartbeats 4000000 in
theorem measureRows_any (w : World) (rv : Value) (rs : List Nd) (hR : IsR w rv rs) (hg : ∀ n ∈ rs, Fm.good n) (hl : rs.length * 40 ≤ 140737488351232) (hv : rv = .slice none 0 0 ∨ ∃ a n c, rv = .slice (some a) n c)
    (iv : Value) (ids : List Int) (hi : IsL w iv ids ∧ ∀ m c, iv = .slice none m c → c = 0) (hli : ids.length * 8 ≤ 140737488351232) (av : Value) (a : List Int) (ha : IsL w av a ∧ ∀ m c, av = .slice none m c → c = 0) (hla : a.length * 8 ≤ 140737488351232) (bv : Value) (b : List Int) (hb : IsL w bv b ∧ ∀ m c, bv = .slice none m c → c = 0) (hlb : b.length * 8 ≤ 140737488351232) :
    Calls Tryz.prog 5 #[rv, iv, av, bv] w fun e w' => e = .returned (.bool true) ∧ Below w.heap.size w w' := by
  have KT := show Hid (Calls Tryz.prog 7 #[rv] w fun e w' => ∃ B M v C u, e = .returned (.tuple #[.pointer (some ⟨B, 0, none⟩), .pointer (some ⟨C, 0, none⟩)]) ∧ Pair w w' B M v C u (tabOf rs) (tabOf rs)) from tables_any w rv rs hR hg hl hv
  have KH := show Hid (∀ w1 : World, Calls Tryz.prog 14 #[] w1 fun e w' => e = .returned (.bool true) ∧ Below w1.heap.size w1 w') from heads_any
  have KN := show Hid (∀ (w : World) (x : Int), Calls Tryz.prog 13 #[.int .i64 x] w fun e w' => e = .returned (.int .i64 x) ∧ w' = w) from num_any
  generalize tabOf rs = t at *
  have hsl : ∃ p n cc, rv = .slice p n cc := by
    rcases hv with rfl | ⟨a, n, cc, rfl⟩
    · exact ⟨_, _, _, rfl⟩
    · exact ⟨_, _, _, rfl⟩
  obtain ⟨p, n, cc, rfl⟩ := hsl
  clear hR hg hl hv
  have HI := show Hid (IsL w iv ids) from hi.1
  have HA := show Hid (IsL w av a) from ha.1
  have HB := show Hid (IsL w bv b) from hb.1
  obtain ⟨⟨pi, ci, rfl, hki, hci⟩, hni⟩ := hi
  obtain ⟨⟨pa, ca, rfl, hka, hca⟩, hna⟩ := ha
  obtain ⟨⟨pb, cb, rfl, hkb, hcb⟩, hnb⟩ := hb
  have hpi : pi = none → ci = 0 := fun e => hni ids.length ci (by rw [e])
  have hpa : pa = none → ca = 0 := fun e => hna a.length ca (by rw [e])
  have hpb : pb = none → cb = 0 := fun e => hnb b.length cb (by rw [e])
  have HCI := show Hid (∀ w1, Below w.heap.size w w1 → ∀ k (hk : k < ids.length), ∃ g o, pi = some ⟨g, o, none⟩ ∧ w1.cell? ⟨g, o + k, none⟩ = some (.int .i64 ids[k])) from fun w1 h k hk => by
    obtain ⟨g, o, hp, hc⟩ := hci k hk
    exact ⟨g, o, hp, (Kp.of_below (S := fun _ => False) h).cell hc (fun h => h)⟩
  have HCA := show Hid (∀ w1, Below w.heap.size w w1 → ∀ k (hk : k < a.length), ∃ g o, pa = some ⟨g, o, none⟩ ∧ w1.cell? ⟨g, o + k, none⟩ = some (.int .i64 a[k])) from fun w1 h k hk => by
    obtain ⟨g, o, hp, hc⟩ := hca k hk
    exact ⟨g, o, hp, (Kp.of_below (S := fun _ => False) h).cell hc (fun h => h)⟩
  have HCB := show Hid (∀ w1, Below w.heap.size w w1 → ∀ k (hk : k < b.length), ∃ g o, pb = some ⟨g, o, none⟩ ∧ w1.cell? ⟨g, o + k, none⟩ = some (.int .i64 b[k])) from fun w1 h k hk => by
    obtain ⟨g, o, hp, hc⟩ := hcb k hk
    exact ⟨g, o, hp, (Kp.of_below (S := fun _ => False) h).cell hc (fun h => h)⟩
  clear hci hca hcb hni hna hnb
  go_enter Tryz.func5, Tryz.ntmps5
  go_wp2_with fail
  refine KT.out.mono ?_
  rintro e w1 ⟨B, M, v, C, u, rfl, hP⟩
  have HP := show Hid (∀ w', Below w1.heap.size w1 w' → Pair w w' B M v C u t t) from fun w' h => hP.later h
  have HO1 := show Hid ((w1.alloc (Obj.cells #[] 3)).ownsRow w1.heap.size 3 1 (.slice (some ⟨w1.heap.size, 0, none⟩) 0 0) 0 [] ∧ Below w.heap.size w (w1.alloc (Obj.cells #[] 3))) from ⟨copy_own w1, hP.bel.alloc hP.bel.size _⟩
  clear KT hP
  go_wp2_with (at_builtin; refine wpList_copy _ (.tmp 24) (.tmp 25) rfl rfl w1.heap.size w1.heap.size rfl HO1.out.1 (by simp) pi ids ci rfl hpi (by omega) (HCI.out _ HO1.out.2) ?_; intro p2 c2 w2 ho2 hg2)
  have H2 := show Hid (Below w1.heap.size w1 w2 ∧ IsL w2 (.slice p2 ids.length c2) ids) from ⟨copy_bel hg2, isL_own ho2 (by omega)⟩
  have K3 := show Hid (Calls Tryz.prog 27 #[.pointer (some ⟨B, 0, none⟩), .slice p2 ids.length c2] w2 fun e w' => ∃ px cx, e = .returned (.tuple #[.slice px (wtsR t ids).1.length cx, .int .i64 (wtsR t ids).2]) ∧ IsL w' (.slice px (wtsR t ids).1.length cx) (wtsR t ids).1 ∧ Below w2.heap.size w2 w') from by
    cases hq : ids.all (Fm.has t) with
    | true =>
      have e : wtsR t ids = (Ms.fall (wts t ids), 0) := by unfold wtsR; rw [hq]; rfl
      rw [e]
      exact weightsM_in w2 (HP.out w2 H2.out.1).tb _ ids H2.out.2 hq (by omega)
    | false =>
      have e : wtsR t ids = ([], 31) := by unfold wtsR; rw [hq]; rfl
      rw [e]
      exact (weightsM_out w2 (HP.out w2 H2.out.1).tb _ ids H2.out.2 hq).mono fun e w' ⟨he, hb⟩ => ⟨none, 0, he, isL_nil _, hb⟩
  have KR := show Hid (∀ w3, Below w1.heap.size w1 w3 → Calls Tryz.prog 28 #[.pointer (some ⟨C, 0, none⟩), .slice pi ids.length ci] w3 fun e w' => ∃ py cy, e = .returned (.tuple #[.slice py (wtsR t ids).1.length cy, .int .i64 (wtsR t ids).2]) ∧ IsL w' (.slice py (wtsR t ids).1.length cy) (wtsR t ids).1 ∧ Below w3.heap.size w3 w') from fun w3 hb3 => (rweightsR_any w3 (HP.out w3 hb3).tr _ ids (HI.out.later (HP.out w3 hb3).bel) hli).mono fun e w' ⟨hb, h⟩ => by
    rcases h with ⟨hq, py, cy, he, hy⟩ | ⟨hq, he⟩
    · have e2 : wtsR t ids = (Ms.fall (wts t ids), 0) := by unfold wtsR; rw [hq]; rfl
      rw [e2]
      exact ⟨py, cy, he, hy, hb⟩
    · have e2 : wtsR t ids = ([], 31) := by unfold wtsR; rw [hq]; rfl
      rw [e2]
      exact ⟨none, 0, he, isL_nil _, hb⟩
  clear ho2 hg2 HO1
  generalize wtsR t ids = r at *
  obtain ⟨xl, er⟩ := r
  simp only at K3 KR
  go_wp2_with fail
  refine K3.out.mono ?_
  rintro e w3 ⟨px, cx, rfl, hx3, hb3⟩
  have H3 := show Hid (Below w1.heap.size w1 w3 ∧ IsL w3 (.slice p2 ids.length c2) ids ∧ IsL w3 (.slice px xl.length cx) xl) from ⟨H2.out.1.trans (hb3.mono H2.out.1.size), H2.out.2.later hb3, hx3⟩
  have K4 := show Hid _ from KR.out w3 H3.out.1
  clear K3 KR hx3 hb3 H2
  go_wp2_with fail
  refine Calls.mono K4.out ?_
  rintro e w4 ⟨py, cy, rfl, hy4, hb4⟩
  have H4 := show Hid (Below w1.heap.size w1 w4 ∧ IsL w4 (.slice p2 ids.length c2) ids ∧ IsL w4 (.slice px xl.length cx) xl ∧ IsL w4 (.slice py xl.length cy) xl) from ⟨H3.out.1.trans (hb4.mono H3.out.1.size), H3.out.2.1.later hb4, H3.out.2.2.later hb4, hy4⟩
  have HO4 := show Hid ((w4.alloc (Obj.cells #[] 3)).ownsRow w4.heap.size 3 1 (.slice (some ⟨w4.heap.size, 0, none⟩) 0 0) 0 [] ∧ Below w.heap.size w (w4.alloc (Obj.cells #[] 3))) from ⟨copy_own w4, (HP.out w4 H4.out.1).bel.alloc (HP.out w4 H4.out.1).bel.size _⟩
  clear K4 hy4 hb4 H3
  go_wp2_with (first
    | (at_builtin; refine wpList_copy _ (.tmp 39) (.tmp 40) rfl rfl w4.heap.size w4.heap.size rfl HO4.out.1 (by simp) pa a ca rfl hpa (by omega) (HCA.out _ HO4.out.2) ?_; intro p5 c5 w5 ho5 hg5; have HO5 := show Hid ((w5.alloc (Obj.cells #[] 3)).ownsRow w5.heap.size 3 1 (.slice (some ⟨w5.heap.size, 0, none⟩) 0 0) 0 [] ∧ Below w.heap.size w (w5.alloc (Obj.cells #[] 3))) from copy_more (HP.out w4 H4.out.1).bel hg5)
    | (at_builtin; refine wpList_copy _ (.tmp 42) (.tmp 43) rfl rfl w5.heap.size w5.heap.size rfl HO5.out.1 (by simp) pb b cb rfl hpb (by omega) (HCB.out _ HO5.out.2) ?_; intro p6 c6 w6 ho6 hg6))
  have hb5 := copy_bel hg5
  have H5 := show Hid (Below w1.heap.size w1 w5 ∧ IsL w5 (.slice p2 ids.length c2) ids ∧ IsL w5 (.slice px xl.length cx) xl ∧ IsL w5 (.slice py xl.length cy) xl ∧ IsL w5 (.slice p5 a.length c5) a) from ⟨H4.out.1.trans (hb5.mono H4.out.1.size), H4.out.2.1.later hb5, H4.out.2.2.1.later hb5, H4.out.2.2.2.later hb5, isL_own ho5 (by omega)⟩
  clear ho5 hg5 hb5 H4 HO4
  have hb6 := copy_bel hg6
  have H6 := show Hid (Below w1.heap.size w1 w6 ∧ IsL w6 (.slice p2 ids.length c2) ids ∧ IsL w6 (.slice px xl.length cx) xl ∧ IsL w6 (.slice py xl.length cy) xl ∧ IsL w6 (.slice p5 a.length c5) a ∧ IsL w6 (.slice p6 b.length c6) b) from ⟨H5.out.1.trans (hb6.mono H5.out.1.size), H5.out.2.1.later hb6, H5.out.2.2.1.later hb6, H5.out.2.2.2.1.later hb6, H5.out.2.2.2.2.later hb6, isL_own ho6 (by omega)⟩
  have K7 := show Hid (Calls Tryz.prog 29 #[.slice p5 a.length c5, .slice p6 b.length c6] w6 fun e w' => e = .returned (.bool (Ms.less a b)) ∧ Below w6.heap.size w6 w') from less_any w6 _ _ a b H6.out.2.2.2.2.1 H6.out.2.2.2.2.2 (by omega) (by omega)
  have KLR := show Hid (∀ w', Below w.heap.size w w' → Calls Tryz.prog 31 #[.slice pa a.length ca, .slice pb b.length cb] w' fun e w'' => e = .returned (.bool (Ms.less a b)) ∧ Below w'.heap.size w' w'') from fun w' h => rless_any w' _ _ a b (HA.out.later h) (HB.out.later h) hla hlb
  clear ho6 hg6 hb6 H5 HO5 HCI HCA HCB
  generalize Ms.less a b = q at *
  go_wp2_with fail
  refine K7.out.mono ?_
  rintro e w7 ⟨rfl, hb7⟩
  have H7 := show Hid (Below w1.heap.size w1 w7 ∧ IsL w7 (.slice p2 ids.length c2) ids ∧ IsL w7 (.slice px xl.length cx) xl ∧ IsL w7 (.slice py xl.length cy) xl ∧ IsL w7 (.slice p5 a.length c5) a ∧ IsL w7 (.slice p6 b.length c6) b) from ⟨H6.out.1.trans (hb7.mono H6.out.1.size), H6.out.2.1.later hb7, H6.out.2.2.1.later hb7, H6.out.2.2.2.1.later hb7, H6.out.2.2.2.2.1.later hb7, H6.out.2.2.2.2.2.later hb7⟩
  have K8 := show Hid (Calls Tryz.prog 30 #[.slice px xl.length cx, .slice py xl.length cy] w7 fun e w' => e = .returned (.bool true) ∧ Below w7.heap.size w7 w') from rints_eq w7 _ _ xl H7.out.2.2.1 H7.out.2.2.2.1
  clear K7 hb7 H6
  go_wp2_with fail
  refine K8.out.mono ?_
  rintro e w8 ⟨rfl, hb8⟩
  have H8 := show Hid (Below w1.heap.size w1 w8 ∧ IsL w8 (.slice p2 ids.length c2) ids ∧ IsL w8 (.slice p5 a.length c5) a ∧ IsL w8 (.slice p6 b.length c6) b) from ⟨H7.out.1.trans (hb8.mono H7.out.1.size), H7.out.2.1.later hb8, H7.out.2.2.2.2.1.later hb8, H7.out.2.2.2.2.2.later hb8⟩
  have K9 := show Hid (Calls Tryz.prog 30 #[.slice p2 ids.length c2, .slice pi ids.length ci] w8 fun e w' => e = .returned (.bool true) ∧ Below w8.heap.size w8 w') from rints_eq w8 _ _ ids H8.out.2.1 (HI.out.later (HP.out w8 H8.out.1).bel)
  clear K8 hb8 H7
  go_wp2_with (go_at_call 13; refine (KN.out _ _).mono ?_; rintro e w' ⟨rfl, rfl⟩)
  refine K9.out.mono ?_
  rintro e w9 ⟨rfl, hb9⟩
  have H9 := show Hid (Below w1.heap.size w1 w9 ∧ IsL w9 (.slice p5 a.length c5) a ∧ IsL w9 (.slice p6 b.length c6) b) from ⟨H8.out.1.trans (hb9.mono H8.out.1.size), H8.out.2.2.1.later hb9, H8.out.2.2.2.later hb9⟩
  have K10 := show Hid _ from KLR.out w9 (HP.out w9 H9.out.1).bel
  clear K9 hb9 H8 KLR
  go_wp2_with fail
  refine Calls.mono K10.out ?_
  rintro e w10 ⟨rfl, hb10⟩
  have H10 := show Hid (Below w1.heap.size w1 w10 ∧ IsL w10 (.slice p5 a.length c5) a ∧ IsL w10 (.slice p6 b.length c6) b) from ⟨H9.out.1.trans (hb10.mono H9.out.1.size), H9.out.2.1.later hb10, H9.out.2.2.later hb10⟩
  have K11 := show Hid (Calls Tryz.prog 30 #[.slice p5 a.length c5, .slice pa a.length ca] w10 fun e w' => e = .returned (.bool true) ∧ Below w10.heap.size w10 w') from rints_eq w10 _ _ a H10.out.2.1 (HA.out.later (HP.out w10 H10.out.1).bel)
  clear K10 hb10 H9
  go_wp2_with fail
  refine K11.out.mono ?_
  rintro e w11 ⟨rfl, hb11⟩
  have H11 := show Hid (Below w1.heap.size w1 w11 ∧ IsL w11 (.slice p6 b.length c6) b) from ⟨H10.out.1.trans (hb11.mono H10.out.1.size), H10.out.2.2.later hb11⟩
  have K12 := show Hid (Calls Tryz.prog 30 #[.slice p6 b.length c6, .slice pb b.length cb] w11 fun e w' => e = .returned (.bool true) ∧ Below w11.heap.size w11 w') from rints_eq w11 _ _ b H11.out.2 (HB.out.later (HP.out w11 H11.out.1).bel)
  clear K11 hb11 H10
  go_wp2_with fail
  refine K12.out.mono ?_
  rintro e w12 ⟨rfl, hb12⟩
  have H12 := show Hid (Below w.heap.size w w12) from (HP.out w12 (H11.out.1.trans (hb12.mono H11.out.1.size))).bel
  clear K12 hb12 H11
  go_wp2_with fail
  refine (KH.out _).mono ?_
  rintro e w13 ⟨rfl, hb13⟩
  have H13 := show Hid (Below w.heap.size w w13) from H12.out.trans (hb13.mono H12.out.size)
  clear hb13 H12
  go_wp2_with fail
  go_ret
  exact ⟨rfl, H13.out⟩
end Go.Proofs.YthdcppkohalkmaaGreat
