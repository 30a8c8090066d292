/-
  The document's call Weights of some formulas, and the call Ints: for every table of the document's that calls made, and every row of numbers. No other condition.
-/
import Derived.Test.YthdcppkohalkmaaGreatRWts
import Derived.Test.YthdcppkohalkmaaGreatMWts
import Derived.Test.YthdcppkohalkmaaGreatMLess
import Derived.Test.YthdcppkohalkmaaGreatMCopy
namespace Go.Proofs.YthdcppkohalkmaaGreat
open Go.RowKit Go.Maps
open Fm (Nd)

section
variable {W W' : World} {B n g cap : Nat} {xs : List Int}
theorem ownI_cell (h : W.ownsRow B 3 1 (.slice (some ⟨g, 0, none⟩) n cap) n (xs.map (Value.int .i64))) {j : Nat} (hj : j < n) (hx : j < xs.length) : W.cell? ⟨g, j, none⟩ = some (.int .i64 xs[j]) := by
  rcases h.2 with ⟨hn, _⟩ | ⟨g2, cap2, cur, hn, hg, hh, h1, h2, h3, h4⟩
  · cases hn
  · obtain ⟨e1, -, -⟩ := Value.slice.inj hn
    cases e1
    rw [cell_of_row W g j cur _ _ hh, ← Array.getElem?_toList]
    have e : (cur.toList.take (n * 1))[j]? = (xs.map (Value.int .i64))[j]? := by rw [h4]
    rw [List.getElem?_take, if_pos (by omega)] at e
    rw [e]
    simp [hx]
theorem ownI_fr (h : W.ownsRow B 3 1 (.slice (some ⟨g, 0, none⟩) n cap) n (xs.map (Value.int .i64))) (j : Nat) : W.frozen? ⟨g, j, none⟩ = false := by
  rcases h.2 with ⟨hn, _⟩ | ⟨g2, cap2, cur, hn, hg, hh, _⟩
  · cases hn
  · obtain ⟨e1, -, -⟩ := Value.slice.inj hn
    cases e1
    exact frozen_of_row W g j _ _ hh
theorem ownI_set (h : W.ownsRow B 3 1 (.slice (some ⟨g, 0, none⟩) n cap) n (xs.map (Value.int .i64))) (j : Nat) (y : Int) : (W.setCell ⟨g, j, none⟩ (.int .i64 y)).ownsRow B 3 1 (.slice (some ⟨g, 0, none⟩) n cap) n ((xs.set j y).map (Value.int .i64)) := by
  rcases h with ⟨hl, ⟨hn, _⟩ | ⟨g2, cap2, cur, hn, hg, hh, h1, h2, h3, h4⟩⟩
  · cases hn
  · obtain ⟨e1, -, e3⟩ := Value.slice.inj hn
    cases e1
    subst e3
    refine ⟨by simpa using hl, Or.inr ⟨g, cap, cur.setIfInBounds j (.int .i64 y), rfl, hg, heap_setCell_same W g j _ _ _ hh, h1, h2, by simpa using h3, ?_⟩⟩
    rw [Array.toList_setIfInBounds, List.take_set, h4, List.map_set]
theorem ownI_ge (h : W.ownsRow B 3 1 (.slice (some ⟨g, 0, none⟩) n cap) n (xs.map (Value.int .i64))) : B ≤ g ∧ g < W.heap.size := by
  rcases h.2 with ⟨hn, _⟩ | ⟨g2, cap2, cur, hn, hg, hh, _⟩
  · cases hn
  · obtain ⟨e1, -, -⟩ := Value.slice.inj hn
    cases e1
    exact ⟨hg, lt_of_block hh⟩
end
/-- Where a number comes into a row that falls. -/
theorem ins_at (x : Int) : ∀ (l : List Int) (m : Nat), m ≤ l.length → (∀ v ∈ l.drop m, v < x) → (∀ v ∈ l.take m, x ≤ v) → Ms.ins x l = l.take m ++ x :: l.drop m
  | [], m, _, _, _ => by simp [Ms.ins]
  | y :: l, 0, _, h1, _ => by
    unfold Ms.ins
    rw [if_neg (by have := h1 y (by simp); omega)]
    rfl
  | y :: l, m + 1, hm, h1, h2 => by
    unfold Ms.ins
    rw [if_pos (h2 y (by simp)), ins_at x l m (by simpa using hm) (fun v hv => h1 v (by simpa using hv)) (fun v hv => h2 v (by simp [hv]))]
    rfl
theorem desc_take {l : List Int} (h : Ms.Desc l) {m : Nat} (hm : m < l.length) {x : Int} (hx : x ≤ l[m]) : ∀ v ∈ l.take (m + 1), x ≤ v := by
  intro v hv
  obtain ⟨j, hj, e⟩ := List.mem_iff_getElem.1 hv
  rw [List.length_take] at hj
  rw [List.getElem_take] at e
  by_cases e2 : j = m
  · subst e2; omega
  · have := List.pairwise_iff_getElem.1 h j m (by omega) hm (by omega)
    omega
set_option maxRecDepth 100000 in
set_option maxHeartbeats 2000000 in
theorem rints_eq (w : World) (va vb : Value) (a : List Int) (ha : IsL w va a) (hb : IsL w vb a) :
    Calls Tryz.prog 30 #[va, vb] w fun e w' => e = .returned (.bool true) ∧ Below w.heap.size w w' := by
  obtain ⟨pa, ca, rfl, hla, hca⟩ := ha
  obtain ⟨pb, cb, rfl, hlb, hcb⟩ := hb
  have HA := show Hid (∀ k (hk : k < a.length), ∃ b o, pa = some ⟨b, o, none⟩ ∧ w.cell? ⟨b, o + k, none⟩ = some (.int .i64 a[k])) from hca
  have HB := show Hid (∀ k (hk : k < a.length), ∃ g o, pb = some ⟨g, o, none⟩ ∧ w.cell? ⟨g, o + k, none⟩ = some (.int .i64 a[k])) from hcb
  clear hca hcb
  go_enter Tryz.func30, Tryz.ntmps30
  go_wp2_with fail
  go_loopw [5] (fun i wr => ∃ k n : Nat, k ≤ a.length ∧ i = .int .i64 (k : Int) ∧ wr = w.drewN n) (fun i _ => a.length - (intOf i).toNat)
  case atStart => exact ⟨0, 0, by omega, rfl, rfl⟩
  case round =>
    obtain ⟨k, n, hk, rfl, rfl⟩ := hrel
    by_cases hlt : k < a.length
    · obtain ⟨ba, oa, rfl, c0⟩ := HA.out k hlt
      obtain ⟨bb, ob, rfl, d0⟩ := HB.out k hlt
      have hki : (k : Int) < (a.length : Int) := by omega
      clear HA HB
      generalize a[k] = x at *
      go_wp2_with fail
      go_quiet (fail)
      go_wp2_with fail
      go_roundw
      case rel => exact ⟨k + 1, _, by omega, by go_num, rfl⟩
      case measure => first | (simp [intOf]; done) | (simp [intOf]; omega)
    · go_wp2_with fail
      go_ret
      exact ⟨rfl, below_drewN (Below.refl _ _) _⟩
theorem wts_snoc (t : List Nd) {ids : List Int} {k : Nat} (hk : k < ids.length) : wts t (ids.take (k + 1)) = wts t (ids.take k) ++ [Ms.weightV t ids[k].toNat] := by
  unfold wts
  rw [List.take_succ_eq_append_getElem hk, List.map_append]
  rfl
set_option maxRecDepth 100000 in
set_option maxHeartbeats 2400000 in
theorem rweightsR_any (w : World) {c : Nat} {u : Value} {t : List Nd} (hT : Tr w c u t) (iv : Value) (ids : List Int) (hv : IsL w iv ids) (hl : ids.length * 8 ≤ 140737488351232) :
    Calls Tryz.prog 28 #[.pointer (some ⟨c, 0, none⟩), iv] w fun e w' => Below w.heap.size w w' ∧ ((ids.all (Fm.has t) = true ∧ ∃ p cp, e = .returned (.tuple #[.slice p (Ms.fall (wts t ids)).length cp, .int .i64 0]) ∧ IsL w' (.slice p (Ms.fall (wts t ids)).length cp) (Ms.fall (wts t ids))) ∨ (ids.all (Fm.has t) = false ∧ e = .returned (.tuple #[.slice none 0 0, .int .i64 31]))) := by
  have hok := hT.ok
  have hlen := hok.len
  have KW := show Hid (Calls Tryz.prog 17 #[.pointer (some ⟨c, 0, none⟩)] w fun e w' => e = .returned (.slice (some ⟨w.heap.size, 0, none⟩) t.length t.length) ∧ Vs w' w.heap.size t.length (Ms.weightV t) ∧ Below w.heap.size w w') from rweights_any w hT
  have KH := show Hid (∀ (w' : World) (x : Int), Below w.heap.size w w' → Calls Tryz.prog 12 #[.pointer (some ⟨c, 0, none⟩), .int .i64 x] w' fun e w'' => e = .returned (.bool (Fm.has t x)) ∧ w'' = w') from fun w' x hb => rhas_any w' (hT.later hb) x
  have HV := show Hid (IsL w iv ids) from hv
  obtain ⟨pi, ci, rfl, hli, hci⟩ := hv
  have HC := show Hid (∀ w', Below w.heap.size w w' → ∀ k (hk : k < ids.length), ∃ b o, pi = some ⟨b, o, none⟩ ∧ w'.cell? ⟨b, o + k, none⟩ = some (.int .i64 ids[k])) from fun w' hb k hk => by
    obtain ⟨b, o, hp, hc⟩ := hci k hk
    exact ⟨b, o, hp, (hb.cell (p := ⟨b, _, none⟩) (World.block_lt_of_cell? w _ hc)).trans hc⟩
  have HWS := show Hid (∀ k (hk : k < ids.length), Ms.fall (wts t (ids.take (k + 1))) = Ms.ins (Ms.weightV t ids[k].toNat) (Ms.fall (wts t (ids.take k)))) from fun k hk => by
    show Ms.fall _ = _
    rw [wts_snoc t hk, Ms.fall_ins]
  have HDE := show Hid (∀ k, k ≤ ids.length → Ms.Desc (Ms.fall (wts t (ids.take k))) ∧ (Ms.fall (wts t (ids.take k))).length = k) from fun k hk => ⟨Ms.fall_desc _, by rw [Ms.fall_len]; unfold wts; rw [List.length_map, List.length_take]; omega⟩
  have HNO := show Hid (∀ k (hk : k < ids.length), Fm.has t ids[k] = false → ids.all (Fm.has t) = false) from fun k hk h => by
    cases hq : ids.all (Fm.has t) with
    | false => rfl
    | true => rw [List.all_eq_true.1 hq _ (List.getElem_mem hk)] at h; cases h
  have HYE := show Hid ((∀ j (hj : j < ids.length), Fm.has t ids[j] = true) → ids.all (Fm.has t) = true) from fun h => by
    rw [List.all_eq_true]
    intro x hx
    obtain ⟨j, hj, e⟩ := List.mem_iff_getElem.1 hx
    rw [← e]
    exact h j hj
  obtain ⟨i0, hi', hz0, hz1, hz2⟩ := info_parts info_int
  clear hT hci
  go_enter Tryz.func28, Tryz.ntmps28
  go_wp2_with fail
  refine KW.out.mono ?_
  rintro e w1 ⟨rfl, hvs, hb1⟩
  have HB1 := show Hid (Below w.heap.size w w1) from hb1
  have HVS := show Hid (∀ w', Below w1.heap.size w1 w' → ∀ j, j < t.length → w'.cell? ⟨w.heap.size, j, none⟩ = some (.int .i64 (Ms.weightV t j))) from fun w' hb j hj => (hb.cell (p := ⟨w.heap.size, j, none⟩) hvs.lt).trans (hvs.cell hj)
  clear KW hvs hb1
  go_wp2_with fail
  go_loopw [7, 8] (fun lv i wr => ∃ k : Nat, k ≤ ids.length ∧ i = .int .i64 (k : Int) ∧ Hid (wr.ownsRow w1.heap.size 3 1 lv k ((Ms.fall (wts t (ids.take k))).map (Value.int .i64)) ∧ Below w1.heap.size w1 wr ∧ ∀ j (hj : j < ids.length), j < k → Fm.has t ids[j] = true)) (fun _ i _ => ids.length - (intOf i).toNat)
  case atStart => exact ⟨0, by omega, rfl, (by rw [show Ms.fall (wts t (ids.take 0)) = [] from by simp [wts, Ms.fall]]; exact World.ownsRow_nil _ _ _ _), Below.refl _ _, (fun j hj h => by omega)⟩
  case round =>
    obtain ⟨k, hk, rfl, HI⟩ := hrel
    by_cases hlt : k < ids.length
    · have hbw : Below w.heap.size w wr := HB1.out.trans (HI.out.2.1.mono HB1.out.size)
      obtain ⟨gb, go, rfl, c0⟩ := HC.out wr hbw k hlt
      have hki : (k : Int) < (ids.length : Int) := by omega
      have K1 := show Hid _ from KH.out wr ids[k] hbw
      have HBW := show Hid (Below w.heap.size w wr) from hbw
      cases hh : Fm.has t ids[k] with
      | false =>
        rw [hh] at K1
        have hno := HNO.out k hlt hh
        have HNO2 := show Hid _ from hno
        clear HI HC HWS HDE HNO HYE HVS KH hno hbw hh HV
        generalize ids[k] = x at *
        go_wp2_with fail
        refine Calls.mono K1.out ?_
        rintro e wx ⟨rfl, hwx⟩
        subst wx
        go_wp2_with fail
        go_ret2
        exact ⟨HBW.out, Or.inr ⟨HNO2.out, rfl⟩⟩
      | true =>
        rw [hh] at K1
        obtain ⟨q0, q1⟩ := Fm.has_iff.1 hh
        obtain ⟨j, hj⟩ : ∃ j : Nat, ids[k] = j := ⟨ids[k].toNat, by omega⟩
        have hjt : j < t.length := by omega
        have hji : (j : Int) < (t.length : Int) := by omega
        have d0 := HVS.out wr HI.out.2.1 j hjt
        have HW1 := show Hid (∀ w', Below w1.heap.size w1 w' → w'.cell? ⟨w.heap.size, j, none⟩ = some (.int .i64 (Ms.weightV t j))) from fun w' hb => HVS.out w' hb j hjt
        have hws1 := HWS.out k hlt
        rw [hj, Int.toNat_natCast] at hws1
        have HIN := show Hid _ from hws1
        have HAL := show Hid (∀ i (hi : i < ids.length), i < k + 1 → Fm.has t ids[i] = true) from fun i hi h => by
          by_cases e : i = k
          · subst e; exact hh
          · exact HI.out.2.2 i hi (by omega)
        have HD := show Hid _ from HDE.out k hk
        have HOW := show Hid (wr.ownsRow w1.heap.size 3 1 u7 k ((Ms.fall (wts t (ids.take k))).map (Value.int .i64))) from HI.out.1
        have HBR := show Hid (Below w1.heap.size w1 wr) from HI.out.2.1
        obtain ⟨pl, cl, hle⟩ := (own_sliceI HOW.out : ∃ p c, u7 = .slice p k c)
        have hws : w1.heap.size ≤ wr.heap.size := HI.out.2.1.size
        rw [hj] at c0 K1
        clear HI HC HWS HDE HNO HVS KH hbw hh HV HBW q0 q1 hj hws1
        generalize Ms.fall (wts t (ids.take k)) = L at *
        generalize Ms.weightV t j = x at *
        subst hle
        go_wp2_with fail
        refine Calls.mono K1.out ?_
        rintro e wx ⟨rfl, hwx⟩
        subst wx
        clear K1
        go_wp2_with (at_builtin; refine wpList_append_own_at _ rfl (.tmp 35) (.tmp 37) 33 rfl w1.heap.size 3 i0 _ 1 8 Tryz.underlying33 hi' hz0 hz1 hz2 rfl (by decide) (.slice pl k cl) k (L.map (Value.int .i64)) rfl (HOW.out.alloc _) ⟨wr.heap.size, 0, none⟩ 1 1 [.int .i64 x] rfl rfl (cell_one_new _ _ _) (ints_oneCell .i64 [x]) (by unfold maxLen; omega) (by omega) (by simp; omega) ?_)
        intro v2 w2 hown hgr hnil hat
        obtain ⟨g, cap, rfl⟩ : ∃ g cap, v2 = .slice (some ⟨g, 0, none⟩) (k + 1) cap := by
          rcases hown.2 with ⟨_, hn⟩ | ⟨g, cap, cur, e1, _⟩
          · omega
          · exact ⟨g, cap, e1⟩
        have hLk : L.length = k := HD.out.2
        have HI0 := show Hid (w2.ownsRow w1.heap.size 3 1 (.slice (some ⟨g, 0, none⟩) (k + 1) cap) (k + 1) ((L.take k ++ x :: L.drop k).map (Value.int .i64)) ∧ Below w1.heap.size w1 w2 ∧ ∀ v ∈ L.drop k, v < x) from by
          refine ⟨?_, (HBR.out.alloc HBR.out.size _).grown hgr (HBR.out.alloc HBR.out.size _).size (fun j e => ?_), fun v hv => ?_⟩
          · rw [show L.take k ++ x :: L.drop k = L ++ [x] from by rw [← hLk, List.take_length, List.drop_length], List.map_append]
            exact hown
          · rcases HOW.out.2 with ⟨e1, _⟩ | ⟨g2, cap2, cur, e1, e2, _⟩
            · rw [e1] at e; cases e
            · rw [e1] at e; cases e; exact e2
          · rw [← hLk, List.drop_length] at hv; cases hv
        clear hown hgr hnil hat HOW HBR HW1 d0 c0
        have HLK := show Hid (L.length = k) from hLk
        clear hLk
        go_wp2_with fail
        go_loopw [10] (fun av wr => ∃ (m : Nat) (y : Int), m ≤ k ∧ av = .int .i64 (m : Int) ∧ Hid (wr.ownsRow w1.heap.size 3 1 (.slice (some ⟨g, 0, none⟩) (k + 1) cap) (k + 1) ((L.take m ++ y :: L.drop m).map (Value.int .i64)) ∧ Below w1.heap.size w1 wr ∧ ∀ v ∈ L.drop m, v < x)) (fun av _ => (intOf av).toNat)
        case atStart => exact ⟨k, x, Nat.le_refl _, rfl, HI0.out⟩
        case round =>
          obtain ⟨m, y, hm, rfl, HI2⟩ := hrel
          clear HI0
          have hLk := HLK.out
          have hmi : (m : Int) < ((k + 1 : Nat) : Int) := by omega
          have hmi2 : (m : Int) < (k : Int) + 1 := by omega
          have HRL := show Hid ((L.take m ++ y :: L.drop m).length = k + 1) from (by simp; omega : (L.take m ++ y :: L.drop m).length = k + 1)
          by_cases hm0 : m = 0
          · subst hm0
            have HTA := show Hid (∀ v ∈ L.take 0, x ≤ v) from fun v hv => by simp at hv
            obtain ⟨z0, b0⟩ : ∃ z, wr.cell? ⟨g, 0, none⟩ = some (.int .i64 z) := ⟨_, ownI_cell HI2.out.1 (j := 0) (by omega) (by rw [HRL.out]; omega)⟩
            have bf := ownI_fr HI2.out.1
            have HN := show Hid ((wr.setCell ⟨g, 0, none⟩ (.int .i64 x)).ownsRow w1.heap.size 3 1 (.slice (some ⟨g, 0, none⟩) (k + 1) cap) (k + 1) ((Ms.fall (wts t (ids.take (k + 1)))).map (Value.int .i64)) ∧ Below w1.heap.size w1 (wr.setCell ⟨g, 0, none⟩ (.int .i64 x)) ∧ ∀ j (hj : j < ids.length), j < k + 1 → Fm.has t ids[j] = true) from by
              have h := ownI_set HI2.out.1 0 x
              rw [show (L.take 0 ++ y :: L.drop 0).set 0 x = L.take 0 ++ x :: L.drop 0 from by rfl] at h
              rw [HIN.out, ins_at x L 0 (by omega) HI2.out.2.2 HTA.out]
              exact ⟨h, HI2.out.2.1.setCell (ownI_ge HI2.out.1).1 _, HAL.out⟩
            clear HI2 HTA HIN HAL HD HRL
            go_wp2_with fail
            go_roundw
            case rel => exact ⟨k + 1, by omega, by go_num, HN⟩
            case measure => first | (simp [intOf]; done) | (simp [intOf]; omega)
          · obtain ⟨m2, rfl⟩ : ∃ m2, m = m2 + 1 := ⟨m - 1, by omega⟩
            have hz : 0 < ((m2 + 1 : Nat) : Int) := by omega
            have hm2 : m2 < L.length := by omega
            have e0 : wr.cell? ⟨g, m2, none⟩ = some (.int .i64 L[m2]) := by
              have h := ownI_cell HI2.out.1 (j := m2) (by omega) (by rw [HRL.out]; omega)
              rw [List.getElem_append_left (by rw [List.length_take]; omega), List.getElem_take] at h
              exact h
            have e1 : ((m2 + 1 : Nat) : Int) - 1 = (m2 : Int) := by omega
            have hm2i : (m2 : Int) < ((k + 1 : Nat) : Int) := by omega
            by_cases hlx : L[m2] < x
            · obtain ⟨z0, b0⟩ : ∃ z, wr.cell? ⟨g, m2 + 1, none⟩ = some (.int .i64 z) := ⟨_, ownI_cell HI2.out.1 (j := m2 + 1) (by omega) (by rw [HRL.out]; omega)⟩
              have bf := ownI_fr HI2.out.1
              have HN := show Hid ((wr.setCell ⟨g, m2 + 1, none⟩ (.int .i64 L[m2])).ownsRow w1.heap.size 3 1 (.slice (some ⟨g, 0, none⟩) (k + 1) cap) (k + 1) ((L.take m2 ++ L[m2] :: L.drop m2).map (Value.int .i64)) ∧ Below w1.heap.size w1 (wr.setCell ⟨g, m2 + 1, none⟩ (.int .i64 L[m2])) ∧ ∀ v ∈ L.drop m2, v < x) from by
                have h := ownI_set HI2.out.1 (m2 + 1) L[m2]
                rw [show (L.take (m2 + 1) ++ y :: L.drop (m2 + 1)).set (m2 + 1) L[m2] = L.take m2 ++ L[m2] :: L.drop m2 from by
                  rw [List.set_append_right _ _ (by rw [List.length_take]; omega), show m2 + 1 - (L.take (m2 + 1)).length = 0 from by rw [List.length_take]; omega]
                  show L.take (m2 + 1) ++ L[m2] :: L.drop (m2 + 1) = _
                  rw [List.take_succ_eq_append_getElem hm2, List.append_assoc, List.drop_eq_getElem_cons hm2]
                  rfl] at h
                refine ⟨h, HI2.out.2.1.setCell (ownI_ge HI2.out.1).1 _, fun v hv => ?_⟩
                rw [List.drop_eq_getElem_cons hm2] at hv
                rcases List.mem_cons.1 hv with e | e
                · rw [e]; exact hlx
                · exact HI2.out.2.2 v e
              clear HI2 HIN HAL HD HRL
              obtain ⟨z, hze⟩ : ∃ z, z = L[m2] := ⟨_, rfl⟩
              rw [← hze] at e0 hlx HN
              clear hze
              go_wp2_with fail
              go_roundw
              case rel => exact ⟨m2, z, by omega, by go_num, HN⟩
              case measure => first | (simp [intOf]; done) | (simp [intOf]; omega)
            · have HTA := show Hid (∀ v ∈ L.take (m2 + 1), x ≤ v) from desc_take HD.out.1 hm2 (by omega)
              obtain ⟨z, hze⟩ : ∃ z, z = L[m2] := ⟨_, rfl⟩
              rw [← hze] at e0 hlx
              clear hze
              obtain ⟨z0, b0⟩ : ∃ z, wr.cell? ⟨g, (m2 + 1), none⟩ = some (.int .i64 z) := ⟨_, ownI_cell HI2.out.1 (j := (m2 + 1)) (by omega) (by rw [HRL.out]; omega)⟩
              have bf := ownI_fr HI2.out.1
              have HN := show Hid ((wr.setCell ⟨g, (m2 + 1), none⟩ (.int .i64 x)).ownsRow w1.heap.size 3 1 (.slice (some ⟨g, 0, none⟩) (k + 1) cap) (k + 1) ((Ms.fall (wts t (ids.take (k + 1)))).map (Value.int .i64)) ∧ Below w1.heap.size w1 (wr.setCell ⟨g, (m2 + 1), none⟩ (.int .i64 x)) ∧ ∀ j (hj : j < ids.length), j < k + 1 → Fm.has t ids[j] = true) from by
                have h := ownI_set HI2.out.1 (m2 + 1) x
                rw [show (L.take (m2 + 1) ++ y :: L.drop (m2 + 1)).set (m2 + 1) x = L.take (m2 + 1) ++ x :: L.drop (m2 + 1) from by rw [List.set_append_right _ _ (by rw [List.length_take]; omega), show m2 + 1 - (L.take (m2 + 1)).length = 0 from by rw [List.length_take]; omega]; rfl] at h
                rw [HIN.out, ins_at x L (m2 + 1) (by omega) HI2.out.2.2 HTA.out]
                exact ⟨h, HI2.out.2.1.setCell (ownI_ge HI2.out.1).1 _, HAL.out⟩
              clear HI2 HTA HIN HAL HD HRL
              go_wp2_with fail
              go_roundw
              case rel => exact ⟨k + 1, by omega, by go_num, HN⟩
              case measure => first | (simp [intOf]; done) | (simp [intOf]; omega)
    · have hke : k = ids.length := by omega
      subst hke
      have hI := HI.out
      rw [List.take_length] at hI
      have hall := HYE.out fun j hj => hI.2.2 j hj hj
      obtain ⟨pl, cl, hle⟩ := own_sliceI hI.1
      have hfl : (Ms.fall (wts t ids)).length = ids.length := by rw [Ms.fall_len]; unfold wts; simp
      have HF := show Hid (Below w.heap.size w wr ∧ IsL wr (.slice pl (Ms.fall (wts t ids)).length cl) (Ms.fall (wts t ids)) ∧ ids.all (Fm.has t) = true) from by
        refine ⟨HB1.out.trans (hI.2.1.mono HB1.out.size), ?_, hall⟩
        rw [hfl, ← hle]
        exact isL_own hI.1 (by omega)
      rw [← hfl] at hle
      subst hle
      clear HI hI HC HWS HDE HNO HYE HVS KH hall HV hfl
      go_wp2_with fail
      go_ret2
      exact ⟨HF.out.1, Or.inl ⟨HF.out.2.2, _, _, rfl, HF.out.2.1⟩⟩
end Go.Proofs.YthdcppkohalkmaaGreat
