/-
  The law MeasureOrder, as the program walks it: true for every three rows of numbers that a machine can hold. No other condition.
-/
import Derived.Test.YthdcppkohalkmaaMCopy
namespace Go.Proofs.Ythdcppkohalkmaa
open Go.RowKit Go.Maps Go.Sort Go.Lib
open Fm (Nd)

theorem cell_drewN (w : World) (n : Nat) (a : Addr) : (w.drewN n).cell? a = w.cell? a := rfl
theorem take_count (l : List Int) (x : Int) {k : Nat} (hk : k < l.length) : ((l.take (k + 1)).count x : Int) = (l.take k).count x + (if l[k] = x then 1 else 0) := by
  rw [List.take_succ_eq_append_getElem hk, List.count_append]
  by_cases h : l[k] = x
  · simp [h]
  · simp [h]
theorem count_le (l : List Int) (x : Int) (k : Nat) : (l.take k).count x ≤ k := Nat.le_trans List.count_le_length (by simp; omega)
set_option maxRecDepth 100000 in
set_option maxHeartbeats 4000000 in
theorem alike_any (w : World) (va vb : Value) (a b : List Int) (ha : IsL w va a) (hb : IsL w vb b) (hla : a.length * 8 ≤ 140737488355328) :
    Calls Try.prog 6 #[va, vb] w fun e w' => e = .returned (.bool (Ms.alike a b)) ∧ ∃ n, w' = w.drewN n := by
  obtain ⟨pa, ca, rfl, _, hca⟩ := ha
  obtain ⟨pb, cb, rfl, _, hcb⟩ := hb
  by_cases hl : a.length = b.length
  · have HA := show Hid (∀ k (hk : k < a.length), ∃ g o, pa = some ⟨g, o, none⟩ ∧ w.cell? ⟨g, o + k, none⟩ = some (.int .i64 a[k])) from hca
    have HB := show Hid (∀ k (hk : k < b.length), ∃ g o, pb = some ⟨g, o, none⟩ ∧ w.cell? ⟨g, o + k, none⟩ = some (.int .i64 b[k])) from hcb
    have HY := show Hid ((∀ j (hj : j < a.length), a.count a[j] = b.count a[j]) → Ms.alike a b = true) from fun h => by
      unfold Ms.alike
      simp only [Bool.and_eq_true, beq_iff_eq, List.all_eq_true]
      refine ⟨hl, fun x hx => ?_⟩
      obtain ⟨j, hj, rfl⟩ := List.mem_iff_getElem.1 hx
      exact h j hj
    have HN := show Hid (∀ j (hj : j < a.length), a.count a[j] ≠ b.count a[j] → Ms.alike a b = false) from fun j hj h => by
      unfold Ms.alike
      rw [Bool.and_eq_false_iff]
      right
      rw [List.all_eq_false]
      exact ⟨a[j], List.getElem_mem hj, by simpa using h⟩
    have HCA := show Hid (∀ (x : Int) k (hk : k < a.length), ((a.take (k + 1)).count x : Int) = (a.take k).count x + (if a[k] = x then 1 else 0)) from fun x k hk => take_count a x hk
    have HCB := show Hid (∀ (x : Int) k (hk : k < b.length), ((b.take (k + 1)).count x : Int) = (b.take k).count x + (if b[k] = x then 1 else 0)) from fun x k hk => take_count b x hk
    have HL := show Hid (∀ (x : Int) k, (a.take k).count x ≤ k ∧ (b.take k).count x ≤ k) from fun x k => ⟨count_le a x k, count_le b x k⟩
    have HEA := show Hid (a.take a.length = a ∧ b.take a.length = b) from ⟨List.take_length, by rw [hl, List.take_length]⟩
    generalize Ms.alike a b = ans at *
    clear hca hcb
    have hle : (a.length : Int) = (b.length : Int) := by omega
    go_enter Try.func6, Try.ntmps6
    go_wp2_with fail
    go_loopw [5] (fun i wr => ∃ k n : Nat, k ≤ a.length ∧ i = .int .i64 (k : Int) ∧ wr = w.drewN n ∧ Hid (∀ j (hj : j < a.length), j < k → a.count a[j] = b.count a[j])) (fun i _ => a.length - (intOf i).toNat)
    case atStart => exact ⟨0, 0, by omega, rfl, rfl, fun j _ h => by omega⟩
    case round =>
      obtain ⟨i, n, hi, rfl, rfl, HI⟩ := hrel
      by_cases hlt : i < a.length
      · obtain ⟨ga, oa, rfl, hcx⟩ := HA.out i hlt
        have hki : (i : Int) < (a.length : Int) := by omega
        have HYK := show Hid (a.count a[i] = b.count a[i] → ∀ j (hj : j < a.length), j < i + 1 → a.count a[j] = b.count a[j]) from fun h j hj hji => by
          by_cases e : j = i
          · subst e; exact h
          · exact HI.out j hj (by omega)
        have HNK := show Hid (a.count a[i] ≠ b.count a[i] → ans = false) from HN.out i hlt
        have HCAX := show Hid (∀ k (hk : k < a.length), ((a.take (k + 1)).count a[i] : Int) = (a.take k).count a[i] + (if a[k] = a[i] then 1 else 0)) from HCA.out a[i]
        have HCBX := show Hid (∀ k (hk : k < b.length), ((b.take (k + 1)).count a[i] : Int) = (b.take k).count a[i] + (if b[k] = a[i] then 1 else 0)) from HCB.out a[i]
        have HLX := show Hid (∀ k, (a.take k).count a[i] ≤ k ∧ (b.take k).count a[i] ≤ k) from HL.out a[i]
        clear HCA HCB HL HN HY HI
        generalize a[i] = x at *
        go_wp2_with fail
        go_loopw [6, 7] (fun nv kv wr => ∃ k m : Nat, k ≤ a.length ∧ kv = .int .i64 (k : Int) ∧ nv = .int .i64 (((a.take k).count x : Int) - ((b.take k).count x : Int)) ∧ wr = w.drewN m) (fun _ kv _ => a.length - (intOf kv).toNat)
        case atStart => exact ⟨0, n, by omega, rfl, by simp, rfl⟩
        case round =>
          obtain ⟨k, m, hk, rfl, rfl, rfl⟩ := hrel
          by_cases hkl : k < a.length
          · obtain ⟨ga2, oa2, e2, hck⟩ := HA.out k hkl
            cases e2
            obtain ⟨gb, ob, rfl, hcb⟩ := HB.out k (by omega)
            have hkk : (k : Int) < (a.length : Int) := by omega
            have hkb : (k : Int) < (b.length : Int) := by omega
            have h1 := HCAX.out k hkl
            have h2 := HCBX.out k (by omega)
            have h3 := HLX.out k
            have HS := show Hid (((a.take (k + 1)).count x : Int) - ((b.take (k + 1)).count x : Int) = ((a.take k).count x : Int) - ((b.take k).count x : Int) + (if a[k] = x then 1 else 0) - (if b[k] = x then 1 else 0)) from by show _ - _ = _; rw [h1, h2]; omega
            have hbnd : -140737488355328 ≤ ((a.take k).count x : Int) - ((b.take k).count x : Int) ∧ ((a.take k).count x : Int) - ((b.take k).count x : Int) ≤ 140737488355328 := by omega
            clear h1 h2 h3 HA HB HCAX HCBX HLX HEA HYK HNK
            generalize ((a.take k).count x : Int) - ((b.take k).count x : Int) = d at *
            obtain ⟨d', hd'⟩ : ∃ d', ((a.take (k + 1)).count x : Int) - ((b.take (k + 1)).count x : Int) = d' := ⟨_, rfl⟩
            have HD := show Hid (((a.take (k + 1)).count x : Int) - ((b.take (k + 1)).count x : Int) = d') from hd'
            rw [hd'] at HS
            clear hd'
            generalize hak : a[k] = u at *
            generalize hbk : b[k] = y at *
            clear hak hbk
            by_cases hu : u = x
            · by_cases hy : y = x
              · subst hu
                subst hy
                have HS2 := show Hid (d' = d) from by have := HS.out; simp only [if_true] at this; show d' = d; omega
                clear HS
                go_wp2_with fail
                go_quiet (fail)
                go_wp2_with fail
                go_quiet (fail)
                go_wp2_with fail
                go_roundw
                case rel => exact ⟨k + 1, _, by omega, by go_num, (by rw [HD.out, HS2.out]), rfl⟩
                case measure => first | (simp [intOf]; done) | (simp [intOf]; omega)
              · subst hu
                have hyb : (y == u) = false := by simpa using hy
                have HS2 := show Hid (d' = d + 1) from by have := HS.out; rw [if_neg hy] at this; simp only [if_true] at this; show d' = d + 1; omega
                clear HS
                go_wp2_with fail
                go_quiet (fail)
                go_wp2_with fail
                go_quiet (fail)
                go_wp2_with fail
                go_roundw
                case rel => exact ⟨k + 1, _, by omega, by go_num, (by rw [HD.out, HS2.out]), rfl⟩
                case measure => first | (simp [intOf]; done) | (simp [intOf]; omega)
            · have hub : (u == x) = false := by simpa using hu
              by_cases hy : y = x
              · subst hy
                have HS2 := show Hid (d' = d - 1) from by have := HS.out; rw [if_neg hu] at this; simp only [if_true] at this; show d' = d - 1; omega
                clear HS
                go_wp2_with fail
                go_quiet (fail)
                go_wp2_with fail
                go_quiet (fail)
                go_wp2_with fail
                go_roundw
                case rel => exact ⟨k + 1, _, by omega, by go_num, (by rw [HD.out, HS2.out]), rfl⟩
                case measure => first | (simp [intOf]; done) | (simp [intOf]; omega)
              · have hyb : (y == x) = false := by simpa using hy
                have HS2 := show Hid (d' = d) from by have := HS.out; rw [if_neg hu, if_neg hy] at this; show d' = d; omega
                clear HS
                go_wp2_with fail
                go_quiet (fail)
                go_wp2_with fail
                go_quiet (fail)
                go_wp2_with fail
                go_roundw
                case rel => exact ⟨k + 1, _, by omega, by go_num, (by rw [HD.out, HS2.out]), rfl⟩
                case measure => first | (simp [intOf]; done) | (simp [intOf]; omega)
          · have hke : k = a.length := by omega
            subst hke
            rw [HEA.out.1, HEA.out.2]
            clear HA HB HCAX HCBX HLX HEA
            by_cases heq : a.count x = b.count x
            · have HN2 := show Hid _ from HYK.out heq
              have hz : ((a.count x : Int) - (b.count x : Int)) = 0 := by omega
              rw [hz]
              clear HYK HNK heq hz
              go_wp2_with fail
              go_roundw
              case rel => exact ⟨i + 1, m, by omega, by go_num, rfl, HN2⟩
              case measure => first | (simp [intOf]; done) | (simp [intOf]; omega)
            · have hr := HNK.out heq
              subst hr
              have hz : (((a.count x : Int) - (b.count x : Int)) != 0) = true := by
                have : (a.count x : Int) - (b.count x : Int) ≠ 0 := by omega
                simpa using this
              generalize ((a.count x : Int) - (b.count x : Int)) = d at *
              clear HYK HNK heq
              go_wp2_with fail
              go_ret
              exact ⟨rfl, m, rfl⟩
      · have hr := HY.out fun j hj => HI.out j hj (by omega)
        subst hr
        clear HA HB HCA HCB HL HN HY HI HEA
        go_wp2_with fail
        go_ret
        exact ⟨rfl, n, rfl⟩
  · have hr : Ms.alike a b = false := by
      unfold Ms.alike
      rw [Bool.and_eq_false_iff]
      left
      simpa using hl
    rw [hr]
    have hne : ((a.length : Int) != (b.length : Int)) = true := by
      have : (a.length : Int) ≠ (b.length : Int) := by omega
      simpa using this
    clear hca hcb hr
    go_enter Try.func6, Try.ntmps6
    go_wp2_with fail
    go_ret
    exact ⟨rfl, 0, rfl⟩
theorem own_app {w : World} {B : Nat} {v : Value} {l : List Int} (h : w.ownsRow B 3 1 v l.length (l.map (Value.int .i64))) (hl : l.length ≤ 9223372036854775807) : IsL w v l := isL_own h hl
set_option maxRecDepth 100000 in
set_option maxHeartbeats 4000000 in
theorem measureOrder_any (w : World) (va vb vc : Value) (a b c : List Int) (ha : IsL w va a) (hb : IsL w vb b) (hc : IsL w vc c) (hla : a.length * 8 ≤ 140737488351232) (hlb : b.length * 8 ≤ 140737488351232) (hlc : c.length * 8 ≤ 140737488351232) (hn : ∀ m c, va = .slice none m c → c = 0) :
    Calls Try.prog 3 #[va, vb, vc] w fun e w' => e = .returned (.bool true) ∧ Below w.heap.size w w' := by
  have KL := show Hid (∀ w1 v1 v2 l1 l2, IsL w1 v1 l1 → IsL w1 v2 l2 → l1.length * 8 ≤ 140737488355328 → l2.length * 8 ≤ 140737488355328 → Calls Try.prog 5 #[v1, v2] w1 fun e w' => e = .returned (.bool (Ms.less l1 l2)) ∧ Below w1.heap.size w1 w') from fun w1 v1 v2 l1 l2 h1 h2 h3 h4 => less_any w1 v1 v2 l1 l2 h1 h2 h3 h4
  have KA := show Hid (∀ w1, Below w.heap.size w w1 → Calls Try.prog 6 #[va, vb] w1 fun e w' => e = .returned (.bool (Ms.alike a b)) ∧ ∃ n, w' = w1.drewN n) from fun w1 h => alike_any w1 va vb a b (ha.later h) (hb.later h) (by omega)
  have KH := show Hid (∀ w1 : World, Calls Try.prog 7 #[] w1 fun e w' => e = .returned (.bool true) ∧ Below w1.heap.size w1 w') from heads_any
  have HA := show Hid (∀ w1, Below w.heap.size w w1 → IsL w1 va a ∧ IsL w1 vb b ∧ IsL w1 vc c) from fun w1 h => ⟨ha.later h, hb.later h, hc.later h⟩
  have HO := show Hid (Ms.less a a = false ∧ (Ms.less a b && Ms.less b a) = false ∧ (Ms.less a b = true → Ms.less b c = true → Ms.less a c = true) ∧ (Ms.alike a b = true → Ms.less a b = false ∧ Ms.less b a = false) ∧ (Ms.alike a b = false → Ms.less a b = true ∨ Ms.less b a = true)) from ⟨Ms.less_irrefl a, Ms.less_asymm a b, fun h1 h2 => Ms.less_trans h1 h2, fun h => Ms.less_alike h, fun h => Ms.less_total h⟩
  have H7 := show Hid (Ms.less a (a ++ [7]) = true) from Ms.less_snoc a 7
  have H0 := show Hid (Below w.heap.size w w) from Below.refl _ _
  obtain ⟨pa, ca, rfl, hla', hcela⟩ := ha
  obtain ⟨pb, cb, rfl, _, _⟩ := hb
  obtain ⟨pc, cc, rfl, _, _⟩ := hc
  go_enter Try.func3, Try.ntmps3
  have K1 := show Hid (Calls Try.prog 5 #[.slice pa a.length ca, .slice pb b.length cb] w fun e w' => e = .returned (.bool (Ms.less a b)) ∧ Below w.heap.size w w') from KL.out _ _ _ _ _ (HA.out _ H0.out).1 (HA.out _ H0.out).2.1 (by omega) (by omega)
  go_wp2_with fail
  refine K1.out.mono ?_
  rintro e w1 ⟨rfl, hb1⟩
  have H1 := show Hid (Below w.heap.size w w1) from H0.out.trans (hb1.mono H0.out.size)
  clear K1 hb1 H0
  have K2 := show Hid (Calls Try.prog 5 #[.slice pb b.length cb, .slice pa a.length ca] w1 fun e w' => e = .returned (.bool (Ms.less b a)) ∧ Below w1.heap.size w1 w') from KL.out _ _ _ _ _ (HA.out _ H1.out).2.1 (HA.out _ H1.out).1 (by omega) (by omega)
  go_wp2_with fail
  refine K2.out.mono ?_
  rintro e w2 ⟨rfl, hb2⟩
  have H2 := show Hid (Below w.heap.size w w2) from H1.out.trans (hb2.mono H1.out.size)
  clear K2 hb2 H1
  have K3 := show Hid (Calls Try.prog 5 #[.slice pb b.length cb, .slice pc c.length cc] w2 fun e w' => e = .returned (.bool (Ms.less b c)) ∧ Below w2.heap.size w2 w') from KL.out _ _ _ _ _ (HA.out _ H2.out).2.1 (HA.out _ H2.out).2.2 (by omega) (by omega)
  go_wp2_with fail
  refine K3.out.mono ?_
  rintro e w3 ⟨rfl, hb3⟩
  have H3 := show Hid (Below w.heap.size w w3) from H2.out.trans (hb3.mono H2.out.size)
  clear K3 hb3 H2
  have K4 := show Hid (Calls Try.prog 5 #[.slice pa a.length ca, .slice pc c.length cc] w3 fun e w' => e = .returned (.bool (Ms.less a c)) ∧ Below w3.heap.size w3 w') from KL.out _ _ _ _ _ (HA.out _ H3.out).1 (HA.out _ H3.out).2.2 (by omega) (by omega)
  go_wp2_with fail
  refine K4.out.mono ?_
  rintro e w4 ⟨rfl, hb4⟩
  have H4 := show Hid (Below w.heap.size w w4) from H3.out.trans (hb4.mono H3.out.size)
  clear K4 hb4 H3
  have K5 := show Hid (Calls Try.prog 6 #[.slice pa a.length ca, .slice pb b.length cb] w4 fun e w' => e = .returned (.bool (Ms.alike a b)) ∧ ∃ n, w' = w4.drewN n) from KA.out w4 H4.out
  go_wp2_with fail
  refine K5.out.mono ?_
  rintro e w5 ⟨rfl, n5, hw5⟩
  have H5 := show Hid (Below w.heap.size w w5) from by rw [hw5]; exact ⟨H4.out.os, H4.out.tape, H4.out.output, H4.out.size, H4.out.block⟩
  clear K5 hw5 H4 KA
  have K6 := show Hid (Calls Try.prog 5 #[.slice pa a.length ca, .slice pa a.length ca] w5 fun e w' => e = .returned (.bool (Ms.less a a)) ∧ Below w5.heap.size w5 w') from KL.out _ _ _ _ _ (HA.out _ H5.out).1 (HA.out _ H5.out).1 (by omega) (by omega)
  go_wp2_with fail
  refine K6.out.mono ?_
  rintro e w6 ⟨rfl, hb6⟩
  have H6 := show Hid (Below w.heap.size w w6) from H5.out.trans (hb6.mono H5.out.size)
  clear K6 hb6 H5
  obtain ⟨ho1, ho2, ho3, ho4, ho5⟩ := HO.out
  rw [ho1]
  have HAL := show Hid (∀ w1, Below w.heap.size w w1 → IsL w1 (.slice pa a.length ca) a) from fun w1 h => (HA.out w1 h).1
  clear HO ho1 HA
  have hall : (Ms.less a b = false ∧ Ms.less b a = true ∧ Ms.alike a b = false) ∨ (Ms.less a b = true ∧ Ms.less b a = false ∧ Ms.alike a b = false ∧ (Ms.less b c = true → Ms.less a c = true)) ∨ (Ms.less a b = false ∧ Ms.less b a = false ∧ Ms.alike a b = true) := by
    cases h1 : Ms.less a b <;> cases h2 : Ms.less b a <;> cases h3 : Ms.alike a b <;> simp_all
  clear ho2 ho3 ho4 ho5
  have hp0 : pa = none → ca = 0 := fun e => hn a.length ca (by rw [e])
  obtain ⟨i0, hi', hz0, hz1, hz2⟩ := info_parts info_int
  have HCEL := show Hid (∀ w1, Below w.heap.size w w1 → ∀ k (hk : k < a.length), ∃ b o, pa = some ⟨b, o, none⟩ ∧ w1.cell? ⟨b, o + k, none⟩ = some (.int .i64 a[k])) from fun w1 h k hk => by
    obtain ⟨g, o, hp, hc⟩ := hcela k hk
    exact ⟨g, o, hp, (Kp.of_below (S := fun _ => False) h).cell hc (fun h => h)⟩
  have HOWN := show Hid ((w6.alloc (Obj.cells #[] 3)).ownsRow w6.heap.size 3 1 (.slice (some ⟨w6.heap.size, 0, none⟩) 0 0) 0 []) from ⟨rfl, .inr ⟨w6.heap.size, 0, #[], rfl, Nat.le_refl _, heap_alloc_new _ _, Nat.le_refl _, Nat.zero_le _, rfl, rfl⟩⟩
  have KEND := show Hid (∀ (w8 : World) (v8 : Value), Below w.heap.size w w8 → w8.ownsRow w6.heap.size 3 1 v8 (a.length + 1) (a.map (Value.int .i64) ++ [.int .i64 7]) → ∃ p8 c8, v8 = .slice p8 (a.length + 1) c8 ∧ Calls Try.prog 5 #[.slice pa a.length ca, .slice p8 (a.length + 1) c8] w8 fun e w' => e = .returned (.bool true) ∧ Below w8.heap.size w8 w') from fun w8 v8 hb ho => by
    obtain ⟨p8, c8, rfl⟩ := own_sliceI ho
    refine ⟨p8, c8, rfl, ?_⟩
    have e1 : a.map (Value.int .i64) ++ [.int .i64 7] = (a ++ [7]).map (Value.int .i64) := by simp
    rw [e1] at ho
    have hI : IsL w8 (.slice p8 (a.length + 1) c8) (a ++ [7]) := isL_own ho (by omega)
    have h := KL.out w8 _ _ a (a ++ [7]) (HAL.out w8 hb) hI (by omega) (by simp; omega)
    rw [H7.out] at h
    exact h
  clear hcela hn KL HAL H7
  rcases hall with ⟨h1, h2, h3⟩ | ⟨h1, h2, h3, h4⟩ | ⟨h1, h2, h3⟩
  · rw [h1, h2, h3]
    clear h1 h2 h3
    generalize Ms.less b c = bc at *
    generalize Ms.less a c = ac at *
    go_wp2_with (first
      | (at_builtin; refine wpList_copy _ (.tmp 68) (.tmp 69) rfl rfl w6.heap.size w6.heap.size rfl HOWN.out (by simp) pa a ca rfl hp0 (by omega) (HCEL.out _ (H6.out.alloc H6.out.size _)) ?_; intro p7 c7 w7 ho7 hg7)
      | (at_builtin; refine wpList_append_own_at _ rfl (.tmp 70) (.tmp 71) 22 rfl w6.heap.size 3 i0 _ 1 8 Try.underlying22 hi' hz0 hz1 hz2 rfl (by decide) (.slice p7 a.length c7) a.length (a.map (Value.int .i64)) rfl (ho7.alloc _) ⟨w7.heap.size, 0, none⟩ 1 1 [.int .i64 7] rfl rfl (cell_one_new _ _ _) (ints_oneCell .i64 [7]) (by unfold maxLen; omega) (by omega) (by have := hg7.size; simp at this ⊢; omega) ?_; intro v8 w8 ho8 hg8 _ _; have hB8 : Below w.heap.size w w8 := (((H6.out.alloc H6.out.size _).grown hg7 (by simp; have := H6.out.size; omega) (fun k e => by simp at e; have := H6.out.size; omega)).alloc (by have := hg7.size; have := H6.out.size; simp at *; omega) _ |>.grown hg8 (by have := hg7.size; have := H6.out.size; simp at *; omega) (fun k e => by have := (ho7.lt k e).1; have := H6.out.size; omega)); obtain ⟨p8, c8, hv8, hL8⟩ := KEND.out w8 v8 hB8 ho8; subst hv8))
    have HB8 := show Hid (Below w.heap.size w w8) from hB8
    refine Calls.mono hL8 ?_
    clear hL8 ho7 hg7 ho8 hg8 hB8
    rintro e w9 ⟨rfl, hb9⟩
    have HB9 := show Hid (Below w.heap.size w w9) from HB8.out.trans (hb9.mono HB8.out.size)
    clear hb9 HB8
    go_wp2_with fail
    refine (KH.out _).mono ?_
    rintro e w10 ⟨rfl, hb10⟩
    have HB10 := show Hid (Below w.heap.size w w10) from HB9.out.trans (hb10.mono HB9.out.size)
    clear hb10 HB9
    go_wp2_with fail
    go_ret
    exact ⟨rfl, HB10.out⟩
  · rw [h1, h2, h3]
    clear h1 h2 h3
    cases hbc : Ms.less b c
    · clear h4 hbc
      generalize Ms.less a c = ac at *
      go_wp2_with (first
        | (at_builtin; refine wpList_copy _ (.tmp 68) (.tmp 69) rfl rfl w6.heap.size w6.heap.size rfl HOWN.out (by simp) pa a ca rfl hp0 (by omega) (HCEL.out _ (H6.out.alloc H6.out.size _)) ?_; intro p7 c7 w7 ho7 hg7)
        | (at_builtin; refine wpList_append_own_at _ rfl (.tmp 70) (.tmp 71) 22 rfl w6.heap.size 3 i0 _ 1 8 Try.underlying22 hi' hz0 hz1 hz2 rfl (by decide) (.slice p7 a.length c7) a.length (a.map (Value.int .i64)) rfl (ho7.alloc _) ⟨w7.heap.size, 0, none⟩ 1 1 [.int .i64 7] rfl rfl (cell_one_new _ _ _) (ints_oneCell .i64 [7]) (by unfold maxLen; omega) (by omega) (by have := hg7.size; simp at this ⊢; omega) ?_; intro v8 w8 ho8 hg8 _ _; have hB8 : Below w.heap.size w w8 := (((H6.out.alloc H6.out.size _).grown hg7 (by simp; have := H6.out.size; omega) (fun k e => by simp at e; have := H6.out.size; omega)).alloc (by have := hg7.size; have := H6.out.size; simp at *; omega) _ |>.grown hg8 (by have := hg7.size; have := H6.out.size; simp at *; omega) (fun k e => by have := (ho7.lt k e).1; have := H6.out.size; omega)); obtain ⟨p8, c8, hv8, hL8⟩ := KEND.out w8 v8 hB8 ho8; subst hv8))
      have HB8 := show Hid (Below w.heap.size w w8) from hB8
      refine Calls.mono hL8 ?_
      clear hL8 ho7 hg7 ho8 hg8 hB8
      rintro e w9 ⟨rfl, hb9⟩
      have HB9 := show Hid (Below w.heap.size w w9) from HB8.out.trans (hb9.mono HB8.out.size)
      clear hb9 HB8
      go_wp2_with fail
      refine (KH.out _).mono ?_
      rintro e w10 ⟨rfl, hb10⟩
      have HB10 := show Hid (Below w.heap.size w w10) from HB9.out.trans (hb10.mono HB9.out.size)
      clear hb10 HB9
      go_wp2_with fail
      go_ret
      exact ⟨rfl, HB10.out⟩
    · have hac := h4 hbc
      rw [hac]
      clear h4 hbc hac
      go_wp2_with (first
        | (at_builtin; refine wpList_copy _ (.tmp 68) (.tmp 69) rfl rfl w6.heap.size w6.heap.size rfl HOWN.out (by simp) pa a ca rfl hp0 (by omega) (HCEL.out _ (H6.out.alloc H6.out.size _)) ?_; intro p7 c7 w7 ho7 hg7)
        | (at_builtin; refine wpList_append_own_at _ rfl (.tmp 70) (.tmp 71) 22 rfl w6.heap.size 3 i0 _ 1 8 Try.underlying22 hi' hz0 hz1 hz2 rfl (by decide) (.slice p7 a.length c7) a.length (a.map (Value.int .i64)) rfl (ho7.alloc _) ⟨w7.heap.size, 0, none⟩ 1 1 [.int .i64 7] rfl rfl (cell_one_new _ _ _) (ints_oneCell .i64 [7]) (by unfold maxLen; omega) (by omega) (by have := hg7.size; simp at this ⊢; omega) ?_; intro v8 w8 ho8 hg8 _ _; have hB8 : Below w.heap.size w w8 := (((H6.out.alloc H6.out.size _).grown hg7 (by simp; have := H6.out.size; omega) (fun k e => by simp at e; have := H6.out.size; omega)).alloc (by have := hg7.size; have := H6.out.size; simp at *; omega) _ |>.grown hg8 (by have := hg7.size; have := H6.out.size; simp at *; omega) (fun k e => by have := (ho7.lt k e).1; have := H6.out.size; omega)); obtain ⟨p8, c8, hv8, hL8⟩ := KEND.out w8 v8 hB8 ho8; subst hv8))
      have HB8 := show Hid (Below w.heap.size w w8) from hB8
      refine Calls.mono hL8 ?_
      clear hL8 ho7 hg7 ho8 hg8 hB8
      rintro e w9 ⟨rfl, hb9⟩
      have HB9 := show Hid (Below w.heap.size w w9) from HB8.out.trans (hb9.mono HB8.out.size)
      clear hb9 HB8
      go_wp2_with fail
      refine (KH.out _).mono ?_
      rintro e w10 ⟨rfl, hb10⟩
      have HB10 := show Hid (Below w.heap.size w w10) from HB9.out.trans (hb10.mono HB9.out.size)
      clear hb10 HB9
      go_wp2_with fail
      go_ret
      exact ⟨rfl, HB10.out⟩
  · rw [h1, h2, h3]
    clear h1 h2 h3
    generalize Ms.less b c = bc at *
    generalize Ms.less a c = ac at *
    go_wp2_with (first
      | (at_builtin; refine wpList_copy _ (.tmp 68) (.tmp 69) rfl rfl w6.heap.size w6.heap.size rfl HOWN.out (by simp) pa a ca rfl hp0 (by omega) (HCEL.out _ (H6.out.alloc H6.out.size _)) ?_; intro p7 c7 w7 ho7 hg7)
      | (at_builtin; refine wpList_append_own_at _ rfl (.tmp 70) (.tmp 71) 22 rfl w6.heap.size 3 i0 _ 1 8 Try.underlying22 hi' hz0 hz1 hz2 rfl (by decide) (.slice p7 a.length c7) a.length (a.map (Value.int .i64)) rfl (ho7.alloc _) ⟨w7.heap.size, 0, none⟩ 1 1 [.int .i64 7] rfl rfl (cell_one_new _ _ _) (ints_oneCell .i64 [7]) (by unfold maxLen; omega) (by omega) (by have := hg7.size; simp at this ⊢; omega) ?_; intro v8 w8 ho8 hg8 _ _; have hB8 : Below w.heap.size w w8 := (((H6.out.alloc H6.out.size _).grown hg7 (by simp; have := H6.out.size; omega) (fun k e => by simp at e; have := H6.out.size; omega)).alloc (by have := hg7.size; have := H6.out.size; simp at *; omega) _ |>.grown hg8 (by have := hg7.size; have := H6.out.size; simp at *; omega) (fun k e => by have := (ho7.lt k e).1; have := H6.out.size; omega)); obtain ⟨p8, c8, hv8, hL8⟩ := KEND.out w8 v8 hB8 ho8; subst hv8))
    have HB8 := show Hid (Below w.heap.size w w8) from hB8
    refine Calls.mono hL8 ?_
    clear hL8 ho7 hg7 ho8 hg8 hB8
    rintro e w9 ⟨rfl, hb9⟩
    have HB9 := show Hid (Below w.heap.size w w9) from HB8.out.trans (hb9.mono HB8.out.size)
    clear hb9 HB8
    go_wp2_with fail
    refine (KH.out _).mono ?_
    rintro e w10 ⟨rfl, hb10⟩
    have HB10 := show Hid (Below w.heap.size w w10) from HB9.out.trans (hb10.mono HB9.out.size)
    clear hb10 HB9
    go_wp2_with fail
    go_ret
    exact ⟨rfl, HB10.out⟩
end Go.Proofs.Ythdcppkohalkmaa
