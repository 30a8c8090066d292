/-
  The document's call Below: for every number. No condition.
-/
import Derived.Test.YthfedlodikbdgaaRTab
namespace Go.Proofs.Ythfedlodikbdgaa
open Go.RowKit Go.Maps
open Fm (Nd)

theorem upto_ext {f g : Nat → Bool} {k : Nat} (h : ∀ j, j < k → f j = g j) : upto f k = upto g k := by
  unfold upto
  apply List.filter_congr
  intro x hx
  exact h x (List.mem_range.1 hx)
set_option maxRecDepth 100000 in
set_option maxHeartbeats 4000000 in
theorem rbelow_any (w : World) {c : Nat} {u : Value} {t : List Nd} (h : Tr w c u t) (id : Int) :
    Calls Try.prog 41 #[.pointer (some ⟨c, 0, none⟩), .int .i64 id] w fun e w' => ∃ v', e = .returned (.tuple #[v', .int .i64 (belowR t id).2]) ∧ IsI w' w.heap.size v' (belowR t id).1 ∧ Below w.heap.size w w' := by
  have KH := show Hid (Calls Try.prog 24 #[.pointer (some ⟨c, 0, none⟩), .int .i64 id] w fun e w'' => e = .returned (.bool (Fm.has t id)) ∧ w'' = w) from rhas_any w h id
  have HE := show Hid (belowR t id = if Fm.has t id then (Fm.below t id.toNat, 0) else ([], 31)) from rfl
  generalize belowR t id = r at *
  cases hh : Fm.has t id
  · have hr := HE.out
    rw [hh] at hr KH
    simp only [Bool.false_eq_true, if_false] at hr
    subst hr
    clear h
    go_enter Try.func41, Try.ntmps41
    go_wp2_with fail
    refine KH.out.mono ?_
    rintro e w1 ⟨rfl, hw1⟩
    subst w1
    go_wp2_with fail
    go_ret2
    exact ⟨_, rfl, isI_nil _ _, Below.refl _ _⟩
  · have hr := HE.out
    rw [hh] at hr KH
    simp only [if_true] at hr
    obtain ⟨hi0, hi1⟩ := Fm.has_iff.1 hh
    obtain ⟨i, rfl⟩ : ∃ i : Nat, id = i := ⟨id.toNat, by omega⟩
    have hi : i < t.length := by omega
    have hlen := h.ok.len
    simp only [Int.toNat_natCast] at hr
    have hbe : Fm.below t i = upto (marks t i) (i + 1) := rfl
    rw [hbe] at hr
    have HM := show Hid (Fm.mark t (i + 1) (Fm.upd (fun _ => false) i) = marks t i) from rfl
    generalize marks t i = mk at *
    have HRR := show Hid (r = (upto mk (i + 1), 0)) from hr
    obtain ⟨i0, hi', hz0, hz1, hz2⟩ := info_parts info_int
    have hmk := fun w => run_make_row' (P := Try.prog) 115 4 (.bool false) 1 Try.underlying115 info_bool rfl .i64 .i64 t.length (by omega) (by omega) w
    have HB0 := show Hid (Bs (w.alloc (.cells (madeCells #[.bool false] t.length) 4)) w.heap.size t.length (fun _ => false)) from made_bs w t.length
    have b0 := HB0.out.cell (j := i) hi
    have b1 := HB0.out.fr
    have c0 := h.c0
    obtain ⟨p, cp, hv, hc1, hc2, hat⟩ := h.row.isR.at
    obtain ⟨rg, ro, rfl, hat2⟩ := hat (by omega)
    subst hv
    have HR := show Hid (∀ w', Below w.heap.size w w' → w'.cell? ⟨c, 0, none⟩ = some (.slice (some ⟨rg, ro, none⟩) t.length cp) ∧ ∀ k (hk : k < t.length), At4 w' rg (ro + k * 4) t[k]) from fun w' hb => ⟨(h.later hb).c0, hat2 w' hb⟩
    have HP := show Hid (∀ k (hk : k < t.length), Fm.jn t[k].k = true → (0 ≤ t[k].l ∧ t[k].l < k) ∧ 0 ≤ t[k].r ∧ t[k].r < k) from fun k hk hj => Fm.ok_parts h.ok hk hj
    have HKD := show Hid (∀ k (hk : k < t.length), (Fm.jn t[k].k = true ∧ (t[k].k != 1) = true ∧ (t[k].k != 2) = true) ∨ (Fm.jn t[k].k = false ∧ ((t[k].k != 1) = false ∨ ((t[k].k != 1) = true ∧ (t[k].k != 2) = false)))) from fun k hk => by
      rcases Fm.ok_kind h.ok hk with e | e | e
      · rw [e]; exact Or.inr ⟨rfl, Or.inl rfl⟩
      · rw [e]; exact Or.inr ⟨rfl, Or.inr ⟨rfl, rfl⟩⟩
      · refine Or.inl ⟨e, ?_⟩
        simp only [Fm.jn, Bool.or_eq_true, beq_iff_eq] at e
        rcases e with (e | e) | e <;> rw [e] <;> exact ⟨rfl, rfl⟩
    clear h hr hbe hat hat2
    go_enter Try.func41, Try.ntmps41
    go_wp2_with fail
    refine KH.out.mono ?_
    rintro e w1 ⟨rfl, hw1⟩
    subst w1
    go_wp2_with fail
    go_loopw [8] (fun v wr => ∃ (k : Nat) (f : Nat → Bool), k ≤ i + 1 ∧ v = .int .i64 ((k : Int) - 1) ∧ Hid (Fm.mark t k f = mk) ∧ Hid (Bs wr w.heap.size t.length f) ∧ Hid (Below w.heap.size w wr)) (fun v _ => (intOf v + 1).toNat)
    case atStart => exact ⟨i + 1, Fm.upd (fun _ => false) i, by omega, by go_num, HM, made_bs1 w t.length i, below_alloc _ _⟩
    case round =>
      obtain ⟨k, f, hk, rfl, HK, HB, HBl⟩ := hrel
      clear HM HB0 b0 b1 hmk c0
      by_cases hk0 : k = 0
      · subst hk0
        have HEf := show Hid (f = mk) from HK.out
        have HB' := show Hid (Bs wr w.heap.size t.length mk) from HEf.out ▸ HB.out
        have HBl' := show Hid (Below w.heap.size w wr) from HBl.out
        clear HB HBl HK HEf
        rw [show ((0 : Nat) : Int) - 1 = -1 from rfl]
        go_wp2_with fail
        go_loopw [7, 9] (fun o v w5 => ∃ k : Nat, k ≤ i + 1 ∧ v = .int .i64 (k : Int) ∧ Hid (IsI w5 w.heap.size o (upto mk k)) ∧ Hid (Bs w5 w.heap.size t.length mk) ∧ Hid (Below w.heap.size w w5)) (fun _ v _ => i + 1 - (intOf v).toNat)
        case atStart => exact ⟨0, by omega, rfl, isI_nil _ _, HB', HBl'⟩
        case round =>
          obtain ⟨k, hk2, rfl, HI, HB, HBl⟩ := hrel
          clear HB' HBl'
          by_cases hlt : k < i + 1
          · have hki : (k : Int) ≤ (i : Int) := by omega
            have hkt : (k : Int) < (t.length : Int) := by omega
            have hbk := HB.out.cell (j := k) (by omega)
            have HU := show Hid _ from upto_succ mk k
            have hul := upto_len mk k
            cases hmk : mk k
            · rw [hmk] at hbk
              have hu := HU.out
              rw [hmk] at hu
              simp only [Bool.false_eq_true, if_false] at hu
              have HU2 := show Hid (upto mk (k + 1) = upto mk k) from hu
              clear hu HU
              go_wp2_with fail
              go_roundw
              case rel => exact ⟨k + 1, by omega, by go_num, (by rw [HU2.out]; exact HI.out), HB, HBl⟩
              case measure => first | (simp [intOf]; done) | (simp [intOf]; omega)
            · rw [hmk] at hbk
              have hu := HU.out
              rw [hmk] at hu
              simp only [if_true] at hu
              have HU2 := show Hid (upto mk (k + 1) = upto mk k ++ [k]) from hu
              obtain ⟨xs, hxs⟩ : ∃ xs, xs = ints (upto mk k) := ⟨_, rfl⟩
              obtain ⟨n, hn⟩ : ∃ n, n = (upto mk k).length := ⟨_, rfl⟩
              have HOW := show Hid (wr.ownsRow w.heap.size 3 1 u7 n xs) from by rw [hxs, hn]; exact HI.out
              have HXN := show Hid (xs = ints (upto mk k) ∧ n = (upto mk k).length) from ⟨hxs, hn⟩
              rw [← hn] at hul
              have hgs : w.heap.size < wr.heap.size := lt_of_block HB.out
              clear hu HU hxs hn
              go_wp2_with (at_builtin; refine wpList_append_own_at _ rfl (.tmp 82) (.tmp 84) 77 rfl w.heap.size 3 i0 _ 1 8 Try.underlying77 hi' hz0 hz1 hz2 rfl (by decide) u7 n xs rfl (HOW.out.alloc _) ⟨wr.heap.size, 0, none⟩ 1 1 [.int .i64 (k : Int)] rfl rfl (cell_one_new _ _ _) (ints_oneCell .i64 [(k : Int)]) (by unfold maxLen; omega) (by omega) (by simp; omega) ?_)
              intro v' w2 hown hgr hnil hat
              have hne : u7.ownBlock ≠ some w.heap.size := fun e => by
                obtain ⟨_, _, cur, hc⟩ := HI.out.own_lt _ e
                have h2 := HB.out
                unfold Bs at h2
                rw [h2] at hc
                simp at hc
              have HB2 := show Hid (Bs w2 w.heap.size t.length mk) from (hgr.block _ (by simp; omega) (fun e => hne e.symm)).trans (HB.out.alloc _)
              have HBl2 := show Hid (Below w.heap.size w w2) from (HBl.out.alloc HBl.out.size _).grown hgr (by simp; omega) (fun j e => (HI.out.own_lt j e).1)
              have HI2 := show Hid (IsI w2 w.heap.size v' (upto mk (k + 1))) from by
                unfold IsI
                rw [HU2.out, ints_snoc, List.length_append, List.length_singleton, ← HXN.out.1, ← HXN.out.2]
                exact hown
              clear hown hgr hnil hat HI HB HBl HOW
              go_wp2_with fail
              go_roundw
              case rel => exact ⟨k + 1, by omega, by go_num, HI2, HB2, HBl2⟩
              case measure => first | (simp [intOf]; done) | (simp [intOf]; omega)
          · have hke : k = i + 1 := by omega
            subst hke
            have hki : ¬ ((i + 1 : Nat) : Int) ≤ (i : Int) := by omega
            have hr := HRR.out
            subst hr
            go_wp2_with fail
            go_ret2
            exact ⟨_, rfl, HI.out, HBl.out⟩
      · obtain ⟨j, rfl⟩ : ∃ j, k = j + 1 := ⟨k - 1, by omega⟩
        have hj : j < t.length := by omega
        have e1 : ((j + 1 : Nat) : Int) - 1 = (j : Int) := by omega
        rw [e1]
        clear e1 hk0
        have hst := HK.out
        rw [mark_step] at hst
        have hg : t.getD j Fm.z = t[j] := by rw [List.getD_eq_getElem?_getD, List.getElem?_eq_getElem hj]; rfl
        rw [hg] at hst
        have hrow := HR.out wr HBl.out
        have c0 := hrow.1
        have hA := hrow.2 j hj
        have HPJ := show Hid (Fm.jn t[j].k = true → (0 ≤ t[j].l ∧ t[j].l < j) ∧ 0 ≤ t[j].r ∧ t[j].r < j) from HP.out j hj
        have HKJ := show Hid _ from HKD.out j hj
        generalize t[j] = nd at *
        have HS := show Hid (Fm.mark t j (if f j && Fm.jn nd.k then Fm.upd (Fm.upd f nd.l.toNat) nd.r.toNat else f) = mk) from hst
        obtain ⟨nk, ns, nl, nr⟩ := nd
        have a0 := hA.c0; have a1 := hA.c1; have a2 := hA.c2; have a3 := hA.c3
        have hkj := HKJ.out
        simp only at a0 a1 a2 a3 HS HPJ hkj
        have hji : (j : Int) < (t.length : Int) := by omega
        have hbj := HB.out.cell (j := j) hj
        clear hst hg hrow hA HK HKJ
        cases hfj : f j
        · have HS2 := HS.out
          rw [hfj] at HS2 hbj
          simp only [Bool.false_and, Bool.false_eq_true, if_false] at HS2
          have HS3 := show Hid (Fm.mark t j f = mk) from HS2
          clear HS HS2 hkj
          go_wp2_with fail
          go_roundw
          case rel => exact ⟨j, f, by omega, by go_num, HS3, HB, HBl⟩
          case measure => first | (simp [intOf]; done) | (simp [intOf]; omega)
        · have HS2 := HS.out
          rw [hfj] at HS2 hbj
          simp only [Bool.true_and] at HS2
          have HS3 := show Hid (Fm.mark t j (if Fm.jn nk = true then Fm.upd (Fm.upd f nl.toNat) nr.toNat else f) = mk) from HS2
          clear HS HS2
          rcases hkj with ⟨hjn, hk1, hk2⟩ | ⟨hjn, hk1 | ⟨hk1, hk2⟩⟩
          · have HS4 := HS3.out
            rw [hjn] at HS4
            simp only [if_true] at HS4
            obtain ⟨⟨hl0, hl1⟩, hr0, hr1⟩ := HPJ.out hjn
            obtain ⟨x, rfl⟩ : ∃ x : Nat, nl = x := ⟨nl.toNat, by omega⟩
            obtain ⟨y, rfl⟩ : ∃ y : Nat, nr = y := ⟨nr.toNat, by omega⟩
            simp only [Int.toNat_natCast] at HS4
            have HS5 := show Hid (Fm.mark t j (Fm.upd (Fm.upd f x) y) = mk) from HS4
            have hx1 : (x : Int) < (t.length : Int) := by omega
            have hy1 : (y : Int) < (t.length : Int) := by omega
            have HB2 := show Hid (Bs (wr.setCell ⟨w.heap.size, x, none⟩ (.bool true)) w.heap.size t.length (Fm.upd f x)) from HB.out.set x
            have HBl2 := show Hid (Below w.heap.size w (wr.setCell ⟨w.heap.size, x, none⟩ (.bool true))) from HBl.out.setCell (Nat.le_refl _) _
            have bx := HB.out.cell (j := x) (by omega)
            have by0 := HB.out.cell (j := y) (by omega)
            have bf := HB.out.fr
            have hrgne : rg ≠ w.heap.size := fun e => by
              have h1 := World.block_lt_of_cell? w _ (HR.out w (Below.refl _ _)).1
              have h2 := (HR.out w (Below.refl _ _)).2 j hj
              have h3 := World.block_lt_of_cell? w _ h2.c0
              simp at h3
              omega
            have hcne : c ≠ w.heap.size := fun e => by
              have h1 := World.block_lt_of_cell? w _ (HR.out w (Below.refl _ _)).1
              simp at h1
              omega
            clear HS3 HS4 HPJ
            by_cases hxy : x = y
            · subst hxy
              go_wp2_with fail
              go_roundw
              case rel => exact ⟨j, _, by omega, by go_num, HS5, HB2.out.set x, HBl2.out.setCell (Nat.le_refl _) _⟩
              case measure => first | (simp [intOf]; done) | (simp [intOf]; omega)
            · have hyx : ¬ y = x := fun e => hxy e.symm
              go_wp2_with fail
              go_roundw
              case rel => exact ⟨j, _, by omega, by go_num, HS5, HB2.out.set y, HBl2.out.setCell (Nat.le_refl _) _⟩
              case measure => first | (simp [intOf]; done) | (simp [intOf]; omega)
          all_goals
            have HS4 := HS3.out
            rw [hjn] at HS4
            simp only [Bool.false_eq_true, if_false] at HS4
            have HS5 := show Hid (Fm.mark t j f = mk) from HS4
            clear HS3 HS4
            go_wp2_with fail
            go_roundw
            case rel => exact ⟨j, f, by omega, by go_num, HS5, HB, HBl⟩
            case measure => first | (simp [intOf]; done) | (simp [intOf]; omega)
end Go.Proofs.Ythfedlodikbdgaa
