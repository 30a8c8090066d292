/-
  The document's Bounded, walked. No condition.
-/
import Derived.Test.YtoedidbbjnnpnaaQMHead
import Derived.Test.YtoedidbbjnnpnaaTH21
import Derived.Test.YtoedidbbjnnpnaaTH9
import Derived.Test.YtoedidbbjnnpnaaQWFine
namespace Go.Proofs.Ytoedidbbjnnpnaa.Wm
open Go.RowKit Go.Maps
open Wd (Md Rc Ed upd vl allW inW)
set_option linter.unusedSimpArgs false
set_option linter.unusedVariables false

set_option maxRecDepth 100000 in
set_option maxHeartbeats 8000000 in
theorem rbounded_any (w : World) {L : Nat} {um vm un vn fv : Value} {m n : Md} {fl : List Int} (hm : IsM w L um vm m) (hmf : Fit m) (hn : IsM w L un vn n) (hnf : Fit n) (hf : IsI w L fv fl) (hL : L ≤ w.heap.size) (hfl : fl.length ≤ 140737488351232) (hfx : ∀ x ∈ fl, -9223372036854775808 ≤ x ∧ x ≤ 9223372036854775807) :
    Calls Try.prog 26 #[.agg #[um, vm], .agg #[un, vn], fv] w fun e w' => ∃ (r : Bool) (er : Int), e = .returned (.tuple #[.bool r, .int .i64 er]) ∧ BdR m n fl r er ∧ Below w.heap.size w w' := by
  obtain ⟨M, hO⟩ := isO_ex m.up
  obtain ⟨P, hP⟩ := isO_ex n.up
  obtain ⟨pm, cm, rfl⟩ := IsS.form hm.up
  obtain ⟨pvm, cvm, rfl⟩ := IsS.form hm.val
  obtain ⟨pn, cn, rfl⟩ := IsS.form hn.up
  obtain ⟨pvn, cvn, rfl⟩ := IsS.form hn.val
  obtain ⟨pf, cf, rfl⟩ := IsS.form hf
  have HF := show Hid (IsO m.up M ∧ IsO n.up P ∧ Fit m ∧ Fit n) from ⟨hO, hP, hmf, hnf⟩
  have HFX := show Hid (∀ x ∈ fl, -9223372036854775808 ≤ x ∧ x ≤ 9223372036854775807) from hfx
  have H0 := hidL ((((lat_bel (Below.refl w.heap.size w) (Nat.le_refl _)).and (lat_isM hm hL)).and (lat_isM hn hL)).and (lat_isI hf hL))
  clear hm hmf hn hnf hf hL hfx hO hP
  go_enter Try.func26, Try.ntmps26
  go_wp2_with (refine wpList_box 25 _ rfl _ rfl rfl ?_)
  intro w1 bM hn
  have H1 := hidL ((H0.out.next (hn.bel)).and (lat_box hn.blk))
  clear H0 hn
  go_wp2_with (refine wpList_box 25 _ rfl _ rfl rfl ?_)
  intro w2 bN hn
  have H2 := hidL ((H1.out.next (hn.bel)).and (lat_box hn.blk))
  clear H1 hn
  have K := show Hid _ from right_any w2 HF.out.1 (H2.out.now.1.1.1.1.2) HF.out.2.2.1 (Nat.le_refl _)
  have hx0 := show Hid _ from (H2.out.now.1.2)
  go_wp2_with (first | refine wpList_ldw 25 _ rfl bM rfl _ _ hx0.out rfl Try.underlying25 sizeM rfl ?_)
  clear hx0
  refine Calls.mono K.out ?_
  rintro e w3 ⟨hR, hb⟩
  have H3 := hidL (H2.out.next (hb))
  clear H2 hb K
  rcases hR with ⟨O, Ra, rfl, hob, hG⟩ | ⟨rfl, hG⟩
  · skip
    have HGm := show Hid (Wd.Good m) from hG
    have HH := hidL (H3.out.and (show Lat w3 fun W => Oc W O m.up.length Ra M from lat_oc hob))
    clear H3 hob hG
    have H3 := HH
    clear HH
    have K := show Hid _ from right_any w3 HF.out.2.1 (H3.out.now.1.1.1.1.2) HF.out.2.2.2 (Nat.le_refl _)
    have hx0 := show Hid _ from (H3.out.now.1.2)
    go_wp2_with (first | refine wpList_ldw 25 _ rfl bN rfl _ _ hx0.out rfl Try.underlying25 sizeM rfl ?_)
    clear hx0
    refine Calls.mono K.out ?_
    rintro e w4 ⟨hR, hb⟩
    have H4 := hidL (H3.out.next (hb))
    clear H3 hb K
    rcases hR with ⟨Q, Rb, rfl, hob, hG⟩ | ⟨rfl, hG⟩
    · skip
      have HG := show Hid (Wd.Good m ∧ Wd.Good n) from ⟨HGm.out, hG⟩
      have HH := hidL (H4.out.and (show Lat w4 fun W => Oc W Q n.up.length Rb P from lat_oc hob))
      clear H4 hob hG HGm
      have H4 := HH
      clear HH
      have hm5 : 1 ≤ m.up.length ∧ m.up.length ≤ 512 := ⟨(Wd.shaped_and HG.out.1.shape).1, (Wd.shaped_and HG.out.1.shape).2.1⟩
      have hn5 : n.up.length ≤ 512 := (Wd.shaped_and HG.out.2.shape).2.1
      have HVL := show Hid (m.val.length = m.up.length ∧ n.val.length = n.up.length) from ⟨(Wd.shaped_and HG.out.1.shape).2.2.1, (Wd.shaped_and HG.out.2.shape).2.2.1⟩
      have HB0 := show Hid (∀ W, Below w4.heap.size w4 W → Below w.heap.size w W) from fun W hW => (H4.out W hW).1.1.1.1.1.1.1
      by_cases hlen : fl.length = m.up.length
      · skip
        have hflI : ((fl.length : Int) != (m.up.length : Int)) = false := by simp [hlen]
        have HLN := show Hid (fl.length = m.up.length) from hlen
        have HFC := show Hid (∃ bf of, pf = some ⟨bf, of, none⟩ ∧ ∀ W, Below w4.heap.size w4 W → ∀ (j : Nat) (hj : j < fl.length), W.cell? ⟨bf, of + j, none⟩ = some (.int .i64 fl[j])) from by
          obtain ⟨e0, h0⟩ := IsS.at (show IsS w4 w4.heap.size isI (.slice pf fl.length cf) fl from (H4.out.now.1.1.1.1.2))
          obtain ⟨bf, of, hbf, e1, h1⟩ := h0 (by omega)
          refine ⟨bf, of, e1, fun W hW j hj => ?_⟩
          obtain ⟨x, hx, rfl⟩ := h1 j hj
          exact (World.cell?_of_block (a := ⟨bf, of + j, none⟩) (hW.block bf hbf)).trans hx
        obtain ⟨bf, of, rfl, hfc⟩ := HFC.out
        have HFC := show Hid (∀ W, Below w4.heap.size w4 W → ∀ (j : Nat) (hj : j < fl.length), W.cell? ⟨bf, of + j, none⟩ = some (.int .i64 fl[j])) from hfc
        clear hfc hlen
        have HA0 := show Hid (Below w4.heap.size w4 w4) from Below.refl _ _
        go_wp2_with fail
        go_loopw [12] (fun i wr => ∃ k : Nat, k ≤ fl.length ∧ i = .int .i64 (k : Int) ∧ Hid (Below w4.heap.size w4 wr ∧ ∀ (j : Nat) (hj : j < fl.length), j < k → inW n.up.length fl[j] = true)) (fun i _ => fl.length - (intOf i).toNat)
        case atStart => exact ⟨0, Nat.zero_le _, rfl, HA0.out, fun j _ h => absurd h (Nat.not_lt_zero _)⟩
        case round =>
          clear HA0
          obtain ⟨k, hk, rfl, HI⟩ := hrel
          by_cases hlt : k < fl.length
          · skip
            have hki : (k : Int) < (fl.length : Int) := by omega
            have hcc := HFC.out wr HI.out.1 k hlt
            have HXB := show Hid (-9223372036854775808 ≤ fl[k] ∧ fl[k] ≤ 9223372036854775807) from HFX.out _ (List.getElem_mem hlt)
            have HXW := show Hid (inW n.up.length fl[k] = true ↔ 0 ≤ fl[k] ∧ fl[k] < n.up.length) from inW_ok
            have HXN := show Hid (inW n.up.length fl[k] = false → ∃ k, ∃ hk : k < fl.length, inW n.up.length fl[k] = false) from fun h => ⟨k, hlt, h⟩
            have HXY := show Hid (inW n.up.length fl[k] = true → ∀ (j : Nat) (hj : j < fl.length), j < k + 1 → inW n.up.length fl[j] = true) from fun h j hj hjk => by
              by_cases e : j = k
              · subst e; exact h
              · exact HI.out.2 j hj (by omega)
            have HBL := show Hid (Below w4.heap.size w4 wr) from HI.out.1
            clear HI HFC
            generalize fl[k] = x at *
            have hxb := HXB.out
            by_cases h0 : x < 0
            · skip
              have HB := show Hid (Below w.heap.size w wr) from HB0.out _ (HBL.out)
              have HN := show Hid (mapOk m n fl = false) from mapOk_no (Or.inr (HXN.out (by cases hq : inW n.up.length x; rfl; have := HXW.out.1 hq; omega)))
              clear HXY HXN HXW HXB HBL
              go_wp2_with fail
              go_ret2
              first | exact ⟨false, 190, rfl, Or.inr (Or.inl ⟨HG.out, HN.out, rfl, rfl⟩), HB.out⟩ | exact Or.inl ⟨190, rfl, Or.inr (Or.inl ⟨HG.out, HN.out, rfl, rfl⟩), HB.out⟩
            · skip
              by_cases h1 : (n.up.length : Int) ≤ x
              · skip
                have HB := show Hid (Below w.heap.size w wr) from HB0.out _ (HBL.out)
                have HN := show Hid (mapOk m n fl = false) from mapOk_no (Or.inr (HXN.out (by cases hq : inW n.up.length x; rfl; have := HXW.out.1 hq; omega)))
                clear HXY HXN HXW HXB HBL
                go_wp2_with fail
                go_ret2
                first | exact ⟨false, 190, rfl, Or.inr (Or.inl ⟨HG.out, HN.out, rfl, rfl⟩), HB.out⟩ | exact Or.inl ⟨190, rfl, Or.inr (Or.inl ⟨HG.out, HN.out, rfl, rfl⟩), HB.out⟩
              · skip
                have HY := show Hid _ from HXY.out (HXW.out.2 ⟨by omega, by omega⟩)
                clear HXY HXN HXW HXB
                go_wp2_with fail
                go_roundw
                case rel => exact ⟨k + 1, by omega, val_int (by omega), HBL.out, HY.out⟩
                case measure => (simp only [intOf]; omega)
          · skip
            obtain rfl : k = fl.length := by omega
            have hki : ¬ (fl.length : Int) < (fl.length : Int) := by omega
            have HOK := show Hid (mapOk m n fl = true) from mapOk_yes HLN.out fun j hj => HI.out.2 j hj hj
            have HFB := show Hid (∀ j, j < m.up.length → numF fl j < n.up.length ∧ ∀ W, Below w4.heap.size w4 W → W.cell? ⟨bf, of + j, none⟩ = some (.int .i64 (numF fl j : Int))) from fun j hj => by
              have hj' : j < fl.length := by have := HLN.out; omega
              have h1 := inW_ok.1 (HI.out.2 j hj' hj')
              have h2 := numF_at hj'
              refine ⟨by rw [h2]; omega, fun W hW => ?_⟩
              rw [h2, HFC.out W hW j hj', show ((fl[j].toNat : Nat) : Int) = fl[j] by omega]
            have HIF := show Hid ((∀ a, a < m.up.length → RowOk m n M P (numF fl) a) ↔ BndP m n fl) from (bndP_iff HG.out.1 HG.out.2 HF.out.1 HF.out.2.1 fun a ha => (HFB.out a ha).1).symm
            have HBL := show Hid (Below w4.heap.size w4 wr) from HI.out.1
            have HXC := show Hid (∀ W, Below w4.heap.size w4 W → Below w.heap.size w W ∧ Cl W bM #[.slice pm m.up.length cm, .slice pvm m.val.length cvm] 25 ∧ Cl W bN #[.slice pn n.up.length cn, .slice pvn n.val.length cvn] 25 ∧ Oc W O m.up.length Ra M ∧ Oc W Q n.up.length Rb P ∧ IsM W W.heap.size (.slice pm m.up.length cm) (.slice pvm m.val.length cvm) m ∧ IsM W W.heap.size (.slice pn n.up.length cn) (.slice pvn n.val.length cvn) n) from fun W hW => by
              have h := H4.out W hW
              exact ⟨h.1.1.1.1.1.1.1, h.1.1.1.2, h.1.1.2, h.1.2, h.2, h.1.1.1.1.1.1.2, h.1.1.1.1.1.2⟩
            have HMV := show Hid (∀ (j : Nat) (hj : j < m.val.length), ∃ b o q n', pvm = some ⟨b, o, none⟩ ∧ ∀ W, Below w4.heap.size w4 W → W.cell? ⟨b, o + j, none⟩ = some (.slice q m.val[j].length n') ∧ IsN W W.heap.size (.slice q m.val[j].length n') m.val[j]) from fun j hj => by
              obtain ⟨p', c', e0, hr⟩ := (show IsM w4 w4.heap.size _ _ m from (HXC.out w4 (Below.refl _ _)).2.2.2.2.2.1).val.row
              obtain ⟨rfl, _, rfl⟩ := Value.slice.inj e0
              obtain ⟨b, o, q, n', h1, h2, h3, h4⟩ := hr j hj
              exact ⟨b, o, q, n', h1, fun W hW => ⟨(World.cell?_of_block (a := ⟨b, o + j, none⟩) (hW.block b h2)).trans h3, IsS.wide (IsN.keep h4 fun k hk => hW.block k hk) hW.size⟩⟩
            have HNV := show Hid (∀ (j : Nat) (hj : j < n.val.length), ∃ b o q n', pvn = some ⟨b, o, none⟩ ∧ ∀ W, Below w4.heap.size w4 W → W.cell? ⟨b, o + j, none⟩ = some (.slice q n.val[j].length n') ∧ IsN W W.heap.size (.slice q n.val[j].length n') n.val[j]) from fun j hj => by
              obtain ⟨p', c', e0, hr⟩ := (show IsM w4 w4.heap.size _ _ n from (HXC.out w4 (Below.refl _ _)).2.2.2.2.2.2).val.row
              obtain ⟨rfl, _, rfl⟩ := Value.slice.inj e0
              obtain ⟨b, o, q, n', h1, h2, h3, h4⟩ := hr j hj
              exact ⟨b, o, q, n', h1, fun W hW => ⟨(World.cell?_of_block (a := ⟨b, o + j, none⟩) (hW.block b h2)).trans h3, IsS.wide (IsN.keep h4 fun k hk => hW.block k hk) hW.size⟩⟩
            have HNO := show Hid (∀ a, a < m.up.length → ¬ RowOk m n M P (numF fl) a → ¬ BndP m n fl) from fun a ha h hb => h (HIF.out.2 hb a ha)
            clear HI HFC H4 hk hlt
            generalize numF fl = F at *
            go_wp2_with fail
            go_loopw [13, 14, 15, 16, 17] (fun i _ _ _ _ wr => ∃ k : Nat, k ≤ m.up.length ∧ i = .int .i64 (k : Int) ∧ Hid (Below w4.heap.size w4 wr) ∧ Hid (∀ a, a < k → RowOk m n M P F a)) (fun i _ _ _ _ _ => m.up.length - (intOf i).toNat)
            case atStart => exact ⟨0, Nat.zero_le _, rfl, HBL.out, fun a h => absurd h (Nat.not_lt_zero _)⟩
            case round =>
              clear HBL
              obtain ⟨k, hk, rfl, HB1, HI⟩ := hrel
              by_cases hlt : k < m.up.length
              · skip
                obtain ⟨hcn, hcf⟩ := HFB.out k hlt
                have hkv : k < m.val.length := by have := HVL.out.1; omega
                have hcv : F k < n.val.length := by have := HVL.out.2; omega
                obtain ⟨bm, om, qm, nm, rfl, him⟩ := HMV.out k hkv
                obtain ⟨bn, on, qn, nn, rfl, hin⟩ := HNV.out (F k) hcv
                have HE := show Hid (m.val[k] = vl m k ∧ n.val[F k] = vl n (F k)) from ⟨(vl_at hkv).symm, (vl_at hcv).symm⟩
                have HLE := show Hid (m.val[k].length ≤ 140737488351232 ∧ n.val[F k].length ≤ 140737488351232) from ⟨(HF.out.2.2.1.2.2.2 _ (List.getElem_mem hkv)).1, (HF.out.2.2.2.2.2.2 _ (List.getElem_mem hcv)).1⟩
                have HW := show Hid (∀ W, Below wr.heap.size wr W → W.cell? ⟨bM, 1, none⟩ = some (.slice (some ⟨bm, om, none⟩) m.val.length cvm) ∧ W.cell? ⟨bN, 1, none⟩ = some (.slice (some ⟨bn, on, none⟩) n.val.length cvn) ∧ W.cell? ⟨bm, om + k, none⟩ = some (.slice qm m.val[k].length nm) ∧ W.cell? ⟨bn, on + F k, none⟩ = some (.slice qn n.val[F k].length nn) ∧ W.cell? ⟨bf, of + k, none⟩ = some (.int .i64 (F k : Int))) from fun W hW => by
                  have hb := HB1.out.trans (hW.mono HB1.out.size)
                  obtain ⟨x1, x2, x3, x4⟩ := HXC.out W hb
                  exact ⟨x2.cell 1, x3.cell 1, (him W hb).1, (hin W hb).1, hcf W hb⟩
                have KE0 := show Hid (∀ W, Below wr.heap.size wr W → Calls Try.prog 24 #[.slice qm m.val[k].length nm, .slice qn n.val[F k].length nn] W fun e w' => (∃ r : Bool, e = .returned (.bool r) ∧ (r = true ↔ m.val[k] = n.val[F k])) ∧ Below W.heap.size W w') from fun W hW => by
                  have hb := HB1.out.trans (hW.mono HB1.out.size)
                  exact rnames_any W (him W hb).2 (hin W hb).2 HLE.out.1 HLE.out.2
                have hki : (k : Int) < (m.up.length : Int) := by omega
                have hkfi : (k : Int) < (fl.length : Int) := by have := HLN.out; omega
                have hkvi : (k : Int) < (m.val.length : Int) := by omega
                have hcvi : ((F k : Nat) : Int) < (n.val.length : Int) := by omega
                have hcni : ((F k : Nat) : Int) < (n.up.length : Int) := by omega
                clear him hin hcf HLE
                generalize m.val[k] = xm at *
                generalize n.val[F k] = xn at *
                by_cases hv : xm = xn
                · skip
                  have KE := show Hid (∀ W, Below wr.heap.size wr W → Calls Try.prog 24 #[.slice qm xm.length nm, .slice qn xn.length nn] W fun e w' => e = .returned (.bool true) ∧ Below W.heap.size W w') from fun W hW => (KE0.out W hW).mono fun e w' ⟨⟨r, h1, h2⟩, h3⟩ => ⟨by rw [h1, h2.2 hv], h3⟩
                  have HEV := show Hid (vl m k = vl n (F k)) from by
                    show vl m k = vl n (F k)
                    rw [← HE.out.1, ← HE.out.2, hv]
                  clear KE0 hv HE
                  go_wp2_with fail
                  refine wp_region_dep (by kernel_rfl) [some 65, some 66, some 67, some 68, some 69, some 70, some 71, some 72, some 73, some 74, some 75, some 76, some 77, some 78, some 79] [[], [0], [], [1, 2], [3], [], [5], [], [], [7, 8], [9], [6, 10], [11], [4, 12], [13]] [[], [0], [], [1, 0, 2], [3, 1, 0, 2], [], [5], [], [], [7, 8], [9, 7, 8], [6, 5, 10, 9, 7, 8], [11, 6, 5, 10, 9, 7, 8], [4, 3, 1, 0, 2, 12, 11, 6, 5, 10, 9, 7, 8], [13, 4, 3, 1, 0, 2, 12, 11, 6, 5, 10, 9, 7, 8]] (by kernel_rfl) (by decide) (fun i v W => match i with | 0 => v = .pointer (some ⟨bM, 1, none⟩) | 1 => v = .slice (some ⟨bm, om, none⟩) m.val.length cvm | 2 => v = .int .i64 (k : Int) | 3 => v = .pointer (some ⟨bm, om + k, none⟩) | 4 => v = .slice qm xm.length nm | 5 => v = .pointer (some ⟨bN, 1, none⟩) | 6 => v = .slice (some ⟨bn, on, none⟩) n.val.length cvn | 7 => v = .slice (some ⟨bf, of, none⟩) fl.length cf | 8 => v = .int .i64 (k : Int) | 9 => v = .pointer (some ⟨bf, of + k, none⟩) | 10 => v = .int .i64 ((F k : Nat) : Int) | 11 => v = .pointer (some ⟨bn, on + F k, none⟩) | 12 => v = .slice qn xn.length nn | 13 => v = .bool true | 14 => v = .bool false | _ => True) (fun _ W => Below wr.heap.size wr W) (fun _ W W' => Below W.heap.size W W') ?hle ((Below.refl _ _).drew) (allLt 15 ?steps) ?fin
                  case hle =>
                    intro i j v W W' hij hn hl h
                    match j, h with
                    | 0, h => exact h
                    | 1, h => exact h
                    | 2, h => exact h
                    | 3, h => exact h
                    | 4, h => exact h
                    | 5, h => exact h
                    | 6, h => exact h
                    | 7, h => exact h
                    | 8, h => exact h
                    | 9, h => exact h
                    | 10, h => exact h
                    | 11, h => exact h
                    | 12, h => exact h
                    | 13, h => exact h
                    | 14, h => exact h
                    | _ + 15, _ => trivial
                  case steps =>
                    refine ⟨⟨⟨⟨⟨⟨⟨⟨⟨⟨⟨⟨⟨⟨⟨trivial, ?s0⟩, ?s1⟩, ?s2⟩, ?s3⟩, ?s4⟩, ?s5⟩, ?s6⟩, ?s7⟩, ?s8⟩, ?s9⟩, ?s10⟩, ?s11⟩, ?s12⟩, ?s13⟩, ?s14⟩
                    case s0 =>
                      intro done a W hW hd hnd hno hO hN
                      have o3 : a.tmps[3]? = some (.pointer (some ⟨bM, 0, none⟩)) := (hO.out 3 (by decide)).trans rfl
                      exact relVal rfl (.pointer (some ⟨bM, 1, none⟩)) _ rfl (by go_simp) ⟨_, rfl, rfl, hW, Below.refl _ _⟩
                    case s1 =>
                      intro done a W hW hd hnd hno hO hN
                      obtain ⟨v0, g0, r0⟩ := hN 0 (by decide)
                      have g0 : a.tmps[65]? = some v0 := g0
                      have e0 : v0 = .pointer (some ⟨bM, 1, none⟩) := r0
                      rw [e0] at g0
                      have c0 : W.cell? ⟨bM, 1, none⟩ = some (.slice (some ⟨bm, om, none⟩) m.val.length cvm) := (HW.out W hW).1
                      exact relVal rfl (.slice (some ⟨bm, om, none⟩) m.val.length cvm) _ rfl (by go_simp) ⟨_, rfl, rfl, hW, Below.refl _ _⟩
                    case s2 =>
                      intro done a W hW hd hnd hno hO hN
                      have o13 : a.tmps[13]? = some (.int .i64 (k : Int)) := (hO.out 13 (by decide)).trans rfl
                      exact relVal rfl (.int .i64 (k : Int)) _ rfl (by go_simp) ⟨_, rfl, rfl, hW, Below.refl _ _⟩
                    case s3 =>
                      intro done a W hW hd hnd hno hO hN
                      obtain ⟨v1, g1, r1⟩ := hN 1 (by decide)
                      have g1 : a.tmps[66]? = some v1 := g1
                      have e1 : v1 = .slice (some ⟨bm, om, none⟩) m.val.length cvm := r1
                      rw [e1] at g1
                      obtain ⟨v2, g2, r2⟩ := hN 2 (by decide)
                      have g2 : a.tmps[67]? = some v2 := g2
                      have e2 : v2 = .int .i64 (k : Int) := r2
                      rw [e2] at g2
                      exact relVal rfl (.pointer (some ⟨bm, om + k, none⟩)) _ rfl (by go_simp) ⟨_, rfl, rfl, hW, Below.refl _ _⟩
                    case s4 =>
                      intro done a W hW hd hnd hno hO hN
                      obtain ⟨v3, g3, r3⟩ := hN 3 (by decide)
                      have g3 : a.tmps[68]? = some v3 := g3
                      have e3 : v3 = .pointer (some ⟨bm, om + k, none⟩) := r3
                      rw [e3] at g3
                      have c0 : W.cell? ⟨bm, om + k, none⟩ = some (.slice qm xm.length nm) := (HW.out W hW).2.2.1
                      exact relVal rfl (.slice qm xm.length nm) _ rfl (by go_simp) ⟨_, rfl, rfl, hW, Below.refl _ _⟩
                    case s5 =>
                      intro done a W hW hd hnd hno hO hN
                      have o4 : a.tmps[4]? = some (.pointer (some ⟨bN, 0, none⟩)) := (hO.out 4 (by decide)).trans rfl
                      exact relVal rfl (.pointer (some ⟨bN, 1, none⟩)) _ rfl (by go_simp) ⟨_, rfl, rfl, hW, Below.refl _ _⟩
                    case s6 =>
                      intro done a W hW hd hnd hno hO hN
                      obtain ⟨v5, g5, r5⟩ := hN 5 (by decide)
                      have g5 : a.tmps[70]? = some v5 := g5
                      have e5 : v5 = .pointer (some ⟨bN, 1, none⟩) := r5
                      rw [e5] at g5
                      have c0 : W.cell? ⟨bN, 1, none⟩ = some (.slice (some ⟨bn, on, none⟩) n.val.length cvn) := (HW.out W hW).2.1
                      exact relVal rfl (.slice (some ⟨bn, on, none⟩) n.val.length cvn) _ rfl (by go_simp) ⟨_, rfl, rfl, hW, Below.refl _ _⟩
                    case s7 =>
                      intro done a W hW hd hnd hno hO hN
                      have o2 : a.tmps[2]? = some (.slice (some ⟨bf, of, none⟩) fl.length cf) := (hO.out 2 (by decide)).trans rfl
                      exact relVal rfl (.slice (some ⟨bf, of, none⟩) fl.length cf) _ rfl (by go_simp) ⟨_, rfl, rfl, hW, Below.refl _ _⟩
                    case s8 =>
                      intro done a W hW hd hnd hno hO hN
                      have o13 : a.tmps[13]? = some (.int .i64 (k : Int)) := (hO.out 13 (by decide)).trans rfl
                      exact relVal rfl (.int .i64 (k : Int)) _ rfl (by go_simp) ⟨_, rfl, rfl, hW, Below.refl _ _⟩
                    case s9 =>
                      intro done a W hW hd hnd hno hO hN
                      obtain ⟨v7, g7, r7⟩ := hN 7 (by decide)
                      have g7 : a.tmps[72]? = some v7 := g7
                      have e7 : v7 = .slice (some ⟨bf, of, none⟩) fl.length cf := r7
                      rw [e7] at g7
                      obtain ⟨v8, g8, r8⟩ := hN 8 (by decide)
                      have g8 : a.tmps[73]? = some v8 := g8
                      have e8 : v8 = .int .i64 (k : Int) := r8
                      rw [e8] at g8
                      exact relVal rfl (.pointer (some ⟨bf, of + k, none⟩)) _ rfl (by go_simp) ⟨_, rfl, rfl, hW, Below.refl _ _⟩
                    case s10 =>
                      intro done a W hW hd hnd hno hO hN
                      obtain ⟨v9, g9, r9⟩ := hN 9 (by decide)
                      have g9 : a.tmps[74]? = some v9 := g9
                      have e9 : v9 = .pointer (some ⟨bf, of + k, none⟩) := r9
                      rw [e9] at g9
                      have c0 : W.cell? ⟨bf, of + k, none⟩ = some (.int .i64 ((F k : Nat) : Int)) := (HW.out W hW).2.2.2.2
                      exact relVal rfl (.int .i64 ((F k : Nat) : Int)) _ rfl (by go_simp) ⟨_, rfl, rfl, hW, Below.refl _ _⟩
                    case s11 =>
                      intro done a W hW hd hnd hno hO hN
                      obtain ⟨v6, g6, r6⟩ := hN 6 (by decide)
                      have g6 : a.tmps[71]? = some v6 := g6
                      have e6 : v6 = .slice (some ⟨bn, on, none⟩) n.val.length cvn := r6
                      rw [e6] at g6
                      obtain ⟨v10, g10, r10⟩ := hN 10 (by decide)
                      have g10 : a.tmps[75]? = some v10 := g10
                      have e10 : v10 = .int .i64 ((F k : Nat) : Int) := r10
                      rw [e10] at g10
                      exact relVal rfl (.pointer (some ⟨bn, on + F k, none⟩)) _ rfl (by go_simp) ⟨_, rfl, rfl, hW, Below.refl _ _⟩
                    case s12 =>
                      intro done a W hW hd hnd hno hO hN
                      obtain ⟨v11, g11, r11⟩ := hN 11 (by decide)
                      have g11 : a.tmps[76]? = some v11 := g11
                      have e11 : v11 = .pointer (some ⟨bn, on + F k, none⟩) := r11
                      rw [e11] at g11
                      have c0 : W.cell? ⟨bn, on + F k, none⟩ = some (.slice qn xn.length nn) := (HW.out W hW).2.2.2.1
                      exact relVal rfl (.slice qn xn.length nn) _ rfl (by go_simp) ⟨_, rfl, rfl, hW, Below.refl _ _⟩
                    case s13 =>
                      intro done a W hW hd hnd hno hO hN
                      obtain ⟨v4, g4, r4⟩ := hN 4 (by decide)
                      have g4 : a.tmps[69]? = some v4 := g4
                      have e4 : v4 = .slice qm xm.length nm := r4
                      rw [e4] at g4
                      obtain ⟨v12, g12, r12⟩ := hN 12 (by decide)
                      have g12 : a.tmps[77]? = some v12 := g12
                      have e12 : v12 = .slice qn xn.length nn := r12
                      rw [e12] at g12
                      refine relCallF rfl rfl 24 [.tmp 69, .tmp 77] #[34, 34] rfl [.slice qm xm.length nm, .slice qn xn.length nn] (by simp [Act.eval, g4, g12]) (fun _ _ => by kernel_rfl) (Calls.mono (KE.out W hW) ?_)
                      rintro e W2 ⟨rfl, h2⟩
                      exact ⟨_, rfl, _, rfl, rfl, hW.trans (h2.mono hW.size), h2⟩
                    case s14 =>
                      intro done a W hW hd hnd hno hO hN
                      obtain ⟨v13, g13, r13⟩ := hN 13 (by decide)
                      have g13 : a.tmps[78]? = some v13 := g13
                      have e13 : v13 = .bool true := r13
                      rw [e13] at g13
                      exact relVal rfl (.bool false) _ rfl (by go_simp) ⟨_, rfl, rfl, hW, Below.refl _ _⟩
                  case fin =>
                    intro vs done w1 hdone hS hV
                    have e14 : vs 14 = .bool false := hV 14 (by decide)
                    have HB2 := show Hid (Below w4.heap.size w4 w1) from HB1.out.trans (hS.mono HB1.out.size)
                    simp only [putAll, Act.put, List.setIfInBounds_toArray, List.set_cons_zero, List.set_cons_succ, Nat.reduceAdd, e14]
                    clear hV hS e14 KE HB1 HW
                    go_wp2_with fail
                    go_loopw [14] (fun i wr => ∃ b : Nat, b ≤ m.up.length ∧ i = .int .i64 (b : Int) ∧ Hid (Below w4.heap.size w4 wr) ∧ Hid (FwdOk m M P F k b)) (fun i _ => m.up.length - (intOf i).toNat)
                    case atStart => exact ⟨0, Nat.zero_le _, rfl, HB2.out, fun b h => absurd h (Nat.not_lt_zero _)⟩
                    case round =>
                      clear HB2
                      obtain ⟨b, hb, rfl, HB3, HJ⟩ := hrel
                      by_cases hlb : b < m.up.length
                      · skip
                        obtain ⟨hdn, hdf⟩ := HFB.out b hlb
                        have hbi : (b : Int) < (m.up.length : Int) := by omega
                        have hbfi : (b : Int) < (fl.length : Int) := by have := HLN.out; omega
                        have hdni : ((F b : Nat) : Int) < (n.up.length : Int) := by omega
                        have HW := show Hid (∀ W, Below wr.heap.size wr W → W.cell? ⟨O, k, none⟩ = some (.slice (some ⟨Ra k, 0, none⟩) m.up.length m.up.length) ∧ W.cell? ⟨Ra k, b, none⟩ = some (.bool (M k b)) ∧ W.cell? ⟨bf, of + k, none⟩ = some (.int .i64 ((F k : Nat) : Int)) ∧ W.cell? ⟨bf, of + b, none⟩ = some (.int .i64 ((F b : Nat) : Int)) ∧ W.cell? ⟨Q, F k, none⟩ = some (.slice (some ⟨Rb (F k), 0, none⟩) n.up.length n.up.length) ∧ W.cell? ⟨Rb (F k), F b, none⟩ = some (.bool (P (F k) (F b)))) from fun W hW => by
                          have hb := HB3.out.trans (hW.mono HB3.out.size)
                          obtain ⟨x1, x2, x3, x4, x5, _⟩ := HXC.out W hb
                          exact ⟨(x4 k hlt).1, (x4 k hlt).2 b hlb, (HFB.out k hlt).2 W hb, hdf W hb, (x5 _ hcn).1, (x5 _ hcn).2 _ hdn⟩
                        have HNX := show Hid ((M k b = true → P (F k) (F b) = true) → FwdOk m M P F k (b + 1)) from HJ.out.next
                        have HNR := show Hid (M k b = true → P (F k) (F b) = false → ¬ RowOk m n M P F k) from fun h1 h2 h => by
                          have := h.2.1 b hlb h1
                          rw [h2] at this; cases this
                        clear hdf HJ
                        generalize M k b = y at *
                        generalize P (F k) (F b) = z at *
                        cases y
                        · skip
                          go_wp2_with fail
                          refine wp_region_dep (by kernel_rfl) [some 86, some 87, some 88, some 89, some 90, some 91, some 92, some 93, some 94, some 95, some 96, some 97, some 98, some 99, some 100, some 101, some 102, some 103, some 104, some 105, some 106, some 107, some 108] [[], [], [0, 1], [2], [], [3, 4], [5], [6], [7], [7], [7], [9, 10, 7], [11, 7], [8, 12, 7], [13, 7], [7], [7], [15, 16, 7], [17, 7], [14, 18, 7], [19, 7], [20, 7], [7, 21]] [[], [], [0, 1], [2, 0, 1], [], [3, 2, 0, 1, 4], [5, 3, 2, 0, 1, 4], [6, 5, 3, 2, 0, 1, 4], [7, 6, 5, 3, 2, 0, 1, 4], [7, 6, 5, 3, 2, 0, 1, 4], [7, 6, 5, 3, 2, 0, 1, 4], [9, 7, 6, 5, 3, 2, 0, 1, 4, 10], [11, 9, 7, 6, 5, 3, 2, 0, 1, 4, 10], [8, 7, 6, 5, 3, 2, 0, 1, 4, 12, 11, 9, 10], [13, 8, 7, 6, 5, 3, 2, 0, 1, 4, 12, 11, 9, 10], [7, 6, 5, 3, 2, 0, 1, 4], [7, 6, 5, 3, 2, 0, 1, 4], [15, 7, 6, 5, 3, 2, 0, 1, 4, 16], [17, 15, 7, 6, 5, 3, 2, 0, 1, 4, 16], [14, 13, 8, 7, 6, 5, 3, 2, 0, 1, 4, 12, 11, 9, 10, 18, 17, 15, 16], [19, 14, 13, 8, 7, 6, 5, 3, 2, 0, 1, 4, 12, 11, 9, 10, 18, 17, 15, 16], [20, 19, 14, 13, 8, 7, 6, 5, 3, 2, 0, 1, 4, 12, 11, 9, 10, 18, 17, 15, 16], [7, 6, 5, 3, 2, 0, 1, 4, 21, 20, 19, 14, 13, 8, 12, 11, 9, 10, 18, 17, 15, 16]] (by kernel_rfl) (by decide) (fun i v W => match i with | 0 => v = .slice (some ⟨O, 0, none⟩) m.up.length m.up.length | 1 => v = .int .i64 (k : Int) | 2 => v = .pointer (some ⟨O, k, none⟩) | 3 => v = .slice (some ⟨Ra k, 0, none⟩) m.up.length m.up.length | 4 => v = .int .i64 (b : Int) | 5 => v = .pointer (some ⟨Ra k, b, none⟩) | 6 => v = .bool false | 7 => v = .bool false | 8 => v = undef | 9 => v = undef | 10 => v = undef | 11 => v = undef | 12 => v = undef | 13 => v = undef | 14 => v = undef | 15 => v = undef | 16 => v = undef | 17 => v = undef | 18 => v = undef | 19 => v = undef | 20 => v = undef | 21 => v = undef | 22 => v = .bool false | _ => True) (fun _ W => Below wr.heap.size wr W) (fun _ W W' => Below W.heap.size W W') ?hle ((Below.refl _ _).drew) (allLt 23 ?steps) ?fin
                          case hle =>
                            intro i j v W W' hij hn hl h
                            match j, h with
                            | 0, h => exact h
                            | 1, h => exact h
                            | 2, h => exact h
                            | 3, h => exact h
                            | 4, h => exact h
                            | 5, h => exact h
                            | 6, h => exact h
                            | 7, h => exact h
                            | 8, h => exact h
                            | 9, h => exact h
                            | 10, h => exact h
                            | 11, h => exact h
                            | 12, h => exact h
                            | 13, h => exact h
                            | 14, h => exact h
                            | 15, h => exact h
                            | 16, h => exact h
                            | 17, h => exact h
                            | 18, h => exact h
                            | 19, h => exact h
                            | 20, h => exact h
                            | 21, h => exact h
                            | 22, h => exact h
                            | _ + 23, _ => trivial
                          case steps =>
                            refine ⟨⟨⟨⟨⟨⟨⟨⟨⟨⟨⟨⟨⟨⟨⟨⟨⟨⟨⟨⟨⟨⟨⟨trivial, ?s0⟩, ?s1⟩, ?s2⟩, ?s3⟩, ?s4⟩, ?s5⟩, ?s6⟩, ?s7⟩, ?s8⟩, ?s9⟩, ?s10⟩, ?s11⟩, ?s12⟩, ?s13⟩, ?s14⟩, ?s15⟩, ?s16⟩, ?s17⟩, ?s18⟩, ?s19⟩, ?s20⟩, ?s21⟩, ?s22⟩
                            case s0 =>
                              intro done a W hW hd hnd hno hO hN
                              have o8 : a.tmps[8]? = some (.slice (some ⟨O, 0, none⟩) m.up.length m.up.length) := (hO.out 8 (by decide)).trans rfl
                              exact relVal rfl (.slice (some ⟨O, 0, none⟩) m.up.length m.up.length) _ rfl (by go_simp) ⟨_, rfl, rfl, hW, Below.refl _ _⟩
                            case s1 =>
                              intro done a W hW hd hnd hno hO hN
                              have o13 : a.tmps[13]? = some (.int .i64 (k : Int)) := (hO.out 13 (by decide)).trans rfl
                              exact relVal rfl (.int .i64 (k : Int)) _ rfl (by go_simp) ⟨_, rfl, rfl, hW, Below.refl _ _⟩
                            case s2 =>
                              intro done a W hW hd hnd hno hO hN
                              obtain ⟨v0, g0, r0⟩ := hN 0 (by decide)
                              have g0 : a.tmps[86]? = some v0 := g0
                              have e0 : v0 = .slice (some ⟨O, 0, none⟩) m.up.length m.up.length := r0
                              rw [e0] at g0
                              obtain ⟨v1, g1, r1⟩ := hN 1 (by decide)
                              have g1 : a.tmps[87]? = some v1 := g1
                              have e1 : v1 = .int .i64 (k : Int) := r1
                              rw [e1] at g1
                              exact relVal rfl (.pointer (some ⟨O, k, none⟩)) _ rfl (by go_simp) ⟨_, rfl, rfl, hW, Below.refl _ _⟩
                            case s3 =>
                              intro done a W hW hd hnd hno hO hN
                              obtain ⟨v2, g2, r2⟩ := hN 2 (by decide)
                              have g2 : a.tmps[88]? = some v2 := g2
                              have e2 : v2 = .pointer (some ⟨O, k, none⟩) := r2
                              rw [e2] at g2
                              have c0 : W.cell? ⟨O, k, none⟩ = some (.slice (some ⟨Ra k, 0, none⟩) m.up.length m.up.length) := (HW.out W hW).1
                              exact relVal rfl (.slice (some ⟨Ra k, 0, none⟩) m.up.length m.up.length) _ rfl (by go_simp) ⟨_, rfl, rfl, hW, Below.refl _ _⟩
                            case s4 =>
                              intro done a W hW hd hnd hno hO hN
                              have o14 : a.tmps[14]? = some (.int .i64 (b : Int)) := (hO.out 14 (by decide)).trans rfl
                              exact relVal rfl (.int .i64 (b : Int)) _ rfl (by go_simp) ⟨_, rfl, rfl, hW, Below.refl _ _⟩
                            case s5 =>
                              intro done a W hW hd hnd hno hO hN
                              obtain ⟨v3, g3, r3⟩ := hN 3 (by decide)
                              have g3 : a.tmps[89]? = some v3 := g3
                              have e3 : v3 = .slice (some ⟨Ra k, 0, none⟩) m.up.length m.up.length := r3
                              rw [e3] at g3
                              obtain ⟨v4, g4, r4⟩ := hN 4 (by decide)
                              have g4 : a.tmps[90]? = some v4 := g4
                              have e4 : v4 = .int .i64 (b : Int) := r4
                              rw [e4] at g4
                              exact relVal rfl (.pointer (some ⟨Ra k, b, none⟩)) _ rfl (by go_simp) ⟨_, rfl, rfl, hW, Below.refl _ _⟩
                            case s6 =>
                              intro done a W hW hd hnd hno hO hN
                              obtain ⟨v5, g5, r5⟩ := hN 5 (by decide)
                              have g5 : a.tmps[91]? = some v5 := g5
                              have e5 : v5 = .pointer (some ⟨Ra k, b, none⟩) := r5
                              rw [e5] at g5
                              have c0 : W.cell? ⟨Ra k, b, none⟩ = some (.bool false) := (HW.out W hW).2.1
                              exact relVal rfl (.bool false) _ rfl (by go_simp) ⟨_, rfl, rfl, hW, Below.refl _ _⟩
                            case s7 =>
                              intro done a W hW hd hnd hno hO hN
                              obtain ⟨v6, g6, r6⟩ := hN 6 (by decide)
                              have g6 : a.tmps[92]? = some v6 := g6
                              have e6 : v6 = .bool false := r6
                              rw [e6] at g6
                              exact relVal rfl (.bool false) _ rfl (by go_simp) ⟨_, rfl, rfl, hW, Below.refl _ _⟩
                            case s8 =>
                              intro done a W hW hd hnd hno hO hN
                              obtain ⟨v7, g7, r7⟩ := hN 7 (by decide)
                              have g7 : a.tmps[93]? = some v7 := g7
                              have e7 : v7 = .bool false := r7
                              rw [e7] at g7
                              have o10 : a.tmps[10]? = some (.slice (some ⟨Q, 0, none⟩) n.up.length n.up.length) := (hO.out 10 (by decide)).trans rfl
                              exact relNo rfl ((wanted_is rfl rfl g7).trans rfl) ⟨_, rfl, rfl, hW, Below.refl _ _⟩
                            case s9 =>
                              intro done a W hW hd hnd hno hO hN
                              obtain ⟨v7, g7, r7⟩ := hN 7 (by decide)
                              have g7 : a.tmps[93]? = some v7 := g7
                              have e7 : v7 = .bool false := r7
                              rw [e7] at g7
                              have o2 : a.tmps[2]? = some (.slice (some ⟨bf, of, none⟩) fl.length cf) := (hO.out 2 (by decide)).trans rfl
                              exact relNo rfl ((wanted_is rfl rfl g7).trans rfl) ⟨_, rfl, rfl, hW, Below.refl _ _⟩
                            case s10 =>
                              intro done a W hW hd hnd hno hO hN
                              obtain ⟨v7, g7, r7⟩ := hN 7 (by decide)
                              have g7 : a.tmps[93]? = some v7 := g7
                              have e7 : v7 = .bool false := r7
                              rw [e7] at g7
                              have o13 : a.tmps[13]? = some (.int .i64 (k : Int)) := (hO.out 13 (by decide)).trans rfl
                              exact relNo rfl ((wanted_is rfl rfl g7).trans rfl) ⟨_, rfl, rfl, hW, Below.refl _ _⟩
                            case s11 =>
                              intro done a W hW hd hnd hno hO hN
                              obtain ⟨v9, g9, r9⟩ := hN 9 (by decide)
                              have g9 : a.tmps[95]? = some v9 := g9
                              have e9 : v9 = undef := r9
                              rw [e9] at g9
                              obtain ⟨v10, g10, r10⟩ := hN 10 (by decide)
                              have g10 : a.tmps[96]? = some v10 := g10
                              have e10 : v10 = undef := r10
                              rw [e10] at g10
                              obtain ⟨v7, g7, r7⟩ := hN 7 (by decide)
                              have g7 : a.tmps[93]? = some v7 := g7
                              have e7 : v7 = .bool false := r7
                              rw [e7] at g7
                              exact relNo rfl ((wanted_is rfl rfl g7).trans rfl) ⟨_, rfl, rfl, hW, Below.refl _ _⟩
                            case s12 =>
                              intro done a W hW hd hnd hno hO hN
                              obtain ⟨v11, g11, r11⟩ := hN 11 (by decide)
                              have g11 : a.tmps[97]? = some v11 := g11
                              have e11 : v11 = undef := r11
                              rw [e11] at g11
                              obtain ⟨v7, g7, r7⟩ := hN 7 (by decide)
                              have g7 : a.tmps[93]? = some v7 := g7
                              have e7 : v7 = .bool false := r7
                              rw [e7] at g7
                              exact relNo rfl ((wanted_is rfl rfl g7).trans rfl) ⟨_, rfl, rfl, hW, Below.refl _ _⟩
                            case s13 =>
                              intro done a W hW hd hnd hno hO hN
                              obtain ⟨v8, g8, r8⟩ := hN 8 (by decide)
                              have g8 : a.tmps[94]? = some v8 := g8
                              have e8 : v8 = undef := r8
                              rw [e8] at g8
                              obtain ⟨v12, g12, r12⟩ := hN 12 (by decide)
                              have g12 : a.tmps[98]? = some v12 := g12
                              have e12 : v12 = undef := r12
                              rw [e12] at g12
                              obtain ⟨v7, g7, r7⟩ := hN 7 (by decide)
                              have g7 : a.tmps[93]? = some v7 := g7
                              have e7 : v7 = .bool false := r7
                              rw [e7] at g7
                              exact relNo rfl ((wanted_is rfl rfl g7).trans rfl) ⟨_, rfl, rfl, hW, Below.refl _ _⟩
                            case s14 =>
                              intro done a W hW hd hnd hno hO hN
                              obtain ⟨v13, g13, r13⟩ := hN 13 (by decide)
                              have g13 : a.tmps[99]? = some v13 := g13
                              have e13 : v13 = undef := r13
                              rw [e13] at g13
                              obtain ⟨v7, g7, r7⟩ := hN 7 (by decide)
                              have g7 : a.tmps[93]? = some v7 := g7
                              have e7 : v7 = .bool false := r7
                              rw [e7] at g7
                              exact relNo rfl ((wanted_is rfl rfl g7).trans rfl) ⟨_, rfl, rfl, hW, Below.refl _ _⟩
                            case s15 =>
                              intro done a W hW hd hnd hno hO hN
                              obtain ⟨v7, g7, r7⟩ := hN 7 (by decide)
                              have g7 : a.tmps[93]? = some v7 := g7
                              have e7 : v7 = .bool false := r7
                              rw [e7] at g7
                              have o2 : a.tmps[2]? = some (.slice (some ⟨bf, of, none⟩) fl.length cf) := (hO.out 2 (by decide)).trans rfl
                              exact relNo rfl ((wanted_is rfl rfl g7).trans rfl) ⟨_, rfl, rfl, hW, Below.refl _ _⟩
                            case s16 =>
                              intro done a W hW hd hnd hno hO hN
                              obtain ⟨v7, g7, r7⟩ := hN 7 (by decide)
                              have g7 : a.tmps[93]? = some v7 := g7
                              have e7 : v7 = .bool false := r7
                              rw [e7] at g7
                              have o14 : a.tmps[14]? = some (.int .i64 (b : Int)) := (hO.out 14 (by decide)).trans rfl
                              exact relNo rfl ((wanted_is rfl rfl g7).trans rfl) ⟨_, rfl, rfl, hW, Below.refl _ _⟩
                            case s17 =>
                              intro done a W hW hd hnd hno hO hN
                              obtain ⟨v15, g15, r15⟩ := hN 15 (by decide)
                              have g15 : a.tmps[101]? = some v15 := g15
                              have e15 : v15 = undef := r15
                              rw [e15] at g15
                              obtain ⟨v16, g16, r16⟩ := hN 16 (by decide)
                              have g16 : a.tmps[102]? = some v16 := g16
                              have e16 : v16 = undef := r16
                              rw [e16] at g16
                              obtain ⟨v7, g7, r7⟩ := hN 7 (by decide)
                              have g7 : a.tmps[93]? = some v7 := g7
                              have e7 : v7 = .bool false := r7
                              rw [e7] at g7
                              exact relNo rfl ((wanted_is rfl rfl g7).trans rfl) ⟨_, rfl, rfl, hW, Below.refl _ _⟩
                            case s18 =>
                              intro done a W hW hd hnd hno hO hN
                              obtain ⟨v17, g17, r17⟩ := hN 17 (by decide)
                              have g17 : a.tmps[103]? = some v17 := g17
                              have e17 : v17 = undef := r17
                              rw [e17] at g17
                              obtain ⟨v7, g7, r7⟩ := hN 7 (by decide)
                              have g7 : a.tmps[93]? = some v7 := g7
                              have e7 : v7 = .bool false := r7
                              rw [e7] at g7
                              exact relNo rfl ((wanted_is rfl rfl g7).trans rfl) ⟨_, rfl, rfl, hW, Below.refl _ _⟩
                            case s19 =>
                              intro done a W hW hd hnd hno hO hN
                              obtain ⟨v14, g14, r14⟩ := hN 14 (by decide)
                              have g14 : a.tmps[100]? = some v14 := g14
                              have e14 : v14 = undef := r14
                              rw [e14] at g14
                              obtain ⟨v18, g18, r18⟩ := hN 18 (by decide)
                              have g18 : a.tmps[104]? = some v18 := g18
                              have e18 : v18 = undef := r18
                              rw [e18] at g18
                              obtain ⟨v7, g7, r7⟩ := hN 7 (by decide)
                              have g7 : a.tmps[93]? = some v7 := g7
                              have e7 : v7 = .bool false := r7
                              rw [e7] at g7
                              exact relNo rfl ((wanted_is rfl rfl g7).trans rfl) ⟨_, rfl, rfl, hW, Below.refl _ _⟩
                            case s20 =>
                              intro done a W hW hd hnd hno hO hN
                              obtain ⟨v19, g19, r19⟩ := hN 19 (by decide)
                              have g19 : a.tmps[105]? = some v19 := g19
                              have e19 : v19 = undef := r19
                              rw [e19] at g19
                              obtain ⟨v7, g7, r7⟩ := hN 7 (by decide)
                              have g7 : a.tmps[93]? = some v7 := g7
                              have e7 : v7 = .bool false := r7
                              rw [e7] at g7
                              exact relNo rfl ((wanted_is rfl rfl g7).trans rfl) ⟨_, rfl, rfl, hW, Below.refl _ _⟩
                            case s21 =>
                              intro done a W hW hd hnd hno hO hN
                              obtain ⟨v20, g20, r20⟩ := hN 20 (by decide)
                              have g20 : a.tmps[106]? = some v20 := g20
                              have e20 : v20 = undef := r20
                              rw [e20] at g20
                              obtain ⟨v7, g7, r7⟩ := hN 7 (by decide)
                              have g7 : a.tmps[93]? = some v7 := g7
                              have e7 : v7 = .bool false := r7
                              rw [e7] at g7
                              exact relNo rfl ((wanted_is rfl rfl g7).trans rfl) ⟨_, rfl, rfl, hW, Below.refl _ _⟩
                            case s22 =>
                              intro done a W hW hd hnd hno hO hN
                              obtain ⟨v7, g7, r7⟩ := hN 7 (by decide)
                              have g7 : a.tmps[93]? = some v7 := g7
                              have e7 : v7 = .bool false := r7
                              rw [e7] at g7
                              obtain ⟨v21, g21, r21⟩ := hN 21 (by decide)
                              have g21 : a.tmps[107]? = some v21 := g21
                              have e21 : v21 = undef := r21
                              rw [e21] at g21
                              exact relVal rfl (.bool false) _ rfl (by go_simp) ⟨_, rfl, rfl, hW, Below.refl _ _⟩
                          case fin =>
                            intro vs done w1 hdone hS hV
                            have e22 : vs 22 = .bool false := hV 22 (by decide)
                            have HB4 := show Hid (Below w4.heap.size w4 w1) from HB3.out.trans (hS.mono HB3.out.size)
                            simp only [putAll, Act.put, List.setIfInBounds_toArray, List.set_cons_zero, List.set_cons_succ, Nat.reduceAdd, e22]
                            clear hV hS e22 HB3 HW
                            have HY := show Hid _ from HNX.out (fun h => (by cases h))
                            clear HNX HNR
                            go_wp2_with fail
                            go_roundw
                            case rel => exact ⟨b + 1, by omega, val_int (by omega), HB4.out, HY.out⟩
                            case measure => (simp only [intOf]; omega)
                        · skip
                          go_wp2_with fail
                          refine wp_region_dep (by kernel_rfl) [some 86, some 87, some 88, some 89, some 90, some 91, some 92, some 93, some 94, some 95, some 96, some 97, some 98, some 99, some 100, some 101, some 102, some 103, some 104, some 105, some 106, some 107, some 108] [[], [], [0, 1], [2], [], [3, 4], [5], [6], [7], [7], [7], [9, 10, 7], [11, 7], [8, 12, 7], [13, 7], [7], [7], [15, 16, 7], [17, 7], [14, 18, 7], [19, 7], [20, 7], [7, 21]] [[], [], [0, 1], [2, 0, 1], [], [3, 2, 0, 1, 4], [5, 3, 2, 0, 1, 4], [6, 5, 3, 2, 0, 1, 4], [7, 6, 5, 3, 2, 0, 1, 4], [7, 6, 5, 3, 2, 0, 1, 4], [7, 6, 5, 3, 2, 0, 1, 4], [9, 7, 6, 5, 3, 2, 0, 1, 4, 10], [11, 9, 7, 6, 5, 3, 2, 0, 1, 4, 10], [8, 7, 6, 5, 3, 2, 0, 1, 4, 12, 11, 9, 10], [13, 8, 7, 6, 5, 3, 2, 0, 1, 4, 12, 11, 9, 10], [7, 6, 5, 3, 2, 0, 1, 4], [7, 6, 5, 3, 2, 0, 1, 4], [15, 7, 6, 5, 3, 2, 0, 1, 4, 16], [17, 15, 7, 6, 5, 3, 2, 0, 1, 4, 16], [14, 13, 8, 7, 6, 5, 3, 2, 0, 1, 4, 12, 11, 9, 10, 18, 17, 15, 16], [19, 14, 13, 8, 7, 6, 5, 3, 2, 0, 1, 4, 12, 11, 9, 10, 18, 17, 15, 16], [20, 19, 14, 13, 8, 7, 6, 5, 3, 2, 0, 1, 4, 12, 11, 9, 10, 18, 17, 15, 16], [7, 6, 5, 3, 2, 0, 1, 4, 21, 20, 19, 14, 13, 8, 12, 11, 9, 10, 18, 17, 15, 16]] (by kernel_rfl) (by decide) (fun i v W => match i with | 0 => v = .slice (some ⟨O, 0, none⟩) m.up.length m.up.length | 1 => v = .int .i64 (k : Int) | 2 => v = .pointer (some ⟨O, k, none⟩) | 3 => v = .slice (some ⟨Ra k, 0, none⟩) m.up.length m.up.length | 4 => v = .int .i64 (b : Int) | 5 => v = .pointer (some ⟨Ra k, b, none⟩) | 6 => v = .bool true | 7 => v = .bool true | 8 => v = .slice (some ⟨Q, 0, none⟩) n.up.length n.up.length | 9 => v = .slice (some ⟨bf, of, none⟩) fl.length cf | 10 => v = .int .i64 (k : Int) | 11 => v = .pointer (some ⟨bf, of + k, none⟩) | 12 => v = .int .i64 ((F k : Nat) : Int) | 13 => v = .pointer (some ⟨Q, F k, none⟩) | 14 => v = .slice (some ⟨Rb (F k), 0, none⟩) n.up.length n.up.length | 15 => v = .slice (some ⟨bf, of, none⟩) fl.length cf | 16 => v = .int .i64 (b : Int) | 17 => v = .pointer (some ⟨bf, of + b, none⟩) | 18 => v = .int .i64 ((F b : Nat) : Int) | 19 => v = .pointer (some ⟨Rb (F k), F b, none⟩) | 20 => v = .bool z | 21 => v = .bool (!z) | 22 => v = .bool (!z) | _ => True) (fun _ W => Below wr.heap.size wr W) (fun _ W W' => Below W.heap.size W W') ?hle ((Below.refl _ _).drew) (allLt 23 ?steps) ?fin
                          case hle =>
                            intro i j v W W' hij hn hl h
                            match j, h with
                            | 0, h => exact h
                            | 1, h => exact h
                            | 2, h => exact h
                            | 3, h => exact h
                            | 4, h => exact h
                            | 5, h => exact h
                            | 6, h => exact h
                            | 7, h => exact h
                            | 8, h => exact h
                            | 9, h => exact h
                            | 10, h => exact h
                            | 11, h => exact h
                            | 12, h => exact h
                            | 13, h => exact h
                            | 14, h => exact h
                            | 15, h => exact h
                            | 16, h => exact h
                            | 17, h => exact h
                            | 18, h => exact h
                            | 19, h => exact h
                            | 20, h => exact h
                            | 21, h => exact h
                            | 22, h => exact h
                            | _ + 23, _ => trivial
                          case steps =>
                            refine ⟨⟨⟨⟨⟨⟨⟨⟨⟨⟨⟨⟨⟨⟨⟨⟨⟨⟨⟨⟨⟨⟨⟨trivial, ?s0⟩, ?s1⟩, ?s2⟩, ?s3⟩, ?s4⟩, ?s5⟩, ?s6⟩, ?s7⟩, ?s8⟩, ?s9⟩, ?s10⟩, ?s11⟩, ?s12⟩, ?s13⟩, ?s14⟩, ?s15⟩, ?s16⟩, ?s17⟩, ?s18⟩, ?s19⟩, ?s20⟩, ?s21⟩, ?s22⟩
                            case s0 =>
                              intro done a W hW hd hnd hno hO hN
                              have o8 : a.tmps[8]? = some (.slice (some ⟨O, 0, none⟩) m.up.length m.up.length) := (hO.out 8 (by decide)).trans rfl
                              exact relVal rfl (.slice (some ⟨O, 0, none⟩) m.up.length m.up.length) _ rfl (by go_simp) ⟨_, rfl, rfl, hW, Below.refl _ _⟩
                            case s1 =>
                              intro done a W hW hd hnd hno hO hN
                              have o13 : a.tmps[13]? = some (.int .i64 (k : Int)) := (hO.out 13 (by decide)).trans rfl
                              exact relVal rfl (.int .i64 (k : Int)) _ rfl (by go_simp) ⟨_, rfl, rfl, hW, Below.refl _ _⟩
                            case s2 =>
                              intro done a W hW hd hnd hno hO hN
                              obtain ⟨v0, g0, r0⟩ := hN 0 (by decide)
                              have g0 : a.tmps[86]? = some v0 := g0
                              have e0 : v0 = .slice (some ⟨O, 0, none⟩) m.up.length m.up.length := r0
                              rw [e0] at g0
                              obtain ⟨v1, g1, r1⟩ := hN 1 (by decide)
                              have g1 : a.tmps[87]? = some v1 := g1
                              have e1 : v1 = .int .i64 (k : Int) := r1
                              rw [e1] at g1
                              exact relVal rfl (.pointer (some ⟨O, k, none⟩)) _ rfl (by go_simp) ⟨_, rfl, rfl, hW, Below.refl _ _⟩
                            case s3 =>
                              intro done a W hW hd hnd hno hO hN
                              obtain ⟨v2, g2, r2⟩ := hN 2 (by decide)
                              have g2 : a.tmps[88]? = some v2 := g2
                              have e2 : v2 = .pointer (some ⟨O, k, none⟩) := r2
                              rw [e2] at g2
                              have c0 : W.cell? ⟨O, k, none⟩ = some (.slice (some ⟨Ra k, 0, none⟩) m.up.length m.up.length) := (HW.out W hW).1
                              exact relVal rfl (.slice (some ⟨Ra k, 0, none⟩) m.up.length m.up.length) _ rfl (by go_simp) ⟨_, rfl, rfl, hW, Below.refl _ _⟩
                            case s4 =>
                              intro done a W hW hd hnd hno hO hN
                              have o14 : a.tmps[14]? = some (.int .i64 (b : Int)) := (hO.out 14 (by decide)).trans rfl
                              exact relVal rfl (.int .i64 (b : Int)) _ rfl (by go_simp) ⟨_, rfl, rfl, hW, Below.refl _ _⟩
                            case s5 =>
                              intro done a W hW hd hnd hno hO hN
                              obtain ⟨v3, g3, r3⟩ := hN 3 (by decide)
                              have g3 : a.tmps[89]? = some v3 := g3
                              have e3 : v3 = .slice (some ⟨Ra k, 0, none⟩) m.up.length m.up.length := r3
                              rw [e3] at g3
                              obtain ⟨v4, g4, r4⟩ := hN 4 (by decide)
                              have g4 : a.tmps[90]? = some v4 := g4
                              have e4 : v4 = .int .i64 (b : Int) := r4
                              rw [e4] at g4
                              exact relVal rfl (.pointer (some ⟨Ra k, b, none⟩)) _ rfl (by go_simp) ⟨_, rfl, rfl, hW, Below.refl _ _⟩
                            case s6 =>
                              intro done a W hW hd hnd hno hO hN
                              obtain ⟨v5, g5, r5⟩ := hN 5 (by decide)
                              have g5 : a.tmps[91]? = some v5 := g5
                              have e5 : v5 = .pointer (some ⟨Ra k, b, none⟩) := r5
                              rw [e5] at g5
                              have c0 : W.cell? ⟨Ra k, b, none⟩ = some (.bool true) := (HW.out W hW).2.1
                              exact relVal rfl (.bool true) _ rfl (by go_simp) ⟨_, rfl, rfl, hW, Below.refl _ _⟩
                            case s7 =>
                              intro done a W hW hd hnd hno hO hN
                              obtain ⟨v6, g6, r6⟩ := hN 6 (by decide)
                              have g6 : a.tmps[92]? = some v6 := g6
                              have e6 : v6 = .bool true := r6
                              rw [e6] at g6
                              exact relVal rfl (.bool true) _ rfl (by go_simp) ⟨_, rfl, rfl, hW, Below.refl _ _⟩
                            case s8 =>
                              intro done a W hW hd hnd hno hO hN
                              obtain ⟨v7, g7, r7⟩ := hN 7 (by decide)
                              have g7 : a.tmps[93]? = some v7 := g7
                              have e7 : v7 = .bool true := r7
                              rw [e7] at g7
                              have o10 : a.tmps[10]? = some (.slice (some ⟨Q, 0, none⟩) n.up.length n.up.length) := (hO.out 10 (by decide)).trans rfl
                              exact relValW rfl (.slice (some ⟨Q, 0, none⟩) n.up.length n.up.length) _ ((wanted_is rfl rfl g7).trans rfl) (by go_simp) ⟨_, rfl, rfl, hW, Below.refl _ _⟩
                            case s9 =>
                              intro done a W hW hd hnd hno hO hN
                              obtain ⟨v7, g7, r7⟩ := hN 7 (by decide)
                              have g7 : a.tmps[93]? = some v7 := g7
                              have e7 : v7 = .bool true := r7
                              rw [e7] at g7
                              have o2 : a.tmps[2]? = some (.slice (some ⟨bf, of, none⟩) fl.length cf) := (hO.out 2 (by decide)).trans rfl
                              exact relValW rfl (.slice (some ⟨bf, of, none⟩) fl.length cf) _ ((wanted_is rfl rfl g7).trans rfl) (by go_simp) ⟨_, rfl, rfl, hW, Below.refl _ _⟩
                            case s10 =>
                              intro done a W hW hd hnd hno hO hN
                              obtain ⟨v7, g7, r7⟩ := hN 7 (by decide)
                              have g7 : a.tmps[93]? = some v7 := g7
                              have e7 : v7 = .bool true := r7
                              rw [e7] at g7
                              have o13 : a.tmps[13]? = some (.int .i64 (k : Int)) := (hO.out 13 (by decide)).trans rfl
                              exact relValW rfl (.int .i64 (k : Int)) _ ((wanted_is rfl rfl g7).trans rfl) (by go_simp) ⟨_, rfl, rfl, hW, Below.refl _ _⟩
                            case s11 =>
                              intro done a W hW hd hnd hno hO hN
                              obtain ⟨v9, g9, r9⟩ := hN 9 (by decide)
                              have g9 : a.tmps[95]? = some v9 := g9
                              have e9 : v9 = .slice (some ⟨bf, of, none⟩) fl.length cf := r9
                              rw [e9] at g9
                              obtain ⟨v10, g10, r10⟩ := hN 10 (by decide)
                              have g10 : a.tmps[96]? = some v10 := g10
                              have e10 : v10 = .int .i64 (k : Int) := r10
                              rw [e10] at g10
                              obtain ⟨v7, g7, r7⟩ := hN 7 (by decide)
                              have g7 : a.tmps[93]? = some v7 := g7
                              have e7 : v7 = .bool true := r7
                              rw [e7] at g7
                              exact relValW rfl (.pointer (some ⟨bf, of + k, none⟩)) _ ((wanted_is rfl rfl g7).trans rfl) (by go_simp) ⟨_, rfl, rfl, hW, Below.refl _ _⟩
                            case s12 =>
                              intro done a W hW hd hnd hno hO hN
                              obtain ⟨v11, g11, r11⟩ := hN 11 (by decide)
                              have g11 : a.tmps[97]? = some v11 := g11
                              have e11 : v11 = .pointer (some ⟨bf, of + k, none⟩) := r11
                              rw [e11] at g11
                              obtain ⟨v7, g7, r7⟩ := hN 7 (by decide)
                              have g7 : a.tmps[93]? = some v7 := g7
                              have e7 : v7 = .bool true := r7
                              rw [e7] at g7
                              have c0 : W.cell? ⟨bf, of + k, none⟩ = some (.int .i64 ((F k : Nat) : Int)) := (HW.out W hW).2.2.1
                              exact relValW rfl (.int .i64 ((F k : Nat) : Int)) _ ((wanted_is rfl rfl g7).trans rfl) (by go_simp) ⟨_, rfl, rfl, hW, Below.refl _ _⟩
                            case s13 =>
                              intro done a W hW hd hnd hno hO hN
                              obtain ⟨v8, g8, r8⟩ := hN 8 (by decide)
                              have g8 : a.tmps[94]? = some v8 := g8
                              have e8 : v8 = .slice (some ⟨Q, 0, none⟩) n.up.length n.up.length := r8
                              rw [e8] at g8
                              obtain ⟨v12, g12, r12⟩ := hN 12 (by decide)
                              have g12 : a.tmps[98]? = some v12 := g12
                              have e12 : v12 = .int .i64 ((F k : Nat) : Int) := r12
                              rw [e12] at g12
                              obtain ⟨v7, g7, r7⟩ := hN 7 (by decide)
                              have g7 : a.tmps[93]? = some v7 := g7
                              have e7 : v7 = .bool true := r7
                              rw [e7] at g7
                              exact relValW rfl (.pointer (some ⟨Q, F k, none⟩)) _ ((wanted_is rfl rfl g7).trans rfl) (by go_simp) ⟨_, rfl, rfl, hW, Below.refl _ _⟩
                            case s14 =>
                              intro done a W hW hd hnd hno hO hN
                              obtain ⟨v13, g13, r13⟩ := hN 13 (by decide)
                              have g13 : a.tmps[99]? = some v13 := g13
                              have e13 : v13 = .pointer (some ⟨Q, F k, none⟩) := r13
                              rw [e13] at g13
                              obtain ⟨v7, g7, r7⟩ := hN 7 (by decide)
                              have g7 : a.tmps[93]? = some v7 := g7
                              have e7 : v7 = .bool true := r7
                              rw [e7] at g7
                              have c0 : W.cell? ⟨Q, F k, none⟩ = some (.slice (some ⟨Rb (F k), 0, none⟩) n.up.length n.up.length) := (HW.out W hW).2.2.2.2.1
                              exact relValW rfl (.slice (some ⟨Rb (F k), 0, none⟩) n.up.length n.up.length) _ ((wanted_is rfl rfl g7).trans rfl) (by go_simp) ⟨_, rfl, rfl, hW, Below.refl _ _⟩
                            case s15 =>
                              intro done a W hW hd hnd hno hO hN
                              obtain ⟨v7, g7, r7⟩ := hN 7 (by decide)
                              have g7 : a.tmps[93]? = some v7 := g7
                              have e7 : v7 = .bool true := r7
                              rw [e7] at g7
                              have o2 : a.tmps[2]? = some (.slice (some ⟨bf, of, none⟩) fl.length cf) := (hO.out 2 (by decide)).trans rfl
                              exact relValW rfl (.slice (some ⟨bf, of, none⟩) fl.length cf) _ ((wanted_is rfl rfl g7).trans rfl) (by go_simp) ⟨_, rfl, rfl, hW, Below.refl _ _⟩
                            case s16 =>
                              intro done a W hW hd hnd hno hO hN
                              obtain ⟨v7, g7, r7⟩ := hN 7 (by decide)
                              have g7 : a.tmps[93]? = some v7 := g7
                              have e7 : v7 = .bool true := r7
                              rw [e7] at g7
                              have o14 : a.tmps[14]? = some (.int .i64 (b : Int)) := (hO.out 14 (by decide)).trans rfl
                              exact relValW rfl (.int .i64 (b : Int)) _ ((wanted_is rfl rfl g7).trans rfl) (by go_simp) ⟨_, rfl, rfl, hW, Below.refl _ _⟩
                            case s17 =>
                              intro done a W hW hd hnd hno hO hN
                              obtain ⟨v15, g15, r15⟩ := hN 15 (by decide)
                              have g15 : a.tmps[101]? = some v15 := g15
                              have e15 : v15 = .slice (some ⟨bf, of, none⟩) fl.length cf := r15
                              rw [e15] at g15
                              obtain ⟨v16, g16, r16⟩ := hN 16 (by decide)
                              have g16 : a.tmps[102]? = some v16 := g16
                              have e16 : v16 = .int .i64 (b : Int) := r16
                              rw [e16] at g16
                              obtain ⟨v7, g7, r7⟩ := hN 7 (by decide)
                              have g7 : a.tmps[93]? = some v7 := g7
                              have e7 : v7 = .bool true := r7
                              rw [e7] at g7
                              exact relValW rfl (.pointer (some ⟨bf, of + b, none⟩)) _ ((wanted_is rfl rfl g7).trans rfl) (by go_simp) ⟨_, rfl, rfl, hW, Below.refl _ _⟩
                            case s18 =>
                              intro done a W hW hd hnd hno hO hN
                              obtain ⟨v17, g17, r17⟩ := hN 17 (by decide)
                              have g17 : a.tmps[103]? = some v17 := g17
                              have e17 : v17 = .pointer (some ⟨bf, of + b, none⟩) := r17
                              rw [e17] at g17
                              obtain ⟨v7, g7, r7⟩ := hN 7 (by decide)
                              have g7 : a.tmps[93]? = some v7 := g7
                              have e7 : v7 = .bool true := r7
                              rw [e7] at g7
                              have c0 : W.cell? ⟨bf, of + b, none⟩ = some (.int .i64 ((F b : Nat) : Int)) := (HW.out W hW).2.2.2.1
                              exact relValW rfl (.int .i64 ((F b : Nat) : Int)) _ ((wanted_is rfl rfl g7).trans rfl) (by go_simp) ⟨_, rfl, rfl, hW, Below.refl _ _⟩
                            case s19 =>
                              intro done a W hW hd hnd hno hO hN
                              obtain ⟨v14, g14, r14⟩ := hN 14 (by decide)
                              have g14 : a.tmps[100]? = some v14 := g14
                              have e14 : v14 = .slice (some ⟨Rb (F k), 0, none⟩) n.up.length n.up.length := r14
                              rw [e14] at g14
                              obtain ⟨v18, g18, r18⟩ := hN 18 (by decide)
                              have g18 : a.tmps[104]? = some v18 := g18
                              have e18 : v18 = .int .i64 ((F b : Nat) : Int) := r18
                              rw [e18] at g18
                              obtain ⟨v7, g7, r7⟩ := hN 7 (by decide)
                              have g7 : a.tmps[93]? = some v7 := g7
                              have e7 : v7 = .bool true := r7
                              rw [e7] at g7
                              exact relValW rfl (.pointer (some ⟨Rb (F k), F b, none⟩)) _ ((wanted_is rfl rfl g7).trans rfl) (by go_simp) ⟨_, rfl, rfl, hW, Below.refl _ _⟩
                            case s20 =>
                              intro done a W hW hd hnd hno hO hN
                              obtain ⟨v19, g19, r19⟩ := hN 19 (by decide)
                              have g19 : a.tmps[105]? = some v19 := g19
                              have e19 : v19 = .pointer (some ⟨Rb (F k), F b, none⟩) := r19
                              rw [e19] at g19
                              obtain ⟨v7, g7, r7⟩ := hN 7 (by decide)
                              have g7 : a.tmps[93]? = some v7 := g7
                              have e7 : v7 = .bool true := r7
                              rw [e7] at g7
                              have c0 : W.cell? ⟨Rb (F k), F b, none⟩ = some (.bool z) := (HW.out W hW).2.2.2.2.2
                              exact relValW rfl (.bool z) _ ((wanted_is rfl rfl g7).trans rfl) (by go_simp) ⟨_, rfl, rfl, hW, Below.refl _ _⟩
                            case s21 =>
                              intro done a W hW hd hnd hno hO hN
                              obtain ⟨v20, g20, r20⟩ := hN 20 (by decide)
                              have g20 : a.tmps[106]? = some v20 := g20
                              have e20 : v20 = .bool z := r20
                              rw [e20] at g20
                              obtain ⟨v7, g7, r7⟩ := hN 7 (by decide)
                              have g7 : a.tmps[93]? = some v7 := g7
                              have e7 : v7 = .bool true := r7
                              rw [e7] at g7
                              exact relValW rfl (.bool (!z)) _ ((wanted_is rfl rfl g7).trans rfl) (by go_simp) ⟨_, rfl, rfl, hW, Below.refl _ _⟩
                            case s22 =>
                              intro done a W hW hd hnd hno hO hN
                              obtain ⟨v7, g7, r7⟩ := hN 7 (by decide)
                              have g7 : a.tmps[93]? = some v7 := g7
                              have e7 : v7 = .bool true := r7
                              rw [e7] at g7
                              obtain ⟨v21, g21, r21⟩ := hN 21 (by decide)
                              have g21 : a.tmps[107]? = some v21 := g21
                              have e21 : v21 = .bool (!z) := r21
                              rw [e21] at g21
                              exact relVal rfl (.bool (!z)) _ rfl (by go_simp) ⟨_, rfl, rfl, hW, Below.refl _ _⟩
                          case fin =>
                            intro vs done w1 hdone hS hV
                            have e22 : vs 22 = .bool (!z) := hV 22 (by decide)
                            have HB4 := show Hid (Below w4.heap.size w4 w1) from HB3.out.trans (hS.mono HB3.out.size)
                            simp only [putAll, Act.put, List.setIfInBounds_toArray, List.set_cons_zero, List.set_cons_succ, Nat.reduceAdd, e22]
                            clear hV hS e22 HB3 HW
                            cases z
                            · skip
                              have HB := show Hid (Below w.heap.size w w1) from HB0.out _ (HB4.out)
                              have HN := show Hid (¬ BndP m n fl) from HNO.out k hlt (HNR.out (by first | rfl | trivial) (by first | rfl | trivial))
                              clear HNX HNR HB4
                              go_wp2_with fail
                              go_ret2
                              first | exact ⟨false, 0, rfl, Or.inr (Or.inr ⟨HG.out, HOK.out, ⟨fun h => (by cases h), fun h => absurd h HN.out⟩, rfl⟩), HB.out⟩ | exact Or.inl ⟨0, rfl, Or.inr (Or.inr ⟨HG.out, HOK.out, ⟨fun h => (by cases h), fun h => absurd h HN.out⟩, rfl⟩), HB.out⟩
                            · skip
                              have HY := show Hid _ from HNX.out (fun _ => rfl)
                              clear HNX HNR
                              go_wp2_with fail
                              go_roundw
                              case rel => exact ⟨b + 1, by omega, val_int (by omega), HB4.out, HY.out⟩
                              case measure => (simp only [intOf]; omega)
                      · skip
                        obtain rfl : b = m.up.length := by omega
                        have hbi : ¬ (m.up.length : Int) < (m.up.length : Int) := by omega
                        have HFW := show Hid (FwdOk m M P F k m.up.length) from HJ.out
                        clear HJ hlb hb
                        go_wp2_with fail
                        go_loopw [15, 16, 17] (fun i _ _ wr => ∃ c : Nat, c ≤ n.up.length ∧ i = .int .i64 (c : Int) ∧ Hid (Below w4.heap.size w4 wr) ∧ Hid (BckOk m M P F k c)) (fun i _ _ _ => n.up.length - (intOf i).toNat)
                        case atStart => exact ⟨0, Nat.zero_le _, rfl, HB3.out, fun b h => absurd h (Nat.not_lt_zero _)⟩
                        case round =>
                          clear HB3
                          obtain ⟨c, hc, rfl, HB4, HJ⟩ := hrel
                          by_cases hlc : c < n.up.length
                          · skip
                            have hci : (c : Int) < (n.up.length : Int) := by omega
                            have hcf := (HFB.out k hlt).2 wr HB4.out
                            have hcq := ((HXC.out wr HB4.out).2.2.2.2.1 _ hcn).1
                            have hcz := ((HXC.out wr HB4.out).2.2.2.2.1 _ hcn).2 c hlc
                            have HZ0 := show Hid (BkIs M P F k c (!(P (F k) c)) 0) from BkIs.zero rfl
                            go_wp2_with fail
                            go_loopw [16, 17] (fun bk i wr => ∃ (b : Nat) (z : Bool), b ≤ m.up.length ∧ i = .int .i64 (b : Int) ∧ bk = .bool z ∧ Hid (Below w4.heap.size w4 wr) ∧ Hid (BkIs M P F k c z b)) (fun _ i _ => m.up.length - (intOf i).toNat)
                            case atStart => exact ⟨0, _, Nat.zero_le _, rfl, rfl, HB4.out, HZ0.out⟩
                            case round =>
                              clear HZ0 HB4 hcf hcq hcz
                              obtain ⟨b, z, hb, rfl, rfl, HB5, HZ⟩ := hrel
                              by_cases hlb : b < m.up.length
                              · skip
                                obtain ⟨hdn, hdf⟩ := HFB.out b hlb
                                have hcb := hdf wr HB5.out
                                have hco := ((HXC.out wr HB5.out).2.2.2.1 k hlt).1
                                have hcm := ((HXC.out wr HB5.out).2.2.2.1 k hlt).2 b hlb
                                have hbi : (b : Int) < (m.up.length : Int) := by omega
                                have hbfi : (b : Int) < (fl.length : Int) := by have := HLN.out; omega
                                clear hdf
                                cases z
                                · skip
                                  have HMM := show Hid (M k b = true → _) from fun h => @BkIs.hit M P F k c b h
                                  have HMI := show Hid ((M k b = true → F b ≠ c) → _) from HZ.out.miss
                                  generalize M k b = y at *
                                  cases y
                                  · skip
                                    have HY := show Hid (BkIs M P F k c _ (b + 1)) from HMI.out (fun h => (by cases h))
                                    clear HZ
                                    go_wp2_with fail
                                    go_roundw
                                    case rel => exact ⟨b + 1, _, by omega, val_int (by omega), rfl, HB5.out, HY.out⟩
                                    case measure => (simp only [intOf]; omega)
                                  · skip
                                    by_cases e : F b = c
                                    · skip
                                      have hei : ((F b : Nat) : Int) = (c : Int) := by omega
                                      have HZ2 := show Hid _ from HMM.out rfl e
                                      clear e HMM HMI
                                      have HY := show Hid (BkIs M P F k c _ (b + 1)) from HZ2.out
                                      clear HZ
                                      go_wp2_with fail
                                      go_roundw
                                      case rel => exact ⟨b + 1, _, by omega, val_int (by omega), rfl, HB5.out, HY.out⟩
                                      case measure => (simp only [intOf]; omega)
                                    · skip
                                      have hei : (((F b : Nat) : Int) == (c : Int)) = false := by simp; omega
                                      have HZ2 := show Hid _ from HMI.out fun _ => e
                                      clear e HMM HMI
                                      have HY := show Hid (BkIs M P F k c _ (b + 1)) from HZ2.out
                                      clear HZ
                                      go_wp2_with fail
                                      go_roundw
                                      case rel => exact ⟨b + 1, _, by omega, val_int (by omega), rfl, HB5.out, HY.out⟩
                                      case measure => (simp only [intOf]; omega)
                                · skip
                                  have HY := show Hid (BkIs M P F k c _ (b + 1)) from HZ.out.keep
                                  clear HZ
                                  go_wp2_with fail
                                  go_roundw
                                  case rel => exact ⟨b + 1, _, by omega, val_int (by omega), rfl, HB5.out, HY.out⟩
                                  case measure => (simp only [intOf]; omega)
                              · skip
                                obtain rfl : b = m.up.length := by omega
                                have hbi : ¬ (m.up.length : Int) < (m.up.length : Int) := by omega
                                cases z
                                · skip
                                  have HB := show Hid (Below w.heap.size w wr) from HB0.out _ (HB5.out)
                                  have HN := show Hid (¬ BndP m n fl) from HNO.out k hlt fun h => by
                                    have h1 : ¬ P (F k) c = false := fun h2 => by have := HZ.out.2 (Or.inl h2); cases this
                                    have h2 : P (F k) c = true := by simpa using h1
                                    have := HZ.out.2 (Or.inr (h.2.2 c hlc h2))
                                    cases this
                                  clear HZ HJ HB5
                                  go_wp2_with fail
                                  go_ret2
                                  first | exact ⟨false, 0, rfl, Or.inr (Or.inr ⟨HG.out, HOK.out, ⟨fun h => (by cases h), fun h => absurd h HN.out⟩, rfl⟩), HB.out⟩ | exact Or.inl ⟨0, rfl, Or.inr (Or.inr ⟨HG.out, HOK.out, ⟨fun h => (by cases h), fun h => absurd h HN.out⟩, rfl⟩), HB.out⟩
                                · skip
                                  have HY := show Hid (BckOk m M P F k (c + 1)) from HJ.out.next fun h => by
                                    rcases HZ.out.1 rfl with h1 | h1
                                    · rw [h1] at h; cases h
                                    · exact h1
                                  clear HZ HJ
                                  go_wp2_with fail
                                  go_roundw
                                  case rel => exact ⟨c + 1, by omega, val_int (by omega), HB5.out, HY.out⟩
                                  case measure => (simp only [intOf]; omega)
                          · skip
                            obtain rfl : c = n.up.length := by omega
                            have hci : ¬ (n.up.length : Int) < (n.up.length : Int) := by omega
                            have HY := show Hid (∀ a, a < k + 1 → RowOk m n M P F a) from fun a ha => by
                              by_cases e : a = k
                              · subst e; exact ⟨HEV.out, HFW.out, HJ.out⟩
                              · exact HI.out a (by omega)
                            clear HJ HEV HFW HI
                            go_wp2_with fail
                            go_roundw
                            case rel => exact ⟨k + 1, by omega, val_int (by omega), HB4.out, HY.out⟩
                            case measure => (simp only [intOf]; omega)
                · skip
                  have KE := show Hid (∀ W, Below wr.heap.size wr W → Calls Try.prog 24 #[.slice qm xm.length nm, .slice qn xn.length nn] W fun e w' => e = .returned (.bool false) ∧ Below W.heap.size W w') from fun W hW => (KE0.out W hW).mono fun e w' ⟨⟨r, h1, h2⟩, h3⟩ => ⟨by rw [h1]; cases r; rfl; exact absurd (h2.1 rfl) hv, h3⟩
                  have HNE := show Hid (¬ RowOk m n M P F k) from fun h => hv (by rw [HE.out.1, HE.out.2]; exact h.1)
                  clear KE0 hv HE HI
                  go_wp2_with fail
                  refine wp_region_dep (by kernel_rfl) [some 65, some 66, some 67, some 68, some 69, some 70, some 71, some 72, some 73, some 74, some 75, some 76, some 77, some 78, some 79] [[], [0], [], [1, 2], [3], [], [5], [], [], [7, 8], [9], [6, 10], [11], [4, 12], [13]] [[], [0], [], [1, 0, 2], [3, 1, 0, 2], [], [5], [], [], [7, 8], [9, 7, 8], [6, 5, 10, 9, 7, 8], [11, 6, 5, 10, 9, 7, 8], [4, 3, 1, 0, 2, 12, 11, 6, 5, 10, 9, 7, 8], [13, 4, 3, 1, 0, 2, 12, 11, 6, 5, 10, 9, 7, 8]] (by kernel_rfl) (by decide) (fun i v W => match i with | 0 => v = .pointer (some ⟨bM, 1, none⟩) | 1 => v = .slice (some ⟨bm, om, none⟩) m.val.length cvm | 2 => v = .int .i64 (k : Int) | 3 => v = .pointer (some ⟨bm, om + k, none⟩) | 4 => v = .slice qm xm.length nm | 5 => v = .pointer (some ⟨bN, 1, none⟩) | 6 => v = .slice (some ⟨bn, on, none⟩) n.val.length cvn | 7 => v = .slice (some ⟨bf, of, none⟩) fl.length cf | 8 => v = .int .i64 (k : Int) | 9 => v = .pointer (some ⟨bf, of + k, none⟩) | 10 => v = .int .i64 ((F k : Nat) : Int) | 11 => v = .pointer (some ⟨bn, on + F k, none⟩) | 12 => v = .slice qn xn.length nn | 13 => v = .bool false | 14 => v = .bool true | _ => True) (fun _ W => Below wr.heap.size wr W) (fun _ W W' => Below W.heap.size W W') ?hle ((Below.refl _ _).drew) (allLt 15 ?steps) ?fin
                  case hle =>
                    intro i j v W W' hij hn hl h
                    match j, h with
                    | 0, h => exact h
                    | 1, h => exact h
                    | 2, h => exact h
                    | 3, h => exact h
                    | 4, h => exact h
                    | 5, h => exact h
                    | 6, h => exact h
                    | 7, h => exact h
                    | 8, h => exact h
                    | 9, h => exact h
                    | 10, h => exact h
                    | 11, h => exact h
                    | 12, h => exact h
                    | 13, h => exact h
                    | 14, h => exact h
                    | _ + 15, _ => trivial
                  case steps =>
                    refine ⟨⟨⟨⟨⟨⟨⟨⟨⟨⟨⟨⟨⟨⟨⟨trivial, ?s0⟩, ?s1⟩, ?s2⟩, ?s3⟩, ?s4⟩, ?s5⟩, ?s6⟩, ?s7⟩, ?s8⟩, ?s9⟩, ?s10⟩, ?s11⟩, ?s12⟩, ?s13⟩, ?s14⟩
                    case s0 =>
                      intro done a W hW hd hnd hno hO hN
                      have o3 : a.tmps[3]? = some (.pointer (some ⟨bM, 0, none⟩)) := (hO.out 3 (by decide)).trans rfl
                      exact relVal rfl (.pointer (some ⟨bM, 1, none⟩)) _ rfl (by go_simp) ⟨_, rfl, rfl, hW, Below.refl _ _⟩
                    case s1 =>
                      intro done a W hW hd hnd hno hO hN
                      obtain ⟨v0, g0, r0⟩ := hN 0 (by decide)
                      have g0 : a.tmps[65]? = some v0 := g0
                      have e0 : v0 = .pointer (some ⟨bM, 1, none⟩) := r0
                      rw [e0] at g0
                      have c0 : W.cell? ⟨bM, 1, none⟩ = some (.slice (some ⟨bm, om, none⟩) m.val.length cvm) := (HW.out W hW).1
                      exact relVal rfl (.slice (some ⟨bm, om, none⟩) m.val.length cvm) _ rfl (by go_simp) ⟨_, rfl, rfl, hW, Below.refl _ _⟩
                    case s2 =>
                      intro done a W hW hd hnd hno hO hN
                      have o13 : a.tmps[13]? = some (.int .i64 (k : Int)) := (hO.out 13 (by decide)).trans rfl
                      exact relVal rfl (.int .i64 (k : Int)) _ rfl (by go_simp) ⟨_, rfl, rfl, hW, Below.refl _ _⟩
                    case s3 =>
                      intro done a W hW hd hnd hno hO hN
                      obtain ⟨v1, g1, r1⟩ := hN 1 (by decide)
                      have g1 : a.tmps[66]? = some v1 := g1
                      have e1 : v1 = .slice (some ⟨bm, om, none⟩) m.val.length cvm := r1
                      rw [e1] at g1
                      obtain ⟨v2, g2, r2⟩ := hN 2 (by decide)
                      have g2 : a.tmps[67]? = some v2 := g2
                      have e2 : v2 = .int .i64 (k : Int) := r2
                      rw [e2] at g2
                      exact relVal rfl (.pointer (some ⟨bm, om + k, none⟩)) _ rfl (by go_simp) ⟨_, rfl, rfl, hW, Below.refl _ _⟩
                    case s4 =>
                      intro done a W hW hd hnd hno hO hN
                      obtain ⟨v3, g3, r3⟩ := hN 3 (by decide)
                      have g3 : a.tmps[68]? = some v3 := g3
                      have e3 : v3 = .pointer (some ⟨bm, om + k, none⟩) := r3
                      rw [e3] at g3
                      have c0 : W.cell? ⟨bm, om + k, none⟩ = some (.slice qm xm.length nm) := (HW.out W hW).2.2.1
                      exact relVal rfl (.slice qm xm.length nm) _ rfl (by go_simp) ⟨_, rfl, rfl, hW, Below.refl _ _⟩
                    case s5 =>
                      intro done a W hW hd hnd hno hO hN
                      have o4 : a.tmps[4]? = some (.pointer (some ⟨bN, 0, none⟩)) := (hO.out 4 (by decide)).trans rfl
                      exact relVal rfl (.pointer (some ⟨bN, 1, none⟩)) _ rfl (by go_simp) ⟨_, rfl, rfl, hW, Below.refl _ _⟩
                    case s6 =>
                      intro done a W hW hd hnd hno hO hN
                      obtain ⟨v5, g5, r5⟩ := hN 5 (by decide)
                      have g5 : a.tmps[70]? = some v5 := g5
                      have e5 : v5 = .pointer (some ⟨bN, 1, none⟩) := r5
                      rw [e5] at g5
                      have c0 : W.cell? ⟨bN, 1, none⟩ = some (.slice (some ⟨bn, on, none⟩) n.val.length cvn) := (HW.out W hW).2.1
                      exact relVal rfl (.slice (some ⟨bn, on, none⟩) n.val.length cvn) _ rfl (by go_simp) ⟨_, rfl, rfl, hW, Below.refl _ _⟩
                    case s7 =>
                      intro done a W hW hd hnd hno hO hN
                      have o2 : a.tmps[2]? = some (.slice (some ⟨bf, of, none⟩) fl.length cf) := (hO.out 2 (by decide)).trans rfl
                      exact relVal rfl (.slice (some ⟨bf, of, none⟩) fl.length cf) _ rfl (by go_simp) ⟨_, rfl, rfl, hW, Below.refl _ _⟩
                    case s8 =>
                      intro done a W hW hd hnd hno hO hN
                      have o13 : a.tmps[13]? = some (.int .i64 (k : Int)) := (hO.out 13 (by decide)).trans rfl
                      exact relVal rfl (.int .i64 (k : Int)) _ rfl (by go_simp) ⟨_, rfl, rfl, hW, Below.refl _ _⟩
                    case s9 =>
                      intro done a W hW hd hnd hno hO hN
                      obtain ⟨v7, g7, r7⟩ := hN 7 (by decide)
                      have g7 : a.tmps[72]? = some v7 := g7
                      have e7 : v7 = .slice (some ⟨bf, of, none⟩) fl.length cf := r7
                      rw [e7] at g7
                      obtain ⟨v8, g8, r8⟩ := hN 8 (by decide)
                      have g8 : a.tmps[73]? = some v8 := g8
                      have e8 : v8 = .int .i64 (k : Int) := r8
                      rw [e8] at g8
                      exact relVal rfl (.pointer (some ⟨bf, of + k, none⟩)) _ rfl (by go_simp) ⟨_, rfl, rfl, hW, Below.refl _ _⟩
                    case s10 =>
                      intro done a W hW hd hnd hno hO hN
                      obtain ⟨v9, g9, r9⟩ := hN 9 (by decide)
                      have g9 : a.tmps[74]? = some v9 := g9
                      have e9 : v9 = .pointer (some ⟨bf, of + k, none⟩) := r9
                      rw [e9] at g9
                      have c0 : W.cell? ⟨bf, of + k, none⟩ = some (.int .i64 ((F k : Nat) : Int)) := (HW.out W hW).2.2.2.2
                      exact relVal rfl (.int .i64 ((F k : Nat) : Int)) _ rfl (by go_simp) ⟨_, rfl, rfl, hW, Below.refl _ _⟩
                    case s11 =>
                      intro done a W hW hd hnd hno hO hN
                      obtain ⟨v6, g6, r6⟩ := hN 6 (by decide)
                      have g6 : a.tmps[71]? = some v6 := g6
                      have e6 : v6 = .slice (some ⟨bn, on, none⟩) n.val.length cvn := r6
                      rw [e6] at g6
                      obtain ⟨v10, g10, r10⟩ := hN 10 (by decide)
                      have g10 : a.tmps[75]? = some v10 := g10
                      have e10 : v10 = .int .i64 ((F k : Nat) : Int) := r10
                      rw [e10] at g10
                      exact relVal rfl (.pointer (some ⟨bn, on + F k, none⟩)) _ rfl (by go_simp) ⟨_, rfl, rfl, hW, Below.refl _ _⟩
                    case s12 =>
                      intro done a W hW hd hnd hno hO hN
                      obtain ⟨v11, g11, r11⟩ := hN 11 (by decide)
                      have g11 : a.tmps[76]? = some v11 := g11
                      have e11 : v11 = .pointer (some ⟨bn, on + F k, none⟩) := r11
                      rw [e11] at g11
                      have c0 : W.cell? ⟨bn, on + F k, none⟩ = some (.slice qn xn.length nn) := (HW.out W hW).2.2.2.1
                      exact relVal rfl (.slice qn xn.length nn) _ rfl (by go_simp) ⟨_, rfl, rfl, hW, Below.refl _ _⟩
                    case s13 =>
                      intro done a W hW hd hnd hno hO hN
                      obtain ⟨v4, g4, r4⟩ := hN 4 (by decide)
                      have g4 : a.tmps[69]? = some v4 := g4
                      have e4 : v4 = .slice qm xm.length nm := r4
                      rw [e4] at g4
                      obtain ⟨v12, g12, r12⟩ := hN 12 (by decide)
                      have g12 : a.tmps[77]? = some v12 := g12
                      have e12 : v12 = .slice qn xn.length nn := r12
                      rw [e12] at g12
                      refine relCallF rfl rfl 24 [.tmp 69, .tmp 77] #[34, 34] rfl [.slice qm xm.length nm, .slice qn xn.length nn] (by simp [Act.eval, g4, g12]) (fun _ _ => by kernel_rfl) (Calls.mono (KE.out W hW) ?_)
                      rintro e W2 ⟨rfl, h2⟩
                      exact ⟨_, rfl, _, rfl, rfl, hW.trans (h2.mono hW.size), h2⟩
                    case s14 =>
                      intro done a W hW hd hnd hno hO hN
                      obtain ⟨v13, g13, r13⟩ := hN 13 (by decide)
                      have g13 : a.tmps[78]? = some v13 := g13
                      have e13 : v13 = .bool false := r13
                      rw [e13] at g13
                      exact relVal rfl (.bool true) _ rfl (by go_simp) ⟨_, rfl, rfl, hW, Below.refl _ _⟩
                  case fin =>
                    intro vs done w1 hdone hS hV
                    have e14 : vs 14 = .bool true := hV 14 (by decide)
                    have HB2 := show Hid (Below w4.heap.size w4 w1) from HB1.out.trans (hS.mono HB1.out.size)
                    simp only [putAll, Act.put, List.setIfInBounds_toArray, List.set_cons_zero, List.set_cons_succ, Nat.reduceAdd, e14]
                    clear hV hS e14 KE HB1 HW
                    have HB := show Hid (Below w.heap.size w w1) from HB0.out _ (HB2.out)
                    have HN := show Hid (¬ BndP m n fl) from HNO.out k hlt HNE.out
                    clear HNE HB2
                    go_wp2_with fail
                    go_ret2
                    first | exact ⟨false, 0, rfl, Or.inr (Or.inr ⟨HG.out, HOK.out, ⟨fun h => (by cases h), fun h => absurd h HN.out⟩, rfl⟩), HB.out⟩ | exact Or.inl ⟨0, rfl, Or.inr (Or.inr ⟨HG.out, HOK.out, ⟨fun h => (by cases h), fun h => absurd h HN.out⟩, rfl⟩), HB.out⟩
              · skip
                obtain rfl : k = m.up.length := by omega
                have hki : ¬ (m.up.length : Int) < (m.up.length : Int) := by omega
                have HY := show Hid (BndP m n fl) from HIF.out.1 HI.out
                have HB := show Hid (Below w.heap.size w wr) from HB0.out _ HB1.out
                clear HI HB1
                go_wp2_with fail
                go_ret2
                first | exact ⟨true, 0, rfl, Or.inr (Or.inr ⟨HG.out, HOK.out, ⟨fun _ => HY.out, fun _ => rfl⟩, rfl⟩), HB.out⟩ | exact Or.inr ⟨0, rfl, Or.inr (Or.inr ⟨HG.out, HOK.out, ⟨fun _ => HY.out, fun _ => rfl⟩, rfl⟩), HB.out⟩
      · skip
        have hflI : ((fl.length : Int) != (m.up.length : Int)) = true := by simp; omega
        have HNL := show Hid (¬ fl.length = m.up.length) from hlen
        have HB := show Hid (Below w.heap.size w w4) from HB0.out _ (Below.refl _ _)
        have HN := show Hid (mapOk m n fl = false) from mapOk_no (Or.inl HNL.out)
        clear hlen H4
        go_wp2_with fail
        go_ret2
        first | exact ⟨false, 190, rfl, Or.inr (Or.inl ⟨HG.out, HN.out, rfl, rfl⟩), HB.out⟩ | exact Or.inl ⟨190, rfl, Or.inr (Or.inl ⟨HG.out, HN.out, rfl, rfl⟩), HB.out⟩
    · skip
      have HB := show Hid _ from (H4.out.now.1.1.1.1.1.1)
      have HN := show Hid (¬ (Wd.Good m ∧ Wd.Good n)) from fun h => hG h.2
      clear H4 hG
      go_wp2_with fail
      go_ret2
      first | exact ⟨false, 170, rfl, Or.inl ⟨HN.out, rfl, rfl⟩, HB.out⟩ | exact Or.inl ⟨170, rfl, Or.inl ⟨HN.out, rfl, rfl⟩, HB.out⟩
  · skip
    have HNm := show Hid (¬ Wd.Good m) from hG
    clear hG
    have K := show Hid _ from right_any w3 HF.out.2.1 (H3.out.now.1.1.1.2) HF.out.2.2.2 (Nat.le_refl _)
    have hx0 := show Hid _ from (H3.out.now.2)
    go_wp2_with (first | refine wpList_ldw 25 _ rfl bN rfl _ _ hx0.out rfl Try.underlying25 sizeM rfl ?_)
    clear hx0
    refine Calls.mono K.out ?_
    rintro e w4 ⟨hR, hb⟩
    have H4 := hidL (H3.out.next (hb))
    clear H3 hb K
    rcases hR with ⟨Q, Rb, rfl, hob, hG⟩ | ⟨rfl, hG⟩
    · skip
      clear hob
      have HB := show Hid _ from (H4.out.now.1.1.1.1.1)
      have HN := show Hid (¬ (Wd.Good m ∧ Wd.Good n)) from fun h => HNm.out h.1
      clear H4 hG
      go_wp2_with fail
      go_ret2
      first | exact ⟨false, 170, rfl, Or.inl ⟨HN.out, rfl, rfl⟩, HB.out⟩ | exact Or.inl ⟨170, rfl, Or.inl ⟨HN.out, rfl, rfl⟩, HB.out⟩
    · skip
      have HB := show Hid _ from (H4.out.now.1.1.1.1.1)
      have HN := show Hid (¬ (Wd.Good m ∧ Wd.Good n)) from fun h => HNm.out h.1
      clear H4 hG
      go_wp2_with fail
      go_ret2
      first | exact ⟨false, 170, rfl, Or.inl ⟨HN.out, rfl, rfl⟩, HB.out⟩ | exact Or.inl ⟨170, rfl, Or.inl ⟨HN.out, rfl, rfl⟩, HB.out⟩
end Go.Proofs.Ytoedidbbjnnpnaa.Wm
