/-
  The law SearchTrue, as the program walks it: true for every row of formulas, every sequent and every row of a truth table. Where the table of TrailingZeros stands as the program's text lays it.
-/
import Derived.Test.YtkejippimkjjaaaDoorKG9
import Derived.Test.YtkejippimkjjaaaDoorKVal
import Derived.Test.YtkejippimkjjaaaDoorRG1
import Derived.Test.YtkejippimkjjaaaDoorZT1
import Derived.Test.YtkejippimkjjaaaDoorFG3
import Derived.Test.YtkejippimkjjaaaDoorFG3
namespace Go.Proofs.YtkejippimkjjaaaDoor
open Go.RowKit Go.Shelf Go.Maps
open Fm (Nd)
open Bt.Bs (Ok wd)
set_option linter.unusedSimpArgs false

set_option maxRecDepth 100000 in
set_option maxHeartbeats 8000000 in
theorem searchTrue_any (w : World) (rv : Value) (rs : List Nd) (hR : IsR w rv rs) (hg : ∀ n ∈ rs, Fm.good n) (hl : rs.length * 40 ≤ 140737488351232) (hv : rv = .slice none 0 0 ∨ ∃ a n c, rv = .slice (some a) n c)
    {r : List Nat} (hr : Ok r) (g on : Int) (hZ : Bt.Tz w) :
    Calls Tryd.prog 7 #[rv, .agg (cellsQ r g), .int .u64 on] w fun e w' => e = .returned (.bool true) ∧ Below w.heap.size w w' := by
  have hr16 := hr.1
  have KT := show Hid (∀ w', Below w.heap.size w w' → Calls Tryd.prog 8 #[rv] w' fun e w'' => IsBoth w' w'' e (Fm.fr [] rs)) from fun w' hb => both_any w' rv rs (hR.later hb) hg hl hv
  have KH := show Hid (∀ w' : World, Below w.heap.size w w' → Calls Tryd.prog 9 #[] w' fun e w'' => e = .returned (.bool true) ∧ Below w'.heap.size w' w'') from fun w' hb => heads11_any w' (Bt.tz_block hZ hb)
  have HZ := show Hid (∀ W : World, Below w.heap.size w W → Bt.Tz W) from fun W hb => Bt.tz_block hZ hb
  have HOK := show Hid (Ok r) from hr
  have HFR := show Hid ((Fm.fr [] rs).1 = 0 → (Fm.fr [] rs).2 = rs) from fun h => by
    have h1 := Fm.fr_zero (u := (Fm.fr [] rs).2) rs Fm.ok_nil hg (Prod.ext h rfl)
    simpa using h1.2
  have HR := show Hid (∀ W : World, Below w.heap.size w W → IsR W rv rs) from fun W hb => hR.later hb
  obtain ⟨p, cp, rfl, hc1, hc2, hat⟩ := hR
  have HR2 := show Hid (∀ W : World, Below w.heap.size w W → ∀ k (hk : k < rs.length), ∃ rg ro, p = some ⟨rg, ro, none⟩ ∧ At4 W rg (ro + k * 4) rs[k]) from fun W hb k hk => by
    obtain ⟨p2, cp2, hv2, _, _, hat2⟩ := HR.out W hb
    obtain ⟨rfl, _, rfl⟩ := Value.slice.inj hv2
    obtain ⟨rg, ro, hp, h4⟩ := hat2 (by omega)
    exact ⟨rg, ro, hp, h4 k hk⟩
  clear hat HR hv hg
  generalize Fm.fr [] rs = ans at *
  clear hZ hr
  go_enter Tryd.func7, Tryd.ntmps7
  go_wp2_with (refine wpList_box 27 _ rfl _ rfl rfl ?_)
  intro w1 b4 hn1
  have H1 := show Hid (RS1 w w1 b4 r g) from ⟨hn1.blk, hn1.bel, hn1.ge⟩
  clear hn1
  go_wp2_with fail
  refine Calls.mono (KT.out _ H1.out.bel) ?_
  rintro e w2 (⟨h0, B, M, v, C, u, rfl, hP⟩ | ⟨_, rfl, hb⟩)
  · have H2 := show Hid (LX w w1 w2 b4 B M v C u rs rs r g) from (by
      have := LX.mk1 H1.out hP
      rwa [HFR.out h0] at this)
    clear hP H1 KT HFR h0
    have K6 := show Hid _ from rright_any w2 H2.out.pr.tr HOK.out g
    have HRQ := show Hid (rightQ rs r g = true → rgt rs.length (r, g)) from fun h => rgt_iff.1 h
    have HOT := show Hid (Fm.Ok rs) from H2.out.pr.tb.ok
    generalize rightQ rs r g = rq at *
    go_wp2_with (refine wpList_ldQQ _ _ rfl b4 rfl H2.out.s hr16 rfl ?_)
    refine Calls.mono K6.out ?_
    rintro e w3 ⟨rfl, hb3⟩
    have H3 := show Hid (LX w w1 w3 b4 B M v C u rs rs r g) from H2.out.later hb3
    clear H2 hb3 K6
    cases rq with
    | false =>
      clear HRQ
      go_wp2_with fail
      refine Calls.mono (KH.out _ H3.out.bel) ?_
      rintro e w7 ⟨rfl, hb7⟩
      have HB := show Hid (Below w.heap.size w w7) from H3.out.bel.trans (hb7.mono H3.out.bel.size)
      clear hb7 H3 KH
      go_wp2_with fail
      go_ret
      exact ⟨rfl, HB.out⟩
    | true =>
      have HQ := show Hid (rgt rs.length (r, g)) from HRQ.out rfl
      clear HRQ
      have K4 := show Hid _ from told_any w3 H3.out.pr.tb (HZ.out _ H3.out.bel) (s := (r, g)) HOK.out
      have HTV := show Hid (∀ f, Resp rs f → tellF rs (r, g) = 1 → (∀ n, n < 1024 → Bt.Bs.has r n = true → f n = true) → f g.toNat = true) from fun f hf h1 h2 => truth_is HOT.out hf (s := (r, g)) HOK.out HQ.out h1 h2
      generalize tellF rs (r, g) = ta at *
      go_wp2_with (refine wpList_ldQQ _ _ rfl b4 rfl H3.out.s hr16 rfl ?_)
      refine Calls.mono K4.out ?_
      rintro e w4 ⟨rfl, hA4⟩
      have H4 := show Hid (SeqAt w4 b4 r g ∧ Below w.heap.size w w4) from (by
        obtain ⟨v4, hP4⟩ := H3.out.pr.stepT hA4
        exact ⟨Cl.aft H3.out.s H3.out.pr.tb (by decide) (by decide) hA4, H3.out.b1.trans (hP4.bel.mono H3.out.b1.size)⟩)
      clear hA4 H3 K4
      by_cases hta : ta = 1
      · have htb : (ta != 1) = false := by rw [hta]; rfl
        have HTW := show Hid (∀ f, Resp rs f → (∀ n, n < 1024 → Bt.Bs.has r n = true → f n = true) → f g.toNat = true) from fun f hf h2 => HTV.out f hf hta h2
        clear HTV hta
        have hlen := HOT.out.len
        have hmk : (Instr.makeSlice 50 (.int .i64 (rs.length : Int)) (.int .i64 (rs.length : Int))).run Tryd.prog w4 = .ok (.slice (some ⟨w4.heap.size, 0, none⟩) rs.length rs.length) (w4.alloc (.cells (madeCells #[.bool false] rs.length) 4)) := run_make_row' (P := Tryd.prog) 50 4 (.bool false) 1 Tryd.underlying50 info_bool rfl .i64 .i64 rs.length (by omega) (by omega) w4
        have HB0 := show Hid (VB w4 (w4.alloc (.cells (madeCells #[.bool false] rs.length) 4)) rs 0 (fun _ => false)) from ⟨made_bs w4 rs.length, fun j h => by omega, fun _ _ => rfl, below_alloc w4 _⟩
        go_wp2_with fail
        go_loopw [11, 12] (fun kv iv wr => ∃ (k i : Nat) (f : Nat → Bool), i ≤ rs.length ∧ k ≤ i ∧ kv = .int .i64 (k : Int) ∧ iv = .int .i64 (i : Int) ∧ Hid (VB w4 wr rs i f)) (fun _ iv _ => rs.length - (intOf iv).toNat)
        case atStart => exact ⟨0, 0, fun _ => false, by omega, by omega, rfl, rfl, HB0.out⟩
        case round =>
          obtain ⟨k, i, f, hi, hk, rfl, rfl, HI⟩ := hrel
          clear HB0 hmk
          by_cases hlt : i < rs.length
          · have hkl : (i : Int) < (rs.length : Int) := by omega
            have hbw : Below w.heap.size w wr := H4.out.2.trans (HI.out.be.mono H4.out.2.size)
            obtain ⟨rg, ro, rfl, hA⟩ := HR2.out wr hbw i hlt
            have HA4 := show Hid _ from hA
            clear hA hbw
            have HND := show Hid (nodeOf rs (i : Int) = rs[i]) from nodeOf_nat hlt
            have HKD := show Hid (rs[i].k = 3 ∨ rs[i].k = 4 ∨ rs[i].k = 5 → ∃ x y : Nat, rs[i].l = x ∧ rs[i].r = y ∧ x < i ∧ y < i) from kids HOT.out hlt
            have hkd := Fm.ok_kind HOT.out hlt
            generalize hni : rs[i] = nd at *
            go_wp2_with (first | (refine wpList_ld4 _ rfl _ rfl rg _ rfl HA4.out ?_) | (refine wpList_alloc 53 rfl _ zero_node rfl ?_))
            intro w9 b13 hn9
            go_wp2_with (refine wpList_st 53 rfl rfl _ _ rfl b13 rfl (ndC nd).toArray rfl _ _ hn9.blk (by rw [sizeN]; rfl) rfl (ndC_all _) ?_)
            intro w10 hc10 hk10
            have hb10 : Below wr.heap.size wr w10 := bel_kp hn9.bel hk10 hn9.ge
            have HJ := show Hid (VB w4 w10 rs i f) from HI.out.later hb10
            have a0 : w10.cell? ⟨b13, 0, none⟩ = some (.int .i64 nd.k) := hc10.cell 0
            have a2 : w10.cell? ⟨b13, 2, none⟩ = some (.int .i64 nd.l) := hc10.cell 2
            have a3 : w10.cell? ⟨b13, 3, none⟩ = some (.int .i64 nd.r) := hc10.cell 3
            clear hn9 hk10 hb10 HI HA4 hc10
            have bf := HJ.out.bs.fr i
            have bi := HJ.out.bs.cell (j := i) hlt
            rcases hkd with e1 | e1 | e1
            · rw [e1] at a0
              have HN := show Hid (∀ x : Bool, VB w4 (w10.setCell ⟨w4.heap.size, i, none⟩ (.bool x)) rs (i + 1) (updB f i x)) from fun x => HJ.out.set HOT.out hlt (by rw [HND.out]; exact rsp_one e1)
              clear HJ HKD HND e1 hni
              go_wp2_with fail
              go_roundw
              case rel => exact ⟨k + 1, i + 1, _, by omega, by omega, by go_num, by go_num, HN.out _⟩
              case measure => first | (simp [intOf]; done) | (simp [intOf]; omega)
            · rw [e1] at a0
              have HN := show Hid (VB w4 w10 rs (i + 1) f) from HJ.out.same (by rw [HND.out]; exact rsp_two e1 (HJ.out.hi i (Nat.le_refl _)))
              clear HJ HKD HND e1 hni
              go_wp2_with fail
              go_roundw
              case rel => exact ⟨k, i + 1, f, by omega, by omega, rfl, by go_num, HN⟩
              case measure => first | (simp [intOf]; done) | (simp [intOf]; omega)
            · simp only [Fm.jn, Bool.or_eq_true, beq_iff_eq] at e1
              have e2 : nd.k = 3 ∨ nd.k = 4 ∨ nd.k = 5 := by omega
              obtain ⟨x, y, ex, ey, lx, ly⟩ := HKD.out e2
              rw [ex] at a2
              rw [ey] at a3
              have b2 := HJ.out.bs.cell (j := x) (by omega)
              have b3 := HJ.out.bs.cell (j := y) (by omega)
              have hxI : (x : Int) < (rs.length : Int) := by omega
              have hyI : (y : Int) < (rs.length : Int) := by omega
              have HN := show Hid (∀ z : Bool, (nd.k = 3 → z = (f x && f y)) → (nd.k = 4 → z = (f x || f y)) → (nd.k = 5 → z = (!f x || f y)) → VB w4 (w10.setCell ⟨w4.heap.size, i, none⟩ (.bool z)) rs (i + 1) (updB f i z)) from fun z h3 h4 h5 => HJ.out.set HOT.out hlt (by
                rw [HND.out]
                exact rsp_up (by rw [ex, Int.toNat_natCast]) (by rw [ey, Int.toNat_natCast]) lx ly (by omega) h3 h4 h5)
              clear HJ HKD HND e1 hni
              generalize f x = fx at *
              generalize f y = fy at *
              rcases e2 with e3 | e3 | e3
              · rw [e3] at a0
                have HN2 := show Hid (VB w4 (w10.setCell ⟨w4.heap.size, i, none⟩ (.bool (fx && fy))) rs (i + 1) (updB f i (fx && fy))) from HN.out _ (fun _ => rfl) (fun e => by omega) (fun e => by omega)
                clear HN e3 ex ey
                cases fx <;> cases fy <;> (go_wp2_with fail) <;> go_roundw
                all_goals first | exact ⟨k, i + 1, _, by omega, by omega, rfl, by go_num, HN2⟩ | (simp [intOf]; done) | (simp [intOf]; omega)
              · rw [e3] at a0
                have HN2 := show Hid (VB w4 (w10.setCell ⟨w4.heap.size, i, none⟩ (.bool (fx || fy))) rs (i + 1) (updB f i (fx || fy))) from HN.out _ (fun e => by omega) (fun _ => rfl) (fun e => by omega)
                clear HN e3 ex ey
                cases fx <;> cases fy <;> (go_wp2_with fail) <;> go_roundw
                all_goals first | exact ⟨k, i + 1, _, by omega, by omega, rfl, by go_num, HN2⟩ | (simp [intOf]; done) | (simp [intOf]; omega)
              · rw [e3] at a0
                have HN2 := show Hid (VB w4 (w10.setCell ⟨w4.heap.size, i, none⟩ (.bool (!fx || fy))) rs (i + 1) (updB f i (!fx || fy))) from HN.out _ (fun e => by omega) (fun e => by omega) (fun _ => rfl)
                clear HN e3 ex ey
                cases fx <;> cases fy <;> (go_wp2_with fail) <;> go_roundw
                all_goals first | exact ⟨k, i + 1, _, by omega, by omega, rfl, by go_num, HN2⟩ | (simp [intOf]; done) | (simp [intOf]; omega)
          · have hkl : ¬ (i : Int) < (rs.length : Int) := by omega
            have HRf := show Hid (Resp rs f) from fun j hj => HI.out.lo j (by omega)
            have HTX := show Hid ((∀ n, n < 1024 → Bt.Bs.has r n = true → f n = true) → f g.toNat = true) from HTW.out f HRf.out
            have H5 := show Hid (SeqAt wr b4 r g ∧ Bs wr w4.heap.size rs.length f ∧ Below w.heap.size w wr) from ⟨H4.out.1.later HI.out.be H4.out.1.lt, HI.out.bs, H4.out.2.trans (HI.out.be.mono H4.out.2.size)⟩
            clear HI HRf HTW H4 HR2
            generalize w4.heap.size = q7 at *
            have hnl : (Bt.Bs.nums r).length ≤ 1024 := Bt.Bs.nums_len_le r
            have KL := show Hid (∀ w', Calls Tryd.prog 15 #[.agg (Bt.cellsB r)] w' fun e w'' => ∃ p cc, e = .returned (.slice p (Bt.Bs.nums r).length cc) ∧ (∀ k (hk : k < (Bt.Bs.nums r).length), ∃ b o, p = some ⟨b, o, none⟩ ∧ w''.cell? ⟨b, o + k, none⟩ = some (.int .i64 (((Bt.Bs.nums r)[k] : Nat) : Int))) ∧ Below w'.heap.size w' w'') from fun w' => (Bt.rlist_any w' HOK.out).mono fun e w'' ⟨v, he, ho, hb⟩ => by
              obtain ⟨p, cc, hv, _, hcell⟩ := ho.isL hnl
              rw [List.length_map] at hv
              refine ⟨p, cc, by rw [he, hv], fun k hk => ?_, hb⟩
              obtain ⟨b, o, hp, hc⟩ := hcell k (by simpa using hk)
              exact ⟨b, o, hp, by simpa using hc⟩
            have HLT := show Hid (∀ k (hk : k < (Bt.Bs.nums r).length), (Bt.Bs.nums r)[k] < rs.length) from fun k hk => by
              have := Bt.Bs.mem_nums.1 (List.getElem_mem hk)
              exact HQ.out.1 _ this.1 this.2
            have HE := show Hid ((∀ k (hk : k < (Bt.Bs.nums r).length), f (Bt.Bs.nums r)[k] = true) → f g.toNat = true) from fun h => HTX.out fun n hn hh => by
              obtain ⟨k, hk, e⟩ := List.mem_iff_getElem.1 (Bt.Bs.mem_nums.2 ⟨hn, hh⟩)
              rw [← e]
              exact h k hk
            have hg2 := HQ.out.2
            simp only at hg2
            obtain ⟨gn, hgg⟩ : ∃ gn : Nat, g = gn := ⟨g.toNat, by omega⟩
            subst hgg
            rw [Int.toNat_natCast] at HE
            clear HTX HQ HOT HZ
            generalize Bt.Bs.nums r = l at *
            go_wp2_with (refine wpList_ldQ _ _ rfl _ rfl H5.out.1 hr16 rfl ?_)
            refine (KL.out _).mono ?_
            rintro e w6 ⟨lp, lc, rfl, hcell, hb6⟩
            have HL := show Hid (∀ k (hk : k < l.length), ∃ b o, lp = some ⟨b, o, none⟩ ∧ w6.cell? ⟨b, o + k, none⟩ = some (.int .i64 ((l[k] : Nat) : Int))) from hcell
            have H6 := show Hid (SeqAt w6 b4 r (gn : Int) ∧ Bs w6 q7 rs.length f ∧ Below w.heap.size w w6) from ⟨H5.out.1.later hb6 H5.out.1.lt, H5.out.2.1.keep hb6 (lt_of_block H5.out.2.1), H5.out.2.2.trans (hb6.mono H5.out.2.2.size)⟩
            clear hcell hb6 H5 KL
            go_wp2_with fail
            go_loopw [15] (fun jv wr2 => ∃ jx : Nat, jx ≤ l.length ∧ jv = .int .i64 (jx : Int) ∧ wr2 = w6 ∧ Hid (∀ j (hj : j < l.length), j < jx → f l[j] = true)) (fun jv _ => l.length - (intOf jv).toNat)
            case atStart => exact ⟨0, by omega, rfl, rfl, fun j _ h => by omega⟩
            case round =>
              obtain ⟨jx, hjx, rfl, hwr, HI⟩ := hrel
              subst hwr
              by_cases hlt2 : jx < l.length
              · have hki : (jx : Int) < (l.length : Int) := by omega
                obtain ⟨bb, o, rfl, hc⟩ := HL.out jx hlt2
                have hxn := HLT.out jx hlt2
                have hxI : ((l[jx] : Nat) : Int) < (rs.length : Int) := by omega
                have bc := H6.out.2.1.cell hxn
                cases hx : f l[jx]
                · rw [hx] at bc
                  clear hx hxn
                  generalize l[jx] = x at *
                  clear HE HI HL HLT
                  go_wp2_with fail
                  refine Calls.mono (KH.out _ H6.out.2.2) ?_
                  rintro e w7 ⟨rfl, hb7⟩
                  have HB := show Hid (Below w.heap.size w w7) from H6.out.2.2.trans (hb7.mono H6.out.2.2.size)
                  clear hb7 H6 KH
                  go_wp2_with fail
                  go_ret
                  exact ⟨rfl, HB.out⟩
                · have HI2 := show Hid (∀ j (hj : j < l.length), j < jx + 1 → f l[j] = true) from fun j hj h => by
                    by_cases e : j = jx
                    · subst e; exact hx
                    · exact HI.out j hj (by omega)
                  rw [hx] at bc
                  clear hx hxn
                  generalize l[jx] = x at *
                  clear HE HI HL HLT
                  go_wp2_with fail
                  go_roundw
                  case rel => exact ⟨jx + 1, by omega, by go_num, by simp, HI2⟩
                  case measure => first | (simp [intOf]; done) | (simp [intOf]; omega)
              · have hki : ¬ (jx : Int) < (l.length : Int) := by omega
                have hfg := HE.out (fun j hj => HI.out j hj (by omega))
                have c0 := H6.out.1.goal hr16
                have bc := H6.out.2.1.cell (j := gn) (by omega)
                have hgI : (gn : Int) < (rs.length : Int) := by omega
                rw [hfg] at bc
                clear HE HI HL HLT hfg
                go_wp2_with fail
                refine Calls.mono (KH.out _ H6.out.2.2) ?_
                rintro e w7 ⟨rfl, hb7⟩
                have HB := show Hid (Below w.heap.size w w7) from H6.out.2.2.trans (hb7.mono H6.out.2.2.size)
                clear hb7 H6 KH
                go_wp2_with fail
                go_ret
                exact ⟨rfl, HB.out⟩
      · have htb : (ta != 1) = true := by simpa using hta
        clear hta HTV
        go_wp2_with fail
        refine Calls.mono (KH.out _ H4.out.2) ?_
        rintro e w7 ⟨rfl, hb7⟩
        have HB := show Hid (Below w.heap.size w w7) from H4.out.2.trans (hb7.mono H4.out.2.size)
        clear hb7 H4 KH
        go_wp2_with fail
        go_ret
        exact ⟨rfl, HB.out⟩
  · have H2 := show Hid (Below w.heap.size w w2) from H1.out.bel.trans (hb.mono H1.out.bel.size)
    clear hb H1 KT
    go_wp2_with fail
    refine Calls.mono (KH.out _ H2.out) ?_
    rintro e w7 ⟨rfl, hb7⟩
    have HB := show Hid (Below w.heap.size w w7) from H2.out.trans (hb7.mono H2.out.size)
    clear hb7 H2 KH
    go_wp2_with fail
    go_ret
    exact ⟨rfl, HB.out⟩
end Go.Proofs.YtkejippimkjjaaaDoor
