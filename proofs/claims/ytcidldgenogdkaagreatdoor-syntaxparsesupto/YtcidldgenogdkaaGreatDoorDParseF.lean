/-
  The document's call Parse, where the text has a fault, and all together. For every table and every text of at most 2^40 bytes. No other condition.
-/
import Derived.Test.YtcidldgenogdkaaGreatDoorDParse
namespace Go.Proofs.YtcidldgenogdkaaGreatDoor
open Go.RowKit Go.Maps
open Fm (Nd)
open Sx (Tn T Lv)

set_option maxRecDepth 100000 in
set_option maxHeartbeats 8000000 in
theorem dparse_fault (w : World) {C0 : Nat} {u0 : Value} {t : List Nd} (h : Tr w C0 u0 t) (s : ByteArray) (hs : s.size ≤ 1099511627776) (h0 : (Tk.scan s.data.toList).2.1 ≠ 0) :
    Calls Tryz.prog 10 #[.pointer (some ⟨C0, 0, none⟩), .string s] w fun e w' => e = .returned (parseV (parseR s.data.toList t).1) ∧ AfterR w C0 u0 (parseR s.data.toList t).2 w' := by
  obtain ⟨pre, hd, hd2⟩ := Dp.dts_fault s.data.toList h0
  have hal : Dp.al s.data.toList = pre := by unfold Dp.al; rw [if_neg h0, hd, List.dropLast_concat]
  have hk := toks_ok s.data.toList
  have hsz : s.data.toList.length = s.size := rfl
  have hov := (Dp.al_over s.data.toList).1
  rw [hal] at hov
  have hfv : Tw.fltV s.data.toList (Tk.scan s.data.toList).2.1 (Tk.scan s.data.toList).2.2 = .agg #[.int .i64 (Tk.scan s.data.toList).2.1, .int .i64 (Tk.spot s.data.toList (Tk.scan s.data.toList).2.2).1, .int .i64 (Tk.spot s.data.toList (Tk.scan s.data.toList).2.2).2, .int .i64 ((Tk.scan s.data.toList).2.2 : Int)] := by unfold Tw.fltV; rw [if_neg h0]
  have KA := show Hid (∀ w1, Calls Tryz.prog 30 #[.string s] w1 fun e w' => ∃ g cap, e = .returned (.tuple #[.slice (some ⟨g, 0, none⟩) pre.length cap, .agg #[.int .i64 (Tk.scan s.data.toList).2.1, .int .i64 (Tk.spot s.data.toList (Tk.scan s.data.toList).2.2).1, .int .i64 (Tk.spot s.data.toList (Tk.scan s.data.toList).2.2).2, .int .i64 ((Tk.scan s.data.toList).2.2 : Int)]]) ∧ w1.heap.size ≤ g ∧ TsAt w' g cap (Dp.dts s.data.toList) ∧ Below w1.heap.size w1 w') from fun w1 => by
    have := ahead_any w1 s hs
    unfold IsAhead at this
    rw [hal, hfv] at this
    exact this
  have b0 := show Hid (Below w.heap.size w (w.alloc (Obj.cells #[.int .i64 0, .int .i64 0, .int .i64 0, .int .i64 0] 31))) from below_alloc _ _
  have f0 := show Hid (Fl (w.alloc (Obj.cells #[.int .i64 0, .int .i64 0, .int .i64 0, .int .i64 0] 31)) w.heap.size 0 0 0 0) from fl_new _ _ _ _ _
  have HOV := show Hid (over (toks s.data.toList) 0 = over (pre.drop 0) 0) from hov.symm
  have HPS := show Hid (∀ x, over (toks s.data.toList) 0 = some x → parseR s.data.toList t = ((0, 40, x), t)) from fun x hx => by unfold parseR; rw [hx]
  have HPN := show Hid (over (toks s.data.toList) 0 = none → PL s.data.toList (Dp.dts s.data.toList) (Tk.scan s.data.toList).2.1) from fun hov => pl_of s.data.toList hov
  have HZ := show Hid (∀ x ∈ Dp.dts s.data.toList, x.s.size ≤ 31) from fun x hx => by
    rw [hd] at hx
    rcases List.mem_append.1 hx with hx | hx
    · exact hk.2.2 x (by rw [hd2]; exact List.mem_append_left _ hx)
    · simp only [List.mem_singleton] at hx
      subst hx
      exact (by decide : (0 : Nat) ≤ 31)
  have HW := show Hid (∀ w', Below w.heap.size w w' → AfterR w C0 u0 t w') from fun w' hb => AfterR.of_below h hb
  have HTr := show Hid (Tr w C0 u0 t) from h
  have hlen : pre.length ≤ 1099511627777 := by
    have h1 := congrArg List.length hd2
    rw [List.length_append, List.length_singleton] at h1
    have := hk.2.1
    omega
  obtain ⟨pr, hpr⟩ : ∃ pr, pr = parseR s.data.toList t := ⟨_, rfl⟩
  have HPR := show Hid (pr = parseR s.data.toList t) from hpr
  rw [← hpr] at HPS ⊢
  have HDS := show Hid (Dp.dts s.data.toList = pre ++ [⟨0, ⟨#[]⟩, 0, (Tk.spot s.data.toList (Tk.scan s.data.toList).2.2).1, (Tk.spot s.data.toList (Tk.scan s.data.toList).2.2).2, ((Tk.scan s.data.toList).2.2 : Int)⟩]) from hd
  have hdl : (Dp.dts s.data.toList).length = pre.length + 1 := by rw [hd]; simp
  clear hpr hs hal hk hsz h hd hd2 hov hfv
  generalize over (toks s.data.toList) 0 = ov at *
  generalize (Tk.spot s.data.toList (Tk.scan s.data.toList).2.2).1 = sp1 at *
  generalize (Tk.spot s.data.toList (Tk.scan s.data.toList).2.2).2 = sp2 at *
  generalize hec0 : (Tk.scan s.data.toList).2.1 = ec at *
  generalize (Tk.scan s.data.toList).2.2 = off at *
  have hec : ec ≠ 0 := h0
  clear hec0 h0
  generalize Dp.dts s.data.toList = ds at *
  obtain ⟨al, hal⟩ : ∃ al, al = pre := ⟨_, rfl⟩
  subst hal
  have HL := show Hid (∀ w g cap, TsAt w g cap ds → TsAt w g cap al) from fun w g cap h => by rw [HDS.out] at h; exact h.left
  go_enter Tryz.func10, Tryz.ntmps10
  go_wp2_with fail
  refine (KA.out _).mono ?_
  rintro e w1 ⟨g, cap, rfl, hg, hts, hb⟩
  have hb2 : Below w1.heap.size w1 (w1.alloc (Obj.cells #[.int .i64 ec, .int .i64 sp1, .int .i64 sp2, .int .i64 (off : Int)] 31)) := below_alloc _ _
  have hB1 : Below w.heap.size w w1 := b0.out.trans (hb.mono b0.out.size)
  have X := show Hid (Pw w (w1.alloc (Obj.cells #[.int .i64 ec, .int .i64 sp1, .int .i64 sp2, .int .i64 (off : Int)] 31)) g cap w1.heap.size C0 u0 ds t ec sp1 sp2 (off : Int)) from ⟨hts.later hb2, hB1.trans (hb2.mono hB1.size), (f0.out.later hb).later hb2, fl_new _ _ _ _ _⟩
  have hcl : al.length ≤ 4611686018427387904 := by omega
  have hne : ¬ w1.heap.size = w.heap.size := by have := hb.size; simp at this; omega
  have hne2 : ¬ w.heap.size = w1.heap.size := fun e => hne e.symm
  have hgw : w.heap.size ≤ g := by simp at hg; omega
  clear hg hts hb hb2 hB1 KA b0 f0
  go_wp2_with fail
  go_loopw [8, 9] (fun c i wr => ∃ k cc : Nat, k ≤ al.length ∧ cc ≤ 512 ∧ i = .int .i64 k ∧ c = .int .i64 cc ∧ Hid (ov = over (al.drop k) cc) ∧ Hid (Pw w wr g cap w1.heap.size C0 u0 ds t ec sp1 sp2 (off : Int))) (fun _ i _ => al.length - (intOf i).toNat)
  case atStart => exact ⟨0, 0, by omega, by omega, rfl, rfl, HOV, X⟩
  case round =>
    clear X
    obtain ⟨k, cc, hk, hcc, rfl, rfl, HR, Y⟩ := hrel
    by_cases hlt : k < al.length
    · have hki : (k : Int) < (al.length : Int) := by omega
      have hcell := (HL.out _ _ _ Y.out.ts).cell hlt
      have d0 := hcell 0 (by omega)
      have d1 := hcell 1 (by omega)
      have d2 := hcell 2 (by omega)
      have d3 := hcell 3 (by omega)
      have d4 := hcell 4 (by omega)
      have d5 := hcell 5 (by omega)
      have HD := show Hid _ from HR.out.trans (over_step al k cc hlt)
      have KC := show Hid (∀ w, Calls Tryz.prog 31 #[tnV al[k]] w fun e w' => e = .returned (.bool (Sx.counts al[k])) ∧ Below w.heap.size w w') from fun w => counted_any w _
      generalize Sx.counts al[k] = q at *
      generalize hal : al[k] = tt at *
      obtain ⟨tk, tx, tn, tl, tc, to⟩ := tt
      simp only [tnC, tnV, Nat.add_zero, List.getElem?_cons_zero, List.getElem?_cons_succ] at *
      clear hcell
      go_wp2_with fail
      refine (KC.out _).mono ?_
      rintro e w2 ⟨rfl, hb2⟩
      have Z := show Hid (Pw w w2 g cap w1.heap.size C0 u0 ds t ec sp1 sp2 (off : Int)) from Y.out.later hb2
      clear hb2 Y KC d0 d1 d2 d3 d4 d5 HR
      cases q
      · have hle : ¬ 512 < (cc : Int) := by omega
        have hle2 : (cc : Int) ≤ 512 := by omega
        have HN := show Hid (ov = over (al.drop (k + 1)) cc) from by
          have h := HD.out
          simp only [Bool.false_eq_true, if_false] at h
          rw [if_neg (by omega)] at h
          exact h
        clear HD
        go_wp2_with fail
        go_roundw
        case rel => exact ⟨k + 1, cc, by omega, by omega, by go_num, rfl, HN, Z⟩
        case measure => first | (simp [intOf]; done) | (simp [intOf]; omega)
      · by_cases hgt : 512 < cc + 1
        · have hle : 512 < (cc : Int) + 1 := by omega
          have HN := show Hid (ov = some ⟨tk, tx, tn, tl, tc, to⟩) from by
            have h := HD.out
            simp only [if_true] at h
            rw [if_pos (by omega)] at h
            exact h
          have HP8 := show Hid (pr = ((0, 40, ⟨tk, tx, tn, tl, tc, to⟩), t)) from HPS.out _ HN.out
          have hcell := (HL.out _ _ _ Z.out.ts).cell hlt
          have d3 := hcell 3 (by omega)
          have d4 := hcell 4 (by omega)
          have d5 := hcell 5 (by omega)
          rw [hal] at d3 d4 d5
          simp only [tnC, List.getElem?_cons_zero, List.getElem?_cons_succ] at d3 d4 d5
          have r0 := Z.out.r.c0; have r1 := Z.out.r.c1; have r2 := Z.out.r.c2; have r3 := Z.out.r.c3; have rf := Z.out.r.fr
          clear HD hgt hcell
          go_wp2_with fail
          go_region
          go_wp2_with fail
          refine bodyPost_ret (results_tmp_cell rfl _ _ w.heap.size _ _ _ _ rfl (Fl.drew (Z.out.r.s4 40 tl tc to)) Tryz.underlying31 rfl (by kernel_rfl)) rfl ?_
          exact ⟨by rw [HP8.out]; rfl, by rw [HP8.out]; exact HW.out _ ((((Z.out.be.setCell (Nat.le_refl _) _).setCell (Nat.le_refl _) _).setCell (Nat.le_refl _) _).setCell (Nat.le_refl _) _).drew⟩
        · have hle : ¬ 512 < (cc : Int) + 1 := by omega
          have hle2 : (cc : Int) + 1 ≤ 512 := by omega
          have HN := show Hid (ov = over (al.drop (k + 1)) (cc + 1)) from by
            have h := HD.out
            simp only [if_true] at h
            rw [if_neg (by omega)] at h
            exact h
          clear HD
          go_wp2_with fail
          go_roundw
          case rel => exact ⟨k + 1, cc + 1, by omega, by omega, by go_num, by go_num, HN, Z⟩
          case measure => first | (simp [intOf]; done) | (simp [intOf]; omega)
    · have hke : k = al.length := by omega
      have hki : ¬ (k : Int) < (al.length : Int) := by omega
      have hovn : ov = none := by rw [HR.out, hke, List.drop_length]; rfl
      have HPL := show Hid (PL s.data.toList ds ec) from HPN.out hovn
      clear HR hke hovn
      have s0 := Y.out.f.c0; have s1 := Y.out.f.c1; have s2 := Y.out.f.c2; have s3 := Y.out.f.c3
      have hbl : Below wr.heap.size wr (wr.alloc (Obj.cells #[.int .i64 0, .string ⟨#[]⟩, .int .i64 0, .int .i64 sp1, .int .i64 sp2, .int .i64 (off : Int)] 45)) := below_alloc _ _
      have Y2 := show Hid (Pw w (wr.alloc (Obj.cells #[.int .i64 0, .string ⟨#[]⟩, .int .i64 0, .int .i64 sp1, .int .i64 sp2, .int .i64 (off : Int)] 45)) g cap w1.heap.size C0 u0 ds t ec sp1 sp2 (off : Int)) from Y.out.later hbl
      have HTS := show Hid (TsAt (wr.alloc (Obj.cells #[.int .i64 0, .string ⟨#[]⟩, .int .i64 0, .int .i64 sp1, .int .i64 sp2, .int .i64 (off : Int)] 45)) g cap (al ++ [⟨0, ⟨#[]⟩, 0, sp1, sp2, (off : Int)⟩])) from by rw [← HDS.out]; exact Y2.out.ts
      clear hbl
      go_wp2_with (at_builtin; refine wpList_append_tok _ rfl (.tmp 42) (.tmp 46) rfl g cap al ⟨0, ⟨#[]⟩, 0, sp1, sp2, (off : Int)⟩ rfl HTS.out ⟨wr.heap.size, 0, none⟩ rfl (Go.Proofs.YtcidldgenogdkaaGreatDoor.lit_newsV _ _ _ _ rfl) ?_)
      intro wc hts hgr
      have Z := show Hid (Pw w wc g cap w1.heap.size C0 u0 ds t ec sp1 sp2 (off : Int)) from ⟨by rw [HDS.out]; exact hts, Y2.out.be.grown hgr Y2.out.be.size (fun k hk => by cases hk; exact hgw), (hgr.block _ Y2.out.r.lt (fun e => (Y2.out.ts.ne Y2.out.r) (by cases e; rfl))).trans Y2.out.r, (hgr.block _ Y2.out.f.lt (fun e => (Y2.out.ts.ne Y2.out.f) (by cases e; rfl))).trans Y2.out.f⟩
      clear hts hgr HTS Y2 Y s0 s1 s2 s3
      go_wp2_with fail
      refine (rcopy_any wc (HTr.out.later Z.out.be)).mono ?_
      rintro e w5 ⟨u5, rfl, hT5, hf5, hb5⟩
      have hD6 : Dw wc (w5.alloc (Obj.cells #[.pointer (some ⟨wc.heap.size, 0, none⟩), .slice (some ⟨g, 0, none⟩) (al.length + 1) cap, .int .i64 0, .int .i64 0, .int .i64 0, .bool false, .int .i64 0, .int .i64 0, .int .i64 0, .int .i64 0] 75)) w5.heap.size wc.heap.size g cap ds (q0 t) := by
        have h6 := dw_start Z.out.ts hT5 hf5 hb5
        rw [hdl] at h6
        exact h6
      have Z6 := show Hid (Pw w (w5.alloc (Obj.cells #[.pointer (some ⟨wc.heap.size, 0, none⟩), .slice (some ⟨g, 0, none⟩) (al.length + 1) cap, .int .i64 0, .int .i64 0, .int .i64 0, .bool false, .int .i64 0, .int .i64 0, .int .i64 0, .int .i64 0] 75)) g cap w1.heap.size C0 u0 ds t ec sp1 sp2 (off : Int)) from Z.out.later hD6.be
      obtain ⟨o, ho, h40, hbad, hok⟩ := HPL.out
      have KF := show Hid (Calls Tryz.prog 33 #[.pointer (some ⟨w5.heap.size, 0, none⟩)] (w5.alloc (Obj.cells #[.pointer (some ⟨wc.heap.size, 0, none⟩), .slice (some ⟨g, 0, none⟩) (al.length + 1) cap, .int .i64 0, .int .i64 0, .int .i64 0, .bool false, .int .i64 0, .int .i64 0, .int .i64 0, .int .i64 0] 75)) fun e w' => Dres wc (w5.alloc (Obj.cells #[.pointer (some ⟨wc.heap.size, 0, none⟩), .slice (some ⟨g, 0, none⟩) (al.length + 1) cap, .int .i64 0, .int .i64 0, .int .i64 0, .bool false, .int .i64 0, .int .i64 0, .int .i64 0, .int .i64 0] 75)) w5.heap.size wc.heap.size g cap ds (q0 t) o e w') from (dall HZ.out _).1.1 _ _ _ hD6 rfl (Nat.zero_le _) (Nat.zero_le _) (Nat.zero_le _) ho h40
      clear hD6 hT5 hf5 hb5
      go_wp2_with fail
      refine KF.out.mono ?_
      rintro e w7 ⟨x7, q7, rfl, hx7, hD7, hT7, hout⟩
      have D7 := show Hid (Dw wc w7 w5.heap.size wc.heap.size g cap ds q7 ∧ Pw w w7 g cap w1.heap.size C0 u0 ds t ec sp1 sp2 (off : Int)) from ⟨hD7, Z.out.later hD7.be⟩
      clear hD7 hT7 KF Z6
      cases o with
      | bad er y =>
        obtain ⟨hE, he7, hl7, hc7, ho7⟩ : er ≠ 0 ∧ q7.e = er ∧ q7.l = y.l ∧ q7.c = y.c ∧ q7.o = y.o := hout
        obtain ⟨y', hy', hpp⟩ := (hbad _ _ rfl).2 t
        obtain ⟨qi, qn, qd, qf, qe, ql, qc, qo, qt⟩ := q7
        simp only at he7 hl7 hc7 ho7
        subst he7
        have HP8 := show Hid (parseV pr.1 = .tuple #[.int .i64 0, .agg #[.int .i64 qe, .int .i64 ql, .int .i64 qc, .int .i64 qo]] ∧ pr.2 = t) from by
          show parseV pr.1 = _ ∧ pr.2 = t
          rw [HPR.out, hpp]
          exact ⟨by unfold parseV; simp only; rw [hy'.2.2.1, hy'.2.2.2.1, hy'.2.2.2.2, hl7, hc7, ho7], rfl⟩
        have D8 := D7
        clear hbad hok ho h40 hl7 hc7 ho7 hy' hpp hx7
        have c6' := D7.out.1.pb.c6
        simp only at c6'
        have c6 := D8.out.1.pb.c6; have c7 := D8.out.1.pb.c7; have c8 := D8.out.1.pb.c8; have c9 := D8.out.1.pb.c9
        simp only at c6 c7 c8 c9
        have r0 := D8.out.2.r.c0; have r1 := D8.out.2.r.c1; have r2 := D8.out.2.r.c2; have r3 := D8.out.2.r.c3; have rf := D8.out.2.r.fr
        go_wp2_with fail
        go_region
        go_wp2_with fail
        refine bodyPost_ret (results_tmp_cell rfl _ _ w.heap.size _ _ _ _ rfl (Fl.drew (D8.out.2.r.s4 qe ql qc qo)) Tryz.underlying31 rfl (by kernel_rfl)) rfl ?_
        exact ⟨by rw [HP8.out.1]; rfl, by rw [HP8.out.2]; exact HW.out _ ((((D8.out.2.be.setCell (Nat.le_refl _) _).setCell (Nat.le_refl _) _).setCell (Nat.le_refl _) _).setCell (Nat.le_refl _) _).drew⟩
      | ok a k m =>
        obtain ⟨hx, hq⟩ : x7 = (Dp.str a (t, false)).1 ∧ q7 = (q0 t).to k m (Dp.str a (t, false)).2 := hout
        subst hx
        subst hq
        obtain ⟨hkle, hwf, hA, hB⟩ := hok _ _ _ rfl
        have KK := show Hid (Calls Tryz.prog 34 #[.pointer (some ⟨w5.heap.size, 0, none⟩)] w7 fun e w' => e = .returned (tnV (Sx.tk ds k)) ∧ Below w7.heap.size w7 w') from tok_any w7 D7.out.1
        have c6 : w7.cell? ⟨w5.heap.size, 6, none⟩ = some (.int .i64 0) := D7.out.1.pb.c6
        have s0 := D7.out.2.f.c0
        clear hbad hok ho h40
        generalize htk : Sx.tk ds k = tt at *
        have HTK := show Hid (Sx.tk ds k = tt) from htk
        clear htk
        obtain ⟨tk, tx, tn, tl, tc, to⟩ := tt
        unfold tnV at KK
        simp only at KK hA hB
        have hfd := fun w => field_at0 w tk tn tl tc to tx
        by_cases hk0 : tk = 0
        · subst hk0
          obtain ⟨y', hy', hpp⟩ := hA (Or.inr hec) t
          clear hA hB
          go_wp2_with fail
          refine KK.out.mono ?_
          rintro e w8 ⟨rfl, hb8⟩
          have D8' := show Hid (Dw wc w8 w5.heap.size wc.heap.size g cap ds ((q0 t).to k m (Dp.str a (t, false)).2) ∧ Pw w w8 g cap w1.heap.size C0 u0 ds t ec sp1 sp2 (off : Int)) from ⟨D7.out.1.later hb8, D7.out.2.later hb8⟩
          clear hb8 KK c6 s0
          have s0 := D8'.out.2.f.c0
          go_wp2_with fail
          refine (fail_ok D8'.out.1 rfl 41).mono ?_
          rintro e w9 ⟨rfl, hD9, hT9⟩
          have D8 := show Hid (Dw wc w9 w5.heap.size wc.heap.size g cap ds (((q0 t).to k m (Dp.str a (t, false)).2).flt 41 ⟨0, tx, tn, tl, tc, to⟩) ∧ Pw w w9 g cap w1.heap.size C0 u0 ds t ec sp1 sp2 (off : Int)) from by
            rw [← HTK.out]
            exact ⟨hD9, Z.out.later hD9.be⟩
          clear hD9 hT9 s0
          obtain ⟨qe, hqe⟩ : ∃ qe : Int, qe = 41 := ⟨_, rfl⟩
          have hE : qe ≠ 0 := by omega
          obtain ⟨ql, hql⟩ : ∃ ql : Int, ql = tl := ⟨_, rfl⟩
          obtain ⟨qc, hqc⟩ : ∃ qc : Int, qc = tc := ⟨_, rfl⟩
          obtain ⟨qo, hqo⟩ : ∃ qo : Int, qo = to := ⟨_, rfl⟩
          have HP8 := show Hid (parseV pr.1 = .tuple #[.int .i64 0, .agg #[.int .i64 qe, .int .i64 ql, .int .i64 qc, .int .i64 qo]] ∧ pr.2 = t) from by
            show parseV pr.1 = _ ∧ pr.2 = t
            rw [HPR.out, hpp, hqe, hql, hqc, hqo]
            exact ⟨by unfold parseV; simp only; rw [hy'.2.2.1, hy'.2.2.2.1, hy'.2.2.2.2], rfl⟩
          clear hpp hy'
          have c6x : w9.cell? ⟨w5.heap.size, 6, none⟩ = some (.int .i64 qe) := by rw [hqe]; exact D8.out.1.pb.c6
          have c7x : w9.cell? ⟨w5.heap.size, 7, none⟩ = some (.int .i64 ql) := by rw [hql]; exact D8.out.1.pb.c7
          have c8x : w9.cell? ⟨w5.heap.size, 8, none⟩ = some (.int .i64 qc) := by rw [hqc]; exact D8.out.1.pb.c8
          have c9x : w9.cell? ⟨w5.heap.size, 9, none⟩ = some (.int .i64 qo) := by rw [hqo]; exact D8.out.1.pb.c9
          clear hqe hql hqc hqo
          have r0 := D8.out.2.r.c0; have r1 := D8.out.2.r.c1; have r2 := D8.out.2.r.c2; have r3 := D8.out.2.r.c3; have rf := D8.out.2.r.fr
          go_wp2_with fail
          go_region
          go_wp2_with fail
          refine bodyPost_ret (results_tmp_cell rfl _ _ w.heap.size _ _ _ _ rfl (Fl.drew (D8.out.2.r.s4 qe ql qc qo)) Tryz.underlying31 rfl (by kernel_rfl)) rfl ?_
          exact ⟨by rw [HP8.out.1]; rfl, by rw [HP8.out.2]; exact HW.out _ ((((D8.out.2.be.setCell (Nat.le_refl _) _).setCell (Nat.le_refl _) _).setCell (Nat.le_refl _) _).setCell (Nat.le_refl _) _).drew⟩
        · obtain ⟨y', hy', hpp⟩ := hA (Or.inl hk0) t
          clear hA hB
          go_wp2_with fail
          refine KK.out.mono ?_
          rintro e w8 ⟨rfl, hb8⟩
          have D8' := show Hid (Dw wc w8 w5.heap.size wc.heap.size g cap ds ((q0 t).to k m (Dp.str a (t, false)).2) ∧ Pw w w8 g cap w1.heap.size C0 u0 ds t ec sp1 sp2 (off : Int)) from ⟨D7.out.1.later hb8, D7.out.2.later hb8⟩
          clear hb8 KK c6 s0
          have s0 := D8'.out.2.f.c0
          go_wp2_with fail
          refine (fail_ok D8'.out.1 rfl 41).mono ?_
          rintro e w9 ⟨rfl, hD9, hT9⟩
          have D8 := show Hid (Dw wc w9 w5.heap.size wc.heap.size g cap ds (((q0 t).to k m (Dp.str a (t, false)).2).flt 41 ⟨tk, tx, tn, tl, tc, to⟩) ∧ Pw w w9 g cap w1.heap.size C0 u0 ds t ec sp1 sp2 (off : Int)) from by
            rw [← HTK.out]
            exact ⟨hD9, Z.out.later hD9.be⟩
          clear hD9 hT9 s0
          obtain ⟨qe, hqe⟩ : ∃ qe : Int, qe = 41 := ⟨_, rfl⟩
          have hE : qe ≠ 0 := by omega
          obtain ⟨ql, hql⟩ : ∃ ql : Int, ql = tl := ⟨_, rfl⟩
          obtain ⟨qc, hqc⟩ : ∃ qc : Int, qc = tc := ⟨_, rfl⟩
          obtain ⟨qo, hqo⟩ : ∃ qo : Int, qo = to := ⟨_, rfl⟩
          have HP8 := show Hid (parseV pr.1 = .tuple #[.int .i64 0, .agg #[.int .i64 qe, .int .i64 ql, .int .i64 qc, .int .i64 qo]] ∧ pr.2 = t) from by
            show parseV pr.1 = _ ∧ pr.2 = t
            rw [HPR.out, hpp, hqe, hql, hqc, hqo]
            exact ⟨by unfold parseV; simp only; rw [hy'.2.2.1, hy'.2.2.2.1, hy'.2.2.2.2], rfl⟩
          clear hpp hy'
          have c6x : w9.cell? ⟨w5.heap.size, 6, none⟩ = some (.int .i64 qe) := by rw [hqe]; exact D8.out.1.pb.c6
          have c7x : w9.cell? ⟨w5.heap.size, 7, none⟩ = some (.int .i64 ql) := by rw [hql]; exact D8.out.1.pb.c7
          have c8x : w9.cell? ⟨w5.heap.size, 8, none⟩ = some (.int .i64 qc) := by rw [hqc]; exact D8.out.1.pb.c8
          have c9x : w9.cell? ⟨w5.heap.size, 9, none⟩ = some (.int .i64 qo) := by rw [hqo]; exact D8.out.1.pb.c9
          clear hqe hql hqc hqo
          have r0 := D8.out.2.r.c0; have r1 := D8.out.2.r.c1; have r2 := D8.out.2.r.c2; have r3 := D8.out.2.r.c3; have rf := D8.out.2.r.fr
          go_wp2_with fail
          go_region
          go_wp2_with fail
          refine bodyPost_ret (results_tmp_cell rfl _ _ w.heap.size _ _ _ _ rfl (Fl.drew (D8.out.2.r.s4 qe ql qc qo)) Tryz.underlying31 rfl (by kernel_rfl)) rfl ?_
          exact ⟨by rw [HP8.out.1]; rfl, by rw [HP8.out.2]; exact HW.out _ ((((D8.out.2.be.setCell (Nat.le_refl _) _).setCell (Nat.le_refl _) _).setCell (Nat.le_refl _) _).setCell (Nat.le_refl _) _).drew⟩
theorem dparse_any (w : World) {C0 : Nat} {u0 : Value} {t : List Nd} (h : Tr w C0 u0 t) (s : ByteArray) (hs : s.size ≤ 1099511627776) :
    Calls Tryz.prog 10 #[.pointer (some ⟨C0, 0, none⟩), .string s] w fun e w' => e = .returned (parseV (parseR s.data.toList t).1) ∧ AfterR w C0 u0 (parseR s.data.toList t).2 w' := by
  by_cases h0 : (Tk.scan s.data.toList).2.1 = 0
  · exact dparse_plain w h s hs h0
  · exact dparse_fault w h s hs h0
end Go.Proofs.YtcidldgenogdkaaGreatDoor
