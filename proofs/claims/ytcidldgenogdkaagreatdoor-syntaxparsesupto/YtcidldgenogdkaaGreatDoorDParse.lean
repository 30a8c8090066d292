/-
  The document's call Parse. For every table and every text of at most 2^40 bytes. No other condition.
-/
import Derived.Test.YtcidldgenogdkaaGreatDoorGDe
namespace Go.Proofs.YtcidldgenogdkaaGreatDoor
open Go.RowKit Go.Maps
open Fm (Nd)
open Sx (Tn T Lv)

theorem field_at0 (w : World) (k n l c o : Int) (s : ByteArray) : (Instr.field 45 (.agg #[.int .i64 k, .string s, .int .i64 n, .int .i64 l, .int .i64 c, .int .i64 o]) 0).run Tryz.prog w = .ok (.int .i64 k) w := by kernel_rfl
/-- The world ahead of the document's parser: its tokens, the place of its answer, its fault, its table. -/
structure Pw (w wi : World) (g cap f C : Nat) (u : Value) (ds : List Tn) (t : List Nd) (e l c o : Int) : Prop where
  ts : TsAt wi g cap ds
  be : Below w.heap.size w wi
  r : Fl wi w.heap.size 0 0 0 0
  f : Fl wi f e l c o
theorem Pw.later {w wi w2 : World} {g cap f C : Nat} {u : Value} {ds : List Tn} {t : List Nd} {e l c o : Int} (h : Pw w wi g cap f C u ds t e l c o) (hb : Below wi.heap.size wi w2) : Pw w w2 g cap f C u ds t e l c o :=
  ⟨h.ts.later hb, h.be.trans (hb.mono h.be.size), h.r.later hb, h.f.later hb⟩
/-- What is read of the document's tokens, and what Parse answers then. -/
def PL (s : List UInt8) (ds : List Tn) (ec : Int) : Prop := ∃ o, Sx.rd ds (8 * ds.length + 5) .formula 0 0 0 = some o ∧ (∀ x, o ≠ .bad 40 x) ∧ (∀ e x, o = .bad e x → e ≠ 0 ∧ ∀ t, ∃ y, Dp.Al y x ∧ parseR s t = ((0, e, y), t)) ∧ (∀ a k m, o = .ok a k m → k ≤ ds.length ∧ Sx.Wf a ∧ (((Sx.tk ds k).k ≠ 0 ∨ ec ≠ 0) → ∀ t, ∃ y, Dp.Al y (Sx.tk ds k) ∧ parseR s t = ((0, 41, y), t)) ∧ ((Sx.tk ds k).k = 0 → ec = 0 → ∀ t, parseR s t = if (Sx.pt a t).2.1 = 0 then (((Sx.pt a t).1, 0, Sx.tz), (Sx.pt a t).2.2) else ((0, (Sx.pt a t).2.1, Sx.tz), t)))
theorem pl_of (s : List UInt8) (h : over (toks s) 0 = none) : PL s (Dp.dts s) (Tk.scan s).2.1 := Dp.fin_plain s h
/-- The document's table is given another's rows. -/
theorem afterR_give {w w8 : World} {C0 C : Nat} {u0 u : Value} {t t' : List Nd} (h : Tr w C0 u0 t) (hb : Below w.heap.size w w8) (hr : Fl w8 w.heap.size 0 0 0 0) (hT : Tr w8 C u t') (hf : ∀ k, Fr C u k → w.heap.size ≤ k) (a b c d : Value) :
    AfterR w C0 u0 t' (((((w8.setCell ⟨C0, 0, none⟩ u).setCell ⟨w.heap.size, 0, none⟩ a).setCell ⟨w.heap.size, 1, none⟩ b).setCell ⟨w.heap.size, 2, none⟩ c).setCell ⟨w.heap.size, 3, none⟩ d) := by
  have hlt := h.clt
  have hne : C0 ≠ w.heap.size := by omega
  have h8 := h.later hb
  have k1 : Kp (fun k => Fr C0 u0 k ∨ w.heap.size ≤ k) w w8 := Kp.of_below hb
  have k2 := ((((k1.setS (g := C0) (Or.inl (Or.inl rfl)) 0 u).setS (g := w.heap.size) (Or.inr (Nat.le_refl _)) 0 a).setS (g := w.heap.size) (Or.inr (Nat.le_refl _)) 1 b).setS (g := w.heap.size) (Or.inr (Nat.le_refl _)) 2 c).setS (g := w.heap.size) (Or.inr (Nat.le_refl _)) 3 d
  have hblk : ∀ k, k ≠ w.heap.size → (((((w8.setCell ⟨C0, 0, none⟩ u).setCell ⟨w.heap.size, 0, none⟩ a).setCell ⟨w.heap.size, 1, none⟩ b).setCell ⟨w.heap.size, 2, none⟩ c).setCell ⟨w.heap.size, 3, none⟩ d).heap[k]? = (w8.setCell ⟨C0, 0, none⟩ u).heap[k]? := fun k hk => by
    rw [Below.heap_setCell _ _ _ _ hk, Below.heap_setCell _ _ _ _ hk, Below.heap_setCell _ _ _ _ hk, Below.heap_setCell _ _ _ _ hk]
  have ht0 : (w8.setCell ⟨C0, 0, none⟩ u).heap[C0]? = some (.cells #[u] 61 (0, 0)) := heap_setCell_same w8 C0 0 _ _ _ h8.tab
  generalize ((((w8.setCell ⟨C0, 0, none⟩ u).setCell ⟨w.heap.size, 0, none⟩ a).setCell ⟨w.heap.size, 1, none⟩ b).setCell ⟨w.heap.size, 2, none⟩ c).setCell ⟨w.heap.size, 3, none⟩ d = ws at *
  refine ⟨u, ⟨(hblk C0 hne).trans ht0, hT.row.keep fun k hk => ?_, hT.ok⟩, fun k hk => Or.inr (hf k (Or.inr hk)), ⟨k2.os, k2.tape, k2.output, k2.size, fun k hk hn => k2.block k hk (fun hh => by
    rcases hh with hh | hh
    · exact hn hh
    · omega)⟩⟩
  have h1 := hf k (Or.inr hk)
  have h2 : k ≠ w.heap.size := by
    rintro rfl
    obtain ⟨_, cur, hh⟩ := hT.row.lt _ hk
    unfold Fl at hr
    rw [hh] at hr
    simp at hr
  rw [hblk k h2, Below.heap_setCell _ _ _ _ (show k ≠ C0 by omega)]
def q0 (t : List Nd) : Ds := ⟨0, 0, 0, false, 0, 0, 0, 0, t⟩
theorem dw_start {wc w5 : World} {g cap : Nat} {ds : List Tn} {u : Value} {t : List Nd} (hts : TsAt wc g cap ds) (hT : Tr w5 wc.heap.size u t) (hf : ∀ k, Fr wc.heap.size u k → wc.heap.size ≤ k) (hb : Below wc.heap.size wc w5) :
    Dw wc (w5.alloc (Obj.cells #[.pointer (some ⟨wc.heap.size, 0, none⟩), .slice (some ⟨g, 0, none⟩) ds.length cap, .int .i64 0, .int .i64 0, .int .i64 0, .bool false, .int .i64 0, .int .i64 0, .int .i64 0, .int .i64 0] 75)) w5.heap.size wc.heap.size g cap ds (q0 t) :=
  ⟨heap_alloc_new _ _, ⟨u, hT.later (below_alloc _ _), hf⟩, (hts.later hb).later (below_alloc _ _), hb.size, hb.trans ((below_alloc _ _).mono hb.size)⟩
set_option maxRecDepth 100000 in
set_option maxHeartbeats 8000000 in
theorem dparse_plain (w : World) {C0 : Nat} {u0 : Value} {t : List Nd} (h : Tr w C0 u0 t) (s : ByteArray) (hs : s.size ≤ 1099511627776) (h0 : (Tk.scan s.data.toList).2.1 = 0) :
    Calls Tryz.prog 10 #[.pointer (some ⟨C0, 0, none⟩), .string s] w fun e w' => e = .returned (parseV (parseR s.data.toList t).1) ∧ AfterR w C0 u0 (parseR s.data.toList t).2 w' := by
  have hdt : Dp.dts s.data.toList = toks s.data.toList := by unfold Dp.dts; rw [if_pos h0]
  have hal : Dp.al s.data.toList = toks s.data.toList := by unfold Dp.al; rw [if_pos h0]
  have hk := toks_ok s.data.toList
  have hsz : s.data.toList.length = s.size := rfl
  have KA := show Hid (∀ w1, Calls Tryz.prog 30 #[.string s] w1 fun e w' => ∃ g cap, e = .returned (.tuple #[.slice (some ⟨g, 0, none⟩) (toks s.data.toList).length cap, .agg #[.int .i64 0, .int .i64 0, .int .i64 0, .int .i64 0]]) ∧ w1.heap.size ≤ g ∧ TsAt w' g cap (toks s.data.toList) ∧ Below w1.heap.size w1 w') from fun w1 => by
    have := ahead_any w1 s hs
    unfold IsAhead at this
    rw [hdt, hal, h0] at this
    exact this
  have b0 := show Hid (Below w.heap.size w (w.alloc (Obj.cells #[.int .i64 0, .int .i64 0, .int .i64 0, .int .i64 0] 31))) from below_alloc _ _
  have f0 := show Hid (Fl (w.alloc (Obj.cells #[.int .i64 0, .int .i64 0, .int .i64 0, .int .i64 0] 31)) w.heap.size 0 0 0 0) from fl_new _ _ _ _ _
  have HOV := show Hid (over (toks s.data.toList) 0 = over ((toks s.data.toList).drop 0) 0) from rfl
  have HPS := show Hid (∀ x, over (toks s.data.toList) 0 = some x → parseR s.data.toList t = ((0, 40, x), t)) from fun x hx => by unfold parseR; rw [hx]
  have HPN := show Hid (over (toks s.data.toList) 0 = none → PL s.data.toList (toks s.data.toList) 0) from fun hov => by
    have := pl_of s.data.toList hov
    rw [hdt, h0] at this
    exact this
  have HZ := show Hid (∀ x ∈ toks s.data.toList, x.s.size ≤ 31) from hk.2.2
  have HW := show Hid (∀ w', Below w.heap.size w w' → AfterR w C0 u0 t w') from fun w' hb => AfterR.of_below h hb
  have HTr := show Hid (Tr w C0 u0 t) from h
  have hlen : (toks s.data.toList).length ≤ 1099511627777 := by have := hk.2.1; omega
  obtain ⟨pr, hpr⟩ : ∃ pr, pr = parseR s.data.toList t := ⟨_, rfl⟩
  have HPR := show Hid (pr = parseR s.data.toList t) from hpr
  rw [← hpr] at HPS ⊢
  clear hpr hs h0 hdt hal hk hsz h
  generalize over (toks s.data.toList) 0 = ov at *
  generalize toks s.data.toList = al at *
  have HL := show Hid (∀ w g cap, TsAt w g cap al → TsAt w g cap al) from fun w g cap h => h
  go_enter Tryz.func10, Tryz.ntmps10
  go_wp2_with fail
  refine (KA.out _).mono ?_
  rintro e w1 ⟨g, cap, rfl, hg, hts, hb⟩
  have hb2 : Below w1.heap.size w1 (w1.alloc (Obj.cells #[.int .i64 0, .int .i64 0, .int .i64 0, .int .i64 0] 31)) := below_alloc _ _
  have hB1 : Below w.heap.size w w1 := b0.out.trans (hb.mono b0.out.size)
  have X := show Hid (Pw w (w1.alloc (Obj.cells #[.int .i64 0, .int .i64 0, .int .i64 0, .int .i64 0] 31)) g cap w1.heap.size C0 u0 al t 0 0 0 0) from ⟨hts.later hb2, hB1.trans (hb2.mono hB1.size), (f0.out.later hb).later hb2, fl_new _ _ _ _ _⟩
  have hcl : al.length ≤ 4611686018427387904 := by omega
  have hne : ¬ w1.heap.size = w.heap.size := by have := hb.size; simp at this; omega
  have hne2 : ¬ w.heap.size = w1.heap.size := fun e => hne e.symm
  have hgw : w.heap.size ≤ g := by simp at hg; omega
  clear hg hts hb hb2 hB1 KA b0 f0
  go_wp2_with fail
  go_loopw [8, 9] (fun c i wr => ∃ k cc : Nat, k ≤ al.length ∧ cc ≤ 512 ∧ i = .int .i64 k ∧ c = .int .i64 cc ∧ Hid (ov = over (al.drop k) cc) ∧ Hid (Pw w wr g cap w1.heap.size C0 u0 al t 0 0 0 0)) (fun _ i _ => al.length - (intOf i).toNat)
  case atStart => exact ⟨0, 0, by omega, by omega, rfl, rfl, HOV, X⟩
  case round =>
    clear X
    obtain ⟨k, cc, hk, hcc, rfl, rfl, HR, Y⟩ := hrel
    by_cases hlt : k < al.length
    · have hki : (k : Int) < (al.length : Int) := by omega
      have hcell := (HL.out _ _ _ Y.out.ts).cell hlt
      have d0 := hcell 0 (by omega)
      have d1 := hcell 1 (by omega)
      have d2 := hcell 2 (by omega)
      have d3 := hcell 3 (by omega)
      have d4 := hcell 4 (by omega)
      have d5 := hcell 5 (by omega)
      have HD := show Hid _ from HR.out.trans (over_step al k cc hlt)
      have KC := show Hid (∀ w, Calls Tryz.prog 31 #[tnV al[k]] w fun e w' => e = .returned (.bool (Sx.counts al[k])) ∧ Below w.heap.size w w') from fun w => counted_any w _
      generalize Sx.counts al[k] = q at *
      generalize hal : al[k] = tt at *
      obtain ⟨tk, tx, tn, tl, tc, to⟩ := tt
      simp only [tnC, tnV, Nat.add_zero, List.getElem?_cons_zero, List.getElem?_cons_succ] at *
      clear hcell
      go_wp2_with fail
      refine (KC.out _).mono ?_
      rintro e w2 ⟨rfl, hb2⟩
      have Z := show Hid (Pw w w2 g cap w1.heap.size C0 u0 al t 0 0 0 0) from Y.out.later hb2
      clear hb2 Y KC d0 d1 d2 d3 d4 d5 HR
      cases q
      · have hle : ¬ 512 < (cc : Int) := by omega
        have hle2 : (cc : Int) ≤ 512 := by omega
        have HN := show Hid (ov = over (al.drop (k + 1)) cc) from by
          have h := HD.out
          simp only [Bool.false_eq_true, if_false] at h
          rw [if_neg (by omega)] at h
          exact h
        clear HD
        go_wp2_with fail
        go_roundw
        case rel => exact ⟨k + 1, cc, by omega, by omega, by go_num, rfl, HN, Z⟩
        case measure => first | (simp [intOf]; done) | (simp [intOf]; omega)
      · by_cases hgt : 512 < cc + 1
        · have hle : 512 < (cc : Int) + 1 := by omega
          have HN := show Hid (ov = some ⟨tk, tx, tn, tl, tc, to⟩) from by
            have h := HD.out
            simp only [if_true] at h
            rw [if_pos (by omega)] at h
            exact h
          have HP8 := show Hid (pr = ((0, 40, ⟨tk, tx, tn, tl, tc, to⟩), t)) from HPS.out _ HN.out
          have hcell := (HL.out _ _ _ Z.out.ts).cell hlt
          have d3 := hcell 3 (by omega)
          have d4 := hcell 4 (by omega)
          have d5 := hcell 5 (by omega)
          rw [hal] at d3 d4 d5
          simp only [tnC, List.getElem?_cons_zero, List.getElem?_cons_succ] at d3 d4 d5
          have r0 := Z.out.r.c0; have r1 := Z.out.r.c1; have r2 := Z.out.r.c2; have r3 := Z.out.r.c3; have rf := Z.out.r.fr
          clear HD hgt hcell
          go_wp2_with fail
          go_region
          go_wp2_with fail
          refine bodyPost_ret (results_tmp_cell rfl _ _ w.heap.size _ _ _ _ rfl (Fl.drew (Z.out.r.s4 40 tl tc to)) Tryz.underlying31 rfl (by kernel_rfl)) rfl ?_
          exact ⟨by rw [HP8.out]; rfl, by rw [HP8.out]; exact HW.out _ ((((Z.out.be.setCell (Nat.le_refl _) _).setCell (Nat.le_refl _) _).setCell (Nat.le_refl _) _).setCell (Nat.le_refl _) _).drew⟩
        · have hle : ¬ 512 < (cc : Int) + 1 := by omega
          have hle2 : (cc : Int) + 1 ≤ 512 := by omega
          have HN := show Hid (ov = over (al.drop (k + 1)) (cc + 1)) from by
            have h := HD.out
            simp only [if_true] at h
            rw [if_neg (by omega)] at h
            exact h
          clear HD
          go_wp2_with fail
          go_roundw
          case rel => exact ⟨k + 1, cc + 1, by omega, by omega, by go_num, by go_num, HN, Z⟩
          case measure => first | (simp [intOf]; done) | (simp [intOf]; omega)
    · have hke : k = al.length := by omega
      have hki : ¬ (k : Int) < (al.length : Int) := by omega
      have hovn : ov = none := by rw [HR.out, hke, List.drop_length]; rfl
      have HPL := show Hid (PL s.data.toList al 0) from HPN.out hovn
      clear HR hke hovn
      have s0 := Y.out.f.c0; have s1 := Y.out.f.c1; have s2 := Y.out.f.c2; have s3 := Y.out.f.c3
      have Z := Y
      obtain ⟨wc, hwc⟩ : ∃ wc, wc = wr := ⟨_, rfl⟩
      subst hwc
      clear Y
      go_wp2_with fail
      refine (rcopy_any wc (HTr.out.later Z.out.be)).mono ?_
      rintro e w5 ⟨u5, rfl, hT5, hf5, hb5⟩
      have hD6 : Dw wc (w5.alloc (Obj.cells #[.pointer (some ⟨wc.heap.size, 0, none⟩), .slice (some ⟨g, 0, none⟩) al.length cap, .int .i64 0, .int .i64 0, .int .i64 0, .bool false, .int .i64 0, .int .i64 0, .int .i64 0, .int .i64 0] 75)) w5.heap.size wc.heap.size g cap al (q0 t) := dw_start Z.out.ts hT5 hf5 hb5
      have Z6 := show Hid (Pw w (w5.alloc (Obj.cells #[.pointer (some ⟨wc.heap.size, 0, none⟩), .slice (some ⟨g, 0, none⟩) al.length cap, .int .i64 0, .int .i64 0, .int .i64 0, .bool false, .int .i64 0, .int .i64 0, .int .i64 0, .int .i64 0] 75)) g cap w1.heap.size C0 u0 al t 0 0 0 0) from Z.out.later hD6.be
      obtain ⟨o, ho, h40, hbad, hok⟩ := HPL.out
      have KF := show Hid (Calls Tryz.prog 33 #[.pointer (some ⟨w5.heap.size, 0, none⟩)] (w5.alloc (Obj.cells #[.pointer (some ⟨wc.heap.size, 0, none⟩), .slice (some ⟨g, 0, none⟩) al.length cap, .int .i64 0, .int .i64 0, .int .i64 0, .bool false, .int .i64 0, .int .i64 0, .int .i64 0, .int .i64 0] 75)) fun e w' => Dres wc (w5.alloc (Obj.cells #[.pointer (some ⟨wc.heap.size, 0, none⟩), .slice (some ⟨g, 0, none⟩) al.length cap, .int .i64 0, .int .i64 0, .int .i64 0, .bool false, .int .i64 0, .int .i64 0, .int .i64 0, .int .i64 0] 75)) w5.heap.size wc.heap.size g cap al (q0 t) o e w') from (dall HZ.out _).1.1 _ _ _ hD6 rfl (Nat.zero_le _) (Nat.zero_le _) (Nat.zero_le _) ho h40
      clear hD6 hT5 hf5 hb5
      go_wp2_with fail
      refine KF.out.mono ?_
      rintro e w7 ⟨x7, q7, rfl, hx7, hD7, hT7, hout⟩
      have D7 := show Hid (Dw wc w7 w5.heap.size wc.heap.size g cap al q7 ∧ Pw w w7 g cap w1.heap.size C0 u0 al t 0 0 0 0) from ⟨hD7, Z.out.later hD7.be⟩
      clear hD7 hT7 KF Z6
      cases o with
      | bad er y =>
        obtain ⟨hE, he7, hl7, hc7, ho7⟩ : er ≠ 0 ∧ q7.e = er ∧ q7.l = y.l ∧ q7.c = y.c ∧ q7.o = y.o := hout
        obtain ⟨y', hy', hpp⟩ := (hbad _ _ rfl).2 t
        obtain ⟨qi, qn, qd, qf, qe, ql, qc, qo, qt⟩ := q7
        simp only at he7 hl7 hc7 ho7
        subst he7
        have HP8 := show Hid (parseV pr.1 = .tuple #[.int .i64 0, .agg #[.int .i64 qe, .int .i64 ql, .int .i64 qc, .int .i64 qo]] ∧ pr.2 = t) from by
          show parseV pr.1 = _ ∧ pr.2 = t
          rw [HPR.out, hpp]
          exact ⟨by unfold parseV; simp only; rw [hy'.2.2.1, hy'.2.2.2.1, hy'.2.2.2.2, hl7, hc7, ho7], rfl⟩
        have D8 := D7
        clear hbad hok ho h40 hl7 hc7 ho7 hy' hpp hx7
        have c6' := D7.out.1.pb.c6
        simp only at c6'
        have c6 := D8.out.1.pb.c6; have c7 := D8.out.1.pb.c7; have c8 := D8.out.1.pb.c8; have c9 := D8.out.1.pb.c9
        simp only at c6 c7 c8 c9
        have r0 := D8.out.2.r.c0; have r1 := D8.out.2.r.c1; have r2 := D8.out.2.r.c2; have r3 := D8.out.2.r.c3; have rf := D8.out.2.r.fr
        go_wp2_with fail
        go_region
        go_wp2_with fail
        refine bodyPost_ret (results_tmp_cell rfl _ _ w.heap.size _ _ _ _ rfl (Fl.drew (D8.out.2.r.s4 qe ql qc qo)) Tryz.underlying31 rfl (by kernel_rfl)) rfl ?_
        exact ⟨by rw [HP8.out.1]; rfl, by rw [HP8.out.2]; exact HW.out _ ((((D8.out.2.be.setCell (Nat.le_refl _) _).setCell (Nat.le_refl _) _).setCell (Nat.le_refl _) _).setCell (Nat.le_refl _) _).drew⟩
      | ok a k m =>
        obtain ⟨hx, hq⟩ : x7 = (Dp.str a (t, false)).1 ∧ q7 = (q0 t).to k m (Dp.str a (t, false)).2 := hout
        subst hx
        subst hq
        obtain ⟨hkle, hwf, hA, hB⟩ := hok _ _ _ rfl
        have KK := show Hid (Calls Tryz.prog 34 #[.pointer (some ⟨w5.heap.size, 0, none⟩)] w7 fun e w' => e = .returned (tnV (Sx.tk al k)) ∧ Below w7.heap.size w7 w') from tok_any w7 D7.out.1
        have c6 : w7.cell? ⟨w5.heap.size, 6, none⟩ = some (.int .i64 0) := D7.out.1.pb.c6
        have s0 := D7.out.2.f.c0
        clear hbad hok ho h40
        generalize htk : Sx.tk al k = tt at *
        have HTK := show Hid (Sx.tk al k = tt) from htk
        clear htk
        obtain ⟨tk, tx, tn, tl, tc, to⟩ := tt
        unfold tnV at KK
        simp only at KK hA hB
        have hfd := fun w => field_at0 w tk tn tl tc to tx
        by_cases hk0 : tk = 0
        · subst hk0
          have hpp := hB (by first | rfl | trivial) (by first | rfl | trivial) t
          have HEQ := show Hid (Dp.Eq (Sx.pt a t) (Dp.str a (t, false))) from Dp.str_eq a HTr.out.ok hwf
          have HR0 := show Hid (Sx.Res t (Sx.pt a t)) from Sx.pt_res a HTr.out.ok hwf
          clear hA hB
          go_wp2_with fail
          refine KK.out.mono ?_
          rintro e w8 ⟨rfl, hb8⟩
          have D8 := show Hid (Dw wc w8 w5.heap.size wc.heap.size g cap al ((q0 t).to k m (Dp.str a (t, false)).2) ∧ Pw w w8 g cap w1.heap.size C0 u0 al t 0 0 0 0) from ⟨D7.out.1.later hb8, D7.out.2.later hb8⟩
          clear hb8 KK c6 s0
          have s0 := D8.out.2.f.c0
          have c6 : w8.cell? ⟨w5.heap.size, 6, none⟩ = some (.int .i64 0) := D8.out.1.pb.c6
          have c5 : w8.cell? ⟨w5.heap.size, 5, none⟩ = some (.bool (Dp.str a (t, false)).2.2) := D8.out.1.pb.c5
          have r0 := D8.out.2.r.c0; have r1 := D8.out.2.r.c1; have r2 := D8.out.2.r.c2; have r3 := D8.out.2.r.c3; have rf := D8.out.2.r.fr
          rcases HEQ.out with ⟨he0, hz⟩ | ⟨hne0, hz⟩
          · rw [if_pos he0] at hpp
            rw [hz] at c5 D8
            simp only at c5
            have HP8 := show Hid (parseV pr.1 = .tuple #[.int .i64 (Sx.pt a t).1, .agg #[.int .i64 0, .int .i64 0, .int .i64 0, .int .i64 0]] ∧ pr.2 = (Sx.pt a t).2.2) from by
              show parseV pr.1 = _ ∧ pr.2 = _
              rw [HPR.out, hpp]
              exact ⟨rfl, rfl⟩
            obtain ⟨u8, hT8, hf8⟩ := D8.out.1.tr
            have hT8' : Tr w8 wc.heap.size u8 (Sx.pt a t).2.2 := hT8
            obtain ⟨p8, c8, hu8⟩ := hT8'.row.form
            subst hu8
            have T8 := show Hid (Tr w8 wc.heap.size (.slice p8 (Sx.pt a t).2.2.length c8) (Sx.pt a t).2.2 ∧ ∀ k, Fr wc.heap.size (.slice p8 (Sx.pt a t).2.2.length c8) k → wc.heap.size ≤ k) from ⟨hT8', hf8⟩
            have v0 := hT8'.c0
            have HTr8 := show Hid (Tr w8 C0 u0 t) from HTr.out.later D8.out.2.be
            have y0 := HTr8.out.c0; have yf := HTr8.out.fr
            have hneC : ¬ C0 = w.heap.size := by have := HTr.out.clt; omega
            have hneC2 : ¬ w.heap.size = C0 := fun e => hneC e.symm
            rw [hz]
            clear hz hpp hT8 hT8' hf8 he0
            go_wp2_with fail
            refine bodyPost_ret (results_tmp_cell rfl _ _ w.heap.size _ _ _ _ rfl ((D8.out.2.r.other hneC2 0 _).s4 0 0 0 0) Tryz.underlying31 rfl (by kernel_rfl)) rfl ?_
            exact ⟨by rw [HP8.out.1]; rfl, by rw [HP8.out.2]; exact afterR_give HTr.out D8.out.2.be D8.out.2.r T8.out.1 (fun k hk => Nat.le_trans Z.out.be.size (T8.out.2 k hk)) _ _ _ _⟩
          · rw [if_neg hne0] at hpp
            rw [hz] at c5
            have h30 : (Sx.pt a t).2.1 = 30 := by
              rcases HR0.out.out with ⟨h, _⟩ | ⟨h, _⟩
              · exact absurd h hne0
              · exact h
            rw [h30] at hpp
            have HP8 := show Hid (parseV pr.1 = .tuple #[.int .i64 0, .agg #[.int .i64 30, .int .i64 0, .int .i64 0, .int .i64 0]] ∧ pr.2 = t) from by
              show parseV pr.1 = _ ∧ pr.2 = t
              rw [HPR.out, hpp]
              exact ⟨rfl, rfl⟩
            clear hz hpp h30 hne0
            go_wp2_with fail
            refine bodyPost_ret (results_tmp_cell rfl _ _ w.heap.size _ _ _ _ rfl (D8.out.2.r.s4 30 0 0 0) Tryz.underlying31 rfl (by kernel_rfl)) rfl ?_
            exact ⟨by rw [HP8.out.1]; rfl, by rw [HP8.out.2]; exact HW.out _ ((((D8.out.2.be.setCell (Nat.le_refl _) _).setCell (Nat.le_refl _) _).setCell (Nat.le_refl _) _).setCell (Nat.le_refl _) _)⟩
        · obtain ⟨y', hy', hpp⟩ := hA (Or.inl hk0) t
          clear hA hB
          go_wp2_with fail
          refine KK.out.mono ?_
          rintro e w8 ⟨rfl, hb8⟩
          have D8' := show Hid (Dw wc w8 w5.heap.size wc.heap.size g cap al ((q0 t).to k m (Dp.str a (t, false)).2) ∧ Pw w w8 g cap w1.heap.size C0 u0 al t 0 0 0 0) from ⟨D7.out.1.later hb8, D7.out.2.later hb8⟩
          clear hb8 KK c6 s0
          have s0 := D8'.out.2.f.c0
          go_wp2_with fail
          refine (fail_ok D8'.out.1 rfl 41).mono ?_
          rintro e w9 ⟨rfl, hD9, hT9⟩
          have D8 := show Hid (Dw wc w9 w5.heap.size wc.heap.size g cap al (((q0 t).to k m (Dp.str a (t, false)).2).flt 41 ⟨tk, tx, tn, tl, tc, to⟩) ∧ Pw w w9 g cap w1.heap.size C0 u0 al t 0 0 0 0) from by
            rw [← HTK.out]
            exact ⟨hD9, Z.out.later hD9.be⟩
          clear hD9 hT9 s0
          obtain ⟨qe, hqe⟩ : ∃ qe : Int, qe = 41 := ⟨_, rfl⟩
          have hE : qe ≠ 0 := by omega
          obtain ⟨ql, hql⟩ : ∃ ql : Int, ql = tl := ⟨_, rfl⟩
          obtain ⟨qc, hqc⟩ : ∃ qc : Int, qc = tc := ⟨_, rfl⟩
          obtain ⟨qo, hqo⟩ : ∃ qo : Int, qo = to := ⟨_, rfl⟩
          have HP8 := show Hid (parseV pr.1 = .tuple #[.int .i64 0, .agg #[.int .i64 qe, .int .i64 ql, .int .i64 qc, .int .i64 qo]] ∧ pr.2 = t) from by
            show parseV pr.1 = _ ∧ pr.2 = t
            rw [HPR.out, hpp, hqe, hql, hqc, hqo]
            exact ⟨by unfold parseV; simp only; rw [hy'.2.2.1, hy'.2.2.2.1, hy'.2.2.2.2], rfl⟩
          clear hpp hy'
          have c6x : w9.cell? ⟨w5.heap.size, 6, none⟩ = some (.int .i64 qe) := by rw [hqe]; exact D8.out.1.pb.c6
          have c7x : w9.cell? ⟨w5.heap.size, 7, none⟩ = some (.int .i64 ql) := by rw [hql]; exact D8.out.1.pb.c7
          have c8x : w9.cell? ⟨w5.heap.size, 8, none⟩ = some (.int .i64 qc) := by rw [hqc]; exact D8.out.1.pb.c8
          have c9x : w9.cell? ⟨w5.heap.size, 9, none⟩ = some (.int .i64 qo) := by rw [hqo]; exact D8.out.1.pb.c9
          clear hqe hql hqc hqo
          have r0 := D8.out.2.r.c0; have r1 := D8.out.2.r.c1; have r2 := D8.out.2.r.c2; have r3 := D8.out.2.r.c3; have rf := D8.out.2.r.fr
          go_wp2_with fail
          go_region
          go_wp2_with fail
          refine bodyPost_ret (results_tmp_cell rfl _ _ w.heap.size _ _ _ _ rfl (Fl.drew (D8.out.2.r.s4 qe ql qc qo)) Tryz.underlying31 rfl (by kernel_rfl)) rfl ?_
          exact ⟨by rw [HP8.out.1]; rfl, by rw [HP8.out.2]; exact HW.out _ ((((D8.out.2.be.setCell (Nat.le_refl _) _).setCell (Nat.le_refl _) _).setCell (Nat.le_refl _) _).setCell (Nat.le_refl _) _).drew⟩
end Go.Proofs.YtcidldgenogdkaaGreatDoor
