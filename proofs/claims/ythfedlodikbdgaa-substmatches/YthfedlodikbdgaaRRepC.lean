/-
  The document's call Replace: for every table that calls made, and every number. No other condition.
-/
import Derived.Test.YthfedlodikbdgaaRSimC
namespace Go.Proofs.Ythfedlodikbdgaa
open Go.RowKit Go.Maps
open Fm (Nd)

section
variable {c : Nat} {u : Value} {t : List Nd}
/-- Of a row that is no join nothing else is put. -/
theorem put_leaf {t : List Nd} (h : Fm.Ok t) {im : Nat → Int} {i : Nat} (hi : i < t.length) (hj : Fm.jn (Ms.row t i).k = false) : Sb.rowI t im i = Ms.row t i ∧ Fm.put t (Ms.row t i) = ((i : Int), 0, t) := by
  refine ⟨?_, Sb.put_self h hi⟩
  unfold Sb.rowI
  rw [if_neg (by rw [hj]; simp)]
set_option maxRecDepth 100000 in
set_option maxHeartbeats 8000000 in
theorem rreplace_any (w : World) (h : Tr w c u t) (id old y : Int) :
    Calls Try.prog 16 #[.pointer (some ⟨c, 0, none⟩), .int .i64 id, .int .i64 old, .int .i64 y] w fun e w' => e = .returned (.tuple #[.int .i64 (Sb.repR t id old y).1, .int .i64 (Sb.repR t id old y).2.1]) ∧ AfterR w c u (Sb.repR t id old y).2.2 w' := by
  have hok := h.ok
  have hlen := hok.len
  have KH := show Hid (∀ x : Int, Calls Try.prog 24 #[.pointer (some ⟨c, 0, none⟩), .int .i64 x] w fun e w'' => e = .returned (.bool (Fm.has t x)) ∧ w'' = w) from fun x => rhas_any w h x
  have KH1 := show Hid _ from KH.out id
  have KH2 := show Hid _ from KH.out old
  have KH3 := show Hid _ from KH.out y
  have HTR := show Hid (Tr w c u t) from h
  cases hh : Fm.has t id with
  | false =>
    have e : Sb.repR t id old y = (0, 31, t) := by unfold Sb.repR Sb.refR; simp [hh]
    rw [e]
    rw [hh] at KH1
    clear h e
    go_enter Try.func16, Try.ntmps16
    go_wp2_with fail
    refine Calls.mono KH1.out ?_
    rintro e w1 ⟨rfl, hw1⟩
    subst w1
    go_wp2_with fail
    go_ret2
    exact ⟨rfl, AfterR.of_below HTR.out (Below.refl _ _)⟩
  | true =>
  cases hho : Fm.has t old with
  | false =>
    have e : Sb.repR t id old y = (0, 31, t) := by unfold Sb.repR Sb.refR; simp [hho]
    rw [e]
    rw [hh] at KH1
    rw [hho] at KH2
    clear h e
    go_enter Try.func16, Try.ntmps16
    go_wp2_with fail
    refine Calls.mono KH1.out ?_
    rintro e w1 ⟨rfl, hw1⟩
    subst w1
    go_wp2_with fail
    refine Calls.mono KH2.out ?_
    rintro e w1 ⟨rfl, hw1⟩
    subst w1
    go_wp2_with fail
    go_ret2
    exact ⟨rfl, AfterR.of_below HTR.out (Below.refl _ _)⟩
  | true =>
  cases hhy : Fm.has t y with
  | false =>
    have e : Sb.repR t id old y = (0, 31, t) := by unfold Sb.repR Sb.refR; simp [hhy]
    rw [e]
    rw [hh] at KH1
    rw [hho] at KH2
    rw [hhy] at KH3
    clear h e
    go_enter Try.func16, Try.ntmps16
    go_wp2_with fail
    refine Calls.mono KH1.out ?_
    rintro e w1 ⟨rfl, hw1⟩
    subst w1
    go_wp2_with fail
    refine Calls.mono KH2.out ?_
    rintro e w1 ⟨rfl, hw1⟩
    subst w1
    go_wp2_with fail
    refine Calls.mono KH3.out ?_
    rintro e w1 ⟨rfl, hw1⟩
    subst w1
    go_wp2_with fail
    go_ret2
    exact ⟨rfl, AfterR.of_below HTR.out (Below.refl _ _)⟩
  | true =>
    obtain ⟨hx0, hx1⟩ := Fm.has_iff.1 hh
    obtain ⟨j, rfl⟩ : ∃ j : Nat, id = j := ⟨id.toNat, by omega⟩
    have hid : j < t.length := by omega
    have e : Sb.repR t (j : Int) old y = Sb.anew (Sb.repF old y) t j := by unfold Sb.repR Sb.refR; simp [hh, hho, hhy]
    rw [e]
    rw [hh] at KH1
    rw [hho] at KH2
    rw [hhy] at KH3
    clear e KH hho
    have hF : Sb.Fair t (Sb.repF old y) := Sb.repF_fair hhy
    generalize hFe : Sb.repF old y = F at *
    have HFE := show Hid (∀ t i n, F t i n = if (i : Int) = old then (y, 0, t) else Fm.put t n) from fun t i n => by rw [← hFe]; rfl
    have hlt : ∀ i ∈ Fm.below t j, i < t.length := fun i hi => by have := Ms.below_lt t j i hi; omega
    have hbr : belowR t (j : Int) = (Fm.below t j, 0) := by
      unfold belowR
      rw [if_pos hh]
      simp
    have hbl : (Fm.below t j).length ≤ 1024 := by have := belowR_len hok (j : Int); rw [hbr] at this; exact this
    have KB := show Hid (Calls Try.prog 41 #[.pointer (some ⟨c, 0, none⟩), .int .i64 (j : Int)] w fun e w' => ∃ p c, e = .returned (.tuple #[.slice p (Fm.below t j).length c, .int .i64 0]) ∧ IsI w' w.heap.size (.slice p (Fm.below t j).length c) (Fm.below t j) ∧ Below w.heap.size w w') from (rbelow_any w h (j : Int)).mono fun e w' ⟨v', he, hi, hb⟩ => by
      rw [hbr] at he hi
      obtain ⟨p, c, rfl⟩ := isI_slice hi
      exact ⟨p, c, he, hi, hb⟩
    have HRU := show Hid (∀ k, Sb.Runs t (Sb.run F ((Fm.below t j).take k) t)) from fun k => Sb.runs_run hok (by omega) hF _ fun i hi => hlt i (List.mem_of_mem_take hi)
    have HSN := show Hid (∀ k (hk : k < (Fm.below t j).length), Sb.run F ((Fm.below t j).take (k + 1)) t = Sb.step F (Sb.run F ((Fm.below t j).take k) t) (Fm.below t j)[k]) from fun k hk => by
      rw [List.take_succ_eq_append_getElem hk, Sb.run_snoc]
    have HER := show Hid (∀ k, (Sb.run F ((Fm.below t j).take k) t).2.1 ≠ 0 → Sb.run F (Fm.below t j) t = Sb.run F ((Fm.below t j).take k) t) from fun k hk => by
      have := Sb.run_err F ((Fm.below t j).take k) ((Fm.below t j).drop k) t hk
      rwa [List.take_append_drop] at this
    have HAN := show Hid _ from anew_cases F t j
    have HLT := show Hid (∀ k (hk : k < (Fm.below t j).length), (Fm.below t j)[k] < t.length) from fun k hk => hlt _ (List.getElem_mem hk)
    have KS := show Hid (∀ (w : World) (u : Value) (t : List Nd), Tr w c u t → ∀ xk xl xr, Fm.jn xk = true → Fm.has t xl = true → Fm.has t xr = true → Calls Try.prog 43 #[.pointer (some ⟨c, 0, none⟩), .int .i64 xk, .int .i64 xl, .int .i64 xr] w fun e w' => e = .returned (.tuple #[.int .i64 (Fm.put t ⟨xk, ⟨#[]⟩, xl, xr⟩).1, .int .i64 (Fm.put t ⟨xk, ⟨#[]⟩, xl, xr⟩).2.1]) ∧ AfterR w c u (Fm.put t ⟨xk, ⟨#[]⟩, xl, xr⟩).2.2 w') from fun w u t h xk xl xr h1 h2 h3 => rtwo_any w h xk xl xr (by rcases Sb.jn_three h1 with rfl | rfl | rfl <;> omega) (by rcases Sb.jn_three h1 with rfl | rfl | rfl <;> omega) (Sb.has_i64 h.ok h2).2.2 (Sb.has_i64 h.ok h3).2.2
    have KK := show Hid (∀ (w : World) (u : Value) (t : List Nd), Tr w c u t → ∀ n x er, er ≠ 0 → Calls Try.prog 44 #[.pointer (some ⟨c, 0, none⟩), .int .i64 n, .int .i64 x, .int .i64 er] w fun e w' => e = .returned (.tuple #[.int .i64 0, .int .i64 er]) ∧ AfterR w c u (cutR t n).2 w') from fun w u t h n x er he => (kept_any w h n x er).mono fun e w' hh => hh.1 he
    have c0 := h.c0
    obtain ⟨rp, rcp, hu⟩ := h.row.form
    rw [hu] at c0
    have hmk : ∀ w : World, (Instr.makeSlice 77 (.int .i64 (t.length : Int)) (.int .i64 (t.length : Int))).run Try.prog w = .ok (.slice (some ⟨w.heap.size, 0, none⟩) t.length t.length) (w.alloc (.cells (madeCells #[.int .i64 0] t.length) 3)) := fun w => by
      have h := run_make_row' (P := Try.prog) 77 3 (.int .i64 0) 8 Try.underlying77 info_int rfl .i64 .i64 t.length (by omega) (by omega) w
      exact h
    generalize Sb.anew F t j = ans at *
    clear h hF hlt hbr hFe hh hhy hu
    generalize Fm.below t j = l at *
    go_enter Try.func16, Try.ntmps16
    go_wp2_with fail
    refine Calls.mono KH1.out ?_
    rintro e w0 ⟨rfl, hw0⟩
    subst w0
    go_wp2_with fail
    refine Calls.mono KH2.out ?_
    rintro e w0 ⟨rfl, hw0⟩
    subst w0
    go_wp2_with fail
    refine Calls.mono KH3.out ?_
    rintro e w0 ⟨rfl, hw0⟩
    subst w0
    clear KH1 KH2 KH3
    go_wp2_with fail
    refine KB.out.mono ?_
    rintro e w1 ⟨p, cl, rfl, hI, hb1⟩
    clear KB
    have hs1 := hb1.size
    have hB2 : Below w.heap.size w (w1.alloc (.cells (madeCells #[.int .i64 0] t.length) 3)) := hb1.alloc hb1.size _
    have HG := show Hid (w1.heap.size < (w1.alloc (.cells (madeCells #[.int .i64 0] t.length) 3)).heap.size ∧ ¬ Fr c u w1.heap.size) from ⟨by simp, fun h' => by have := HTR.out.foot _ h'; omega⟩
    have H0 := show Hid (Rn (w1.alloc (.cells (madeCells #[.int .i64 0] t.length) 3)) c u w1.heap.size t.length u t (fun _ => 0) (w1.alloc (.cells (madeCells #[.int .i64 0] t.length) 3))) from ⟨HTR.out.later hB2, Lies.refl _ _, Kp.refl _ _, vs_made w1 t.length⟩
    have HCE := show Hid (∀ wr u1 t1 f, Rn (w1.alloc (.cells (madeCells #[.int .i64 0] t.length) 3)) c u w1.heap.size t.length u1 t1 f wr → ∀ k (hk : k < l.length), ∃ gb, p = some ⟨gb, 0, none⟩ ∧ wr.cell? ⟨gb, k, none⟩ = some (.int .i64 ((l[k] : Nat) : Int))) from fun wr u1 t1 f hRn k hk =>
      Rn.cells (B := w.heap.size) (World.ownsRow.alloc hI _) (by omega) HTR.out.foot (fun k hk' => by have := (IsI.own_lt hI k hk').2.1; omega) hRn k hk
    have HGN := show Hid (∀ gb, p = some ⟨gb, 0, none⟩ → gb ≠ w1.heap.size ∧ gb < (w1.alloc (.cells (madeCells #[.int .i64 0] t.length) 3)).heap.size ∧ ¬ Fr c u gb) from fun gb hp => by subst hp; have := IsI.own_lt hI gb rfl; exact ⟨by omega, by simp; omega, fun h' => by have := HTR.out.foot _ h'; omega⟩
    have HB2 := show Hid (Below w.heap.size w (w1.alloc (.cells (madeCells #[.int .i64 0] t.length) 3)) ∧ w.heap.size ≤ w1.heap.size) from ⟨hB2, hs1⟩
    have hmk1 := hmk w1
    clear hI hb1 hB2 hmk c0
    generalize w1.alloc (.cells (madeCells #[.int .i64 0] t.length) 3) = w2 at *
    generalize w1.heap.size = g at *
    go_wp2_with fail
    go_loopw [14] (fun i wr => ∃ (k : Nat) (u1 : Value), k ≤ l.length ∧ i = .int .i64 (k : Int) ∧ Hid (Rn w2 c u g t.length u1 (Sb.run F (l.take k) t).2.2 (Sb.run F (l.take k) t).1 wr ∧ (Sb.run F (l.take k) t).2.1 = 0)) (fun i _ => l.length - (intOf i).toNat)
    case atStart => exact ⟨0, u, by omega, rfl, H0.out, rfl⟩
    case round =>
      obtain ⟨k, u1, hk, rfl, HI⟩ := hrel
      by_cases hlt : k < l.length
      · obtain ⟨hRn, h0⟩ := HI.out
        obtain ⟨gb, rfl, hc⟩ := HCE.out wr u1 _ _ hRn k hlt
        have hki : (k : Int) < (l.length : Int) := by omega
        have hrun := HRU.out k
        have hsn := HSN.out k hlt
        have her := HER.out (k + 1)
        have hil := HLT.out k hlt
        rw [hsn] at her
        have HS := show Hid (Sb.run F (l.take (k + 1)) t = Sb.step F (Sb.run F (l.take k) t) l[k] ∧ ((Sb.step F (Sb.run F (l.take k) t) l[k]).2.1 ≠ 0 → Sb.run F l t = Sb.step F (Sb.run F (l.take k) t) l[k])) from ⟨hsn, her⟩
        have HEX := show Hid (∃ ux, (Sb.step F (Sb.run F (l.take k) t) l[k]).2.2 = t ++ ux) from by have h2 := (HRU.out (k + 1)).ext; rw [hsn] at h2; exact h2
        clear hsn her HSN HER HRU HI HCE H0 hmk1
        generalize Sb.run F (l.take k) t = s at *
        obtain ⟨im, e0, t1⟩ := s
        simp only at h0 hRn HS HEX
        subst h0
        generalize l[k] = i at *
        obtain ⟨ux, hux⟩ := hrun.ext
        simp only at hux
        have hok1 := hrun.ok
        simp only at hok1
        have hlen1 := hok1.len
        have hi1 : i < t1.length := by rw [hux, List.length_append]; omega
        have him : ∀ j, Fm.has t1 (im j) = true := hrun.im
        have HKD := show Hid ((Ms.row t1 i).k = 1 ∨ (Ms.row t1 i).k = 2 ∨ Fm.jn (Ms.row t1 i).k = true) from (by rw [Ms.row_at hi1]; exact Fm.ok_kind hok1 hi1)
        have HPL := show Hid (Fm.jn (Ms.row t1 i).k = true → (Ms.row t1 i).l.toNat < i ∧ (Ms.row t1 i).r.toNat < i ∧ 0 ≤ (Ms.row t1 i).l ∧ 0 ≤ (Ms.row t1 i).r) from fun hj => Ms.parts_lt hok1 hi1 hj
        have HOL := show Hid ((i : Int) = old → Sb.step F (im, 0, t1) i = (Sb.updI im i y, 0, t1)) from fun ho => by
          rw [step_eq F (im, 0, t1) i rfl (r := (y, 0, t1)) (by rw [HFE.out, if_pos ho])]
          rfl
        have HLF := show Hid (¬ (i : Int) = old → Fm.jn (Ms.row t1 i).k = false → Sb.step F (im, 0, t1) i = (Sb.updI im i (i : Int), 0, t1)) from fun ho hj => by
          rw [step_eq F (im, 0, t1) i rfl (r := ((i : Int), 0, t1)) (by rw [HFE.out, if_neg ho]; show Fm.put t1 (Sb.rowI t1 im i) = _; rw [(put_leaf hok1 hi1 hj).1, (put_leaf (im := im) hok1 hi1 hj).2])]
          rfl
        have HJN := show Hid (¬ (i : Int) = old → Fm.jn (Ms.row t1 i).k = true → Sb.step F (im, 0, t1) i = (if (Fm.put t1 ⟨(Ms.row t1 i).k, ⟨#[]⟩, im (Ms.row t1 i).l.toNat, im (Ms.row t1 i).r.toNat⟩).2.1 = 0 then Sb.updI im i (Fm.put t1 ⟨(Ms.row t1 i).k, ⟨#[]⟩, im (Ms.row t1 i).l.toNat, im (Ms.row t1 i).r.toNat⟩).1 else im, (Fm.put t1 ⟨(Ms.row t1 i).k, ⟨#[]⟩, im (Ms.row t1 i).l.toNat, im (Ms.row t1 i).r.toNat⟩).2)) from fun ho hj =>
          step_eq F (im, 0, t1) i rfl (by rw [HFE.out, if_neg ho]; show Fm.put t1 (Sb.rowI t1 im i) = _; rw [Sb.rowI_at hok1 hi1 im hj])
        obtain ⟨pr, cpr, hv1, hl1, hl2, hat⟩ := hRn.tr.row.isR
        obtain ⟨rg, ro, hpr, hrr⟩ := hat (by omega)
        subst hv1
        subst hpr
        have hA := hrr i hi1
        rw [← Ms.row_at hi1] at hA
        have d0 := hRn.tr.c0
        have a0 := hA.c0; have a1 := hA.c1; have a2 := hA.c2; have a3 := hA.c3
        have HX := show Hid (Fm.Ok t1 ∧ (∀ j, Fm.has t1 (im j) = true) ∧ t1 = t ++ ux) from ⟨hok1, him, hux⟩
        generalize Ms.row t1 i = nd at *
        obtain ⟨nk, ns, nl, nr⟩ := nd
        simp only at a0 a1 a2 a3 HKD HPL HLF HJN HOL
        have HRN := show Hid _ from hRn
        have hig : (i : Int) < (t1.length : Int) := by omega
        have hig2 : (i : Int) < (t.length : Int) := by omega
        have b0 := hRn.vs.cell (j := i) (by omega)
        have bf := hRn.vs.fr
        have hneg : gb ≠ wr.heap.size := fun e => by have := World.block_lt_of_cell? wr _ hc; simp at this; omega
        have hgne : gb ≠ g := (HGN.out gb rfl).1
        have HNF := show Hid (¬ Fr c (.slice (some ⟨rg, ro, none⟩) t1.length cpr) wr.heap.size ∧ ¬ Fr c (.slice (some ⟨rg, ro, none⟩) t1.length cpr) gb) from ⟨fun h' => Nat.lt_irrefl _ (hRn.tr.foot _ h'), hRn.nf (HGN.out gb rfl).2.1 (HGN.out gb rfl).2.2⟩
        have hneg2 : g ≠ wr.heap.size := fun e => by have := World.block_lt_of_cell? wr _ b0; simp at this; omega
        have CA : ∀ {b o : Nat} {x : Value} (ob : Obj), wr.cell? ⟨b, o, none⟩ = some x → (wr.alloc ob).cell? ⟨b, o, none⟩ = some x := fun ob h => (Kp.of_below (S := fun _ => False) (below_alloc wr ob)).cell h (fun h => h)
        have z0 := CA (Obj.cells #[.int .i64 0, .string ⟨#[]⟩, .int .i64 0, .int .i64 0] 59) hc
        have z1 := CA (Obj.cells #[.int .i64 0, .string ⟨#[]⟩, .int .i64 0, .int .i64 0] 59) d0
        have z2 := CA (Obj.cells #[.int .i64 0, .string ⟨#[]⟩, .int .i64 0, .int .i64 0] 59) a0
        have z3 := CA (Obj.cells #[.int .i64 0, .string ⟨#[]⟩, .int .i64 0, .int .i64 0] 59) a1
        have z4 := CA (Obj.cells #[.int .i64 0, .string ⟨#[]⟩, .int .i64 0, .int .i64 0] 59) a2
        have z5 := CA (Obj.cells #[.int .i64 0, .string ⟨#[]⟩, .int .i64 0, .int .i64 0] 59) a3
        clear CA
        clear hRn hrun hux hok1 him hat hrr hA
        go_wp2_with fail
        go_region
        obtain ⟨wa, hwa⟩ : ∃ wa, wa = (wr.alloc (Obj.cells #[.int .i64 nk, .string ns, .int .i64 nl, .int .i64 nr] 59)).drew := ⟨_, rfl⟩
        have hRa : Rn w2 c u g t.length (.slice (some ⟨rg, ro, none⟩) t1.length cpr) t1 im wa := by rw [hwa]; exact (HRN.out.later (below_alloc _ _)).drew
        have hNa : N4 wa wr.heap.size ⟨nk, ns, nl, nr⟩ := by rw [hwa]; exact heap_alloc_new _ _
        have hca : wa.cell? ⟨gb, k, none⟩ = some (.int .i64 (i : Int)) := by rw [hwa]; exact (Kp.of_below (S := fun _ => False) (below_alloc wr _)).cell hc (fun h => h)
        have hgw : ¬ g = wr.heap.size := hneg2
        have hgg : gb ≠ g := hgne
        rw [← hwa]
        clear z0 z1 z2 z3 z4 z5 hc d0 a0 a1 a2 a3 b0 bf HRN hneg hneg2 hwa
        generalize wr.heap.size = xb at *
        have b0 := hRa.vs.cell (j := i) (by omega)
        have bf := hRa.vs.fr
        obtain ⟨wb, hwb⟩ : ∃ wb, wb = wa.setCell ⟨g, i, none⟩ (.int .i64 (i : Int)) := ⟨_, rfl⟩
        have hRb : Rn w2 c u g t.length (.slice (some ⟨rg, ro, none⟩) t1.length cpr) t1 (Sb.updI im i (i : Int)) wb := by rw [hwb]; exact hRa.set HG.out.1 HG.out.2 i _
        have hNb : N4 wb xb ⟨nk, ns, nl, nr⟩ := by rw [hwb]; exact ((kp_setR wa g i _).block xb (lt_of_block hNa) (fun e => hgw e.symm)).trans hNa
        have hcb : wb.cell? ⟨gb, k, none⟩ = some (.int .i64 (i : Int)) := by rw [hwb]; exact (kp_setR wa g i _).cell hca hgg
        have HWB := show Hid (wb = wa.setCell ⟨g, i, none⟩ (.int .i64 (i : Int))) from hwb
        clear hwb hRa hNa
        go_wp2_with fail
        go_region
        rw [← HWB.out]
        clear b0 bf HWB hca
        have x0 := hNb.c0; have x1 := hNb.c1; have x2 := hNb.c2; have x3 := hNb.c3
        simp only at x0 x1 x2 x3
        have HRB := show Hid _ from hRb
        have HNB := show Hid _ from hNb
        have HCB := show Hid _ from hcb
        clear hRb hNb hcb
        by_cases ho : (i : Int) = old
        · have HE := show Hid (Sb.run F (l.take (k + 1)) t = (Sb.updI im i y, 0, t1)) from by rw [HS.out.1]; exact HOL.out ho
          have hoq : ((i : Int) == old) = true := by simpa using ho
          have HRY := show Hid (Rn w2 c u g t.length (.slice (some ⟨rg, ro, none⟩) t1.length cpr) t1 (Sb.updI im i y) (wb.drew.setCell ⟨g, i, none⟩ (.int .i64 y))) from by
            have h := HRB.out.drew.set HG.out.1 HG.out.2 i y
            rw [show Sb.updI (Sb.updI im i (i : Int)) i y = Sb.updI im i y from by funext j; unfold Sb.updI; split <;> rfl] at h
            exact h
          have b0 := HRB.out.vs.cell (j := i) (by omega)
          have bf := HRB.out.vs.fr
          have hcb := HCB.out
          clear HPL HLF HJN HKD HS HOL HRB HNB HCB ho
          go_wp2_with fail
          go_roundw
          case rel => exact ⟨k + 1, _, by omega, by go_num, (by rw [HE.out]; exact ⟨HRY.out, rfl⟩)⟩
          case measure => first | (simp [intOf]; done) | (simp [intOf]; omega)
        · have hoq : ((i : Int) == old) = false := by simpa using ho
          have hcb := HCB.out
          rcases HKD.out with hk1 | hk1 | hk1
          · subst hk1
            have HE := show Hid (Sb.run F (l.take (k + 1)) t = (Sb.updI im i (i : Int), 0, t1)) from by rw [HS.out.1]; exact HLF.out ho rfl
            clear HPL HLF HJN HKD HS HOL
            go_wp2_with fail
            go_roundw
            case rel => exact ⟨k + 1, _, by omega, by go_num, (by rw [HE.out]; exact ⟨HRB.out.drew, rfl⟩)⟩
            case measure => first | (simp [intOf]; done) | (simp [intOf]; omega)
          · subst hk1
            have HE := show Hid (Sb.run F (l.take (k + 1)) t = (Sb.updI im i (i : Int), 0, t1)) from by rw [HS.out.1]; exact HLF.out ho rfl
            clear HPL HLF HJN HKD HS HOL
            go_wp2_with fail
            go_roundw
            case rel => exact ⟨k + 1, _, by omega, by go_num, (by rw [HE.out]; exact ⟨HRB.out.drew, rfl⟩)⟩
            case measure => first | (simp [intOf]; done) | (simp [intOf]; omega)
          · have hn1 : (nk == 1) = false := by
              have : nk ≠ 1 := fun e => by rw [e] at hk1; cases hk1
              simpa using this
            have hn2 : (nk == 2) = false := by
              have : nk ≠ 2 := fun e => by rw [e] at hk1; cases hk1
              simpa using this
            obtain ⟨hpl, hpr, hl0, hr0⟩ := HPL.out hk1
            obtain ⟨jl, rfl⟩ : ∃ jl : Nat, nl = jl := ⟨nl.toNat, by omega⟩
            obtain ⟨jr, rfl⟩ : ∃ jr : Nat, nr = jr := ⟨nr.toNat, by omega⟩
            simp only [Int.toNat_natCast] at hpl hpr
            have hst := HJN.out ho hk1
            simp only [Int.toNat_natCast] at hst
            have hjl : jl < t.length := by omega
            have hjr : jr < t.length := by omega
            have hjli : (jl : Int) < (t.length : Int) := by omega
            have hjri : (jr : Int) < (t.length : Int) := by omega
            have y0 : wb.cell? ⟨g, jl, none⟩ = some (.int .i64 (im jl)) := by
              have h := HRB.out.vs.cell (j := jl) hjl
              rw [show Sb.updI im i (i : Int) jl = im jl from if_neg (by omega)] at h
              exact h
            have y1 : wb.cell? ⟨g, jr, none⟩ = some (.int .i64 (im jr)) := by
              have h := HRB.out.vs.cell (j := jr) hjr
              rw [show Sb.updI im i (i : Int) jr = im jr from if_neg (by omega)] at h
              exact h
            have KS2 := show Hid (∀ wx, wx = wb.drew.drew ∨ wx = wb.drew → Calls Try.prog 43 #[.pointer (some ⟨c, 0, none⟩), .int .i64 nk, .int .i64 (im jl), .int .i64 (im jr)] wx fun e w' => e = .returned (.tuple #[.int .i64 (Fm.put t1 ⟨nk, ⟨#[]⟩, im jl, im jr⟩).1, .int .i64 (Fm.put t1 ⟨nk, ⟨#[]⟩, im jl, im jr⟩).2.1]) ∧ (∃ u5, Rn w2 c u g t.length u5 (Fm.put t1 ⟨nk, ⟨#[]⟩, im jl, im jr⟩).2.2 (Sb.updI im i (i : Int)) w') ∧ w'.cell? ⟨xb, 0, none⟩ = some (.int .i64 nk) ∧ w'.cell? ⟨xb, 2, none⟩ = some (.int .i64 (jl : Int)) ∧ w'.cell? ⟨xb, 3, none⟩ = some (.int .i64 (jr : Int)) ∧ w'.cell? ⟨g, jl, none⟩ = some (.int .i64 (im jl)) ∧ w'.cell? ⟨g, jr, none⟩ = some (.int .i64 (im jr)) ∧ w'.cell? ⟨gb, k, none⟩ = some (.int .i64 (i : Int))) from fun wx hwx => by
              have hRx : Rn w2 c u g t.length (.slice (some ⟨rg, ro, none⟩) t1.length cpr) t1 (Sb.updI im i (i : Int)) wx := by
                rcases hwx with e | e <;> rw [e]
                · exact HRB.out.drew.drew
                · exact HRB.out.drew
              have hNx : N4 wx xb ⟨nk, ns, jl, jr⟩ ∧ wx.cell? ⟨gb, k, none⟩ = some (.int .i64 (i : Int)) := by
                rcases hwx with e | e <;> rw [e] <;> exact ⟨HNB.out, HCB.out⟩
              refine (KS.out wx _ t1 hRx.tr nk (im jl) (im jr) hk1 (HX.out.2.1 jl) (HX.out.2.1 jr)).mono fun e w' ⟨he, hA⟩ => ?_
              obtain ⟨u5, hR5⟩ := hRx.call HG.out.1 HG.out.2 hA
              obtain ⟨_, _, _, hKp⟩ := hA
              have hN5 : N4 w' xb ⟨nk, ns, jl, jr⟩ := (hKp.block xb (lt_of_block hNx.1) HNF.out.1).trans hNx.1
              refine ⟨he, ⟨u5, hR5⟩, hN5.c0, hN5.c2, hN5.c3, ?_, ?_, ?_⟩
              · have h := hR5.vs.cell (j := jl) hjl
                rw [show Sb.updI im i (i : Int) jl = im jl from if_neg (by omega)] at h
                exact h
              · have h := hR5.vs.cell (j := jr) hjr
                rw [show Sb.updI im i (i : Int) jr = im jr from if_neg (by omega)] at h
                exact h
              · exact hKp.cell hNx.2 HNF.out.2
            have HST := show Hid (Sb.step F (im, 0, t1) i = (if (Fm.put t1 ⟨nk, ⟨#[]⟩, im jl, im jr⟩).2.1 = 0 then Sb.updI im i (Fm.put t1 ⟨nk, ⟨#[]⟩, im jl, im jr⟩).1 else im, (Fm.put t1 ⟨nk, ⟨#[]⟩, im jl, im jr⟩).2)) from hst
            clear hst HPL HLF HJN HKD HX KS HOL HRB HNB HCB
            generalize Fm.put t1 ⟨nk, ⟨#[]⟩, im jl, im jr⟩ = r at *
            go_wp2_with fail
            go_region_held3 (fun wx => wx.cell? ⟨xb, 0, none⟩ = some (.int .i64 nk) ∧ wx.cell? ⟨xb, 2, none⟩ = some (.int .i64 (jl : Int)) ∧ wx.cell? ⟨xb, 3, none⟩ = some (.int .i64 (jr : Int)) ∧ wx.cell? ⟨g, jl, none⟩ = some (.int .i64 (im jl)) ∧ wx.cell? ⟨g, jr, none⟩ = some (.int .i64 (im jr))) (first | go_keep | exact ⟨by assumption, by assumption, by assumption, by assumption, by assumption⟩) (first | (go_at_call 43; refine (KS2.out _ ?_).mono ?_; (first | exact Or.inl rfl | exact Or.inr rfl); rintro e w5 ⟨rfl, hR5, q0, q1, q2, q3, q4, q5⟩))
            have HR5 := show Hid (∃ u5, Rn w2 c u g t.length u5 r.2.2 (Sb.updI im i (i : Int)) w5) from hR5
            clear hR5 KS2 q0 q1 q2 q3 q4 y0 y1 x0 x1 x2 x3
            rw [HST.out] at HS HEX
            obtain ⟨ra, re, rt⟩ := r
            simp only at HS HEX HR5
            by_cases hre : re = 0
            · subst hre
              have HE := show Hid (Sb.run F (l.take (k + 1)) t = (Sb.updI im i ra, 0, rt)) from by
                have h := HS.out.1
                rw [if_pos rfl] at h
                exact h
              obtain ⟨u5, hR5⟩ := HR5.out
              have b0 := hR5.vs.cell (j := i) (by omega)
              have bf := hR5.vs.fr
              have HN := show Hid (Rn w2 c u g t.length u5 rt (Sb.updI im i ra) (w5.setCell ⟨g, i, none⟩ (.int .i64 ra))) from by
                have h := hR5.set HG.out.1 HG.out.2 i ra
                rw [show Sb.updI (Sb.updI im i (i : Int)) i ra = Sb.updI im i ra from by funext j; unfold Sb.updI; split <;> rfl] at h
                exact h
              clear HS HST HR5 hR5 HEX KK
              go_wp2_with fail
              go_roundw
              case rel => exact ⟨k + 1, _, by omega, by go_num, (by rw [HE.out]; exact ⟨HN.out, rfl⟩)⟩
              case measure => first | (simp [intOf]; done) | (simp [intOf]; omega)
            · have hne : (re != 0) = true := by simpa using hre
              have HA := show Hid (ans = (0, re, t)) from by
                have h := HS.out.2 hre
                have h2 := HAN.out.2
                rw [h] at h2
                exact h2 hre
              obtain ⟨u5, hR5⟩ := HR5.out
              obtain ⟨ux2, hx2⟩ := HEX.out
              have K5 := show Hid (Calls Try.prog 44 #[.pointer (some ⟨c, 0, none⟩), .int .i64 (t.length : Int), .int .i64 0, .int .i64 re] w5 fun e w' => e = .returned (.tuple #[.int .i64 0, .int .i64 re]) ∧ AfterR w c u t w') from (KK.out w5 u5 rt hR5.tr (t.length : Int) 0 re hre).mono fun e w' ⟨he, hA⟩ => ⟨he, by
                rw [hx2, cut_back] at hA
                obtain ⟨u6, hR6⟩ := hR5.call HG.out.1 HG.out.2 hA
                exact hR6.after HB2.out.1 HB2.out.2⟩
              clear HS HST HR5 hR5 HEX KK hx2
              go_wp2_with fail
              refine K5.out.mono ?_
              rintro e w6 ⟨rfl, hA6⟩
              have HA6 := show Hid _ from hA6
              clear K5 hA6
              go_wp2_with fail
              go_ret2
              exact ⟨by rw [HA.out]; rfl, by rw [HA.out]; exact HA6.out⟩
      · have hke : k = l.length := by omega
        subst hke
        have hI := HI.out
        rw [List.take_length] at hI
        have HA := show Hid (ans = ((Sb.run F l t).1 j, 0, (Sb.run F l t).2.2)) from HAN.out.1 hI.2
        have b0 := hI.1.vs.cell (j := j) hid
        have HF := show Hid (AfterR w c u (Sb.run F l t).2.2 wr) from hI.1.after HB2.out.1 HB2.out.2
        clear hI HI HCE HSN HER HRU HAN HLT KS KK H0
        generalize Sb.run F l t = s at *
        go_wp2_with fail
        go_ret2
        exact ⟨by rw [HA.out]; rfl, by rw [HA.out]; exact HF.out⟩
end
end Go.Proofs.Ythfedlodikbdgaa
