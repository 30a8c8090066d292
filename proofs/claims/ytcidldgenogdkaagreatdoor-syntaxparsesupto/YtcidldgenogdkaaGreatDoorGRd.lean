/-
  The document's call Widths: for every table. No other condition.
-/
import Derived.Test.YtcidldgenogdkaaGreatDoorGRc
import Derived.Test.YtcidldgenogdkaaGreatDoorGPc
namespace Go.Proofs.YtcidldgenogdkaaGreatDoor
open Go.RowKit Go.Maps
open Fm (Nd)

namespace Rp
def rnN (t : List Nd) (i least : Int) : Nat := if lev t i < least then 2 else 0
theorem rnd_nat (t : List Nd) (i least : Int) : rnd t i least = (rnN t i least : Int) := by unfold rnd rnN; split <;> rfl
theorem rnN_le (t : List Nd) (i least : Int) : rnN t i least ≤ 2 := by unfold rnN; split <;> omega
/-- A text's length, as the document sums it. -/
def raw (t : List Nd) (i : Int) : Nat :=
  if (nodeOf t i).k = 1 then (nodeOf t i).s.size else if (nodeOf t i).k = 2 then 5 else if lev t i = 4 then 4 else if lev t i = 3 then 1 + Pr.wd t (nodeOf t i).l + rnN t (nodeOf t i).l 3
  else Pr.wd t (nodeOf t i).l + rnN t (nodeOf t i).l (need (nodeOf t i).k).1 + 3 + Pr.wd t (nodeOf t i).r + rnN t (nodeOf t i).r (need (nodeOf t i).k).2 + (if (nodeOf t i).k = 5 then 1 else 0)
theorem wd_raw {t : List Nd} (hT : Fm.Ok t) {i : Int} (hi : Fm.has t i = true) : Pr.wd t i = min (raw t i) 65537 := by
  have h := text_r hT hi
  have hp : ∀ j least, (ptx t j least).length = (Pr.text t j).length + rnN t j least := fun j least => by rw [ptx_len, rnd_nat]; simp
  show min (Pr.text t i).length 65537 = _
  unfold raw
  by_cases h1 : (nodeOf t i).k = 1
  · rw [if_pos h1] at h ⊢; rw [h]; rfl
  rw [if_neg h1] at h ⊢
  by_cases h2 : (nodeOf t i).k = 2
  · rw [if_pos h2] at h ⊢; rw [h]; rfl
  rw [if_neg h2] at h ⊢
  by_cases h4 : lev t i = 4
  · rw [if_pos h4] at h ⊢; rw [h]; rfl
  rw [if_neg h4] at h ⊢
  by_cases h3 : lev t i = 3
  · rw [if_pos h3] at h ⊢
    rw [h, List.length_cons, hp]
    unfold Pr.wd
    omega
  rw [if_neg h3] at h ⊢
  rw [h, List.length_append, List.length_append, hp, hp]
  have hs : (Pr.sign (nodeOf t i).k).data.toList.length = 3 + (if (nodeOf t i).k = 5 then 1 else 0) := by
    have hj : (nodeOf t i).k = 3 ∨ (nodeOf t i).k = 4 ∨ (nodeOf t i).k = 5 := by
      obtain ⟨k, rfl, hk, hn⟩ := Pr.node_at hi
      rw [hn] at h1 h2 ⊢
      rcases Fm.ok_kind hT hk with e | e | e
      · exact absurd e h1
      · exact absurd e h2
      · unfold Fm.jn at e; simp at e; omega
    rcases hj with e | e | e <;> rw [e] <;> rfl
  rw [hs]
  unfold Pr.wd
  omega
end Rp
theorem Iz.other {w : World} {g n : Nat} {f : Nat → Nat} (h : Iz w g n f) {k l : Nat} (hl : l < n) (hne : l ≠ k) (v : Value) : (w.setCell ⟨g, k, none⟩ v).cell? ⟨g, l, none⟩ = some (.int .i64 (f l : Int)) := by
  rw [cell_of_row _ g l _ _ _ (heap_setCell_same w g k _ _ _ h)]
  simp [hl, Ne.symm hne]
/-- What the loop of Widths keeps. -/
structure Wz (w wr : World) (c n : Nat) (u : Value) (t : List Nd) (f : Nat → Nat) : Prop where
  a : Iz wr w.heap.size n f
  tr : Tr wr c u t
  be : Below w.heap.size w wr
theorem Wz.later {w wr w' : World} {c n : Nat} {u : Value} {t : List Nd} {f : Nat → Nat} (h : Wz w wr c n u t f) (hb : Below wr.heap.size wr w') : Wz w w' c n u t f :=
  ⟨(hb.block _ h.a.lt).trans h.a, h.tr.later hb, h.be.trans (hb.mono h.be.size)⟩
theorem nfr_int {w : World} {g c : Nat} {u : Value} {t : List Nd} {cs : Array Value} (h : w.heap[g]? = some (.cells cs 3 (0, 0))) (hT : Tr w c u t) : ¬ Fr c u g := by
  rintro (rfl | e)
  · rw [hT.tab] at h; simp at h
  · obtain ⟨_, cur, hh⟩ := hT.row.lt g e
    rw [h] at hh; simp at hh
theorem Wz.set {w wr : World} {c n : Nat} {u : Value} {t : List Nd} {f : Nat → Nat} (h : Wz w wr c n u t f) (j x : Nat) : Wz w (wr.setCell ⟨w.heap.size, j, none⟩ (.int .i64 (x : Int))) c n u t (updN f j x) :=
  ⟨h.a.set j x, h.tr.keep fun k hk => Below.heap_setCell _ _ _ _ (fun e => nfr_int h.a h.tr (by subst e; exact hk)), h.be.setCell (Nat.le_refl _) _⟩
end Go.Proofs.YtcidldgenogdkaaGreatDoor
/-
  The document's call Widths: for every table. No other condition.
-/
namespace Go.Proofs.YtcidldgenogdkaaGreatDoor
open Go.RowKit Go.Maps
open Fm (Nd)

theorem wrapN (x : Nat) (h : x ≤ 1000000) : IntKind.i64.wrap (x : Int) = (x : Int) := by
  have hm : (x : Int) % 18446744073709551616 = x := by omega
  unfold IntKind.wrap
  simp [IntKind.bits, IntKind.signed, hm]
  omega
set_option maxRecDepth 100000 in
set_option maxHeartbeats 8000000 in
theorem rwidths_any (w : World) {c : Nat} {u : Value} {t : List Nd} (h : Tr w c u t) (hn : 0 < t.length) :
    Calls Tryz.prog 46 #[.pointer (some ⟨c, 0, none⟩)] w fun e w' => ∃ f, e = .returned (.slice (some ⟨w.heap.size, 0, none⟩) t.length t.length) ∧ (∀ j : Nat, j < t.length → f j = Pr.wd t (j : Int)) ∧ Wz w w' c t.length u t f := by
  have hOk := h.ok
  have h1024 : t.length ≤ 1024 := hOk.len
  obtain ⟨b, o, cp, hu, hcp1, hcp2, hc, hat⟩ := h.reads hn
  have c0 := hc w (Below.refl _ _)
  have HC := show Hid (∀ w', Below w.heap.size w w' → w'.cell? ⟨c, 0, none⟩ = some (.slice (some ⟨b, o, none⟩) t.length cp)) from hc
  have HA := show Hid (∀ w', Below w.heap.size w w' → ∀ k, k < t.length → At4 w' b (o + k * 4) (nodeOf t (k : Int))) from hat
  have hmk : ∀ w : World, (Instr.makeSlice 78 (.int .i64 (t.length : Int)) (.int .i64 (t.length : Int))).run Tryz.prog w = .ok (.slice (some ⟨w.heap.size, 0, none⟩) t.length t.length) (w.alloc (.cells (madeCells #[.int .i64 0] t.length) 3)) := fun w => by
    have h := run_make_row' (P := Tryz.prog) 78 3 (.int .i64 0) 8 Tryz.underlying78 info_int rfl .i64 .i64 t.length (by omega) (by omega) w
    simpa using h
  have X0 := show Hid (Wz w (w.alloc (Obj.cells (madeCells #[.int .i64 0] t.length) 3)) c t.length u t (fun _ => 0)) from ⟨made_iz w t.length, h.later (below_alloc _ _), below_alloc _ _⟩
  have KL := show Hid (∀ (w' : World) (k : Nat), k < t.length → Tr w' c u t → Calls Tryz.prog 75 #[.pointer (some ⟨c, 0, none⟩), .int .i64 (k : Int)] w' fun e w'' => e = .returned (.int .i64 (Rp.lev t (k : Int))) ∧ Below w'.heap.size w' w'') from fun w' k hk hT => rlevel_any w' hT k (Fm.has_iff.2 ⟨by omega, by omega⟩)
  have KR := show Hid (∀ (w' : World) (j least : Int), Fm.has t j = true → Tr w' c u t → Calls Tryz.prog 76 #[.pointer (some ⟨c, 0, none⟩), .int .i64 j, .int .i64 least] w' fun e w'' => e = .returned (.int .i64 (Rp.rnN t j least : Int)) ∧ Below w'.heap.size w' w'') from fun w' j least hj hT => by
    have := rround_any w' hT j hj least
    rw [Rp.rnd_nat] at this
    exact this
  have KN := show Hid (∀ (w' : World) (k : Int), Calls Tryz.prog 77 #[.int .i64 k] w' fun e w'' => e = .returned (.tuple #[.int .i64 (Rp.need k).1, .int .i64 (Rp.need k).2]) ∧ w'' = w') from fun w' k => rneeds_any w' k
  have HW := show Hid (∀ k : Nat, k < t.length → Pr.wd t (k : Int) = min (Rp.raw t (k : Int)) 65537) from fun k hk => Rp.wd_raw hOk (Fm.has_iff.2 ⟨by omega, by omega⟩)
  have HJ := show Hid (∀ k : Nat, k < t.length → ((nodeOf t (k : Int)).k = 1 ∧ (nodeOf t (k : Int)).s.size ≤ 31) ∨ (nodeOf t (k : Int)).k = 2 ∨ (((nodeOf t (k : Int)).k = 3 ∨ (nodeOf t (k : Int)).k = 4 ∨ (nodeOf t (k : Int)).k = 5) ∧ ∃ l r : Nat, (nodeOf t (k : Int)).l = l ∧ (nodeOf t (k : Int)).r = r ∧ l < k ∧ r < k)) from fun k hk => by
    have hi : Fm.has t (k : Int) = true := Fm.has_iff.2 ⟨by omega, by omega⟩
    by_cases h1 : (nodeOf t (k : Int)).k = 1
    · refine Or.inl ⟨h1, ?_⟩
      have hm : Pr.Pc.tx (nodeOf t (k : Int)).s ∈ Pr.pcs t (k : Int) := by unfold Pr.pcs; rw [if_pos h1]; simp
      rcases Pr.pcs_mem hOk hi hm with ⟨s, e, hs⟩ | ⟨j, e, _⟩
      · cases e; exact hs
      · cases e
    · by_cases h2 : (nodeOf t (k : Int)).k = 2
      · exact Or.inr (Or.inl h2)
      · have hj : Fm.jn (nodeOf t (k : Int)).k = true := by
          obtain ⟨k', e, hk, hn⟩ := Pr.node_at hi
          rw [hn] at h1 h2 ⊢
          rcases Fm.ok_kind hOk hk with e | e | e
          · exact absurd e h1
          · exact absurd e h2
          · exact e
        obtain ⟨⟨p1, p2⟩, p3, p4⟩ := parts_has hOk hi hj
        have q1 := Fm.has_iff.1 p1
        have q3 := Fm.has_iff.1 p3
        refine Or.inr (Or.inr ⟨?_, (nodeOf t (k : Int)).l.toNat, (nodeOf t (k : Int)).r.toNat, by omega, by omega, by omega, by omega⟩)
        unfold Fm.jn at hj
        simp at hj
        omega
  clear h hc hat hOk
  subst hu
  go_enter Tryz.func46, Tryz.ntmps46
  go_wp2_with fail
  generalize w.alloc (Obj.cells (madeCells #[.int .i64 0] t.length) 3) = w0 at *
  clear hmk c0
  go_loopw [4] (fun i wr => ∃ (k : Nat) (f : Nat → Nat), k ≤ t.length ∧ i = .int .i64 k ∧ Hid (∀ j, j < k → f j = Pr.wd t (j : Int)) ∧ Hid (Wz w wr c t.length (.slice (some ⟨b, o, none⟩) t.length cp) t f)) (fun i _ => t.length - (intOf i).toNat)
  case atStart => exact ⟨0, fun _ => 0, by omega, rfl, (by intro j hj; omega), X0⟩
  case round =>
    obtain ⟨k, f, hk, rfl, HF, Y⟩ := hrel
    clear X0
    have c0 := HC.out wr Y.out.be
    by_cases hlt : k < t.length
    · have hki : (k : Int) < (t.length : Int) := by omega
      have hA := HA.out wr Y.out.be k hlt
      have hwd := HW.out k hlt
      have hjj := HJ.out k hlt
      have KL2 := show Hid (∀ w' : World, Tr w' c (.slice (some ⟨b, o, none⟩) t.length cp) t → Calls Tryz.prog 75 #[.pointer (some ⟨c, 0, none⟩), .int .i64 (k : Int)] w' fun e w'' => e = .returned (.int .i64 (Rp.lev t (k : Int))) ∧ Below w'.heap.size w' w'') from fun w' hT => KL.out w' k hlt hT
      unfold Rp.raw at hwd
      generalize Rp.lev t (k : Int) = lv at *
      generalize nodeOf t (k : Int) = n at *
      obtain ⟨nk, ns, nl, nr⟩ := n
      have a0 := hA.c0; have a1 := hA.c1; have a2 := hA.c2; have a3 := hA.c3
      simp only at a0 a1 a2 a3 hwd hjj
      obtain ⟨wa, hwa⟩ : ∃ wa, wa = wr.alloc (Obj.cells #[.int .i64 nk, .string ns, .int .i64 nl, .int .i64 nr] 104) := ⟨_, rfl⟩
      have YA := show Hid (Wz w wa c t.length (.slice (some ⟨b, o, none⟩) t.length cp) t f) from by rw [hwa]; exact Y.out.later (below_alloc _ _)
      have HR := show Hid (∀ w', Below wa.heap.size wa w' → N4 w' wr.heap.size ⟨nk, ns, nl, nr⟩) from fun w' hb => by
        have h1 : N4 wa wr.heap.size ⟨nk, ns, nl, nr⟩ := by rw [hwa]; exact heap_alloc_new wr _
        exact (hb.block _ (lt_of_block h1)).trans h1
      have hne : wr.heap.size ≠ w.heap.size := by have := Y.out.a.lt; omega
      have hne2 : w.heap.size ≠ wr.heap.size := Ne.symm hne
      have HF2 := show Hid (∀ (f' : Nat → Nat) (x : Nat), (∀ j, j ≠ k → f' j = f j) → f' k = x → x = Pr.wd t (k : Int) → ∀ j, j < k + 1 → f' j = Pr.wd t (j : Int)) from fun f' x h1 h2 h3 j hj => by
        by_cases e : j = k
        · subst e; rw [h2, h3]
        · rw [h1 j e]; exact HF.out j (by omega)
      have D0 := HR.out wa (Below.refl _ _)
      have d0 := D0.c0; have d1 := D0.c1; have d2 := D0.c2; have d3 := D0.c3
      simp only at d0 d1 d2 d3
      have cg := YA.out.a.cell hlt
      have fg := YA.out.a.fr
      clear D0 hA KL
      subst hwa
      rcases hjj with ⟨rfl, hs⟩ | rfl | ⟨h345, l, r, rfl, rfl, hl, hr⟩
      · rw [if_pos rfl] at hwd
        have hs1 : ¬ 65536 < (ns.size : Int) := by omega
        have HFX := show Hid (∀ j, j < k + 1 → updN f k ns.size j = Pr.wd t (j : Int)) from HF2.out _ ns.size (fun j hj => by simp [updN, hj]) (by simp [updN]) (by omega)
        have YX := show Hid (Wz w ((wr.alloc (Obj.cells #[.int .i64 1, .string ns, .int .i64 nl, .int .i64 nr] 104)).setCell ⟨w.heap.size, k, none⟩ (.int .i64 (ns.size : Int))) c t.length (.slice (some ⟨b, o, none⟩) t.length cp) t (updN f k ns.size)) from YA.out.set k ns.size
        clear hwd HF2 HF Y KL2 KR KN HW HJ
        go_wp2_with fail
        go_roundw
        case rel => exact ⟨k + 1, updN f k ns.size, by omega, by go_num, HFX, YX⟩
        case measure => first | (simp [intOf]; done) | (simp [intOf]; omega)
      · rw [if_neg (by omega), if_pos rfl] at hwd
        have HFX := show Hid (∀ j, j < k + 1 → updN f k 5 j = Pr.wd t (j : Int)) from HF2.out _ 5 (fun j hj => by simp [updN, hj]) (by simp [updN]) (by omega)
        have YX := show Hid (Wz w ((wr.alloc (Obj.cells #[.int .i64 2, .string ns, .int .i64 nl, .int .i64 nr] 104)).setCell ⟨w.heap.size, k, none⟩ (.int .i64 ((5 : Nat) : Int))) c t.length (.slice (some ⟨b, o, none⟩) t.length cp) t (updN f k 5)) from YA.out.set k 5
        clear hwd HF2 HF Y KL2 KR KN HW HJ
        go_wp2_with fail
        go_roundw
        case rel => exact ⟨k + 1, updN f k 5, by omega, by go_num, HFX, YX⟩
        case measure => first | (simp [intOf]; done) | (simp [intOf]; omega)
      · have hk1 : ¬ nk = 1 := by omega
        have hk2 : ¬ nk = 2 := by omega
        have hk1' : (nk == 1) = false := by simp [hk1]
        have hk2' : (nk == 2) = false := by simp [hk2]
        rw [if_neg hk1, if_neg hk2] at hwd
        have hll : l < t.length := by omega
        have hrl : r < t.length := by omega
        have hli : (l : Int) < (t.length : Int) := by omega
        have hri : (r : Int) < (t.length : Int) := by omega
        have hlk : l ≠ k := by omega
        have hrk : r ≠ k := by omega
        have hfl := HF.out l hl
        have hfr := HF.out r hr
        have hfl2 : f l ≤ 65537 := by rw [hfl]; unfold Pr.wd; omega
        have hfr2 : f r ≤ 65537 := by rw [hfr]; unfold Pr.wd; omega
        rw [← hfl, ← hfr] at hwd
        have KRl := show Hid (∀ (w' : World) (least : Int), Tr w' c (.slice (some ⟨b, o, none⟩) t.length cp) t → Calls Tryz.prog 76 #[.pointer (some ⟨c, 0, none⟩), .int .i64 (l : Int), .int .i64 least] w' fun e w'' => e = .returned (.int .i64 (Rp.rnN t (l : Int) least : Int)) ∧ Below w'.heap.size w' w'') from fun w' least hT => KR.out w' l least (Fm.has_iff.2 ⟨by omega, by omega⟩) hT
        have KRr := show Hid (∀ (w' : World) (least : Int), Tr w' c (.slice (some ⟨b, o, none⟩) t.length cp) t → Calls Tryz.prog 76 #[.pointer (some ⟨c, 0, none⟩), .int .i64 (r : Int), .int .i64 least] w' fun e w'' => e = .returned (.int .i64 (Rp.rnN t (r : Int) least : Int)) ∧ Below w'.heap.size w' w'') from fun w' least hT => KR.out w' r least (Fm.has_iff.2 ⟨by omega, by omega⟩) hT
        clear KR HW HJ hfl hfr cg fg
        by_cases h4 : lv = 4
        · subst h4
          rw [if_pos rfl] at hwd
          have HFX := show Hid (∀ j, j < k + 1 → updN f k 4 j = Pr.wd t (j : Int)) from HF2.out _ 4 (fun j hj => by simp [updN, hj]) (by simp [updN]) (by omega)
          clear hwd HF2 HF Y KRl KRr KN h345
          go_wp2_with fail
          refine (KL2.out _ YA.out.tr).mono ?_
          rintro e w1 ⟨rfl, hb1⟩
          have Y1 := show Hid (Wz w w1 c t.length (.slice (some ⟨b, o, none⟩) t.length cp) t f) from YA.out.later hb1
          have YX := show Hid (Wz w (w1.setCell ⟨w.heap.size, k, none⟩ (.int .i64 ((4 : Nat) : Int))) c t.length (.slice (some ⟨b, o, none⟩) t.length cp) t (updN f k 4)) from Y1.out.set k 4
          have cg := Y1.out.a.cell hlt
          have fg := Y1.out.a.fr
          clear hb1 d0 d1 d2 d3 KL2 HR YA
          go_wp2_with fail
          go_roundw
          case rel => exact ⟨k + 1, updN f k 4, by omega, by go_num, HFX, YX⟩
          case measure => first | (simp [intOf]; done) | (simp [intOf]; omega)
        · rw [if_neg h4] at hwd
          have h4' : (lv == 4) = false := by simp [h4]
          by_cases h3 : lv = 3
          · subst h3
            rw [if_pos rfl] at hwd
            have hro := Rp.rnN_le t (l : Int) 3
            have KR3 := show Hid (∀ (w' : World), Tr w' c (.slice (some ⟨b, o, none⟩) t.length cp) t → Calls Tryz.prog 76 #[.pointer (some ⟨c, 0, none⟩), .int .i64 (l : Int), .int .i64 3] w' fun e w'' => e = .returned (.int .i64 (Rp.rnN t (l : Int) 3 : Int)) ∧ Below w'.heap.size w' w'') from fun w' hT => KRl.out w' 3 hT
            generalize Rp.rnN t (l : Int) 3 = ro at *
            have HFX := show Hid (∀ f' : Nat → Nat, (∀ j, j ≠ k → f' j = f j) → f' k = min (1 + f l + ro) 65537 → ∀ j, j < k + 1 → f' j = Pr.wd t (j : Int)) from fun f' h1 h2 => HF2.out f' _ h1 h2 hwd.symm
            clear HF2 HF Y KRl KRr KN h345 h4
            go_wp2_with fail
            refine (KL2.out _ YA.out.tr).mono ?_
            rintro e w1 ⟨rfl, hb1⟩
            have Y1 := show Hid (Wz w w1 c t.length (.slice (some ⟨b, o, none⟩) t.length cp) t f ∧ Below (wr.alloc (Obj.cells #[.int .i64 nk, .string ns, .int .i64 (l : Int), .int .i64 (r : Int)] 104)).heap.size (wr.alloc (Obj.cells #[.int .i64 nk, .string ns, .int .i64 (l : Int), .int .i64 (r : Int)] 104)) w1) from ⟨YA.out.later hb1, hb1⟩
            clear hb1 d0 d1 d2 d3 YA
            go_wp2_with fail
            refine (KL2.out _ Y1.out.1.tr).mono ?_
            rintro e w2 ⟨rfl, hb2⟩
            have hb2' := Y1.out.2.trans (hb2.mono Y1.out.2.size)
            have Y2 := show Hid (Wz w w2 c t.length (.slice (some ⟨b, o, none⟩) t.length cp) t f ∧ Below (wr.alloc (Obj.cells #[.int .i64 nk, .string ns, .int .i64 (l : Int), .int .i64 (r : Int)] 104)).heap.size (wr.alloc (Obj.cells #[.int .i64 nk, .string ns, .int .i64 (l : Int), .int .i64 (r : Int)] 104)) w2) from ⟨Y1.out.1.later hb2, hb2'⟩
            clear hb2 hb2' Y1 KL2
            have Y3 := show Hid (Wz w w2.drew c t.length (.slice (some ⟨b, o, none⟩) t.length cp) t f ∧ Below (wr.alloc (Obj.cells #[.int .i64 nk, .string ns, .int .i64 (l : Int), .int .i64 (r : Int)] 104)).heap.size (wr.alloc (Obj.cells #[.int .i64 nk, .string ns, .int .i64 (l : Int), .int .i64 (r : Int)] 104)) w2.drew) from ⟨Y2.out.1.later (Below.refl _ _).drew, Y2.out.2.drew⟩
            clear Y2
            have HS := show Hid (∀ w', Wz w w' c t.length (.slice (some ⟨b, o, none⟩) t.length cp) t f → Below (wr.alloc (Obj.cells #[.int .i64 nk, .string ns, .int .i64 (l : Int), .int .i64 (r : Int)] 104)).heap.size (wr.alloc (Obj.cells #[.int .i64 nk, .string ns, .int .i64 (l : Int), .int .i64 (r : Int)] 104)) w' → (fun wx => wx.cell? ⟨wr.heap.size, 2, none⟩ = some (.int .i64 (l : Int)) ∧ wx.cell? ⟨w.heap.size, l, none⟩ = some (.int .i64 (f l : Int)) ∧ wx.cell? ⟨w.heap.size, k, none⟩ = some (.int .i64 (f k : Int)) ∧ ∀ j, wx.frozen? ⟨w.heap.size, j, none⟩ = false) w') from fun w' hy hb => ⟨(HR.out w' hb).c2, hy.a.cell hll, hy.a.cell hlt, hy.a.fr⟩
            have s3 := HS.out _ Y3.out.1 Y3.out.2
            simp only at s3
            obtain ⟨s31, s32, s33, s34⟩ := s3
            go_wp2_with fail
            go_region_held3 (fun wx => wx.cell? ⟨wr.heap.size, 2, none⟩ = some (.int .i64 (l : Int)) ∧ wx.cell? ⟨w.heap.size, l, none⟩ = some (.int .i64 (f l : Int))) (first | with_reducible exact ⟨s31, s32⟩ | with_reducible exact ⟨s41, s42⟩ | exact ⟨s45 _, s46 _⟩ | go_keep) (first | ((with_reducible refine Calls.mono (KR3.out _ Y3.out.1.tr) ?_); rintro e w4 ⟨rfl, hb4⟩; have Y4 := show Hid (Wz w w4 c t.length (.slice (some ⟨b, o, none⟩) t.length cp) t f ∧ Below (wr.alloc (Obj.cells #[.int .i64 nk, .string ns, .int .i64 (l : Int), .int .i64 (r : Int)] 104)).heap.size (wr.alloc (Obj.cells #[.int .i64 nk, .string ns, .int .i64 (l : Int), .int .i64 (r : Int)] 104)) w4) from ⟨Y3.out.1.later hb4, Y3.out.2.trans (hb4.mono Y3.out.2.size)⟩; obtain ⟨s41, s42, s43, s44⟩ := HS.out _ Y4.out.1 Y4.out.2; have s45 : ∀ v, (w4.setCell ⟨w.heap.size, k, none⟩ v).cell? ⟨wr.heap.size, 2, none⟩ = some (.int .i64 (l : Int)) := fun v => (World.cell?_setCell_far _ _ _ _ hne2).trans s41; have s46 : ∀ v, (w4.setCell ⟨w.heap.size, k, none⟩ v).cell? ⟨w.heap.size, l, none⟩ = some (.int .i64 (f l : Int)) := fun v => Y4.out.1.a.other hll hlk v; clear hb4))
            rw [show IntKind.i64.wrap (IntKind.i64.wrap (1 + (f l : Int)) + (ro : Int)) = ((1 + f l + ro : Nat) : Int) from by rw [show (1 : Int) + (f l : Int) = ((1 + f l : Nat) : Int) from by omega, wrapN _ (by omega), show ((1 + f l : Nat) : Int) + (ro : Int) = ((1 + f l + ro : Nat) : Int) from by omega, wrapN _ (by omega)]]
            obtain ⟨x, hx⟩ : ∃ x, x = 1 + f l + ro := ⟨_, rfl⟩
            rw [← hx] at HFX ⊢
            have Y5 := show Hid (Wz w (w4.setCell ⟨w.heap.size, k, none⟩ (.int .i64 (x : Int))) c t.length (.slice (some ⟨b, o, none⟩) t.length cp) t (updN f k x)) from Y4.out.1.set k x
            have cg := Y5.out.a.cell hlt
            have fg := Y5.out.a.fr
            rw [show updN f k x k = x from by simp [updN]] at cg
            clear s31 s32 s33 s34 s41 s42 s43 s44 s45 s46 HS Y3 Y4 KR3 HR hwd hx
            generalize w4.setCell ⟨w.heap.size, k, none⟩ (.int .i64 (x : Int)) = w5 at *
            by_cases hbig : 65536 < x
            · have hbi : (65536 : Int) < (x : Int) := by omega
              have HFY := show Hid (∀ j, j < k + 1 → updN (updN f k x) k 65537 j = Pr.wd t (j : Int)) from HFX.out _ (fun j hj => by simp [updN, hj]) (by simp [updN]; omega)
              have YX := show Hid (Wz w (w5.setCell ⟨w.heap.size, k, none⟩ (.int .i64 ((65537 : Nat) : Int))) c t.length (.slice (some ⟨b, o, none⟩) t.length cp) t (updN (updN f k x) k 65537)) from Y5.out.set k 65537
              clear HFX Y5 hbig
              go_wp2_with fail
              go_roundw
              case rel => exact ⟨k + 1, _, by omega, by go_num, HFY, YX⟩
              case measure => first | (simp [intOf]; done) | (simp [intOf]; omega)
            · have hbi : ¬ (65536 : Int) < (x : Int) := by omega
              have HFY := show Hid (∀ j, j < k + 1 → updN f k x j = Pr.wd t (j : Int)) from HFX.out _ (fun j hj => by simp [updN, hj]) (by simp [updN]; omega)
              clear HFX hbig
              go_wp2_with fail
              go_roundw
              case rel => exact ⟨k + 1, _, by omega, by go_num, HFY, Y5⟩
              case measure => first | (simp [intOf]; done) | (simp [intOf]; omega)
          · rw [if_neg h3] at hwd
            have h3' : (lv == 3) = false := by simp [h3]
            have KN2 := show Hid (∀ w' : World, Calls Tryz.prog 77 #[.int .i64 nk] w' fun e w'' => e = .returned (.tuple #[.int .i64 (Rp.need nk).1, .int .i64 (Rp.need nk).2]) ∧ w'' = w') from fun w' => KN.out w' nk
            generalize Rp.need nk = nn at *
            obtain ⟨na, nb⟩ := nn
            simp only at KN2 hwd
            have hro1 := Rp.rnN_le t (l : Int) na
            have hro2 := Rp.rnN_le t (r : Int) nb
            have KR1 := show Hid (∀ (w' : World), Tr w' c (.slice (some ⟨b, o, none⟩) t.length cp) t → Calls Tryz.prog 76 #[.pointer (some ⟨c, 0, none⟩), .int .i64 (l : Int), .int .i64 na] w' fun e w'' => e = .returned (.int .i64 (Rp.rnN t (l : Int) na : Int)) ∧ Below w'.heap.size w' w'') from fun w' hT => KRl.out w' na hT
            have KR2 := show Hid (∀ (w' : World), Tr w' c (.slice (some ⟨b, o, none⟩) t.length cp) t → Calls Tryz.prog 76 #[.pointer (some ⟨c, 0, none⟩), .int .i64 (r : Int), .int .i64 nb] w' fun e w'' => e = .returned (.int .i64 (Rp.rnN t (r : Int) nb : Int)) ∧ Below w'.heap.size w' w'') from fun w' hT => KRr.out w' nb hT
            generalize Rp.rnN t (l : Int) na = ro at *
            generalize Rp.rnN t (r : Int) nb = rp at *
            have HFX := show Hid (∀ f' : Nat → Nat, (∀ j, j ≠ k → f' j = f j) → f' k = min (f l + ro + 3 + f r + rp + if nk = 5 then 1 else 0) 65537 → ∀ j, j < k + 1 → f' j = Pr.wd t (j : Int)) from fun f' h1 h2 => HF2.out f' _ h1 h2 hwd.symm
            clear HF2 HF Y KRl KRr KN h4 h3 hwd
            go_wp2_with fail
            refine (KL2.out _ YA.out.tr).mono ?_
            rintro e w1 ⟨rfl, hb1⟩
            have Y1 := show Hid (Wz w w1 c t.length (.slice (some ⟨b, o, none⟩) t.length cp) t f ∧ Below (wr.alloc (Obj.cells #[.int .i64 nk, .string ns, .int .i64 (l : Int), .int .i64 (r : Int)] 104)).heap.size (wr.alloc (Obj.cells #[.int .i64 nk, .string ns, .int .i64 (l : Int), .int .i64 (r : Int)] 104)) w1) from ⟨YA.out.later hb1, hb1⟩
            clear hb1 d0 d1 d2 d3 YA
            go_wp2_with fail
            refine (KL2.out _ Y1.out.1.tr).mono ?_
            rintro e w2 ⟨rfl, hb2⟩
            have hb2' := Y1.out.2.trans (hb2.mono Y1.out.2.size)
            have Y2 := show Hid (Wz w w2 c t.length (.slice (some ⟨b, o, none⟩) t.length cp) t f ∧ Below (wr.alloc (Obj.cells #[.int .i64 nk, .string ns, .int .i64 (l : Int), .int .i64 (r : Int)] 104)).heap.size (wr.alloc (Obj.cells #[.int .i64 nk, .string ns, .int .i64 (l : Int), .int .i64 (r : Int)] 104)) w2) from ⟨Y1.out.1.later hb2, hb2'⟩
            have d0 := (HR.out w2 hb2').c0
            simp only at d0
            clear hb2 hb2' Y1 KL2
            go_wp2_with fail
            refine (KN2.out _).mono ?_
            rintro e w3 ⟨rfl, hw3⟩
            subst w3
            have Y3 := show Hid (Wz w w2.drew c t.length (.slice (some ⟨b, o, none⟩) t.length cp) t f ∧ Below (wr.alloc (Obj.cells #[.int .i64 nk, .string ns, .int .i64 (l : Int), .int .i64 (r : Int)] 104)).heap.size (wr.alloc (Obj.cells #[.int .i64 nk, .string ns, .int .i64 (l : Int), .int .i64 (r : Int)] 104)) w2.drew) from ⟨Y2.out.1.later (Below.refl _ _).drew, Y2.out.2.drew⟩
            clear Y2 d0 KN2
            have HS := show Hid (∀ w', Wz w w' c t.length (.slice (some ⟨b, o, none⟩) t.length cp) t f → Below (wr.alloc (Obj.cells #[.int .i64 nk, .string ns, .int .i64 (l : Int), .int .i64 (r : Int)] 104)).heap.size (wr.alloc (Obj.cells #[.int .i64 nk, .string ns, .int .i64 (l : Int), .int .i64 (r : Int)] 104)) w' → (fun wx => wx.cell? ⟨wr.heap.size, 2, none⟩ = some (.int .i64 (l : Int)) ∧ wx.cell? ⟨wr.heap.size, 3, none⟩ = some (.int .i64 (r : Int)) ∧ wx.cell? ⟨w.heap.size, l, none⟩ = some (.int .i64 (f l : Int)) ∧ wx.cell? ⟨w.heap.size, r, none⟩ = some (.int .i64 (f r : Int))) w') from fun w' hy hb => ⟨(HR.out w' hb).c2, (HR.out w' hb).c3, hy.a.cell hll, hy.a.cell hrl⟩
            obtain ⟨s31, s32, s33, s34⟩ := HS.out _ Y3.out.1 Y3.out.2
            go_wp2_with fail
            go_region_held3 (fun wx => wx.cell? ⟨wr.heap.size, 2, none⟩ = some (.int .i64 (l : Int)) ∧ wx.cell? ⟨wr.heap.size, 3, none⟩ = some (.int .i64 (r : Int)) ∧ wx.cell? ⟨w.heap.size, l, none⟩ = some (.int .i64 (f l : Int)) ∧ wx.cell? ⟨w.heap.size, r, none⟩ = some (.int .i64 (f r : Int))) (first | with_reducible exact ⟨s31, s32, s33, s34⟩ | with_reducible exact ⟨s41, s42, s43, s44⟩ | with_reducible exact ⟨s51, s52, s53, s54⟩ | exact ⟨s61 _, s62 _, s63 _, s64 _⟩ | go_keep) (first | ((with_reducible refine Calls.mono (KR1.out _ Y3.out.1.tr) ?_); rintro e w4 ⟨rfl, hb4⟩; have Y4 := show Hid (Wz w w4 c t.length (.slice (some ⟨b, o, none⟩) t.length cp) t f ∧ Below (wr.alloc (Obj.cells #[.int .i64 nk, .string ns, .int .i64 (l : Int), .int .i64 (r : Int)] 104)).heap.size (wr.alloc (Obj.cells #[.int .i64 nk, .string ns, .int .i64 (l : Int), .int .i64 (r : Int)] 104)) w4) from ⟨Y3.out.1.later hb4, Y3.out.2.trans (hb4.mono Y3.out.2.size)⟩; obtain ⟨s41, s42, s43, s44⟩ := HS.out _ Y4.out.1 Y4.out.2; clear hb4) | ((with_reducible refine Calls.mono (KR2.out _ Y4.out.1.tr) ?_); rintro e w5 ⟨rfl, hb5⟩; have Y5 := show Hid (Wz w w5 c t.length (.slice (some ⟨b, o, none⟩) t.length cp) t f ∧ Below (wr.alloc (Obj.cells #[.int .i64 nk, .string ns, .int .i64 (l : Int), .int .i64 (r : Int)] 104)).heap.size (wr.alloc (Obj.cells #[.int .i64 nk, .string ns, .int .i64 (l : Int), .int .i64 (r : Int)] 104)) w5) from ⟨Y4.out.1.later hb5, Y4.out.2.trans (hb5.mono Y4.out.2.size)⟩; obtain ⟨s51, s52, s53, s54⟩ := HS.out _ Y5.out.1 Y5.out.2; have s55 := Y5.out.1.a.cell hlt; have s56 := Y5.out.1.a.fr; have s61 : ∀ v, (w5.setCell ⟨w.heap.size, k, none⟩ v).cell? ⟨wr.heap.size, 2, none⟩ = some (.int .i64 (l : Int)) := fun v => (World.cell?_setCell_far _ _ _ _ hne2).trans s51; have s62 : ∀ v, (w5.setCell ⟨w.heap.size, k, none⟩ v).cell? ⟨wr.heap.size, 3, none⟩ = some (.int .i64 (r : Int)) := fun v => (World.cell?_setCell_far _ _ _ _ hne2).trans s52; have s63 : ∀ v, (w5.setCell ⟨w.heap.size, k, none⟩ v).cell? ⟨w.heap.size, l, none⟩ = some (.int .i64 (f l : Int)) := fun v => Y5.out.1.a.other hll hlk v; have s64 : ∀ v, (w5.setCell ⟨w.heap.size, k, none⟩ v).cell? ⟨w.heap.size, r, none⟩ = some (.int .i64 (f r : Int)) := fun v => Y5.out.1.a.other hrl hrk v; clear hb5))
            rw [show IntKind.i64.wrap (IntKind.i64.wrap (IntKind.i64.wrap (IntKind.i64.wrap ((f l : Int) + (ro : Int)) + 3) + (f r : Int)) + (rp : Int)) = ((f l + ro + 3 + f r + rp : Nat) : Int) from by rw [show (f l : Int) + (ro : Int) = ((f l + ro : Nat) : Int) from by omega, wrapN _ (by omega), show ((f l + ro : Nat) : Int) + 3 = ((f l + ro + 3 : Nat) : Int) from by omega, wrapN _ (by omega), show ((f l + ro + 3 : Nat) : Int) + (f r : Int) = ((f l + ro + 3 + f r : Nat) : Int) from by omega, wrapN _ (by omega), show ((f l + ro + 3 + f r : Nat) : Int) + (rp : Int) = ((f l + ro + 3 + f r + rp : Nat) : Int) from by omega, wrapN _ (by omega)]]
            obtain ⟨x, hx⟩ : ∃ x, x = f l + ro + 3 + f r + rp := ⟨_, rfl⟩
            have hxs : x ≤ 1000000 := by omega
            rw [← hx] at HFX ⊢
            have Y6 := show Hid (Wz w (w5.setCell ⟨w.heap.size, k, none⟩ (.int .i64 (x : Int))) c t.length (.slice (some ⟨b, o, none⟩) t.length cp) t (updN f k x)) from Y5.out.1.set k x
            have cg := Y6.out.a.cell hlt
            have fg := Y6.out.a.fr
            rw [show updN f k x k = x from by simp [updN]] at cg
            have d0 : (w5.setCell ⟨w.heap.size, k, none⟩ (.int .i64 (x : Int))).cell? ⟨wr.heap.size, 0, none⟩ = some (.int .i64 nk) := (World.cell?_setCell_far _ _ _ _ hne2).trans (HR.out w5 Y5.out.2).c0
            clear s31 s32 s33 s34 s41 s42 s43 s44 s51 s52 s53 s54 s55 s56 s61 s62 s63 s64 HS Y3 Y4 Y5 KR1 KR2 HR hx
            generalize w5.setCell ⟨w.heap.size, k, none⟩ (.int .i64 (x : Int)) = w6 at *
            by_cases h5 : nk = 5
            · subst h5
              rw [if_pos rfl] at HFX
              have Y7 := show Hid (Wz w (w6.setCell ⟨w.heap.size, k, none⟩ (.int .i64 ((x + 1 : Nat) : Int))) c t.length (.slice (some ⟨b, o, none⟩) t.length cp) t (updN (updN f k x) k (x + 1))) from Y6.out.set k (x + 1)
              have cg7 := Y7.out.a.cell hlt
              have fg7 := Y7.out.a.fr
              rw [show updN (updN f k x) k (x + 1) k = x + 1 from by simp [updN]] at cg7
              rw [show ((x + 1 : Nat) : Int) = (x : Int) + 1 from rfl] at cg7 fg7 Y7
              by_cases hbig : 65536 < x + 1
              · have hbi : (65536 : Int) < (x : Int) + 1 := by omega
                have HFY := show Hid (∀ j, j < k + 1 → updN (updN (updN f k x) k (x + 1)) k 65537 j = Pr.wd t (j : Int)) from HFX.out _ (fun j hj => by simp [updN, hj]) (by simp [updN]; omega)
                have YX := show Hid (Wz w ((w6.setCell ⟨w.heap.size, k, none⟩ (.int .i64 ((x : Int) + 1))).setCell ⟨w.heap.size, k, none⟩ (.int .i64 ((65537 : Nat) : Int))) c t.length (.slice (some ⟨b, o, none⟩) t.length cp) t (updN (updN (updN f k x) k (x + 1)) k 65537)) from Y7.out.set k 65537
                clear HFX Y7 hbig
                go_wp2_with fail
                go_roundw
                case rel => exact ⟨k + 1, _, by omega, by go_num, HFY, YX⟩
                case measure => first | (simp [intOf]; done) | (simp [intOf]; omega)
              · have hbi : ¬ (65536 : Int) < (x : Int) + 1 := by omega
                have HFY := show Hid (∀ j, j < k + 1 → (updN (updN f k x) k (x + 1)) j = Pr.wd t (j : Int)) from HFX.out _ (fun j hj => by simp [updN, hj]) (by simp [updN]; omega)
                clear HFX hbig
                go_wp2_with fail
                go_roundw
                case rel => exact ⟨k + 1, _, by omega, by go_num, HFY, Y7⟩
                case measure => first | (simp [intOf]; done) | (simp [intOf]; omega)
            · rw [if_neg h5, Nat.add_zero] at HFX
              have h5' : (nk == 5) = false := by simp [h5]
              by_cases hbig : 65536 < x
              · have hbi : (65536 : Int) < (x : Int) := by omega
                have HFY := show Hid (∀ j, j < k + 1 → updN (updN f k x) k 65537 j = Pr.wd t (j : Int)) from HFX.out _ (fun j hj => by simp [updN, hj]) (by simp [updN]; omega)
                have YX := show Hid (Wz w (w6.setCell ⟨w.heap.size, k, none⟩ (.int .i64 ((65537 : Nat) : Int))) c t.length (.slice (some ⟨b, o, none⟩) t.length cp) t (updN (updN f k x) k 65537)) from Y6.out.set k 65537
                clear HFX Y6 hbig
                go_wp2_with fail
                go_roundw
                case rel => exact ⟨k + 1, _, by omega, by go_num, HFY, YX⟩
                case measure => first | (simp [intOf]; done) | (simp [intOf]; omega)
              · have hbi : ¬ (65536 : Int) < (x : Int) := by omega
                have HFY := show Hid (∀ j, j < k + 1 → (updN f k x) j = Pr.wd t (j : Int)) from HFX.out _ (fun j hj => by simp [updN, hj]) (by simp [updN]; omega)
                clear HFX hbig
                go_wp2_with fail
                go_roundw
                case rel => exact ⟨k + 1, _, by omega, by go_num, HFY, Y6⟩
                case measure => first | (simp [intOf]; done) | (simp [intOf]; omega)
    · have hki : ¬ (k : Int) < (t.length : Int) := by omega
      have hke : k = t.length := by omega
      go_wp2_with fail
      go_ret
      exact ⟨rfl, f, fun j hj => HF.out j (by omega), Y.out⟩
end Go.Proofs.YtcidldgenogdkaaGreatDoor
