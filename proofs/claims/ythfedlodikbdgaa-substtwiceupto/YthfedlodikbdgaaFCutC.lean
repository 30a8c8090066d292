/-
  The call Cut of a table: for every number. No condition.
-/
import Derived.Test.YthfedlodikbdgaaFCut
namespace Go.Proofs.Ythfedlodikbdgaa
open Go.RowKit Go.Maps
open Fm (Nd)

/-- What Cut answers: the error, the rows. -/
def cutR (t : List Nd) (n : Int) : Int × List Nd := if 0 ≤ n ∧ n ≤ t.length then (0, t.take n.toNat) else (2, t)
theorem slice_cases {w : World} {v : Value} {t : List Nd} (h : Rw w v t) : (v = .slice none 0 0 ∧ t = []) ∨ ∃ g cap cur, v = .slice (some ⟨g, 0, none⟩) t.length cap ∧ w.heap[g]? = some (.cells cur 59 (0, 0)) ∧ t.length ≤ cap ∧ cap ≤ maxLen ∧ cap * 4 ≤ cur.size ∧ cur.toList.take (t.length * 4) = cellsOf t := h
section
variable (w : World) {b m : Nat} {v : Value} {t : List Nd}
set_option maxRecDepth 100000 in
set_option maxHeartbeats 2000000 in
theorem cut_bad (h : Tb w b m v t) (n : Int) (hn : n < 0 ∨ t.length < n) :
    Calls Try.prog 63 #[.pointer (some ⟨b, 0, none⟩), .int .i64 n] w fun e w' => e = .returned (.int .i64 2) ∧ w' = w := by
  have KM := show Hid (∀ w', w' = w → Calls Try.prog 59 #[.pointer (some ⟨b, 0, none⟩)] w' fun e w'' => e = .returned (.bool true) ∧ w'' = w') from fun w' e => by subst e; exact made_tb _ h
  have c0 := h.c0
  obtain ⟨p, c, rfl⟩ := h.row.form
  clear h
  rcases hn with hn | hn
  · go_enter Try.func63, Try.ntmps63
    go_wp2_with fail
    refine (KM.out _ rfl).mono ?_
    rintro e w1 ⟨rfl, hw1⟩
    subst w1
    go_wp2_with fail
    go_ret
    exact ⟨rfl, rfl⟩
  · have hn0 : ¬ n < 0 := by omega
    go_enter Try.func63, Try.ntmps63
    go_wp2_with fail
    refine (KM.out _ rfl).mono ?_
    rintro e w1 ⟨rfl, hw1⟩
    subst w1
    go_wp2_with fail
    go_ret
    exact ⟨rfl, rfl⟩
set_option maxRecDepth 100000 in
set_option maxHeartbeats 2000000 in
theorem cut_some (h : Tb w b m v t) (j : Nat) (hj : j < t.length) :
    Calls Try.prog 63 #[.pointer (some ⟨b, 0, none⟩), .int .i64 (j : Int)] w fun e w' => e = .returned (.int .i64 0) ∧ After w b m v (t.take j) w' := by
  have KM := show Hid (∀ w', w' = w → Calls Try.prog 59 #[.pointer (some ⟨b, 0, none⟩)] w' fun e w'' => e = .returned (.bool true) ∧ w'' = w') from fun w' e => by subst e; exact made_tb _ h
  have c0 := h.c0
  have HT := show Hid (Tb w b m v t) from h
  obtain ⟨D0, hD0, hT0⟩ := h.map
  have HM0 := show Hid (∃ D, ownsM w m D ∧ TiedC D t j j) from ⟨D0, hD0, tiedC_start hT0 j⟩
  have hlen := h.ok.len
  rcases slice_cases h.row with ⟨rfl, rfl⟩ | ⟨g, cap, cur, rfl, hg, hnc, hcm, hcs, htake⟩
  · simp at hj
  have HG := show Hid (w.heap[g]? = some (.cells cur 59 (0, 0)) ∧ cap * 4 ≤ cur.size ∧ cur.toList.take (t.length * 4) = cellsOf t) from ⟨hg, hcs, htake⟩
  unfold maxLen at hcm
  have hjc : j < cap := by omega
  have hj0 : ¬ (j : Int) < 0 := by omega
  have hj1 : ¬ (t.length : Int) < (j : Int) := by omega
  have hj2 : (j : Int) ≤ (t.length : Int) := by omega
  have hjn : ¬ t.length < j := by omega
  clear h hD0 hT0 hg hcs htake
  go_enter Try.func63, Try.ntmps63
  go_wp2_with fail
  refine (KM.out _ rfl).mono ?_
  rintro e w1 ⟨rfl, hw1⟩
  subst w1
  go_wp2_with fail
  go_loopw [6, 28] (fun _ v wr => ∃ k : Nat, j + k ≤ t.length ∧ v = .int .i64 (k : Int) ∧ Hid (∃ D, ownsM wr m D ∧ TiedC D t j (j + k)) ∧ Hid (Kp (fun x => x = m) w wr)) (fun _ v _ => t.length - (intOf v).toNat)
  case atStart => exact ⟨0, by omega, rfl, HM0, Kp.refl _ _⟩
  case round =>
    obtain ⟨k, hk, rfl, HD, HK⟩ := hrel
    have HTB := show Hid (wr.heap[b]? = some (.cells #[.slice (some ⟨g, 0, none⟩) t.length cap, .map (some m)] 68 (0, 0))) from (HK.out.block b HT.out.blt (fun e => HT.out.bm e)).trans HT.out.tab
    have HTG := show Hid (wr.heap[g]? = some (.cells cur 59 (0, 0))) from (HK.out.block g (lt_of_block HG.out.1) (fun e => HT.out.vm (by rw [e]; rfl))).trans HG.out.1
    have c1 : wr.cell? ⟨b, 1, none⟩ = some (.map (some m)) := by rw [cell_of_row _ _ 1 _ _ _ HTB.out]; rfl
    have c00 : wr.cell? ⟨b, 0, none⟩ = some (.slice (some ⟨g, 0, none⟩) t.length cap) := by rw [cell_of_row _ _ 0 _ _ _ HTB.out]; rfl
    clear c0 HM0 KM
    by_cases hlt : j + k < t.length
    · have hr : Rw wr (.slice (some ⟨g, 0, none⟩) t.length cap) t := Or.inr ⟨g, cap, cur, rfl, HTG.out, hnc, by unfold maxLen; omega, HG.out.2.1, HG.out.2.2⟩
      obtain ⟨p', c', hv', -, -, hat⟩ := hr.isR
      obtain ⟨b', o', hbo, hat2⟩ := hat (by omega)
      obtain ⟨hp', -, -⟩ := Value.slice.inj hv'
      rw [← hp'] at hbo
      obtain ⟨rfl, rfl, -⟩ := Addr.mk.inj (Option.some.inj hbo)
      have hA := hat2 (j + k) hlt
      rw [show 0 + (j + k) * 4 = j * 4 + k * 4 by omega] at hA
      have HGD := show Hid (Fm.good t[j + k]) from HT.out.ok.gd _ (List.getElem_mem hlt)
      obtain ⟨D, hD, hTC⟩ := HD.out
      have HTC := show Hid (TiedC (D.del (kl t[j + k])) t j (j + k + 1)) from tiedC_step hTC HT.out.ok hlt (by omega)
      have HOW := show Hid (ownsM wr m D) from hD
      generalize t[j + k] = nd at *
      have hki : (k : Int) < ((t.length - j : Nat) : Int) := by omega
      have hkn : k < t.length - j := by omega
      obtain ⟨nk, ns, nl, nr⟩ := nd
      have a0 := hA.c0; have a1 := hA.c1; have a2 := hA.c2; have a3 := hA.c3
      simp only at a0 a1 a2 a3
      have c1a : ∀ o, (wr.alloc o).cell? ⟨b, 1, none⟩ = some (.map (some m)) := fun o => (World.cell?_of_block (w := wr) (Below.heap_alloc wr o _ (lt_of_block HTB.out))).trans c1
      have HOA := show Hid (∀ o, ownsM (wr.alloc o).drew m D) from fun o => (hD.alloc o).drew
      have hmlt : m < wr.heap.size := hD.lt
      clear hr hv' hat hat2 hA hD hTC hp' hbo HD
      go_wp2_with fail
      go_region_law (refine step_delete_nd rfl (.tmp 35) (.tmp 36) rfl m D (HOA.out _) ⟨nk, ns, nl, nr⟩ HGD.out rfl rfl ?_; intro w' hown hgr)
      all_goals
        have HOW2 := show Hid (∃ D, ownsM w' m D ∧ TiedC D t j (j + k + 1)) from ⟨_, hown, HTC.out⟩
        have HK2 := show Hid (Kp (fun x => x = m) w w') from HK.out.trans (S' := fun x => x = m) (b := wr) ⟨hgr.os, hgr.tape, hgr.output, by have := hgr.size; simp at this; omega, fun x hx hne => (hgr.block x (by simp; omega) (fun e => hne (Option.some.inj e))).trans (Below.heap_alloc wr _ _ hx)⟩ (fun i hi => Or.inl hi)
        clear hown hgr
        go_wp2_with fail
        go_roundw
        case rel => exact ⟨k + 1, by omega, by go_num, HOW2, HK2⟩
        case measure => first | (simp [intOf]; done) | (simp [intOf]; omega)
    · have hke : j + k = t.length := by omega
      have hkn : ¬ k < t.length - j := by omega
      have HD2 := show Hid (∃ D, ownsM wr m D ∧ TiedC D t j t.length) from by rw [← hke]; exact HD.out
      obtain ⟨q, hq⟩ : ∃ q, t.length - j = q + 1 := ⟨t.length - j - 1, by omega⟩
      have HQ := show Hid (t.length - j = q + 1) from hq
      have hcl : ∀ ty, ∃ w' cur', (Builtin.clear_ #[22] ty #[.slice (some ⟨g, j * 4, none⟩) (t.length - j) (cap - j)]).run Try.prog wr = .ok (.tuple #[]) w' ∧ w'.heap[g]? = some (.cells cur' 59 (0, 0)) ∧ cur'.size = cur.size ∧ cur'.toList.take (j * 4) = cur.toList.take (j * 4) ∧ wr.grownBy w' (some g) := fun ty => by
        rw [HQ.out]
        exact run_clear_rw wr ty g j q (cap - j) cur HTG.out (by have := HG.out.2.1; have := HQ.out; omega)
      obtain ⟨w2, cur2, hcl0, hg2, hsz2, htk2, hgr2⟩ := hcl 0
      have HG2 := show Hid (w2.heap[g]? = some (.cells cur2 59 (0, 0)) ∧ cur2.size = cur.size ∧ cur2.toList.take (j * 4) = cur.toList.take (j * 4) ∧ wr.grownBy w2 (some g)) from ⟨hg2, hsz2, htk2, hgr2⟩
      have hbg : b ≠ g := fun e => HT.out.vb (by rw [e]; rfl)
      have hmg : m ≠ g := fun e => HT.out.vm (by rw [e]; rfl)
      have HTB2 := show Hid (w2.heap[b]? = some (.cells #[.slice (some ⟨g, 0, none⟩) t.length cap, .map (some m)] 68 (0, 0))) from (hgr2.block b (lt_of_block HTB.out) (fun e => hbg (Option.some.inj e))).trans HTB.out
      have HBG := show Hid (b ≠ g ∧ m ≠ g) from ⟨hbg, hmg⟩
      have e0 : w2.cell? ⟨b, 0, none⟩ = some (.slice (some ⟨g, 0, none⟩) t.length cap) := by rw [cell_of_row _ _ 0 _ _ _ HTB2.out]; rfl
      have ef : ∀ j, w2.frozen? ⟨b, j, none⟩ = false := fun j => frozen_of_row _ b j _ _ HTB2.out
      have hjl : j ≤ t.length := by omega
      have hjcap : (j : Int) ≤ (cap : Int) := by omega
      have htc : (t.length : Int) ≤ (cap : Int) := by omega
      clear hke hq hg2 hsz2 htk2 hgr2 hcl hbg hmg
      go_wp2_with (simp only [hcl0])
      go_ret
      refine ⟨rfl, .slice (some ⟨g, 0, none⟩) j cap, ⟨heap_setCell_same _ b 0 _ _ _ HTB2.out, ?_, ?_, Fm.ok_take HT.out.ok j⟩, fun k hk => Or.inl hk, ?_⟩
      · have hlj : (t.take j).length = j := by rw [List.length_take]; omega
        refine Or.inr ⟨g, cap, cur2, by rw [hlj], (Below.heap_setCell _ _ _ _ (fun e => HBG.out.1 e.symm)).trans HG2.out.1, by rw [hlj]; omega, by unfold maxLen; omega, by have := HG.out.2.1; have := HG2.out.2.1; omega, ?_⟩
        rw [hlj, HG2.out.2.2.1, ← cellsOf_take t j hjl, ← HG.out.2.2, List.take_take, Nat.min_eq_left (by omega)]
      · obtain ⟨D, hD, hTC⟩ := HD2.out
        refine ⟨D, ?_, tiedC_end hTC hjl⟩
        obtain ⟨es, cl, hb, r⟩ := hD
        refine ⟨es, cl, ?_, r⟩
        rw [Below.heap_setCell _ _ _ _ (fun e => HT.out.bm e.symm)]
        exact (HG2.out.2.2.2.block m (lt_of_block hb) (fun e => HBG.out.2 (Option.some.inj e))).trans hb
      · have h1 := HK.out
        have h2 := HG2.out.2.2.2
        refine ⟨h2.os.trans h1.os, h2.tape.trans h1.tape, h2.output.trans h1.output, Nat.le_trans h1.size (Nat.le_trans h2.size (by simp [World.setCell])), fun k hk hn => ?_⟩
        have hk2 : k < wr.heap.size := Nat.lt_of_lt_of_le hk h1.size
        rw [Below.heap_setCell _ _ _ _ (fun e => hn (Or.inl e))]
        exact (h2.block k hk2 (fun e => hn (Or.inr (Or.inr e.symm)))).trans (h1.block k hk (fun e => hn (Or.inr (Or.inl e))))
set_option maxRecDepth 100000 in
set_option maxHeartbeats 2000000 in
theorem cut_none (h : Tb w b m v t) :
    Calls Try.prog 63 #[.pointer (some ⟨b, 0, none⟩), .int .i64 (t.length : Int)] w fun e w' => e = .returned (.int .i64 0) ∧ After w b m v t w' := by
  have KM := show Hid (∀ w', w' = w → Calls Try.prog 59 #[.pointer (some ⟨b, 0, none⟩)] w' fun e w'' => e = .returned (.bool true) ∧ w'' = w') from fun w' e => by subst e; exact made_tb _ h
  have c0 := h.c0
  have hf := h.fr
  have HT := show Hid (Tb w b m v t) from h
  have hlen := h.ok.len
  have HCL := show Hid (∀ (ty : TypeId) (a : Option Addr) (c : Nat) (w : World), (Builtin.clear_ #[22] ty #[.slice a 0 c]).run Try.prog w = .ok (.tuple #[]) w) from fun ty a c w => by
    cases a <;> simp [Builtin.clear_, run_underlying Try.underlying22]
  have HSC := show Hid (After w b m v t (w.setCell ⟨b, 0, none⟩ v)) from by
    refine ⟨v, ⟨heap_setCell_same _ b 0 _ _ _ h.tab, h.row.keep fun k hk => Below.heap_setCell _ _ _ _ (fun e => h.vb (hk.trans (congrArg some e))), ?_, h.ok⟩, Lies.refl _ _, ⟨rfl, rfl, rfl, by simp [World.setCell], fun k hk hn => Below.heap_setCell _ _ _ _ (fun e => hn (Or.inl e))⟩⟩
    obtain ⟨D, ⟨es, cl, hb, r⟩, hT⟩ := h.map
    exact ⟨D, ⟨es, cl, (Below.heap_setCell _ _ _ _ (fun e => h.bm e.symm)).trans hb, r⟩, hT⟩
  rcases slice_cases h.row with ⟨rfl, rfl⟩ | ⟨g, cap, cur, rfl, -, hnc, hcm, -, -⟩
  · have hcl := fun ty w => HCL.out ty none 0 w
    clear h
    go_enter Try.func63, Try.ntmps63
    go_wp2_with fail
    refine (KM.out _ rfl).mono ?_
    rintro e w1 ⟨rfl, hw1⟩
    subst w1
    go_wp2_with fail
    go_loopw [6, 28] (fun _ v wr => v = .int .i64 0 ∧ wr = w) (fun _ _ _ => 0)
    case atStart => exact ⟨rfl, rfl⟩
    case round =>
      obtain ⟨rfl, rfl⟩ := hrel
      go_wp2_with (simp only [hcl])
      go_ret
      exact ⟨rfl, HSC.out⟩
  · have hcl := fun ty a c w => HCL.out ty a c w
    unfold maxLen at hcm
    have hj0 : ¬ (t.length : Int) < 0 := by omega
    have htc : (t.length : Int) ≤ (cap : Int) := by omega
    clear h
    by_cases hcc : t.length < cap
    · have hci : (t.length : Int) < (cap : Int) := by omega
      go_enter Try.func63, Try.ntmps63
      go_wp2_with fail
      refine (KM.out _ rfl).mono ?_
      rintro e w1 ⟨rfl, hw1⟩
      subst w1
      go_wp2_with fail
      go_loopw [6, 28] (fun _ v wr => v = .int .i64 0 ∧ wr = w) (fun _ _ _ => 0)
      case atStart => exact ⟨rfl, rfl⟩
      case round =>
        obtain ⟨rfl, rfl⟩ := hrel
        go_wp2_with (simp only [hcl])
        go_ret
        exact ⟨rfl, HSC.out⟩
    · obtain rfl : cap = t.length := by omega
      go_enter Try.func63, Try.ntmps63
      go_wp2_with fail
      refine (KM.out _ rfl).mono ?_
      rintro e w1 ⟨rfl, hw1⟩
      subst w1
      go_wp2_with fail
      go_loopw [6, 28] (fun _ v wr => v = .int .i64 0 ∧ wr = w) (fun _ _ _ => 0)
      case atStart => exact ⟨rfl, rfl⟩
      case round =>
        obtain ⟨rfl, rfl⟩ := hrel
        go_wp2_with (simp only [hcl])
        go_ret
        exact ⟨rfl, HSC.out⟩
theorem cut_any (h : Tb w b m v t) (n : Int) :
    Calls Try.prog 63 #[.pointer (some ⟨b, 0, none⟩), .int .i64 n] w fun e w' => e = .returned (.int .i64 (cutR t n).1) ∧ After w b m v (cutR t n).2 w' := by
  unfold cutR
  by_cases hn : 0 ≤ n ∧ n ≤ t.length
  · rw [if_pos hn]
    obtain ⟨j, rfl⟩ : ∃ j : Nat, n = j := ⟨n.toNat, by omega⟩
    by_cases hj : j < t.length
    · exact cut_some w h j hj
    · obtain rfl : j = t.length := by omega
      simp only [Int.toNat_natCast, List.take_length]
      exact cut_none w h
  · rw [if_neg hn]
    refine (cut_bad w h n (by omega)).mono ?_
    rintro e w' ⟨rfl, rfl⟩
    exact ⟨rfl, After.of_below h (Below.refl _ _)⟩
end
end Go.Proofs.Ythfedlodikbdgaa
