/-
  The call Weights. For every table that calls made, every row of numbers that a machine can hold.
-/
import Derived.Test.YthdcppkohalkmaaGreatMLess
import Derived.Test.YthdcppkohalkmaaGreatMBack
import Derived.Test.YthdcppkohalkmaaGreatMName
import Derived.Test.YthdcppkohalkmaaGreatMCopy
namespace Go.Proofs.YthdcppkohalkmaaGreat
open Go.RowKit Go.Maps Go.Sort Go.Lib
open Fm (Nd)

section
variable {b m : Nat} {v : Value} {t : List Nd}
set_option maxHeartbeats 1000000 in
theorem weightsM_out (w : World) (hT : Tb w b m v t) (iv : Value) (ids : List Int) (hv : IsL w iv ids) (hi : ids.all (Fm.has t) = false) :
    Calls Tryz.prog 27 #[.pointer (some ⟨b, 0, none⟩), iv] w fun e w' => e = .returned (.tuple #[.slice none 0 0, .int .i64 31]) ∧ Below w.heap.size w w' := by
  have KR := show Hid (Calls Tryz.prog 47 #[.pointer (some ⟨b, 0, none⟩), iv] w fun e w' => e = .returned (.int .i64 31) ∧ Below w.heap.size w w') from by
    have := refused_any w hT iv ids hv
    unfold refs at this
    rw [hi] at this
    exact this
  obtain ⟨p, c, rfl, _, _⟩ := hv
  clear hT
  go_enter Tryz.func27, Tryz.ntmps27
  go_wp2_with fail
  refine KR.out.mono ?_
  rintro e w1 ⟨rfl, hb1⟩
  have HB1 := show Hid (Below w.heap.size w w1) from hb1
  clear hb1 KR
  go_wp2_with fail
  go_ret2
  exact ⟨rfl, HB1.out⟩
theorem Bx.kb {w w' : World} {H b n : Nat} {z : Int} {g : Nat} (h : Bx w H b z g) (k : KB n (H + 3) w w') (hn : H + 5 < n) : Bx w' H b z g :=
  ⟨k.cell h.c0 (by omega), k.cell h.c1 (by omega), k.cell h.c2 (by omega), k.cell h.c4 (by omega), k.cell h.c5 (by omega)⟩
/-- The weights of some formulas, as they come. -/
def wts (t : List Nd) (ids : List Int) : List Int := ids.map fun i => Ms.weightV t i.toNat
set_option maxRecDepth 100000 in
set_option maxHeartbeats 4000000 in
theorem weightsM_in (w : World) (hT : Tb w b m v t) (iv : Value) (ids : List Int) (hv : IsL w iv ids) (hi : ids.all (Fm.has t) = true) (hl : ids.length * 8 ≤ 140737488355328) :
    Calls Tryz.prog 27 #[.pointer (some ⟨b, 0, none⟩), iv] w fun e w' => ∃ p c, e = .returned (.tuple #[.slice p (Ms.fall (wts t ids)).length c, .int .i64 0]) ∧ IsL w' (.slice p (Ms.fall (wts t ids)).length c) (Ms.fall (wts t ids)) ∧ Below w.heap.size w w' := by
  have hok := hT.ok
  have hlen := hok.len
  obtain ⟨i0, hi', hz0, hz1, hz2⟩ := info_parts info_int
  have KR := show Hid (Calls Tryz.prog 47 #[.pointer (some ⟨b, 0, none⟩), iv] w fun e w' => e = .returned (.int .i64 0) ∧ Below w.heap.size w w') from by
    have := refused_any w hT iv ids hv
    unfold refs at this
    rw [hi] at this
    exact this
  have KC := show Hid (Counts 39 1 66) from weights_any
  have HT := show Hid (∀ w', Below w.heap.size w w' → Tb w' b m v t) from fun w' h => hT.later h
  have HFT := show Hid (∀ k, Ft b m v k → k < w.heap.size) from fun k hk => hT.foot k hk
  have HAS := show Hid (∀ k (hk : k < ids.length), ∃ j : Nat, ids[k] = j ∧ j < t.length) from fun k hk => by
    have h := List.all_eq_true.1 hi _ (List.getElem_mem hk)
    obtain ⟨h0, h1⟩ := Fm.has_iff.1 h
    exact ⟨ids[k].toNat, by omega, by omega⟩
  have KA := show Hid (∀ (H : Nat), (∀ k, Ft b m v k → k < H) → ∀ j : Nat, j < t.length → ∀ w, Tb w b m v t → Bx w H b 1 66 → Memo w H t.length (Ms.weightV t) → Calls Tryz.prog 85 (askA H (j : Int)) w (Asked w H t.length (Ms.weightV t) j)) from fun H hF j hj w hT hB hM => ask_any hT.ok joins_weight (fun _ _ => Tryz.call66 _ _) rfl (fun j hj => by have h := (Ms.weight_ref hok hj).2; exact ⟨by show (0 : Int) ≤ Ms.weightV t j; omega, h.2⟩) hF j hj w hT hB hM
  unfold askA at KA
  have HWT := show Hid (∀ k (hk : k < ids.length) (j : Nat), ids[k] = j → wts t (ids.take (k + 1)) = wts t (ids.take k) ++ [Ms.weightV t j]) from fun k hk j hj => by
    show wts t _ = _
    unfold wts
    rw [List.take_succ_eq_append_getElem hk, List.map_append]
    simp [hj]
  have HWL := show Hid (∀ k, k ≤ ids.length → (wts t (ids.take k)).length = k) from fun k hk => by show List.length _ = k; unfold wts; simp; omega
  have HWE := show Hid (wts t (ids.take ids.length) = wts t ids) from by show wts t _ = _; rw [List.take_length]
  obtain ⟨p, c, rfl, hlb, hcell⟩ := hv
  have HC := show Hid (∀ w', Below w.heap.size w w' → ∀ k (hk : k < ids.length), ∃ g o, p = some ⟨g, o, none⟩ ∧ w'.cell? ⟨g, o + k, none⟩ = some (.int .i64 ids[k])) from fun w' hb k hk => by
    obtain ⟨g, o, hp, hc⟩ := hcell k hk
    exact ⟨g, o, hp, (Kp.of_below (S := fun _ => False) hb).cell hc (fun h => h)⟩
  clear hT hi hcell hok
  go_enter Tryz.func27, Tryz.ntmps27
  go_wp2_with fail
  refine KR.out.mono ?_
  rintro e w1 ⟨rfl, hb1⟩
  have HB1 := show Hid (Below w.heap.size w w1) from hb1
  clear hb1 KR
  go_wp2_with fail
  refine (KC.out _ _).mono ?_
  rintro e w2 ⟨rfl, hB2, hM2, hb2⟩
  have hH5 := World.block_lt_of_cell? w2 _ hB2.c5
  simp only at hH5
  have HS2 := show Hid (Bx w2 w1.heap.size b 1 66 ∧ Memo w2 w1.heap.size t.length (Ms.weightV t) ∧ Below w.heap.size w w2) from ⟨hB2, hM2 _ _, HB1.out.trans (hb2.mono HB1.out.size)⟩
  have hs1 := HB1.out.size
  have HKA := show Hid (∀ j : Nat, j < t.length → ∀ w', Tb w' b m v t → Bx w' w1.heap.size b 1 66 → Memo w' w1.heap.size t.length (Ms.weightV t) → Calls Tryz.prog 85 #[.int .i64 (j : Int), .pointer (some ⟨w1.heap.size + 4, 0, none⟩), .pointer (some ⟨w1.heap.size + 1, 0, none⟩), .pointer (some ⟨w1.heap.size, 0, none⟩), .pointer (some ⟨w1.heap.size + 2, 0, none⟩), .pointer (some ⟨w1.heap.size + 5, 0, none⟩)] w' (Asked w' w1.heap.size t.length (Ms.weightV t) j)) from KA.out w1.heap.size (fun k hk => by have := HFT.out k hk; omega)
  clear hB2 hM2 hb2 KC KA
  unfold askV askC
  generalize w1.heap.size = H at *
  go_wp2_with (at_make; refine wpList_make_own _ rfl _ (.tmp 20) 33 rfl w2.heap.size 3 i0 (.int .i64 0) 1 Tryz.underlying33 hi' hz0 hz1 .i64 .i64 _ ids.length rfl rfl rfl (by rw [hz2]; omega) (by unfold maxLen; omega) (Nat.le_refl _) ?_; intro w3 ho3 hg3)
  have hs3 := hg3.size
  have H3 := show Hid (KB w2.heap.size (H + 3) w2 w3 ∧ Memo w3 H t.length (Ms.weightV t)) from ⟨⟨hg3.os, hg3.tape, hg3.output, hg3.size, fun k hk _ => hg3.block k hk (fun e => by cases e)⟩, HS2.out.2.1.same (hg3.block (H + 3) (by omega) (fun e => by cases e))⟩
  have HO3 := show Hid (w3.ownsRow w2.heap.size 3 1 (.slice (some ⟨w2.heap.size, 0, none⟩) 0 ids.length) 0 []) from ho3
  clear ho3 hg3
  have hH0 : w.heap.size ≤ H := by omega
  go_loopw [8, 24] (fun sv iv wr => ∃ (k : Nat) (q : Option Addr) (cq : Nat), k ≤ ids.length ∧ iv = .int .i64 (k : Int) ∧ sv = .slice q k cq ∧ Hid (wr.ownsRow w2.heap.size 3 1 (.slice q k cq) k ((wts t (ids.take k)).map (Value.int .i64)) ∧ KB w2.heap.size (H + 3) w2 wr ∧ Memo wr H t.length (Ms.weightV t))) (fun _ iv _ => ids.length - (intOf iv).toNat)
  case atStart => exact ⟨0, _, _, by omega, rfl, rfl, HO3.out, H3.out⟩
  case round =>
    obtain ⟨k, q, cq, hk, rfl, rfl, HI⟩ := hrel
    clear HO3 H3
    have HBW := show Hid (Below w.heap.size w wr) from HS2.out.2.2.trans (HI.out.2.1.below (by have := HS2.out.2.2.size; omega) (fun k hk => by have := HS2.out.2.2.size; omega))
    by_cases hlt : k < ids.length
    · obtain ⟨g, o, rfl, hc⟩ := HC.out wr HBW.out k hlt
      obtain ⟨j, hj, hjt⟩ := HAS.out k hlt
      have hst := HWT.out k hlt j hj
      have HST := show Hid (wts t (ids.take (k + 1)) = wts t (ids.take k) ++ [Ms.weightV t j]) from hst
      rw [hj] at hc
      have hki : (k : Int) < (ids.length : Int) := by omega
      have KJ := show Hid (Calls Tryz.prog 85 #[.int .i64 (j : Int), .pointer (some ⟨H + 4, 0, none⟩), .pointer (some ⟨H + 1, 0, none⟩), .pointer (some ⟨H, 0, none⟩), .pointer (some ⟨H + 2, 0, none⟩), .pointer (some ⟨H + 5, 0, none⟩)] wr (Asked wr H t.length (Ms.weightV t) j)) from HKA.out j hjt wr (HT.out wr HBW.out) (HS2.out.1.kb HI.out.2.1 hH5) HI.out.2.2
      clear HC HAS HWT hst HWE
      go_wp2_with fail
      refine KJ.out.mono ?_
      rintro e w4 ⟨rfl, hM4, hK4⟩
      have H4 := show Hid (w4.ownsRow w2.heap.size 3 1 (.slice q k cq) k ((wts t (ids.take k)).map (Value.int .i64)) ∧ KB w2.heap.size (H + 3) w2 w4 ∧ Memo w4 H t.length (Ms.weightV t)) from by
        refine ⟨?_, HI.out.2.1.then (hK4.mono fun k h => Or.inl h), hM4⟩
        refine ⟨HI.out.1.1, ?_⟩
        rcases HI.out.1.2 with h2 | ⟨g2, cap, cur, hv2, hg2, hh, r⟩
        · exact Or.inl h2
        · exact Or.inr ⟨g2, cap, cur, hv2, hg2, (hK4.block g2 (lt_of_block hh) (by unfold At3; omega)).trans hh, r⟩
      have hs4 : w2.heap.size ≤ w4.heap.size := H4.out.2.1.size
      clear KJ hM4 hK4 HI
      go_wp2_with (at_builtin; refine wpList_append_own_at _ rfl (.tmp 28) (.tmp 32) 33 rfl w2.heap.size 3 i0 _ 1 8 Tryz.underlying33 hi' hz0 hz1 hz2 rfl (by decide) (.slice q k cq) k ((wts t (ids.take k)).map (Value.int .i64)) rfl (H4.out.1.alloc _) ⟨w4.heap.size, 0, none⟩ 1 1 [.int .i64 (Ms.weightV t j)] rfl rfl (cell_one_new _ _ _) (ints_oneCell .i64 [Ms.weightV t j]) (by unfold maxLen; omega) (by omega) (by simp; omega) ?_)
      intro v' w5 hown hgr _ _
      obtain ⟨q', c', hv'⟩ := own_sliceI hown
      subst hv'
      have HN := show Hid (w5.ownsRow w2.heap.size 3 1 (.slice q' (k + 1) c') (k + 1) ((wts t (ids.take (k + 1))).map (Value.int .i64)) ∧ KB w2.heap.size (H + 3) w2 w5 ∧ Memo w5 H t.length (Ms.weightV t)) from by
        have hne : ∀ i, i < (w4.alloc (Obj.cells #[.int .i64 (Ms.weightV t j)] 3)).heap.size → ¬ w2.heap.size ≤ i → w5.heap[i]? = (w4.alloc (Obj.cells #[.int .i64 (Ms.weightV t j)] 3)).heap[i]? := fun i hi hn => hgr.block i hi fun e => hn (H4.out.1.lt i e.symm).1
        refine ⟨by rw [HST.out, List.map_append]; exact hown, (H4.out.2.1.alloc _).then ⟨hgr.os, hgr.tape, hgr.output, hgr.size, fun i hi hn => hne i hi fun h => hn (Or.inr h)⟩, ?_⟩
        exact (H4.out.2.2.later (below_alloc _ _)).same (hne (H + 3) (by simp; omega) (by omega))
      clear hown hgr H4
      go_wp2_with fail
      go_roundw
      case rel => exact ⟨k + 1, q', c', by omega, by go_num, rfl, HN⟩
      case measure => first | (simp [intOf]; done) | (simp [intOf]; omega)
    · have hke : k = ids.length := by omega
      subst hke
      have hwl := HWL.out ids.length (Nat.le_refl _)
      rw [HWE.out] at HI hwl
      have KF := show Hid (Calls Tryz.prog 55 #[.slice q ids.length cq] wr (Rows1 wr (Ms.fall (wts t ids)))) from falling_any wr _ (wts t ids) (isL_own HI.out.1 (by omega)) (by rw [hwl]; exact hl)
      clear HC HAS HWT HWL HWE HKA HI
      go_wp2_with fail
      refine KF.out.mono ?_
      rintro e w5 ⟨p5, c5, rfl, hI5, hb5⟩
      have HE := show Hid (IsL w5 (.slice p5 (Ms.fall (wts t ids)).length c5) (Ms.fall (wts t ids)) ∧ Below w.heap.size w w5) from ⟨hI5, HBW.out.trans (hb5.mono HBW.out.size)⟩
      clear hI5 hb5 KF
      go_wp2_with fail
      go_ret2
      exact ⟨p5, c5, rfl, HE.out⟩
end
end Go.Proofs.YthdcppkohalkmaaGreat
