/-
  Text: for every set. The tables that TrailingZeros64 and strconv read stand.
-/
import Derived.Test.YthkolkmcnpafiaaDoorBBuild
import Derived.Test.YthkolkmcnpafiaaDoorBNext
import Derived.Test.YthkolkmcnpafiaaDoorBRuns
namespace Go.Proofs.YthkolkmcnpafiaaDoor
open Go.RowKit Go.Sort
open Bs (Ok wd)

def Pows (w : World) : Prop := Lib.TabIs Tryd.prog w "internal/strconv.uint64pow10" .u64 Lib.pow10Tab
theorem pow_global : Tryd.prog.globalNamed "internal/strconv.uint64pow10" = some 2 := by kernel_rfl
theorem Pows.later {w w' : World} (h : Pows w) (hb : Below w.heap.size w w') : Pows w' := by
  have h' := h
  unfold Pows Lib.TabIs World.var? at h' ⊢
  simp only [pow_global, Option.bind_some] at h' ⊢
  have hlt : 2 < w.heap.size := by
    rcases Nat.lt_or_ge 2 w.heap.size with hh | hh
    · exact hh
    · simp [Array.getElem?_eq_none hh] at h'
  rw [hb.block _ hlt]
  exact h'
/-- The tables stand. -/
def Tabs (w : World) : Prop := Tz w ∧ Pows w
theorem Tabs.later {w w' : World} (h : Tabs w) (hb : Below w.heap.size w w') : Tabs w' := ⟨tz_block h.1 hb, h.2.later hb⟩
theorem Tabs.at {n : Nat} {w w' : World} (h : Tabs w) (hn : w.heap.size ≤ n) (hb : Below n w w') : Tabs w' := h.later (hb.mono hn)
theorem below_grow (w : World) (q : Nat) (os : Array Obj) : Below w.heap.size w (grow (w.drewN q) os) :=
  ⟨rfl, rfl, rfl, by simp [grow], fun k hk => by simp [grow, Array.getElem?_append, hk]⟩
theorem dec_any (w : World) (n : Nat) (h1 : n < 1024) (hP : Tabs w) : Calls Tryd.prog 56 #[.int .i64 (n : Int)] w fun e w' => e = .returned (.string ⟨(Bs.dec n).toArray⟩) ∧ Below w.heap.size w w' := by
  have C := show Hid (Calls Tryd.prog 60 #[.int .i64 (n : Int)] w fun e w' => e = .returned (.string ⟨(Bs.dec n).toArray⟩) ∧ ∃ k os, w' = grow (w.drewN k) os) from by
    have := Tryd.strconv_Itoa (n : Int) (by omega) (by omega) w hP.2
    rwa [show Lib.itoa (n : Int) = Bs.dec n by rw [Lib.itoa, if_neg (by omega)]; rfl] at this
  clear h1 hP
  go_enter Tryd.func56, Tryd.ntmps56
  go_wp2_with fail
  refine C.out.mono ?_
  rintro e w1 ⟨rfl, k, os, hw⟩
  have hb : Below w.heap.size w w1 := by rw [hw]; exact below_grow w k os
  clear hw
  go_wp2
  go_ret
  exact ⟨rfl, hb⟩
theorem cat_str (a b : List UInt8) : ((⟨a.toArray⟩ : ByteArray) ++ ⟨b.toArray⟩) = ⟨(a ++ b).toArray⟩ := by simp [ByteArray.ext_iff, ByteArray.data_append]
theorem ret_string {a b : ByteArray} (h : a = b) : Ending.returned (.string a) = Ending.returned (.string b) := by rw [h]
set_option maxRecDepth 100000 in
theorem runText_any (w : World) (f l : Nat) (hf : f < 1024) (hl : l < 1024) (hP : Tabs w) : Calls Tryd.prog 48 #[.int .i64 (f : Int), .int .i64 (l : Int)] w fun e w' => e = .returned (.string ⟨(Bs.runT (f, l)).toArray⟩) ∧ Below w.heap.size w w' := by
  have K1 := show Hid (Calls Tryd.prog 56 #[.int .i64 (f : Int)] w fun e w' => e = .returned (.string ⟨(Bs.dec f).toArray⟩) ∧ Below w.heap.size w w') from dec_any w f hf hP
  have K2 := show Hid (∀ w', Below w.heap.size w w' → Calls Tryd.prog 56 #[.int .i64 (l : Int)] w' fun e w'' => e = .returned (.string ⟨(Bs.dec l).toArray⟩) ∧ Below w'.heap.size w' w'') from fun w' hb => dec_any w' l hl (hP.later hb)
  by_cases h : f = l
  · subst h
    have HT := show Hid (Bs.runT (f, f) = Bs.dec f) from by simp [Hid, Bs.runT]
    clear hf hl hP K2
    generalize Bs.dec f = d at *
    go_enter Tryd.func48, Tryd.ntmps48
    go_wp2_with fail
    refine K1.out.mono ?_
    rintro e w1 ⟨rfl, hb⟩
    have HB := show Hid (Below w.heap.size w w1) from hb
    clear hb
    go_wp2
    go_ret
    exact ⟨ret_string (by rw [HT.out]), HB.out⟩
  · have HT := show Hid (Bs.runT (f, l) = Bs.dec f ++ [45] ++ Bs.dec l) from by
      show Bs.runT (f, l) = _
      unfold Bs.runT
      rw [if_neg h]
    have hne : ((f : Int) == (l : Int)) = false := by rw [beq_eq_false_iff_ne]; omega
    have h1 := Bs.dec_len4 (show f < 10000 by omega)
    have h2 := Bs.dec_len4 (show l < 10000 by omega)
    clear hf hl hP h
    generalize Bs.dec f = d at *
    generalize Bs.dec l = d2 at *
    go_enter Tryd.func48, Tryd.ntmps48
    go_wp2_with (first | (go_at_call 56; refine K1.out.mono ?_; clear K1; rintro e w1 ⟨rfl, hb⟩; have HB := show Hid (Below w.heap.size w w1) from hb; clear hb) | (go_at_call 56; refine (K2.out _ HB.out).mono ?_; rintro e w2 ⟨rfl, hb⟩; have HB2 := show Hid (Below w.heap.size w w2) from HB.out.trans (hb.mono HB.out.size); clear hb))
    go_ret
    exact ⟨ret_string (by rw [HT.out, ← cat_str, ← cat_str]), HB2.out⟩
set_option maxRecDepth 100000 in
set_option maxHeartbeats 2000000 in
theorem runEnd_any (w : World) {r : List Nat} (hr : Ok r) (f : Nat) (hf : f < 1024) : Calls Tryd.prog 44 #[.agg (cellsB r), .int .i64 (f : Int)] w fun e w' => e = .returned (.int .i64 ((Bs.ende r f : Nat) : Int)) ∧ Below w.heap.size w w' := by
  have KH := show Hid (∀ (k : Nat) w, Calls Tryd.prog 12 #[.agg (cellsB r), .int .i64 ((k : Int) + 1)] w fun e w' => e = .returned (.bool (Bs.has r (k + 1))) ∧ Below w.heap.size w w') from fun k w => by
    have := has_any w hr (((k + 1 : Nat)) : Int)
    have e : Bs.hasI r (((k + 1 : Nat)) : Int) = Bs.has r (k + 1) := by
      by_cases h : k + 1 < 1024
      · exact hasI_nat r h
      · rw [hasI_out r (by omega), Bs.has_hi hr (by omega)]
    rw [e] at this
    exact this
  have HR := show Hid (r.length = 16) from hr.1
  have HE := show Hid (∀ m, f ≤ m → Bs.has r (m + 1) = false → (∀ k, f ≤ k → k < m → Bs.has r (k + 1) = true) → Bs.ende r f = m) from fun m h1 h3 h4 => Bs.ende_eq hr hf h1 h3 h4
  have HX := show Hid (∀ k, 1024 ≤ k + 1 → Bs.has r (k + 1) = false) from fun k h => Bs.has_hi hr h
  have HT := show Hid (RowAt (w.alloc (.cells (cellsB r) 25)) w.heap.size r) from heap_alloc_last w _
  generalize Bs.ende r f = E at *
  clear hr
  go_enter Tryd.func44, Tryd.ntmps44
  go_wp2
  go_loopw [1] (fun n wr => ∃ k : Nat, k < 1024 ∧ n = .int .i64 (k : Int) ∧ Hid (f ≤ k ∧ RowAt wr w.heap.size r ∧ Below w.heap.size w wr ∧ ∀ i, f ≤ i → i < k → Bs.has r (i + 1) = true)) (fun n _ => 1024 - (intOf n).toNat)
  case atStart => exact ⟨f, hf, rfl, Nat.le_refl _, HT.out, below_alloc w _, fun i h1 h2 => by omega⟩
  case round =>
    obtain ⟨k, hk, rfl, HQ⟩ := hrel
    have KH2 := show Hid (∀ w, Calls Tryd.prog 12 #[.agg (cellsB r), .int .i64 ((k : Int) + 1)] w fun e w' => e = .returned (.bool (Bs.has r (k + 1))) ∧ Below w.heap.size w w') from fun w => KH.out k w
    clear KH HT hf
    cases hh : Bs.has r (k + 1)
    · have HH := show Hid (E = k) from HE.out k HQ.out.1 hh HQ.out.2.2.2
      rw [hh] at KH2
      clear hh HE HX
      go_wp2_with (first | (refine wpList_load16 _ rfl _ rfl _ rfl (r := r) HQ.out.2.1 HR.out ?_) | (go_at_call 12; refine (KH2.out _).mono ?_; rintro e w' ⟨rfl, hb⟩; have HB := show Hid (Below w.heap.size w w') from HQ.out.2.2.1.trans (hb.mono HQ.out.2.2.1.size); clear hb))
      go_ret
      exact ⟨ret_int (by rw [HH.out]), HB.out⟩
    · have hk2 : k + 1 < 1024 := by
        apply Nat.lt_of_not_le
        intro h
        rw [HX.out k h] at hh
        cases hh
      have HH := show Hid (Bs.has r (k + 1) = true) from hh
      rw [hh] at KH2
      clear hh HE HX
      go_wp2_with (first | (refine wpList_load16 _ rfl _ rfl _ rfl (r := r) HQ.out.2.1 HR.out ?_) | (go_at_call 12; refine (KH2.out _).mono ?_; rintro e w' ⟨rfl, hb⟩; have HB := show Hid (RowAt w' w.heap.size r ∧ Below w.heap.size w w') from ⟨HQ.out.2.1.keep hb HQ.out.2.1.lt, HQ.out.2.2.1.trans (hb.mono HQ.out.2.2.1.size)⟩; clear hb))
      go_roundw
      case rel =>
        refine ⟨k + 1, hk2, val_int (by omega), by have := HQ.out.1; omega, HB.out.1, HB.out.2, fun i h1 h2 => ?_⟩
        by_cases e : i = k
        · rw [e]; exact HH.out
        · exact HQ.out.2.2.2 i h1 (by omega)
      case measure => (simp only [intOf]; omega)
end Go.Proofs.YthkolkmcnpafiaaDoor
