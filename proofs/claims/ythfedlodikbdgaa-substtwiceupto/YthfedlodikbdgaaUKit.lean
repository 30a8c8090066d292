/-
  Rows of numbers, of names and formulas, and maps of images in memory; the calls refused and joins. For every table that calls made.
-/
import Derived.Test.YthfedlodikbdgaaFBelow
import Derived.Test.YthfedlodikbdgaaFCutC
import Derived.Test.YthfedlodikbdgaaMKit
import Derived.Test.YthfedlodikbdgaaUPure
namespace Go.Proofs.Ythfedlodikbdgaa
open Go.RowKit Go.Maps
open Fm (Nd)

/-- A slice that holds these numbers, wherever it lies. -/
def IsL (w : World) (v : Value) (l : List Int) : Prop :=
  ∃ p c, v = .slice p l.length c ∧ l.length ≤ 9223372036854775807 ∧ ∀ k (hk : k < l.length), ∃ b o, p = some ⟨b, o, none⟩ ∧ w.cell? ⟨b, o + k, none⟩ = some (.int .i64 l[k])
theorem IsL.later {w w' : World} {v : Value} {l : List Int} (h : IsL w v l) (hb : Below w.heap.size w w') : IsL w' v l := by
  obtain ⟨p, c, hv, h1, h2⟩ := h
  refine ⟨p, c, hv, h1, fun k hk => ?_⟩
  obtain ⟨b, o, hp, hc⟩ := h2 k hk
  exact ⟨b, o, hp, (hb.cell (p := ⟨b, _, none⟩) (World.block_lt_of_cell? w _ hc)).trans hc⟩
theorem isL1 (w : World) (x : Int) : IsL (w.alloc (Obj.cells #[.int .i64 x] 3)) (.slice (some ⟨w.heap.size, 0, none⟩) 1 1) [x] := by
  refine ⟨_, _, rfl, by simp, fun k hk => ⟨_, _, rfl, ?_⟩⟩
  rw [cell_of_row _ _ _ _ _ _ (heap_alloc_new _ _)]
  have : k = 0 := by simp at hk; omega
  subst this; rfl
theorem isL2 (w : World) (x y : Int) : IsL (w.alloc (Obj.cells #[.int .i64 x, .int .i64 y] 3)) (.slice (some ⟨w.heap.size, 0, none⟩) 2 2) [x, y] := by
  refine ⟨_, _, rfl, by simp, fun k hk => ⟨_, _, rfl, ?_⟩⟩
  rw [cell_of_row _ _ _ _ _ _ (heap_alloc_new _ _)]
  have : k = 0 ∨ k = 1 := by simp at hk; omega
  rcases this with rfl | rfl <;> rfl
theorem isL3 (w : World) (x y z : Int) : IsL (w.alloc (Obj.cells #[.int .i64 x, .int .i64 y, .int .i64 z] 3)) (.slice (some ⟨w.heap.size, 0, none⟩) 3 3) [x, y, z] := by
  refine ⟨_, _, rfl, by simp, fun k hk => ⟨_, _, rfl, ?_⟩⟩
  rw [cell_of_row _ _ _ _ _ _ (heap_alloc_new _ _)]
  have : k = 0 ∨ k = 1 ∨ k = 2 := by simp at hk; omega
  rcases this with rfl | rfl | rfl <;> rfl
theorem isL_own {w : World} {B : Nat} {v : Value} {n : Nat} {l : List Int} (h : w.ownsRow B 3 1 v n (l.map (Value.int .i64))) (hn : n ≤ 9223372036854775807) : IsL w v l := by
  have hl : l.length = n := by simpa using h.1
  subst hl
  rcases h.2 with ⟨rfl, h0⟩ | ⟨g, cap, cur, rfl, hg, hh, h1, h2, h3, h4⟩
  · obtain rfl : l = [] := by simpa using h0
    exact ⟨_, _, rfl, hn, fun k hk => by simp at hk⟩
  · refine ⟨_, _, rfl, hn, fun k hk => ⟨g, 0, rfl, ?_⟩⟩
    rw [cell_of_row w g _ cur _ _ hh, Nat.zero_add, ← Array.getElem?_toList]
    have e1 : (cur.toList.take (l.length * 1))[k]? = (l.map (Value.int .i64))[k]? := by rw [h4]
    rw [List.getElem?_take, if_pos (by omega), List.getElem?_map, List.getElem?_eq_getElem hk] at e1
    exact e1
theorem isI_slice {w : World} {B : Nat} {v : Value} {l : List Nat} (h : IsI w B v l) : ∃ p c, v = .slice p l.length c := by
  rcases h.2 with ⟨rfl, h0⟩ | ⟨g, cap, cur, rfl, _⟩
  · exact ⟨_, _, by rw [h0]⟩
  · exact ⟨_, _, rfl⟩
theorem isI_isL {w : World} {B : Nat} {v : Value} {l : List Nat} (h : IsI w B v l) (hn : l.length ≤ 9223372036854775807) : IsL w v (l.map fun n : Nat => (n : Int)) := by
  have h' : w.ownsRow B 3 1 v l.length ((l.map fun n : Nat => (n : Int)).map (Value.int .i64)) := by
    have e : (l.map fun n : Nat => (n : Int)).map (Value.int .i64) = ints l := by simp [ints]
    rw [e]
    exact h
  exact isL_own h' hn
theorem belowR_len {t : List Nd} (hok : Fm.Ok t) (i : Int) : (belowR t i).1.length ≤ 1024 := by
  have := hok.len
  unfold belowR
  split
  · rename_i hh
    have := Fm.has_iff.1 hh
    have h2 : (Fm.below t i.toNat).length ≤ i.toNat + 1 := by
      unfold Fm.below
      refine Nat.le_trans (List.length_filter_le _ _) ?_
      simp
    show (Fm.below t i.toNat).length ≤ 1024
    omega
  · simp
theorem run_makeMapN {t k e : TypeId} (hu : Try.prog.underlying t = some (.map k e)) (n : Int) (w : World) : (Instr.makeMap t (some (.int .i64 n))).run Try.prog w = .ok (.map (some w.heap.size)) (w.alloc (.map #[] 0)) := by
  simp [Instr.makeMap, run_underlying hu, asInt, asIntOf, Result.andThen]
/-- A map of images. -/
def Mi (w : World) (M n : Nat) (im : Nat → Int) : Prop := ∃ g, Mp w M n g ∧ ∀ j : Nat, (g (j : Int)).getD (.int .i64 0) = .int .i64 (im j)
theorem zero_intw (w : World) : (zeroValue 3).run Try.prog w = .ok (.int .i64 0) w := by kernel_rfl
theorem Mi.keep {w w' : World} {M n : Nat} {im : Nat → Int} (h : Mi w M n im) (hk : w'.heap[M]? = w.heap[M]?) : Mi w' M n im := by
  obtain ⟨g, hM, hg⟩ := h
  exact ⟨g, hM.keep hk, hg⟩
theorem Mi.lt {w : World} {M n : Nat} {im : Nat → Int} (h : Mi w M n im) : M < w.heap.size := by obtain ⟨g, hM, _⟩ := h; exact hM.lt
theorem Mi.later {w w' : World} {M n : Nat} {im : Nat → Int} (h : Mi w M n im) (hb : Below w.heap.size w w') : Mi w' M n im := h.keep (hb.block M h.lt)
theorem Mi.look {w : World} {M n : Nat} {im : Nat → Int} (h : Mi w M n im) {j : Nat} (hj : j ≤ 9223372036854775807) : (Instr.lookup 96 (.map (some M)) (.int .i64 (j : Int)) false).run Try.prog w = .ok (.int .i64 (im j)) w := by
  obtain ⟨g, hM, hg⟩ := h
  rw [← hg j]
  exact hM.look1 Try.underlying96 (zero_intw w) ⟨by omega, by omega⟩
theorem Mi.put {w : World} {M n : Nat} {im : Nat → Int} (h : Mi w M n im) (hn : n < 9000) {j : Nat} (hj : j ≤ 9223372036854775807) (x : Int) :
    ∃ w', (Instr.mapUpdate 96 (.map (some M)) (.int .i64 (j : Int)) (.int .i64 x)).run Try.prog w = .ok () w' ∧ Mi w' M (n + 1) (Sb.updI im j x) ∧ Kp (fun k => k = M) w w' := by
  obtain ⟨g, hM, hg⟩ := h
  obtain ⟨w', hr, hM', hK⟩ := hM.put Try.underlying96 (by unfold maxLen; omega) (i := (j : Int)) ⟨by omega, by omega⟩ (.int .i64 x)
  refine ⟨w', hr, ⟨_, hM', fun i => ?_⟩, hK⟩
  unfold updM Sb.updI
  by_cases e : i = j
  · subst e; rw [if_pos rfl, if_pos rfl]; rfl
  · rw [if_neg (by omega), if_neg e]; exact hg i
set_option maxHeartbeats 400000 in
theorem joinsU_any (w : World) (k : Int) : Calls Try.prog 51 #[.int .i64 k] w fun e w' => e = .returned (.bool (k != 1 && k != 2)) ∧ w' = w := by
  by_cases h1 : k = 1
  · subst h1
    go_enter Try.func51, Try.ntmps51
    go_wp2
    go_ret
    exact ⟨rfl, rfl⟩
  · have e1 : (k != 1) = true := by simpa using h1
    go_enter Try.func51, Try.ntmps51
    go_wp2
    go_ret
    exact ⟨by rw [e1]; rfl, rfl⟩
section
variable {b m : Nat} {v : Value} {t : List Nd}
set_option maxRecDepth 100000 in
set_option maxHeartbeats 2000000 in
theorem refused_any (w : World) (h : Tb w b m v t) (sv : Value) (l : List Int) (hv : IsL w sv l) :
    Calls Try.prog 35 #[.pointer (some ⟨b, 0, none⟩), sv] w fun e w' => e = .returned (.int .i64 (Sb.refR t l)) ∧ Below w.heap.size w w' := by
  have KB := show Hid (Calls Try.prog 48 #[.pointer (some ⟨b, 0, none⟩), .int .i64 (-1)] w fun e w' => ∃ v', e = .returned (.tuple #[v', .int .i64 31]) ∧ Below w.heap.size w w') from (below_any w h (-1)).mono fun e w' ⟨v', he, _, hb⟩ => ⟨v', he, hb⟩
  have KN := show Hid (∀ w1 i, Below w.heap.size w w1 → Calls Try.prog 28 #[.pointer (some ⟨b, 0, none⟩), .int .i64 i] w1 fun e w' => (∃ k s x y, e = .returned (.tuple #[.agg #[.int .i64 k, .string s, .int .i64 x, .int .i64 y], .bool (Fm.has t i)])) ∧ Below w.heap.size w w') from fun w1 i hb => (node_any w1 (h.later hb) i).mono fun e w' ⟨he, hb'⟩ => ⟨⟨_, _, _, _, he⟩, hb.trans (hb'.mono hb.size)⟩
  obtain ⟨p, c, rfl, hlen, hcell⟩ := hv
  have HC := show Hid (∀ w1, Below w.heap.size w w1 → ∀ k (hk : k < l.length), ∃ b o, p = some ⟨b, o, none⟩ ∧ w1.cell? ⟨b, o + k, none⟩ = some (.int .i64 l[k])) from fun w1 hb k hk => by
    obtain ⟨b, o, hp, hc⟩ := hcell k hk
    exact ⟨b, o, hp, (hb.cell (p := ⟨b, _, none⟩) (World.block_lt_of_cell? w _ hc)).trans hc⟩
  have HR := show Hid (∀ k (hk : k < l.length), (Fm.has t l[k] = false → Sb.refR t l = 31) ∧ ((l.take k).all (Fm.has t) = true → Fm.has t l[k] = true → (l.take (k + 1)).all (Fm.has t) = true)) from fun k hk => by
    refine ⟨fun hf => ?_, fun h1 h2 => ?_⟩
    · unfold Sb.refR
      rw [if_neg]
      intro ha
      have := List.all_eq_true.1 ha _ (List.getElem_mem hk)
      rw [hf] at this
      cases this
    · rw [List.take_succ_eq_append_getElem hk, List.all_append, h1, Bool.true_and]
      simp [h2]
  have HE := show Hid (l.all (Fm.has t) = true → Sb.refR t l = 0) from fun h => by unfold Sb.refR; rw [if_pos h]
  clear h hcell
  generalize Sb.refR t l = ans at *
  go_enter Try.func35, Try.ntmps35
  go_wp2_with fail
  refine KB.out.mono ?_
  rintro e w1 ⟨v1, rfl, hb1⟩
  have HB := show Hid (Below w.heap.size w w1) from hb1
  clear KB hb1
  go_wp2_with fail
  go_loopw [20] (fun i wr => ∃ k : Nat, k ≤ l.length ∧ i = .int .i64 (k : Int) ∧ Hid (Below w.heap.size w wr ∧ (l.take k).all (Fm.has t) = true)) (fun i _ => l.length - (intOf i).toNat)
  case atStart => exact ⟨0, by omega, rfl, HB.out, rfl⟩
  case round =>
    obtain ⟨k, hk, rfl, HI⟩ := hrel
    by_cases hlt : k < l.length
    · obtain ⟨gb, go, rfl, hc⟩ := HC.out wr HI.out.1 k hlt
      have hki : (k : Int) < (l.length : Int) := by omega
      have K2 := show Hid _ from KN.out wr l[k] HI.out.1
      have HR2 := show Hid _ from HR.out k hlt
      clear HR HC KN HE
      generalize l[k] = x at *
      go_wp2_with fail
      refine Calls.mono K2.out ?_
      rintro e w2 ⟨⟨nk, ns, nx, ny, rfl⟩, hb2⟩
      have HB2 := show Hid (Below w.heap.size w (w2.alloc (Obj.cells #[.int .i64 nk, .string ns, .int .i64 nx, .int .i64 ny] 59))) from hb2.alloc hb2.size _
      clear hb2 K2
      cases hh : Fm.has t x with
      | false =>
        have ea := HR2.out.1 hh
        subst ea
        clear HR2
        go_wp2_with fail
        go_ret
        exact ⟨rfl, HB2.out⟩
      | true =>
        have HA := show Hid _ from HR2.out.2 HI.out.2 hh
        clear HR2
        go_wp2_with fail
        go_roundw
        case rel => exact ⟨k + 1, by omega, by go_num, HB2.out, HA.out⟩
        case measure => first | (simp [intOf]; done) | (simp [intOf]; omega)
    · have hke : k = l.length := by omega
      subst hke
      have hall := HI.out.2
      rw [List.take_length] at hall
      have ea := HE.out hall
      subst ea
      clear HR HC KN HE hall
      go_wp2_with fail
      go_ret
      exact ⟨rfl, HI.out.1⟩
end
end Go.Proofs.Ythfedlodikbdgaa
