/-
  The trials of some rules, as the call of answers them. For every work and every row of rules. No other condition.
-/
import Derived.Test.YtpddfooeaecekaaDoorZOf
namespace Go.Proofs.YtpddfooeaecekaaDoor
open Go.RowKit Go.Shelf Go.Maps
open Fm (Nd)
open Bt.Bs (Ok wd)
set_option linter.unusedSimpArgs false

def t30 : T3 := ⟨0, 0, [], 0, []⟩
def plcs (xs : List Int) : List Nat := (List.range 13).filter fun i => xs.contains ((i : Int) + 1)
theorem of_plcs {L : List T3} (hl : L.length = 13) (hn : ∀ i (h : i < L.length), L[i].n = (i : Int) + 1) (xs : List Int) : L.filter (keepT xs) = (plcs xs).map fun i => L.getD i t30 := by
  have e : L = (List.range 13).map fun i => L.getD i t30 := by
    apply List.ext_getElem
    · simp [hl]
    · intro i h1 h2
      rw [List.getElem_map, List.getElem_range]
      simp [List.getD, h1]
  conv => lhs; rw [e]
  rw [List.filter_map]
  unfold plcs
  refine congrArg _ (List.filter_congr fun i hi => ?_)
  have hi' : i < L.length := by rw [hl]; exact List.mem_range.1 hi
  show keepT xs (L.getD i t30) = _
  have : L.getD i t30 = L[i] := by simp [List.getD, hi']
  rw [this, keepT, hn i hi']
set_option maxRecDepth 100000 in
set_option maxHeartbeats 2000000 in
theorem of_any (w0 : World) {k b T wb : Nat} {r : List Nat} {g : Int} {L : List T3} (hM : Made w0 k b T wb r g L) (hr : Ok r) (rv : Value) (xs : List Int) (hv : Bt.IsL w0 rv xs) :
    Calls Tryd.prog 50 #[.pointer (some ⟨k, 0, none⟩), rv] w0 fun e w' => ∃ q c, e = .returned (.slice (some ⟨q, 0, none⟩) (plcs xs).length c) ∧ Rt w' q ((plcs xs).map fun i => L.getD i t30) ∧ w0.heap.size ≤ q ∧ Below w0.heap.size w0 w' := by
  have hl := hr.1
  have HM := show Hid (∀ W : World, Below w0.heap.size w0 W → Made W k b T wb r g L) from fun W h => hM.later h
  have HV := show Hid (∀ W : World, Below w0.heap.size w0 W → Bt.IsL W rv xs) from fun W h => hv.later h
  have HF := show Hid (L.filter (keepT xs) = (plcs xs).map fun i => L.getD i t30) from of_plcs hM.len hM.num xs
  have HLN := show Hid (L.length = 13) from hM.len
  have HL0 := show Hid (L ≠ []) from fun e => by have := hM.len; rw [e] at this; cases this
  obtain ⟨p, c, rfl, -⟩ := hv
  clear hM
  go_enter Tryd.func50, Tryd.ntmps50
  go_wp2_with (refine wpList_box1 68 _ rfl _ rfl rfl rfl ?_)
  intro w1 rb hn1
  have H1 := show Hid (Below w0.heap.size w0 w1 ∧ Made w1 k b T wb r g L ∧ Cap w1 rb (.slice p xs.length c) xs) from ⟨hn1.bel, HM.out w1 hn1.bel, hn1.blk, HV.out w1 hn1.bel⟩
  have c18 := H1.out.2.1.wk.at18 hl
  have KC := show Hid _ from cloneT_any (c := 13) w1 (rt_of_cl H1.out.2.1.row) HL0.out (by rw [HLN.out]; omega)
  rw [HLN.out] at KC
  clear hn1 HM HV
  go_wp2_with fail
  refine Calls.mono KC.out ?_
  rintro e w2 ⟨q, cap, rfl, hr2, hq, hcap, hcm, hb2⟩
  have KD := show Hid _ from deleteFuncT_any (B := w1.heap.size) (c := cap) (rb := rb) (rv := .slice p xs.length c) (xs := xs) w2 hr2 (by rw [HLN.out]; omega) (by rw [HLN.out]; exact hcap) hcm hq hb2.size (fun W h => H1.out.2.2.later (hb2.trans h))
  rw [HLN.out, HF.out] at KD
  have H2 := show Hid (Below w1.heap.size w1 w2 ∧ w0.heap.size ≤ q) from ⟨hb2, by have := H1.out.1.size; omega⟩
  clear KC hr2 hq hcap hcm hb2 c18
  go_wp2_with fail
  refine Calls.mono KD.out ?_
  rintro e w3 ⟨rfl, hr3, hb3⟩
  have H3 := show Hid (Rt w3 q ((plcs xs).map fun i => L.getD i t30) ∧ w0.heap.size ≤ q ∧ Below w0.heap.size w0 w3) from ⟨hr3, H2.out.2, H1.out.1.trans ((H2.out.1.trans hb3).mono H1.out.1.size)⟩
  clear KD hr3 hb3 H1 H2
  go_wp2_with fail
  go_ret
  exact ⟨q, cap, by simp, H3.out.1, H3.out.2.1, H3.out.2.2⟩
end Go.Proofs.YtpddfooeaecekaaDoor
