/-
  How an argument that is a set or a sequent is opened; what the listed table gives to the walks; a world that holds it, for a row's witness. No condition.
-/
import Derived.Test.YtkejippimkjjaabDoorCards
import Derived.Test.YtkejippimkjjaabDoorTie
import Derived.Test.YtkejippimkjjaabDoorZSeq
import Derived.Lib.LaidIn
import Derived.Lib.LaidTab
import Derived.Lib.LaidU8
import Derived.Deep.DeepHandedRow
import Derived.Deep.DeepWitnessRowRef
import Derived.ProofKit
import Derived.OpenShut
import Derived.SizedLaws
namespace Go.Proofs.YtkejippimkjjaabDoor
open Go.ChangeShapes Go.WideShapes Go.ChangeAt Go.RowKit
open Bt.Bs (Ok wd)
set_option linter.unusedSimpArgs false

theorem ownZ : ownKnob Tryd.prog.godebug = none := by kernel_rfl
theorem laidOutZ : laidOutB Tryd.prog = true := by kernel_rfl
theorem boundsZ64 {x : Int} (h : (Lit.int .i64 x).wf = true) : Fm.i64 x := by
  have hb := bounds_i64 h
  exact ⟨by omega, by omega⟩
theorem eZ_tz : Rows.laid_math_bits_deBruijn64tab (H := Unit) = Lib.tabData .u8 (Lib.deBruijn64tab.map fun n : Nat => (n : Int)) := by kernel_rfl
theorem tzZ_global : Tryd.prog.globalNamed "math/bits.deBruijn64tab" = some 0 := by kernel_rfl
theorem tzZ_of {W : World} {l : List (String × DataW Unit)} (h : laidMet Tryd.prog l W) (h3 : ("math/bits.deBruijn64tab", Rows.laid_math_bits_deBruijn64tab) ∈ l) : Bt.Tz W := by
  rw [eZ_tz] at h3
  obtain ⟨g, t, cs, fuel, p, hg, hty, hvar, hd⟩ := Lib.laidMet.reads h h3
  obtain rfl := Option.some.inj (tzZ_global.symm.trans hg)
  obtain rfl := Option.some.inj ((show (Tryd.prog.globals[0]?).map (·.type) = some 125 by kernel_rfl).symm.trans hty)
  have hT : Lib.TabIs Tryd.prog W "math/bits.deBruijn64tab" .u8 (Lib.deBruijn64tab.map fun n : Nat => (n : Int)) := by
    unfold Lib.TabIs
    rw [hvar, ← Lib.cells_of_tab Tryd.underlying125 Tryd.underlying5 (by kernel_rfl) (by kernel_rfl) hd]
  intro j hj
  have := hT.cell tzZ_global j (by simpa using hj)
  rw [this]
  congr 1
  simp [List.getD, hj]
noncomputable def laidWorldZ (os : Os) : World :=
  let w0 := World.holding Tryd.prog os ⟨#[], #[], []⟩
  let put (h : Array Obj) (g : Nat) (cs : Array Value) : Array Obj := h.modify g fun
    | .cells _ t frozen => .cells cs t frozen
    | o => o
  let h5 := put w0.heap 0 #[.int .u8 0, .int .u8 1, .int .u8 56, .int .u8 2, .int .u8 57, .int .u8 49, .int .u8 28, .int .u8 3, .int .u8 61, .int .u8 58, .int .u8 42, .int .u8 50, .int .u8 38, .int .u8 29, .int .u8 17, .int .u8 4, .int .u8 62, .int .u8 47, .int .u8 59, .int .u8 36, .int .u8 45, .int .u8 43, .int .u8 51, .int .u8 22, .int .u8 53, .int .u8 39, .int .u8 33, .int .u8 30, .int .u8 24, .int .u8 18, .int .u8 12, .int .u8 5, .int .u8 63, .int .u8 55, .int .u8 48, .int .u8 27, .int .u8 60, .int .u8 41, .int .u8 37, .int .u8 16, .int .u8 46, .int .u8 35, .int .u8 44, .int .u8 21, .int .u8 52, .int .u8 32, .int .u8 23, .int .u8 11, .int .u8 54, .int .u8 26, .int .u8 40, .int .u8 15, .int .u8 34, .int .u8 20, .int .u8 31, .int .u8 10, .int .u8 25, .int .u8 14, .int .u8 19, .int .u8 9, .int .u8 13, .int .u8 8, .int .u8 7, .int .u8 6]
  { w0 with heap := h5 }
theorem aggZ_of {v : Value} {cs : List Value} (h : v.cells.toList = cs) (hl : cs.length ≠ 1) : v = .agg cs.toArray := by
  have e : v.cells = cs.toArray := Array.ext' (by rw [h])
  have one : ∀ u : Value, v.cells = #[u] → False := fun u hu => by
    rw [hu] at h
    subst h
    simp at hl
  cases v with
  | agg ds => exact congrArg Value.agg e
  | _ => exact (one _ rfl).elim
theorem cellsZ25 : Tryd.prog.cellsOf 24 = 16 := by kernel_rfl
set_option maxRecDepth 100000 in
theorem openZ_bits {H : Type} {enc : TypeId × Value → H} {W : World} {v : Value} {d : DataW H} {p : List MemPlace} (h : DataW.Trod enc Tryd.prog W 0 (fun _ => true) true 24 v d p) : ∃ r, Ok r ∧ v = .agg (Bt.cellsB r) := by
  obtain ⟨fuel, hf⟩ := h
  obtain ⟨xs, m, rfl, hx, hlen, hxl, hel⟩ := DataW.trod_array Bt.under25 hf
  rw [cellsZ25] at hlen
  have hv := aggZ_of (v := v) rfl (by rw [hlen]; decide)
  generalize hcs : v.cells.toList = cs at *
  have hall : ∀ i (hi : i < cs.length), ∃ z : Nat, cs[i] = .int .u64 (z : Int) ∧ z < 18446744073709551616 := by
    intro i hi
    have := hel i (by omega)
    rw [Bt.cells23, Nat.mul_one, List.drop_eq_getElem_cons hi, List.take_succ_cons, List.take_zero] at this
    cases hq : xs[i]? with
    | none => have := List.getElem?_eq_none_iff.1 hq; omega
    | some y =>
      rw [hq] at this
      obtain ⟨z, hz, _, wz⟩ := DataW.trod_int Bt.under23 this
      have e : cs[i] = .int .u64 z := by simpa using hz
      have hb := bounds_u64 wz
      exact ⟨z.toNat, by rw [e]; exact val_int (by omega), by omega⟩
  refine ⟨cs.map fun v => match v with | .int _ z => z.toNat | _ => 0, ⟨by rw [List.length_map]; exact hlen, ?_⟩, ?_⟩
  · intro x hx
    obtain ⟨v, hv, rfl⟩ := List.mem_map.1 hx
    obtain ⟨i, hi, rfl⟩ := List.mem_iff_getElem.1 hv
    obtain ⟨z, hz, hlt⟩ := hall i hi
    rw [hz]
    simpa using hlt
  · rw [hv]
    congr 1
    unfold Bt.cellsB
    congr 1
    apply List.ext_getElem (by simp)
    intro i h1 h2
    obtain ⟨z, hz, _⟩ := hall i h1
    simp only [List.getElem_map, hz]
    simp
theorem cells_seq : Tryd.prog.cellsOf 26 = 17 := by kernel_rfl
set_option maxRecDepth 100000 in
theorem open_seq {H : Type} {enc : TypeId × Value → H} {W : World} {v : Value} {d : DataW H} {p : List MemPlace} (h : DataW.Trod enc Tryd.prog W 0 (fun _ => true) true 26 v d p) : ∃ r g, Ok r ∧ Fm.i64 g ∧ v = .agg (cellsQ r g) := by
  obtain ⟨fuel, hf⟩ := h
  obtain ⟨xs, k, hk, hxy, hcl, hxl, hfs⟩ := DataW.trod_struct Tryd.underlying26 hf
  rw [cells_seq] at hcl
  have hv := aggZ_of (v := v) rfl (by rw [hcl]; decide)
  generalize v.cells.toList = cs at *
  match xs, hxl with
  | [y0, y1], _ =>
    have g0 : DataW.trod enc Tryd.prog W 0 (fun _ => true) true k 24 (cs.take 16) = some y0 := by have := hfs 0 _ rfl; simpa [cellsZ25] using this
    have g1 : DataW.trod enc Tryd.prog W 0 (fun _ => true) true k 3 ((cs.drop 16).take 1) = some y1 := by have := hfs 1 _ rfl; simpa [cells_int] using this
    obtain ⟨r, hr, e0⟩ := openZ_bits (v := .agg (cs.take 16).toArray) (d := y0.1) (p := y0.2) ⟨k, g0⟩
    obtain ⟨z, hz, hz2, hz3⟩ := DataW.trod_int Tryd.underlying3 g1
    refine ⟨r, z, hr, boundsZ64 hz3, ?_⟩
    rw [hv]
    congr 1
    injection e0 with e0
    have e1 : cs.take 16 = Bt.listB r := by
      have := congrArg Array.toList e0
      simpa [Bt.cellsB, Bt.listB] using this
    have e2 : cs.drop 16 = [.int .i64 z] := by
      rw [← hz]
      exact (List.take_of_length_le (by simp; omega)).symm
    unfold cellsQ
    rw [← e1, ← e2, List.take_append_drop]
end Go.Proofs.YtkejippimkjjaabDoor
