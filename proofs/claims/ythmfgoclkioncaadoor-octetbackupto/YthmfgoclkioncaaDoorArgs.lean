/-
  How an argument of type []byte is opened: its bytes, where they lie, and that they are at most 2^47 - 4096. No condition.
-/
import Derived.Test.YthmfgoclkioncaaDoorLaid
import Derived.SizedLaws
namespace Go.Proofs.YthmfgoclkioncaaDoor
open Go.ChangeShapes Go.WideShapes Go.ChangeAt Go.RowKit

theorem cells_u8 : Tryd.prog.cellsOf 5 = 1 := by kernel_rfl
theorem bytes_u8 : Tryd.prog.bytesOf 5 = 1 := by kernel_rfl
theorem wf_byte {z : Int} (h : (Lit.int .u8 z).wf = true) : ((UInt8.ofNat z.toNat).toNat : Int) = z := by
  have hb := bounds_u8 h
  rw [Oct.ofNat_toNat]
  omega
set_option maxRecDepth 100000 in
theorem open_bytes {H : Type} {enc : TypeId × Value → H} {W : World} {base : Nat} {v : Value} {d : DataW H} {p : List MemPlace} {ts : List TypeId} {ds : List (DataW H)} (j : Nat) (hval : Value.okWide Tryd.prog W .any base 24 v)
    (h : DataW.Trod enc Tryd.prog W 0 (fun _ => true) true 24 v d p) (hsz : (DataW.weightsEach Tryd.prog ts ds).all (· ≤ reachBytes) = true) (hj : ts[j]? = some 24) (hd : ds[j]? = some d) :
    ∃ l : List UInt8, IsB W v l ∧ l.length ≤ 140737488351232 := by
  obtain ⟨a0, len, cap, rfl⟩ := okWide_slice Tryd.underlying24 hval
  obtain ⟨fuel, hf⟩ := h
  rcases open_ints Tryd.underlying24 Tryd.underlying5 cells_u8 hf with ⟨hcs, hx⟩ | ⟨a, len', cap', zs, hcs, _, hl, hm, hz, hx, hcell, hwz⟩
  · simp only [Value.cells, List.cons.injEq, and_true] at hcs
    obtain ⟨rfl, rfl, rfl⟩ := Value.slice.inj (by simpa using hcs)
    exact ⟨[], IsB.nil W, by simp⟩
  · obtain ⟨rfl, rfl, rfl⟩ := Value.slice.inj (by simpa [Value.cells] using hcs)
    simp only [if_true] at hz
    obtain ⟨rfl, rfl⟩ := Prod.mk.inj hx
    have hs := sized_slice hsz hj hd Tryd.underlying24
    rw [bytes_u8] at hs
    simp only [lits, List.length_map, List.length_take, List.length_drop, reachBytes] at hs
    have hlen : ((zs.take len).map fun z => UInt8.ofNat z.toNat).length = len := by simp; omega
    refine ⟨(zs.take len).map fun z => UInt8.ofNat z.toNat, ⟨some a, cap, by rw [hlen], by rw [hlen]; exact hl, by unfold maxLen at hm; omega, fun e => (nomatch e), ?_⟩, by rw [hlen]; omega⟩
    rw [hlen]
    refine Lib.BytesIn.of_cells fun i hi => ?_
    rw [hcell i (by omega)]
    congr 1
    refine val_int ?_
    rw [ints_getD _ _ (by rw [hlen]; exact hi)]
    have hi' : i < zs.length := by omega
    simp only [List.getElem_map, List.getElem_take]
    rw [wf_byte (hwz _ (List.getElem_mem hi'))]
    simp [List.getD, hi']
end Go.Proofs.YthmfgoclkioncaaDoor
