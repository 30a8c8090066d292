/-
  How an argument of type []string is opened: its texts, and where they lie. No condition.
-/
import Derived.Test.YtkmmlimekachbaaGreatDoorQArgs
import Derived.Test.YtkmmlimekachbaaGreatDoorTRU
import Derived.Deep.Strs
namespace Go.Proofs.YtkmmlimekachbaaGreatDoor
open Go.ChangeShapes Go.WideShapes Go.ChangeAt Go.RowKit

set_option maxRecDepth 100000 in
theorem open_names {H : Type} {enc : TypeId × Value → H} {W : World} {base : Nat} {v : Value} {d : DataW H} {p : List MemPlace} (hval : Value.okWide Tryz.prog W .any base 68 v)
    (h : DataW.Trod enc Tryz.prog W 0 (fun _ => true) true 68 v d p) : ∃ l : List ByteArray, IsNs W v l := by
  obtain ⟨a0, len, cap, rfl⟩ := okWide_slice Tryz.underlying68 hval
  obtain ⟨fuel, hf⟩ := h
  rcases Deep.open_strs Tryz.underlying68 Tryz.underlying9 cells_str hf with ⟨hcs, hx⟩ | ⟨a, len', cap', m, Sx, hcs, _, hl, hm, hmm, hx, hcell⟩
  · simp only [Value.cells, List.cons.injEq, and_true] at hcs
    obtain ⟨rfl, rfl, rfl⟩ := Value.slice.inj (by simpa using hcs)
    exact ⟨[], none, 0, rfl, by simp, fun k hk => absurd hk (by simp)⟩
  · obtain ⟨rfl, rfl, rfl⟩ := Value.slice.inj (by simpa [Value.cells] using hcs)
    simp only [if_true] at hmm
    subst hmm
    have hlen : ((List.range len).map Sx).length = len := by simp
    refine ⟨(List.range len).map Sx, some a, m, by rw [hlen], by rw [hlen]; unfold maxLen at hm; omega, fun k hk => ?_⟩
    rw [hlen] at hk
    have hc := (hcell k (by omega)).1
    have hc0 := (hcell 0 (by omega)).1
    obtain ⟨b, o, s⟩ := a
    obtain rfl : s = none := by
      simpa [Addr.add] using World.cell?_spot hc0
    refine ⟨b, o, rfl, ?_⟩
    simp only [List.getElem_map, List.getElem_range]
    by_cases h0 : k = 0
    · subst h0
      simpa [Addr.add] using hc
    · simpa [Addr.add, h0] using hc
end Go.Proofs.YtkmmlimekachbaaGreatDoor
