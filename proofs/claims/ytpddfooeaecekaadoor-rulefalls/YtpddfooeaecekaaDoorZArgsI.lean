/-
  How an argument of type []int is opened: its numbers, where they lie, and that they are at most 2^47 - 4096 bytes. No condition.
-/
import Derived.Test.YtpddfooeaecekaaDoorZArgsN
import Derived.Test.YtpddfooeaecekaaDoorBG4
namespace Go.Proofs.YtpddfooeaecekaaDoor
open Go.ChangeShapes Go.WideShapes Go.ChangeAt Go.RowKit
set_option linter.unusedSimpArgs false

theorem cellsZ_i64 : Tryd.prog.cellsOf 3 = 1 := by kernel_rfl
theorem bytesZ_i64 : Tryd.prog.bytesOf 3 = 8 := by kernel_rfl
set_option maxRecDepth 100000 in
theorem openZ_list {H : Type} {enc : TypeId × Value → H} {W : World} {base : Nat} {v : Value} {d : DataW H} {p : List MemPlace} {ts : List TypeId} {ds : List (DataW H)} (j : Nat) (hval : Value.okWide Tryd.prog W .any base 28 v)
    (h : DataW.Trod enc Tryd.prog W 0 (fun _ => true) true 28 v d p) (hsz : (DataW.weightsEach Tryd.prog ts ds).all (· ≤ reachBytes) = true) (hj : ts[j]? = some 28) (hd : ds[j]? = some d) :
    ∃ l : List Int, (Bt.IsL W v l ∧ ∀ m c, v = .slice none m c → c = 0) ∧ l.length * 8 ≤ 140737488351232 := by
  obtain ⟨a0, len, cap, rfl⟩ := okWide_slice Tryd.underlying28 hval
  obtain ⟨fuel, hf⟩ := h
  rcases open_ints Tryd.underlying28 Tryd.underlying3 cellsZ_i64 hf with ⟨hcs, hx⟩ | ⟨a, len', cap', zs, hcs, _, hl, hm, hz, hx, hcell, hwz⟩
  · simp only [Value.cells, List.cons.injEq, and_true] at hcs
    obtain ⟨rfl, rfl, rfl⟩ := Value.slice.inj (by simpa using hcs)
    exact ⟨[], ⟨⟨none, 0, rfl, by simp, fun k hk => absurd hk (by simp)⟩, fun m c e => by cases e; rfl⟩, by simp⟩
  · obtain ⟨rfl, rfl, rfl⟩ := Value.slice.inj (by simpa [Value.cells] using hcs)
    simp only [if_true] at hz
    obtain ⟨rfl, rfl⟩ := Prod.mk.inj hx
    have hs := sized_slice hsz hj hd Tryd.underlying28
    rw [bytesZ_i64] at hs
    simp only [lits, List.length_map, List.length_take, List.length_drop, reachBytes] at hs
    have hlen : (zs.take len).length = len := by simp; omega
    refine ⟨zs.take len, ⟨⟨some a, cap, by rw [hlen], by rw [hlen]; unfold maxLen at hm; omega, fun k hk => ?_⟩, fun m c e => by cases e⟩, by rw [hlen]; omega⟩
    rw [hlen] at hk
    have hc := hcell k (by omega)
    have hc0 := hcell 0 (by omega)
    obtain ⟨b, o, s⟩ := a
    obtain rfl : s = none := by
      simpa [Addr.add] using World.cell?_spot hc0
    refine ⟨b, o, rfl, ?_⟩
    have hk' : k < zs.length := by omega
    rw [List.getElem_take]
    by_cases h0 : k = 0
    · subst h0
      simpa [Addr.add, List.getD, hk'] using hc
    · simpa [Addr.add, h0, List.getD, hk'] using hc
end Go.Proofs.YtpddfooeaecekaaDoor
