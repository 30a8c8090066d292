/-
  How an argument of type []Hyp is opened: its names and formulas, where they lie, and how great they are at most. No condition.
-/
import Derived.Test.YthfedlodikbdgaaLArgs
import Derived.Test.YthfedlodikbdgaaUSort
namespace Go.Proofs.Ythfedlodikbdgaa
open Go.ChangeShapes Go.WideShapes Go.ChangeAt Go.RowKit
open Fm (Nd)

theorem bytes_hyp : Try.prog.bytesOf 39 = 24 := by kernel_rfl
theorem cells_hyp : Try.prog.cellsOf 39 = 2 := by kernel_rfl
set_option maxRecDepth 100000 in
/-- One row's two cells. -/
theorem open_hp_cells {H : Type} {enc : TypeId × Value → H} {W : World} {fuel : Nat} {cs : List Value} {y : DataW H × List MemPlace}
    (h2 : DataW.trod enc Try.prog W 0 (fun _ => true) true fuel 39 cs = some y) (hlen : cs.length = 2) :
    ∃ q : Hp, cs = encH q ∧ q.1.size ∈ y.1.weights Try.prog 39 ∧ Fm.i64 q.2 := by
  obtain ⟨xs, k, hk, hxy, _, hxl, hfs⟩ := DataW.trod_struct Try.underlying39 h2
  match xs, hxl, cs, hlen with
  | [y0, y1], _, [v0, v1], _ =>
    have g0 : DataW.trod enc Try.prog W 0 (fun _ => true) true k 9 [v0] = some y0 := by have := hfs 0 _ rfl; simpa [cells_str] using this
    have g1 : DataW.trod enc Try.prog W 0 (fun _ => true) true k 3 [v1] = some y1 := by have := hfs 1 _ rfl; simpa [cells_int] using this
    obtain ⟨s, hs, hs2, hs3⟩ := DataW.trod_string Try.underlying9 g0
    obtain ⟨z1, hz1, hz12, hz13⟩ := DataW.trod_int Try.underlying3 g1
    have e0 : v0 = .string s := by simpa using hs
    have e1 : v1 = .int .i64 z1 := by simpa using hz1
    refine ⟨(s, z1), by rw [e0, e1]; rfl, ?_, bounds64 hz13⟩
    have hD : y.1 = .agg [y0.1, y1.1] := by rw [hxy]; simp
    rw [hD, DataW.weights, Try.underlying39]
    exact DataW.weights_mem_each (j := 0) (t := 9) (d := y0.1) rfl rfl _ (by rw [hs2]; show s.size ∈ [s.data.toList.length]; exact List.mem_singleton.2 rfl)
set_option maxRecDepth 100000 in
/-- An argument of type []Hyp. -/
theorem open_hyps {H : Type} {enc : TypeId × Value → H} {W : World} {base : Nat} {v : Value} {d : DataW H} {p : List MemPlace} (hval : Value.okWide Try.prog W .any base 23 v)
    (h : DataW.Trod enc Try.prog W 0 (fun _ => true) true 23 v d p) (hsz : ∀ n ∈ d.weights Try.prog 23, n ≤ 140737488351232) : ∃ ps : Sb.Hs, IsH W v ps ∧ GoodH ps ∧ (v = .slice none 0 0 ∨ ∃ a n c, v = .slice (some a) n c) := by
  obtain ⟨a0, len, cap, rfl⟩ := okWide_slice Try.underlying23 hval
  obtain ⟨fuel, hf⟩ := h
  rcases Deep.open_slice Try.underlying23 hf with ⟨hcs, hx⟩ | ⟨a, len', cap', m, n, D, Pl, hcs, hb, hl, hm, hmm, hx, hel⟩
  · simp only [Value.cells, List.cons.injEq, and_true] at hcs
    obtain ⟨rfl, rfl, rfl⟩ := Value.slice.inj (by simpa using hcs)
    exact ⟨[], ⟨none, 0, rfl, by simp, fun k hk => by simp at hk⟩, (fun t ht => by cases ht), Or.inl rfl⟩
  · obtain ⟨rfl, rfl, rfl⟩ := Value.slice.inj (by simpa [Value.cells] using hcs)
    simp only [if_true] at hmm
    subst hmm
    obtain ⟨rfl, rfl⟩ := Prod.mk.inj hx
    rw [cells_hyp] at hel
    have each : ∀ i, i < m → ∃ q : Hp, (∀ j, j < 2 → W.cell? (a.add (i * 2 + j)) = (encH q)[j]?) ∧ q.1.size ∈ (D i).weights Try.prog 39 ∧ Fm.i64 q.2 := by
      intro i hi
      obtain ⟨cs', h1, h2⟩ := hel i hi
      obtain ⟨_, hlen, hcell⟩ := World.cells?_some h1
      obtain ⟨q, hq, hq2⟩ := open_hp_cells h2 hlen
      refine ⟨q, fun j hj => ?_, hq2⟩
      have e := hcell j (by omega)
      rw [Deep.add_add] at e
      rw [e]
      subst hq
      simp [encH, hj]
    have : Inhabited Hp := ⟨(⟨#[]⟩, 0)⟩
    obtain ⟨q, hq⟩ := Deep.choose_lt each
    have hlen : ((List.range len).map q).length = len := by simp
    rw [DataW.weights, Try.underlying23] at hsz
    have hb1 := hsz _ List.mem_cons_self
    rw [bytes_hyp] at hb1
    simp only [List.length_map, List.length_range] at hb1
    refine ⟨(List.range len).map q, ⟨some a, m, by rw [hlen], by rw [hlen]; omega, fun k hk => ?_⟩, fun r hr => ?_, Or.inr ⟨_, _, _, rfl⟩⟩
    · rw [hlen] at hk
      obtain ⟨b, o, s⟩ := a
      have h00 := (hq 0 (by omega)).1 0 (by omega)
      obtain rfl : s = none := by
        have h01 : W.cell? ((⟨b, o, s⟩ : Addr).add (0 * 2 + 0)) = some (.string (q 0).1) := h00
        simpa [Addr.add] using World.cell?_spot h01
      refine ⟨b, o, rfl, ?_⟩
      have hk' := (hq k (by omega)).1
      simp only [add_plain] at hk'
      simp only [List.getElem_map, List.getElem_range]
      exact ⟨by have := hk' 0 (by omega); rw [Nat.add_zero] at this; exact this, by have := hk' 1 (by omega); rw [← Nat.add_assoc] at this; exact this⟩
    · obtain ⟨i, hi, rfl⟩ := List.mem_map.1 hr
      have hi' := List.mem_range.1 hi
      have h1 := (hq i (by omega)).2
      have h2 := weights_mem_all (t := 39) (List.mem_map_of_mem (f := D) hi) _ h1.1
      exact ⟨hsz _ (List.mem_cons_of_mem _ (List.mem_append_left _ h2)), h1.2⟩
end Go.Proofs.Ythfedlodikbdgaa
