/-
  How an argument of the type []Act is opened: what it holds, where it lies, and how great it is at most. No condition.
-/
import Derived.Test.YtphoeedccknihaaLArgs
import Derived.Test.YtphoeedccknihaaLAct
namespace Go.Proofs.Ytphoeedccknihaa
open Go.ChangeShapes Go.WideShapes Go.ChangeAt Go.RowKit
open Fm (Nd)

set_option maxRecDepth 100000 in
/-- One action's eight cells. -/
theorem open_act_cells {H : Type} {enc : TypeId × Value → H} {W : World} {fuel : Nat} {cs : List Value} {y : DataW H × List MemPlace}
    (h2 : DataW.trod enc Try.prog W 0 (fun _ => true) true fuel 36 cs = some y) (hlen : cs.length = 8) :
    ∃ q : Ac, cs = acC q ∧ q.s.size ∈ y.1.weights Try.prog 36 ∧ q.n.s.size ∈ y.1.weights Try.prog 36 ∧ Fm.i64 q.k ∧ Fm.i64 q.a ∧ Fm.i64 q.b ∧ Fm.i64 q.n.k ∧ Fm.i64 q.n.l ∧ Fm.i64 q.n.r := by
  obtain ⟨xs, k, hk, hxy, _, hxl, hfs⟩ := DataW.trod_struct Try.underlying36 h2
  match xs, hxl, cs, hlen with
  | [y0, y1, y2, y3, y4], _, [v0, v1, v2, v3, v4, v5, v6, v7], _ =>
    have g0 : DataW.trod enc Try.prog W 0 (fun _ => true) true k 3 [v0] = some y0 := by have := hfs 0 _ rfl; simpa [cells_int] using this
    have g1 : DataW.trod enc Try.prog W 0 (fun _ => true) true k 9 [v1] = some y1 := by have := hfs 1 _ rfl; simpa [cells_str] using this
    have g2 : DataW.trod enc Try.prog W 0 (fun _ => true) true k 3 [v2] = some y2 := by have := hfs 2 _ rfl; simpa [cells_int] using this
    have g3 : DataW.trod enc Try.prog W 0 (fun _ => true) true k 3 [v3] = some y3 := by have := hfs 3 _ rfl; simpa [cells_int] using this
    have g4 : DataW.trod enc Try.prog W 0 (fun _ => true) true k 34 [v4, v5, v6, v7] = some y4 := by have := hfs 4 _ rfl; simpa [cells_node] using this
    obtain ⟨z0, hz0, hz02, hz03⟩ := DataW.trod_int Try.underlying3 g0
    obtain ⟨s, hs, hs2, hs3⟩ := DataW.trod_string Try.underlying9 g1
    obtain ⟨z2, hz2, hz22, hz23⟩ := DataW.trod_int Try.underlying3 g2
    obtain ⟨z3, hz3, hz32, hz33⟩ := DataW.trod_int Try.underlying3 g3
    obtain ⟨nd, hn, hn2, hn3, hn4, hn5⟩ := open_nd_cells g4 rfl
    have e0 : v0 = .int .i64 z0 := by simpa using hz0
    have e1 : v1 = .string s := by simpa using hs
    have e2 : v2 = .int .i64 z2 := by simpa using hz2
    have e3 : v3 = .int .i64 z3 := by simpa using hz3
    have hD : y.1 = .agg [y0.1, y1.1, y2.1, y3.1, y4.1] := by rw [hxy]; simp
    refine ⟨⟨z0, s, z2, z3, nd⟩, by rw [e0, e1, e2, e3, hn]; rfl, ?_, ?_, bounds64 hz03, bounds64 hz23, bounds64 hz33, hn3, hn4, hn5⟩
    · rw [hD, DataW.weights, Try.underlying36]
      exact DataW.weights_mem_each (j := 1) (t := 9) (d := y1.1) rfl rfl _ (by rw [hs2]; show s.size ∈ [s.data.toList.length]; exact List.mem_singleton.2 rfl)
    · rw [hD, DataW.weights, Try.underlying36]
      exact DataW.weights_mem_each (j := 4) (t := 34) (d := y4.1) rfl rfl _ hn2
set_option maxRecDepth 100000 in
/-- An argument of type []Act. -/
theorem open_acts {H : Type} {enc : TypeId × Value → H} {W : World} {base : Nat} {v : Value} {d : DataW H} {p : List MemPlace} (hval : Value.okWide Try.prog W .any base 23 v)
    (h : DataW.Trod enc Try.prog W 0 (fun _ => true) true 23 v d p) (hsz : ∀ n ∈ d.weights Try.prog 23, n ≤ 140737488351232) : ∃ ps : List Ac, IsA W v ps ∧ (∀ n ∈ ps, goodA n) ∧ ps.length * 80 ≤ 140737488351232 := by
  obtain ⟨a0, len, cap, rfl⟩ := okWide_slice Try.underlying23 hval
  obtain ⟨fuel, hf⟩ := h
  rcases Deep.open_slice Try.underlying23 hf with ⟨hcs, hx⟩ | ⟨a, len', cap', m, n, D, Pl, hcs, hb, hl, hm, hmm, hx, hel⟩
  · simp only [Value.cells, List.cons.injEq, and_true] at hcs
    obtain ⟨rfl, rfl, rfl⟩ := Value.slice.inj (by simpa using hcs)
    exact ⟨[], ⟨none, 0, rfl, by simp, by omega, fun h => by simp at h⟩, (fun t ht => by cases ht), by simp⟩
  · obtain ⟨rfl, rfl, rfl⟩ := Value.slice.inj (by simpa [Value.cells] using hcs)
    simp only [if_true] at hmm
    subst hmm
    obtain ⟨rfl, rfl⟩ := Prod.mk.inj hx
    rw [cells_act] at hel
    have each : ∀ i, i < m → ∃ q : Ac, (∀ j, j < 8 → W.cell? (a.add (i * 8 + j)) = (acC q)[j]?) ∧ q.s.size ∈ (D i).weights Try.prog 36 ∧ q.n.s.size ∈ (D i).weights Try.prog 36 ∧ Fm.i64 q.k ∧ Fm.i64 q.a ∧ Fm.i64 q.b ∧ Fm.i64 q.n.k ∧ Fm.i64 q.n.l ∧ Fm.i64 q.n.r := by
      intro i hi
      obtain ⟨cs', h1, h2⟩ := hel i hi
      obtain ⟨_, hlen, hcell⟩ := World.cells?_some h1
      obtain ⟨q, hq, hq2⟩ := open_act_cells h2 hlen
      refine ⟨q, fun j hj => ?_, hq2⟩
      have e := hcell j (by omega)
      rw [Deep.add_add] at e
      rw [e]
      subst hq
      simp [acC, hj]
    have : Inhabited Ac := ⟨⟨0, ⟨#[]⟩, 0, 0, Fm.z⟩⟩
    obtain ⟨q, hq⟩ := Deep.choose_lt each
    have hlen : ((List.range len).map q).length = len := by simp
    rw [DataW.weights, Try.underlying23] at hsz
    have hb1 := hsz _ List.mem_cons_self
    rw [bytes_act] at hb1
    simp only [List.length_map, List.length_range] at hb1
    refine ⟨(List.range len).map q, ⟨some a, m, by rw [hlen], by rw [hlen]; exact hl, by unfold maxLen at hm; omega, fun hpos => ?_⟩, fun r hr => ?_, by rw [hlen]; omega⟩
    · rw [hlen] at hpos
      obtain ⟨b, o, s⟩ := a
      have h00 := (hq 0 (by omega)).1 0 (by omega)
      obtain rfl : s = none := by
        have h01 : W.cell? ((⟨b, o, s⟩ : Addr).add (0 * 8 + 0)) = some (.int .i64 (q 0).k) := h00
        simpa [Addr.add] using World.cell?_spot h01
      refine ⟨b, o, rfl, fun k hk => ?_⟩
      rw [hlen] at hk
      have hk' := (hq k (by omega)).1
      simp only [add_plain] at hk'
      simp only [List.getElem_map, List.getElem_range]
      have e : ∀ j, j < 8 → W.cell? ⟨b, o + k * 8 + j, none⟩ = (acC (q k))[j]? := fun j hj => by have := hk' j hj; rw [← Nat.add_assoc] at this; exact this
      exact ⟨e 0 (by omega), e 1 (by omega), e 2 (by omega), e 3 (by omega), e 4 (by omega), e 5 (by omega), e 6 (by omega), e 7 (by omega)⟩
    · obtain ⟨i, hi, rfl⟩ := List.mem_map.1 hr
      have hi' := List.mem_range.1 hi
      have h1 := (hq i (by omega)).2
      have h2 := weights_mem_all (t := 36) (List.mem_map_of_mem (f := D) hi) _ h1.1
      have h3 := weights_mem_all (t := 36) (List.mem_map_of_mem (f := D) hi) _ h1.2.1
      exact ⟨h1.2.2.1, hsz _ (List.mem_cons_of_mem _ (List.mem_append_left _ h2)), h1.2.2.2.1, h1.2.2.2.2.1, h1.2.2.2.2.2.1, hsz _ (List.mem_cons_of_mem _ (List.mem_append_left _ h3)), h1.2.2.2.2.2.2.1, h1.2.2.2.2.2.2.2⟩
end Go.Proofs.Ytphoeedccknihaa
