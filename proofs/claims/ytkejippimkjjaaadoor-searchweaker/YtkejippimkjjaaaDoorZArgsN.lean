/-
  How arguments of the types Node and []Node are opened: what they hold, where it lies, and how great it is at most. No condition.
-/
import Derived.Test.YtkejippimkjjaaaDoorZArgs
import Derived.Test.YtkejippimkjjaaaDoorRG1
import Derived.Deep.Slices
import Derived.OpenShut
import Derived.SizedLaws
namespace Go.Proofs.YtkejippimkjjaaaDoor
open Go.ChangeShapes Go.WideShapes Go.ChangeAt Go.RowKit
open Fm (Nd)

theorem bounds64 {x : Int} (h : (Lit.int .i64 x).wf = true) : Fm.i64 x := by
  have hb := bounds_i64 h
  exact ⟨by omega, by omega⟩
theorem sized_all {H : Type} {ts : List TypeId} {ds : List (DataW H)} (h : (DataW.weightsEach Tryd.prog ts ds).all (· ≤ reachBytes) = true) {j : Nat} {t : TypeId} {d : DataW H} (ht : ts[j]? = some t) (hd : ds[j]? = some d) :
    ∀ n ∈ d.weights Tryd.prog t, n ≤ 140737488351232 := fun n hn => by
  have h1 := List.all_eq_true.1 h _ (DataW.weights_mem_each ht hd n hn)
  have h2 : n ≤ reachBytes := by simpa using h1
  unfold reachBytes at h2
  omega
theorem weights_mem_all {H : Type} {t : TypeId} {d : DataW H} {l : List (DataW H)} (h : d ∈ l) : ∀ n ∈ d.weights Tryd.prog t, n ∈ DataW.weightsAll Tryd.prog t l := by
  induction l with
  | nil => cases h
  | cons x r ih =>
    intro n hn
    rw [DataW.weightsAll]
    cases List.mem_cons.1 h with
    | inl e => subst e; exact List.mem_append_left _ hn
    | inr e => exact List.mem_append_right _ (ih e n hn)
theorem bytes_node : Tryd.prog.bytesOf 53 = 40 := by kernel_rfl
set_option maxRecDepth 100000 in
theorem open_nd_cells {H : Type} {enc : TypeId × Value → H} {W : World} {fuel : Nat} {cs : List Value} {y : DataW H × List MemPlace}
    (h2 : DataW.trod enc Tryd.prog W 0 (fun _ => true) true fuel 53 cs = some y) (hlen : cs.length = 4) :
    ∃ q : Nd, cs = ndC q ∧ q.s.size ∈ y.1.weights Tryd.prog 53 ∧ Fm.i64 q.k ∧ Fm.i64 q.l ∧ Fm.i64 q.r := by
  obtain ⟨xs, k, hk, hxy, _, hxl, hfs⟩ := DataW.trod_struct Tryd.underlying53 h2
  match xs, hxl, cs, hlen with
  | [y0, y1, y2, y3], _, [v0, v1, v2, v3], _ =>
    have g0 : DataW.trod enc Tryd.prog W 0 (fun _ => true) true k 51 [v0] = some y0 := by have := hfs 0 _ rfl; simpa [cells_kind] using this
    have g1 : DataW.trod enc Tryd.prog W 0 (fun _ => true) true k 9 [v1] = some y1 := by have := hfs 1 _ rfl; simpa [cells_str] using this
    have g2 : DataW.trod enc Tryd.prog W 0 (fun _ => true) true k 3 [v2] = some y2 := by have := hfs 2 _ rfl; simpa [cells_int] using this
    have g3 : DataW.trod enc Tryd.prog W 0 (fun _ => true) true k 3 [v3] = some y3 := by have := hfs 3 _ rfl; simpa [cells_int] using this
    obtain ⟨z0, hz0, hz02, hz03⟩ := DataW.trod_int Tryd.underlying51 g0
    obtain ⟨s, hs, hs2, hs3⟩ := DataW.trod_string Tryd.underlying9 g1
    obtain ⟨z2, hz2, hz22, hz23⟩ := DataW.trod_int Tryd.underlying3 g2
    obtain ⟨z3, hz3, hz32, hz33⟩ := DataW.trod_int Tryd.underlying3 g3
    have e0 : v0 = .int .i64 z0 := by simpa using hz0
    have e1 : v1 = .string s := by simpa using hs
    have e2 : v2 = .int .i64 z2 := by simpa using hz2
    have e3 : v3 = .int .i64 z3 := by simpa using hz3
    refine ⟨⟨z0, s, z2, z3⟩, by rw [e0, e1, e2, e3]; rfl, ?_, bounds64 hz03, bounds64 hz23, bounds64 hz33⟩
    have hD : y.1 = .agg [y0.1, y1.1, y2.1, y3.1] := by rw [hxy]; simp
    rw [hD, DataW.weights, Tryd.underlying53]
    exact DataW.weights_mem_each (j := 1) (t := 9) (d := y1.1) rfl rfl _ (by rw [hs2]; show s.size ∈ [s.data.toList.length]; exact List.mem_singleton.2 rfl)
theorem agg_of {v : Value} {cs : List Value} (h : v.cells.toList = cs) (hl : cs.length ≠ 1) : v = .agg cs.toArray := by
  have e : v.cells = cs.toArray := Array.ext' (by rw [h])
  have one : ∀ u : Value, v.cells = #[u] → False := fun u hu => by
    rw [hu] at h
    subst h
    simp at hl
  cases v with
  | agg ds => exact congrArg Value.agg e
  | _ => exact (one _ rfl).elim
theorem open_node {H : Type} {enc : TypeId × Value → H} {W : World} {v : Value} {d : DataW H} {p : List MemPlace}
    (h : DataW.Trod enc Tryd.prog W 0 (fun _ => true) true 53 v d p) (hsz : ∀ n ∈ d.weights Tryd.prog 53, n ≤ 140737488351232) : ∃ q : Nd, v = ndV q ∧ Fm.good q := by
  obtain ⟨fuel, hf⟩ := h
  obtain ⟨_, _, _, _, hcl, _, _⟩ := DataW.trod_struct Tryd.underlying53 hf
  rw [cells_node] at hcl
  obtain ⟨q, hq, hq2, hq3, hq4, hq5⟩ := open_nd_cells hf hcl
  exact ⟨q, agg_of hq (by simp), hq3, hsz _ hq2, hq4, hq5⟩
set_option maxRecDepth 100000 in
theorem open_nodes {H : Type} {enc : TypeId × Value → H} {W : World} {base : Nat} {v : Value} {d : DataW H} {p : List MemPlace} (hval : Value.okWide Tryd.prog W .any base 22 v)
    (h : DataW.Trod enc Tryd.prog W 0 (fun _ => true) true 22 v d p) (hsz : ∀ n ∈ d.weights Tryd.prog 22, n ≤ 140737488351232) : ∃ ps : List Nd, IsR W v ps ∧ (∀ n ∈ ps, Fm.good n) ∧ ps.length * 40 ≤ 140737488351232 ∧ (v = .slice none 0 0 ∨ ∃ a n c, v = .slice (some a) n c) := by
  obtain ⟨a0, len, cap, rfl⟩ := okWide_slice Tryd.underlying22 hval
  obtain ⟨fuel, hf⟩ := h
  rcases Deep.open_slice Tryd.underlying22 hf with ⟨hcs, hx⟩ | ⟨a, len', cap', m, n, D, Pl, hcs, hb, hl, hm, hmm, hx, hel⟩
  · simp only [Value.cells, List.cons.injEq, and_true] at hcs
    obtain ⟨rfl, rfl, rfl⟩ := Value.slice.inj (by simpa using hcs)
    exact ⟨[], ⟨none, 0, rfl, by simp, by omega, fun h => by simp at h⟩, (fun t ht => by cases ht), by simp, Or.inl rfl⟩
  · obtain ⟨rfl, rfl, rfl⟩ := Value.slice.inj (by simpa [Value.cells] using hcs)
    simp only [if_true] at hmm
    subst hmm
    obtain ⟨rfl, rfl⟩ := Prod.mk.inj hx
    rw [cells_node] at hel
    have each : ∀ i, i < m → ∃ q : Nd, (∀ j, j < 4 → W.cell? (a.add (i * 4 + j)) = (ndC q)[j]?) ∧ q.s.size ∈ (D i).weights Tryd.prog 53 ∧ Fm.i64 q.k ∧ Fm.i64 q.l ∧ Fm.i64 q.r := by
      intro i hi
      obtain ⟨cs', h1, h2⟩ := hel i hi
      obtain ⟨_, hlen, hcell⟩ := World.cells?_some h1
      obtain ⟨q, hq, hq2⟩ := open_nd_cells h2 hlen
      refine ⟨q, fun j hj => ?_, hq2⟩
      have e := hcell j (by omega)
      rw [Deep.add_add] at e
      rw [e]
      subst hq
      simp [ndC, hj]
    have : Inhabited Nd := ⟨Fm.z⟩
    obtain ⟨q, hq⟩ := Deep.choose_lt each
    have hlen : ((List.range len).map q).length = len := by simp
    rw [DataW.weights, Tryd.underlying22] at hsz
    have hb1 := hsz _ List.mem_cons_self
    rw [bytes_node] at hb1
    simp only [List.length_map, List.length_range] at hb1
    refine ⟨(List.range len).map q, ⟨some a, m, by rw [hlen], by rw [hlen]; exact hl, by unfold maxLen at hm; omega, fun hpos => ?_⟩, fun r hr => ?_, by rw [hlen]; omega, Or.inr ⟨_, _, _, rfl⟩⟩
    · rw [hlen] at hpos
      obtain ⟨b, o, s⟩ := a
      have h00 := (hq 0 (by omega)).1 0 (by omega)
      obtain rfl : s = none := by
        have h01 : W.cell? ((⟨b, o, s⟩ : Addr).add (0 * 4 + 0)) = some (.int .i64 (q 0).k) := h00
        simpa [Addr.add] using World.cell?_spot h01
      refine ⟨b, o, rfl, fun k hk => ?_⟩
      rw [hlen] at hk
      have hk' := (hq k (by omega)).1
      simp only [add_plain] at hk'
      simp only [List.getElem_map, List.getElem_range]
      exact ⟨by have := hk' 0 (by omega); rw [Nat.add_zero] at this; exact this, by have := hk' 1 (by omega); rw [← Nat.add_assoc] at this; exact this, by have := hk' 2 (by omega); rw [← Nat.add_assoc] at this; exact this, by have := hk' 3 (by omega); rw [← Nat.add_assoc] at this; exact this⟩
    · obtain ⟨i, hi, rfl⟩ := List.mem_map.1 hr
      have hi' := List.mem_range.1 hi
      have h1 := (hq i (by omega)).2
      have h2 := weights_mem_all (t := 53) (List.mem_map_of_mem (f := D) hi) _ h1.1
      exact ⟨h1.2.1, hsz _ (List.mem_cons_of_mem _ (List.mem_append_left _ h2)), h1.2.2.1, h1.2.2.2⟩
end Go.Proofs.YtkejippimkjjaaaDoor
