/-
  How arguments of the types Token and []Token are opened: what they hold, where it lies, and how great it is at most. No condition.
-/
import Derived.Test.YtgcoalcfhflfiaaDoorRArgs
import Derived.Test.YtgcoalcfhflfiaaDoorFullP
import Derived.SizedLaws
namespace Go.Proofs.YtgcoalcfhflfiaaDoor
open Go.ChangeShapes Go.WideShapes Go.ChangeAt Go.RowKit

theorem bytes_tok : Tryd.prog.bytesOf 37 = 56 := by kernel_rfl
theorem sized_all {H : Type} {ts : List TypeId} {ds : List (DataW H)} (h : (DataW.weightsEach Tryd.prog ts ds).all (· ≤ reachBytes) = true) {j : Nat} {t : TypeId} {d : DataW H} (ht : ts[j]? = some t) (hd : ds[j]? = some d) :
    ∀ n ∈ d.weights Tryd.prog t, n ≤ 140737488351232 := fun n hn => by
  have h1 := List.all_eq_true.1 h _ (DataW.weights_mem_each ht hd n hn)
  have h2 : n ≤ reachBytes := by simpa using h1
  unfold reachBytes at h2
  omega
theorem weights_mem_all {H : Type} {t : TypeId} {d : DataW H} {l : List (DataW H)} (h : d ∈ l) : ∀ n ∈ d.weights Tryd.prog t, n ∈ DataW.weightsAll Tryd.prog t l := by
  induction l with
  | nil => cases h
  | cons x r ih =>
    intro n hn
    rw [DataW.weightsAll]
    cases List.mem_cons.1 h with
    | inl e => subst e; exact List.mem_append_left _ hn
    | inr e => exact List.mem_append_right _ (ih e n hn)
set_option maxRecDepth 100000 in
/-- One token's six cells. -/
theorem open_tok_cellsF {H : Type} {enc : TypeId × Value → H} {W : World} {fuel : Nat} {cs : List Value} {y : DataW H × List MemPlace}
    (h2 : DataW.trod enc Tryd.prog W 0 (fun _ => true) true fuel 37 cs = some y) (hlen : cs.length = 6) :
    ∃ q : Rt, cs = [.int .i64 q.k, .string q.s, .int .i64 q.n, .int .i64 q.l, .int .i64 q.c, .int .i64 q.o] ∧ q.s.size ∈ y.1.weights Tryd.prog 37 ∧ -9223372036854775808 ≤ q.n ∧ q.n ≤ 9223372036854775807 := by
  obtain ⟨xs, k, hk, hxy, _, hxl, hfs⟩ := DataW.trod_struct Tryd.underlying37 h2
  match xs, hxl, cs, hlen with
  | [y0, y1, y2, y3], _, [v0, v1, v2, v3, v4, v5], _ =>
    have g0 : DataW.trod enc Tryd.prog W 0 (fun _ => true) true k 35 [v0] = some y0 := by have := hfs 0 _ rfl; simpa [cells_kind] using this
    have g1 : DataW.trod enc Tryd.prog W 0 (fun _ => true) true k 9 [v1] = some y1 := by have := hfs 1 _ rfl; simpa [cells_str] using this
    have g2 : DataW.trod enc Tryd.prog W 0 (fun _ => true) true k 3 [v2] = some y2 := by have := hfs 2 _ rfl; simpa [cells_int] using this
    have g3 : DataW.trod enc Tryd.prog W 0 (fun _ => true) true k 23 [v3, v4, v5] = some y3 := by have := hfs 3 _ rfl; simpa [cells_spot] using this
    obtain ⟨z0, hz0, hz02, hz03⟩ := DataW.trod_int Tryd.underlying35 g0
    obtain ⟨s, hs, hs2, hs3⟩ := DataW.trod_string Tryd.underlying9 g1
    obtain ⟨z2, hz2, hz22, hz23⟩ := DataW.trod_int Tryd.underlying3 g2
    obtain ⟨xs', k', hk', hxy', _, hxl', hfs'⟩ := DataW.trod_struct Tryd.underlying23 g3
    match xs', hxl' with
    | [u0, u1, u2], _ =>
      have f0 : DataW.trod enc Tryd.prog W 0 (fun _ => true) true k' 3 [v3] = some u0 := by have := hfs' 0 _ rfl; simpa [cells_int] using this
      have f1 : DataW.trod enc Tryd.prog W 0 (fun _ => true) true k' 3 [v4] = some u1 := by have := hfs' 1 _ rfl; simpa [cells_int] using this
      have f2 : DataW.trod enc Tryd.prog W 0 (fun _ => true) true k' 3 [v5] = some u2 := by have := hfs' 2 _ rfl; simpa [cells_int] using this
      obtain ⟨a0, ha0, _, _⟩ := DataW.trod_int Tryd.underlying3 f0
      obtain ⟨a1, ha1, _, _⟩ := DataW.trod_int Tryd.underlying3 f1
      obtain ⟨a2, ha2, _, _⟩ := DataW.trod_int Tryd.underlying3 f2
      have e0 : v0 = .int .i64 z0 := by simpa using hz0
      have e1 : v1 = .string s := by simpa using hs
      have e2 : v2 = .int .i64 z2 := by simpa using hz2
      have e3 : v3 = .int .i64 a0 := by simpa using ha0
      have e4 : v4 = .int .i64 a1 := by simpa using ha1
      have e5 : v5 = .int .i64 a2 := by simpa using ha2
      have hw := wf_i64 hz23
      refine ⟨⟨z0, s, z2, a0, a1, a2⟩, by rw [e0, e1, e2, e3, e4, e5], ?_, hw.1, hw.2⟩
      have hD : y.1 = .agg [y0.1, y1.1, y2.1, y3.1] := by rw [hxy]; simp
      rw [hD, DataW.weights, Tryd.underlying37]
      exact DataW.weights_mem_each (j := 1) (t := 9) (d := y1.1) rfl rfl _ (by rw [hs2]; show s.size ∈ [s.data.toList.length]; exact List.mem_singleton.2 rfl)
/-- An argument of type Token. -/
theorem open_tokenF {H : Type} {enc : TypeId × Value → H} {W : World} {v : Value} {d : DataW H} {p : List MemPlace}
    (h : DataW.Trod enc Tryd.prog W 0 (fun _ => true) true 37 v d p) : ∃ q : Rt, v = .agg #[.int .i64 q.k, .string q.s, .int .i64 q.n, .int .i64 q.l, .int .i64 q.c, .int .i64 q.o] ∧ q.s.size ∈ d.weights Tryd.prog 37 ∧ -9223372036854775808 ≤ q.n ∧ q.n ≤ 9223372036854775807 := by
  obtain ⟨fuel, hf⟩ := h
  obtain ⟨_, _, _, _, hcl, _, _⟩ := DataW.trod_struct Tryd.underlying37 hf
  rw [cells_tok] at hcl
  obtain ⟨q, hq, hq2, hq3, hq4⟩ := open_tok_cellsF hf hcl
  refine ⟨q, ?_, hq2, hq3, hq4⟩
  have e : v.cells = #[.int .i64 q.k, .string q.s, .int .i64 q.n, .int .i64 q.l, .int .i64 q.c, .int .i64 q.o] := Array.ext' (by rw [hq])
  have one : ∀ u : Value, v.cells = #[u] → False := fun u hu => by
    rw [hu] at e
    have := congrArg Array.size e
    simp at this
  cases v with
  | agg cs => exact congrArg Value.agg e
  | _ => exact (one _ rfl).elim
set_option maxRecDepth 100000 in
theorem open_tokensF {H : Type} {enc : TypeId × Value → H} {W : World} {base : Nat} {v : Value} {d : DataW H} {p : List MemPlace} (hval : Value.okWide Tryd.prog W .any base 28 v)
    (h : DataW.Trod enc Tryd.prog W 0 (fun _ => true) true 28 v d p) (hsz : ∀ n ∈ d.weights Tryd.prog 28, n ≤ 140737488351232) : ∃ ps : List Rt, IsT W v ps ∧ SmallF ps := by
  obtain ⟨a0, len, cap, rfl⟩ := okWide_slice Tryd.underlying28 hval
  obtain ⟨fuel, hf⟩ := h
  rcases Deep.open_slice Tryd.underlying28 hf with ⟨hcs, hx⟩ | ⟨a, len', cap', m, n, D, Pl, hcs, hb, hl, hm, hmm, hx, hel⟩
  · simp only [Value.cells, List.cons.injEq, and_true] at hcs
    obtain ⟨rfl, rfl, rfl⟩ := Value.slice.inj (by simpa using hcs)
    exact ⟨[], ⟨none, 0, rfl, by simp, by omega, fun h => by simp at h⟩, ⟨by simp, fun t ht => by cases ht⟩⟩
  · obtain ⟨rfl, rfl, rfl⟩ := Value.slice.inj (by simpa [Value.cells] using hcs)
    simp only [if_true] at hmm
    subst hmm
    obtain ⟨rfl, rfl⟩ := Prod.mk.inj hx
    rw [cells_tok] at hel
    have each : ∀ i, i < m → ∃ q : Rt, (∀ j, j < 6 → W.cell? (a.add (i * 6 + j)) = (rtV q)[j]?) ∧ q.s.size ∈ (D i).weights Tryd.prog 37 ∧ -9223372036854775808 ≤ q.n ∧ q.n ≤ 9223372036854775807 := by
      intro i hi
      obtain ⟨cs', h1, h2⟩ := hel i hi
      obtain ⟨_, hlen, hcell⟩ := World.cells?_some h1
      obtain ⟨q, hq, hq2, hq3, hq4⟩ := open_tok_cellsF h2 hlen
      refine ⟨q, fun j hj => ?_, hq2, hq3, hq4⟩
      have e := hcell j (by omega)
      rw [Deep.add_add] at e
      rw [e]
      subst hq
      simp [rtV, hj]
    obtain ⟨q, hq⟩ := Deep.choose_lt each
    have hlen : ((List.range len).map q).length = len := by simp
    rw [DataW.weights, Tryd.underlying28] at hsz
    have hb1 := hsz _ List.mem_cons_self
    rw [bytes_tok] at hb1
    simp only [List.length_map, List.length_range] at hb1
    refine ⟨(List.range len).map q, ⟨some a, m, by rw [hlen], by rw [hlen]; exact hl, by unfold maxLen at hm; omega, fun hpos => ?_⟩, ⟨by rw [hlen]; omega, fun r hr => ?_⟩⟩
    · rw [hlen] at hpos
      obtain ⟨b, o, s⟩ := a
      have h00 := (hq 0 (by omega)).1 0 (by omega)
      obtain rfl : s = none := by
        have h01 : W.cell? ((⟨b, o, s⟩ : Addr).add (0 * 6 + 0)) = some (.int .i64 (q 0).k) := h00
        simpa [Addr.add] using World.cell?_spot h01
      refine ⟨b, o, rfl, fun k hk => ?_⟩
      rw [hlen] at hk
      have hk' := (hq k (by omega)).1
      simp only [add_plain] at hk'
      simp only [List.getElem_map, List.getElem_range]
      exact ⟨by have := hk' 0 (by omega); rw [Nat.add_zero] at this; exact this, by have := hk' 1 (by omega); rw [← Nat.add_assoc] at this; exact this, by have := hk' 2 (by omega); rw [← Nat.add_assoc] at this; exact this, by have := hk' 3 (by omega); rw [← Nat.add_assoc] at this; exact this, by have := hk' 4 (by omega); rw [← Nat.add_assoc] at this; exact this, by have := hk' 5 (by omega); rw [← Nat.add_assoc] at this; exact this⟩
    · obtain ⟨i, hi, rfl⟩ := List.mem_map.1 hr
      have hi' := List.mem_range.1 hi
      have h1 := (hq i (by omega)).2
      have h2 := weights_mem_all (t := 37) (List.mem_map_of_mem (f := D) hi) _ h1.1
      exact ⟨hsz _ (List.mem_cons_of_mem _ (List.mem_append_left _ h2)), h1.2.1, h1.2.2⟩
end Go.Proofs.YtgcoalcfhflfiaaDoor
