/-
  How arguments of the types []Node, Hyp are opened: what they hold, where it lies, and how great it is at most. No condition.
-/
import Derived.Test.YtkpbpecikibohaaDoorYArgs
import Derived.Test.YtkpbpecikibohaaDoorZBoth
import Derived.Carry
namespace Go.Proofs.YtkpbpecikibohaaDoor.Ya
open Go.ChangeShapes Go.WideShapes Go.ChangeAt Go.RowKit
open Fm (Nd)
open Ty (Hs)
set_option linter.unusedSimpArgs false

theorem bytes_node : Tryd.prog.bytesOf 54 = 40 := by kernel_rfl
set_option maxRecDepth 100000 in
theorem open_nd_cells {H : Type} {enc : TypeId × Value → H} {W : World} {fuel : Nat} {cs : List Value} {y : DataW H × List MemPlace}
    (h2 : DataW.trod enc Tryd.prog W 0 (fun _ => true) true fuel 54 cs = some y) (hlen : cs.length = 4) :
    ∃ q : Nd, cs = ndC q ∧ q.s.size ∈ y.1.weights Tryd.prog 54 ∧ Fm.i64 q.k ∧ Fm.i64 q.l ∧ Fm.i64 q.r := by
  obtain ⟨xs, k, hk, hxy, _, hxl, hfs⟩ := DataW.trod_struct Tryd.underlying54 h2
  match xs, hxl, cs, hlen with
  | [y0, y1, y2, y3], _, [v0, v1, v2, v3], _ =>
    have g0 : DataW.trod enc Tryd.prog W 0 (fun _ => true) true k 52 [v0] = some y0 := by have := hfs 0 _ rfl; simpa [cells_kind] using this
    have g1 : DataW.trod enc Tryd.prog W 0 (fun _ => true) true k 9 [v1] = some y1 := by have := hfs 1 _ rfl; simpa [cells_str] using this
    have g2 : DataW.trod enc Tryd.prog W 0 (fun _ => true) true k 3 [v2] = some y2 := by have := hfs 2 _ rfl; simpa [cells_int] using this
    have g3 : DataW.trod enc Tryd.prog W 0 (fun _ => true) true k 3 [v3] = some y3 := by have := hfs 3 _ rfl; simpa [cells_int] using this
    obtain ⟨z0, hz0, hz02, hz03⟩ := DataW.trod_int Tryd.underlying52 g0
    obtain ⟨s, hs, hs2, hs3⟩ := DataW.trod_string Tryd.underlying9 g1
    obtain ⟨z2, hz2, hz22, hz23⟩ := DataW.trod_int Tryd.underlying3 g2
    obtain ⟨z3, hz3, hz32, hz33⟩ := DataW.trod_int Tryd.underlying3 g3
    have e0 : v0 = .int .i64 z0 := by simpa using hz0
    have e1 : v1 = .string s := by simpa using hs
    have e2 : v2 = .int .i64 z2 := by simpa using hz2
    have e3 : v3 = .int .i64 z3 := by simpa using hz3
    refine ⟨⟨z0, s, z2, z3⟩, by rw [e0, e1, e2, e3]; rfl, ?_, boundsY64 hz03, boundsY64 hz23, boundsY64 hz33⟩
    have hD : y.1 = .agg [y0.1, y1.1, y2.1, y3.1] := by rw [hxy]; simp
    rw [hD, DataW.weights, Tryd.underlying54]
    exact DataW.weights_mem_each (j := 1) (t := 9) (d := y1.1) rfl rfl _ (by rw [hs2]; show s.size ∈ [s.data.toList.length]; exact List.mem_singleton.2 rfl)
set_option maxRecDepth 100000 in
theorem open_nodes {H : Type} {enc : TypeId × Value → H} {W : World} {base : Nat} {v : Value} {d : DataW H} {p : List MemPlace} (hval : Value.okWide Tryd.prog W .any base 22 v)
    (h : DataW.Trod enc Tryd.prog W 0 (fun _ => true) true 22 v d p) (hsz : ∀ n ∈ d.weights Tryd.prog 22, n ≤ 140737488351232) : ∃ ps : List Nd, IsR W v ps ∧ (∀ n ∈ ps, Fm.good n) ∧ ps.length * 40 ≤ 140737488351232 ∧ (v = .slice none 0 0 ∨ ∃ a n c, v = .slice (some a) n c) := by
  obtain ⟨a0, len, cap, rfl⟩ := okWide_slice Tryd.underlying22 hval
  obtain ⟨fuel, hf⟩ := h
  rcases Deep.open_slice Tryd.underlying22 hf with ⟨hcs, hx⟩ | ⟨a, len', cap', m, n, D, Pl, hcs, hb, hl, hm, hmm, hx, hel⟩
  · simp only [Value.cells, List.cons.injEq, and_true] at hcs
    obtain ⟨rfl, rfl, rfl⟩ := Value.slice.inj (by simpa using hcs)
    exact ⟨[], ⟨none, 0, rfl, by simp, by omega, fun h => by simp at h⟩, (fun t ht => by cases ht), by simp, Or.inl rfl⟩
  · obtain ⟨rfl, rfl, rfl⟩ := Value.slice.inj (by simpa [Value.cells] using hcs)
    simp only [if_true] at hmm
    subst hmm
    obtain ⟨rfl, rfl⟩ := Prod.mk.inj hx
    rw [cells_node] at hel
    have each : ∀ i, i < m → ∃ q : Nd, (∀ j, j < 4 → W.cell? (a.add (i * 4 + j)) = (ndC q)[j]?) ∧ q.s.size ∈ (D i).weights Tryd.prog 54 ∧ Fm.i64 q.k ∧ Fm.i64 q.l ∧ Fm.i64 q.r := by
      intro i hi
      obtain ⟨cs', h1, h2⟩ := hel i hi
      obtain ⟨_, hlen, hcell⟩ := World.cells?_some h1
      obtain ⟨q, hq, hq2⟩ := open_nd_cells h2 hlen
      refine ⟨q, fun j hj => ?_, hq2⟩
      have e := hcell j (by omega)
      rw [Deep.add_add] at e
      rw [e]
      subst hq
      simp [ndC, hj]
    have : Inhabited Nd := ⟨Fm.z⟩
    obtain ⟨q, hq⟩ := Deep.choose_lt each
    have hlen : ((List.range len).map q).length = len := by simp
    rw [DataW.weights, Tryd.underlying22] at hsz
    have hb1 := hsz _ List.mem_cons_self
    rw [bytes_node] at hb1
    simp only [List.length_map, List.length_range] at hb1
    refine ⟨(List.range len).map q, ⟨some a, m, by rw [hlen], by rw [hlen]; exact hl, by unfold maxLen at hm; omega, fun hpos => ?_⟩, fun r hr => ?_, by rw [hlen]; omega, Or.inr ⟨_, _, _, rfl⟩⟩
    · rw [hlen] at hpos
      obtain ⟨b, o, s⟩ := a
      have h00 := (hq 0 (by omega)).1 0 (by omega)
      obtain rfl : s = none := by
        have h01 : W.cell? ((⟨b, o, s⟩ : Addr).add (0 * 4 + 0)) = some (.int .i64 (q 0).k) := h00
        simpa [Addr.add] using World.cell?_spot h01
      refine ⟨b, o, rfl, fun k hk => ?_⟩
      rw [hlen] at hk
      have hk' := (hq k (by omega)).1
      simp only [add_plain] at hk'
      simp only [List.getElem_map, List.getElem_range]
      exact ⟨by have := hk' 0 (by omega); rw [Nat.add_zero] at this; exact this, by have := hk' 1 (by omega); rw [← Nat.add_assoc] at this; exact this, by have := hk' 2 (by omega); rw [← Nat.add_assoc] at this; exact this, by have := hk' 3 (by omega); rw [← Nat.add_assoc] at this; exact this⟩
    · obtain ⟨i, hi, rfl⟩ := List.mem_map.1 hr
      have hi' := List.mem_range.1 hi
      have h1 := (hq i (by omega)).2
      have h2 := weights_all (t := 54) (List.mem_map_of_mem (f := D) hi) _ h1.1
      exact ⟨h1.2.1, hsz _ (List.mem_cons_of_mem _ (List.mem_append_left _ h2)), h1.2.2.1, h1.2.2.2⟩
theorem open_hy {H : Type} {enc : TypeId × Value → H} {W : World} {v : Value} {d : DataW H} {p : List MemPlace}
    (h : DataW.Trod enc Tryd.prog W 0 (fun _ => true) true 29 v d p) (hsz : ∀ n ∈ d.weights Tryd.prog 29, n ≤ 140737488351232) : ∃ (nm : ByteArray) (fo : Int), v = .agg #[.string nm, .int .i64 fo] ∧ nm.size ≤ 140737488351232 ∧ Fm.i64 fo := by
  obtain ⟨fuel, hf⟩ := h
  obtain ⟨_, _, _, _, hcl, _, _⟩ := DataW.trod_struct Tryd.underlying29 hf
  rw [cells_hyp] at hcl
  obtain ⟨q, hq, hq2, hq3⟩ := open_hpc hf hcl
  exact ⟨q.1, q.2, agg_of hq (by simp), hsz _ hq2, hq3⟩
set_option maxRecDepth 100000 in
theorem hys_more {H : Type} {enc : TypeId × Value → H} {W : World} {p0 : Option Addr} {n0 c0 : Nat} {d : DataW H} {p : List MemPlace}
    (h : DataW.Trod enc Tryd.prog W 0 (fun _ => true) true 23 (.slice p0 n0 c0) d p) (hsz : ∀ n ∈ d.weights Tryd.prog 23, n ≤ 140737488351232) : n0 * 24 ≤ 140737488351232 ∧ (p0 = none → c0 = 0) := by
  obtain ⟨fuel, hf⟩ := h
  rcases Deep.open_slice Tryd.underlying23 hf with ⟨hcs, hx⟩ | ⟨a, len', cap', m, n, D, Pl, hcs, hb, hl, hm, hmm, hx, hel⟩
  · simp only [Value.cells, List.cons.injEq, and_true] at hcs
    obtain ⟨rfl, rfl, rfl⟩ := Value.slice.inj (by simpa using hcs)
    exact ⟨by simp, fun _ => rfl⟩
  · obtain ⟨rfl, rfl, rfl⟩ := Value.slice.inj (by simpa [Value.cells] using hcs)
    simp only [if_true] at hmm
    subst hmm
    obtain ⟨rfl, rfl⟩ := Prod.mk.inj hx
    rw [DataW.weights, Tryd.underlying23] at hsz
    have hb1 := hsz _ List.mem_cons_self
    rw [bytes_hyp] at hb1
    simp only [List.length_map, List.length_range] at hb1
    exact ⟨by omega, fun h => by cases h⟩
section
variable {H : Type} {enc : TypeId × Value → H} {P : Program} {w : World} {base : Nat} {spare : Nat → Bool} {held : Bool}
theorem trodAll_five {t0 t1 t2 t3 t4 : TypeId} {args : Array Value} {ds : List (DataW H)} {ps : List MemPlace} (h : DataW.TrodAll enc P w base spare held [t0, t1, t2, t3, t4] args.toList ds ps) :
    ∃ v0 v1 v2 v3 v4 d0 d1 d2 d3 d4 p0 p1 p2 p3 p4, args = #[v0, v1, v2, v3, v4] ∧ ds = [d0, d1, d2, d3, d4] ∧ ps = p0 ++ p1 ++ p2 ++ p3 ++ p4 ∧ DataW.Trod enc P w base spare held t0 v0 d0 p0 ∧ DataW.Trod enc P w base spare held t1 v1 d1 p1 ∧ DataW.Trod enc P w base spare held t2 v2 d2 p2 ∧ DataW.Trod enc P w base spare held t3 v3 d3 p3 ∧ DataW.Trod enc P w base spare held t4 v4 d4 p4 := by
  obtain ⟨v0, vs0, d0, ds0, p0, q0, hargs, rfl, rfl, hd0, hr0⟩ := trodAll_cons h
  obtain ⟨v1, vs1, d1, ds1, p1, q1, rfl, rfl, rfl, hd1, hr1⟩ := trodAll_cons hr0
  obtain ⟨v2, vs2, d2, ds2, p2, q2, rfl, rfl, rfl, hd2, hr2⟩ := trodAll_cons hr1
  obtain ⟨v3, vs3, d3, ds3, p3, q3, rfl, rfl, rfl, hd3, hr3⟩ := trodAll_cons hr2
  obtain ⟨v4, vs4, d4, ds4, p4, q4, rfl, rfl, rfl, hd4, hr4⟩ := trodAll_cons hr3
  obtain ⟨rfl, rfl, rfl⟩ := trodAll_nil hr4
  exact ⟨v0, v1, v2, v3, v4, d0, d1, d2, d3, d4, p0, p1, p2, p3, p4, by cases args; simp_all, rfl, by simp, hd0, hd1, hd2, hd3, hd4⟩
theorem trodAll_mk5 {t0 t1 t2 t3 t4 : TypeId} {v0 v1 v2 v3 v4 : Value} {d0 d1 d2 d3 d4 : DataW H} {p0 p1 p2 p3 p4 : List MemPlace} (h0 : DataW.Trod enc P w base spare held t0 v0 d0 p0) (h1 : DataW.Trod enc P w base spare held t1 v1 d1 p1)
    (h2 : DataW.Trod enc P w base spare held t2 v2 d2 p2) (h3 : DataW.Trod enc P w base spare held t3 v3 d3 p3) (h4 : DataW.Trod enc P w base spare held t4 v4 d4 p4) : DataW.TrodAll enc P w base spare held [t0, t1, t2, t3, t4] [v0, v1, v2, v3, v4] [d0, d1, d2, d3, d4] (p0 ++ (p1 ++ (p2 ++ (p3 ++ p4)))) := ⟨p0, p1 ++ (p2 ++ (p3 ++ p4)), h0, trodAll_mk4 h1 h2 h3 h4, rfl⟩
end
end Go.Proofs.YtkpbpecikibohaaDoor.Ya
