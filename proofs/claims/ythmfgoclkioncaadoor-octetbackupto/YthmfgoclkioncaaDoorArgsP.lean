/-
  How an argument of type []Piece is opened: its pieces, where they lie, and that there are at most 2^20, with texts of at most 2^20 bytes, where the reading's bulk is at most 2^20. No other condition.
-/
import Derived.Test.YthmfgoclkioncaaDoorArgs
import Derived.Test.YthmfgoclkioncaaDoorWritesLaw
import Derived.Deep.Slices
namespace Go.Proofs.YthmfgoclkioncaaDoor
open Go.ChangeShapes Go.WideShapes Go.ChangeAt Go.RowKit

instance : Inhabited Pc := ⟨⟨0, 0, ⟨#[]⟩⟩⟩
theorem cells_piece : Tryd.prog.cellsOf 31 = 3 := by kernel_rfl
theorem cells_p0 : Tryd.prog.cellsOf 3 = 1 := by kernel_rfl
theorem cells_p1 : Tryd.prog.cellsOf 29 = 1 := by kernel_rfl
theorem cells_p2 : Tryd.prog.cellsOf 9 = 1 := by kernel_rfl
theorem bulk_one {H : Type} (d : DataW H) : 1 ≤ Rows.uptoBulk d := by
  cases d with
  | lit l => cases l <;> simp [Rows.uptoBulk]
  | nil => simp [Rows.uptoBulk]
  | ptr d => simp [Rows.uptoBulk]
  | slice elems spare => simp [Rows.uptoBulk]
  | agg parts => simp [Rows.uptoBulk]
  | iface t d => simp [Rows.uptoBulk]
  | map entries => simp [Rows.uptoBulk]
  | held h => simp [Rows.uptoBulk]
theorem bulk_mem {H : Type} {d : DataW H} {l : List (DataW H)} (h : d ∈ l) : Rows.uptoBulk d ≤ Rows.uptoBulkAll l := by
  induction l with
  | nil => cases h
  | cons x r ih =>
    simp only [Rows.uptoBulkAll]
    cases List.mem_cons.1 h with
    | inl e => subst e; omega
    | inr e => have := ih e; omega
theorem bulk_length {H : Type} (l : List (DataW H)) : l.length ≤ Rows.uptoBulkAll l := by
  induction l with
  | nil => simp [Rows.uptoBulkAll]
  | cons x r ih => have := bulk_one x; simp only [Rows.uptoBulkAll, List.length_cons]; omega
theorem wf_u64 {x : Int} (h : (Lit.int .u64 x).wf = true) : (x.toNat : Int) = x ∧ x.toNat < 18446744073709551616 := by
  have hb := bounds_u64 h
  omega
set_option maxRecDepth 100000 in
theorem open_pieces {H : Type} {enc : TypeId × Value → H} {W : World} {base : Nat} {v : Value} {d : DataW H} {p : List MemPlace} (hval : Value.okWide Tryd.prog W .any base 22 v)
    (h : DataW.Trod enc Tryd.prog W 0 (fun _ => true) true 22 v d p) (hbulk : Rows.uptoBulkAll [d] ≤ 1048576) : ∃ ps : List Pc, IsP W v ps ∧ Small ps := by
  obtain ⟨a0, len, cap, rfl⟩ := okWide_slice Tryd.underlying22 hval
  obtain ⟨fuel, hf⟩ := h
  rcases Deep.open_slice Tryd.underlying22 hf with ⟨hcs, hx⟩ | ⟨a, len', cap', m, n, D, Pl, hcs, hb, hl, hm, hmm, hx, hel⟩
  · simp only [Value.cells, List.cons.injEq, and_true] at hcs
    obtain ⟨rfl, rfl, rfl⟩ := Value.slice.inj (by simpa using hcs)
    exact ⟨[], ⟨none, 0, rfl, by simp, by omega, fun h => by simp at h⟩, by simp [Small]⟩
  · obtain ⟨rfl, rfl, rfl⟩ := Value.slice.inj (by simpa [Value.cells] using hcs)
    simp only [if_true] at hmm
    subst hmm
    obtain ⟨rfl, rfl⟩ := Prod.mk.inj hx
    rw [cells_piece] at hel
    have each : ∀ i, i < m → ∃ q : Pc, W.cell? (a.add (i * 3)) = some (.int .i64 q.z) ∧ W.cell? (a.add (i * 3 + 1)) = some (.int .u64 (q.n : Int)) ∧ W.cell? (a.add (i * 3 + 2)) = some (.string q.s) ∧ q.n < 18446744073709551616 ∧ q.s.size < Rows.uptoBulk (D i) := by
      intro i hi
      obtain ⟨cs', h1, h2⟩ := hel i hi
      obtain ⟨_, hlen, hcell⟩ := World.cells?_some h1
      obtain ⟨xs, k, hk, hxy, _, hxl, hfs⟩ := DataW.trod_struct Tryd.underlying31 h2
      match xs, hxl, cs', hlen with
      | [y0, y1, y2], _, [v0, v1, v2], _ =>
        have g0 : DataW.trod enc Tryd.prog W 0 (fun _ => true) true k 3 [v0] = some y0 := by have := hfs 0 _ rfl; simpa [cells_p0] using this
        have g1 : DataW.trod enc Tryd.prog W 0 (fun _ => true) true k 29 [v1] = some y1 := by have := hfs 1 _ rfl; simpa [cells_p1] using this
        have g2 : DataW.trod enc Tryd.prog W 0 (fun _ => true) true k 9 [v2] = some y2 := by have := hfs 2 _ rfl; simpa [cells_p2] using this
        obtain ⟨z, hz, hz2, hz3⟩ := DataW.trod_int Tryd.underlying3 g0
        obtain ⟨x, hx0, hx2, hx3⟩ := DataW.trod_int Tryd.underlying29 g1
        obtain ⟨s, hs, hs2, hs3⟩ := DataW.trod_string Tryd.underlying9 g2
        have e0 := hcell 0 (by omega)
        have e1 := hcell 1 (by omega)
        have e2 := hcell 2 (by omega)
        rw [Deep.add_add] at e0 e1 e2
        have hw := wf_u64 hx3
        refine ⟨⟨z, x.toNat, s⟩, ?_, ?_, ?_, hw.2, ?_⟩
        · have : v0 = .int .i64 z := by simpa using hz
          rw [← this]; simpa using e0
        · have : v1 = .int .u64 x := by simpa using hx0
          show W.cell? _ = some (.int .u64 (x.toNat : Int))
          rw [hw.1, ← this]; simpa using e1
        · have : v2 = .string s := by simpa using hs
          rw [← this]; simpa using e2
        · have hD : D i = .agg [y0.1, y1.1, y2.1] := by simpa using (Prod.mk.inj hxy).1
          rw [hD, hs2]
          simp only [Rows.uptoBulk, Rows.uptoBulkAll]
          have hsz : s.data.toList.length = s.size := rfl
          omega
    obtain ⟨q, hq⟩ := Deep.choose_lt each
    have hlen : ((List.range len).map q).length = len := by simp
    simp only [Rows.uptoBulkAll, Rows.uptoBulk] at hbulk
    have hb1 := bulk_length ((List.range len).map D)
    simp only [List.length_map, List.length_range] at hb1
    refine ⟨(List.range len).map q, ⟨some a, m, by rw [hlen], by rw [hlen]; exact hl, by unfold maxLen at hm; omega, fun hpos => ?_⟩, by rw [hlen]; omega, fun r hr => ?_⟩
    · rw [hlen] at hpos
      obtain ⟨b, o, s⟩ := a
      obtain rfl : s = none := by simpa [Addr.add] using World.cell?_spot (hq 0 (by omega)).1
      refine ⟨b, o, rfl, fun k hk => ?_⟩
      rw [hlen] at hk
      have hk' := hq k (by omega)
      simp only [add_plain] at hk'
      simp only [List.getElem_map, List.getElem_range]
      exact ⟨hk'.1, hk'.2.1, hk'.2.2.1⟩
    · obtain ⟨i, hi, rfl⟩ := List.mem_map.1 hr
      have hi' := List.mem_range.1 hi
      have h1 := hq i (by omega)
      have h2 := bulk_mem (List.mem_map_of_mem (f := D) hi)
      exact ⟨h1.2.2.2.1, by have := h1.2.2.2.2; omega⟩
end Go.Proofs.YthmfgoclkioncaaDoor
