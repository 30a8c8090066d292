/-
  A model as an argument, with all its bounds. No condition.
-/
import Derived.Test.YtjbnbaiidpdpoaaGreatDoorWArgs
namespace Go.Proofs.YtjbnbaiidpdpoaaGreatDoor.Wm
open Go.ChangeShapes Go.WideShapes Go.ChangeAt Go.RowKit
open Wd (Md)

set_option maxRecDepth 100000 in
theorem open_md4 {H : Type} {enc : TypeId × Value → H} {W : World} {v : Value} {d : DataW H} {p : List MemPlace} (h : DataW.Trod enc Tryz.prog W 0 (fun _ => true) true 25 v d p) (hsz : ∀ n ∈ d.weights Tryz.prog 25, n ≤ 140737488351232) :
    ∃ uv vv m, v = .agg #[uv, vv] ∧ IsM W W.heap.size uv vv m ∧ Fit m ∧ m.up.length * 24 ≤ 140737488355328 ∧ m.val.length * 24 ≤ 140737488355328 ∧ (∀ r ∈ m.up, r.length * 8 ≤ 140737488355328) ∧ ∀ r ∈ m.val, r.length * 16 ≤ 140737488355328 := by
  obtain ⟨fuel, hf⟩ := h
  obtain ⟨xs, k, hk, hxy, hl, hxl, hfs⟩ := DataW.trod_struct Tryz.underlying25 hf
  rw [cells_md] at hl
  have hv := agg_of (v := v) rfl (by rw [hl]; decide)
  generalize hcs : v.cells.toList = cs at *
  match xs, hxl, cs, hl with
  | [y0, y1], _, [v0, v1], _ =>
    have g0 : DataW.trod enc Tryz.prog W 0 (fun _ => true) true k 22 [v0] = some y0 := by have := hfs 0 _ rfl; simpa [show Tryz.prog.cellsOf 22 = 1 by kernel_rfl] using this
    have g1 : DataW.trod enc Tryz.prog W 0 (fun _ => true) true k 23 [v1] = some y1 := by have := hfs 1 _ rfl; simpa [show Tryz.prog.cellsOf 23 = 1 by kernel_rfl] using this
    have hD : d = .agg [y0.1, y1.1] := by have := congrArg Prod.fst hxy; simpa using this
    rw [hD, DataW.weights, Tryz.underlying25] at hsz
    obtain ⟨u, hu, hgu, hlu⟩ := opens_slice 24 Tryz.underlying22 (by kernel_rfl) (by kernel_rfl) (opens_slice 8 Tryz.underlying27 (by kernel_rfl) (by kernel_rfl) (opens_int (enc := enc) (W := W))) k v0 y0 g0 fun n hn => hsz _ (DataW.weights_mem_each (j := 0) (t := 22) (d := y0.1) rfl rfl _ hn)
    obtain ⟨s, hs, hgs, hls⟩ := opens_slice 24 Tryz.underlying23 (by kernel_rfl) (by kernel_rfl) (opens_slice 16 Tryz.underlying55 (by kernel_rfl) (by kernel_rfl) (opens_str (enc := enc) (W := W))) k v1 y1 g1 fun n hn => hsz _ (DataW.weights_mem_each (j := 1) (t := 23) (d := y1.1) rfl rfl _ hn)
    refine ⟨v0, v1, ⟨u, s⟩, hv, ⟨hu, hs⟩, ⟨?_, ?_, fun r hr => ⟨?_, (hgu r hr).1⟩, fun r hr => ⟨?_, (hgs r hr).1⟩⟩, ?_, ?_, fun r hr => ?_, fun r hr => ?_⟩
    · show u.length ≤ _; omega
    · show s.length ≤ _; omega
    · have := (hgu r hr).2; omega
    · have := (hgs r hr).2; omega
    · show u.length * 24 ≤ _; omega
    · show s.length * 24 ≤ _; omega
    · have := (hgu r hr).2; omega
    · have := (hgs r hr).2; omega
end Go.Proofs.YtjbnbaiidpdpoaaGreatDoor.Wm
