/-
  SubstPuts: for every slice of rows, every number and every slice of names and formulas that a machine can hold the call returns true, and the arguments read afterwards as they did. No condition.
-/
import Derived.Test.YthfedlodikbdgaaUArgs5
import Derived.Test.YthfedlodikbdgaaPutsLaw
namespace Go.Proofs.Ythfedlodikbdgaa.substPuts
open Go.ChangeShapes Go.WideShapes Go.ChangeAt Go.RowKit
open Go.ChangeMaps (open_string shut_string)

set_option maxRecDepth 100000 in
set_option maxHeartbeats 2000000 in
theorem lifted (os : Os) (started : os.Started) (H : Type) (enc : TypeId × Value → H) :
    ReturnsInHanded {} Try.checked os 3 .any (Rows.substPutsSpec.pre6 enc Try.prog Try.f3 Rows.substPutsRow.domain false) (Rows.substPutsSpec.post enc Try.prog Try.f3 false true false false) := by
  refine returnsInHanded_of_change_sized (C := Try.checked) own started (by kernel_rfl) Try.func3
    (ChangeSpec.witness6 (enc := enc) (C := Try.checked) false ⟨#[], #[.slice none 0 0, .int .i64 0, .slice none 0 0, .int .i64 0, .int .i64 0], []⟩ 8 (by kernel_rfl) (by kernel_rfl) (by kernel_rfl) (by kernel_rfl)) ?_
  intro W base args ds gs before hval0 hW _ hsz0 _
  have hsz : (DataW.weightsEach Try.prog (Try.f3.params.toList ++ Rows.substPutsSpec.plain.varTypes Try.prog) (ds ++ gs)).all (· ≤ reachBytes) = true := hsz0
  have hval : ∀ (j : Nat) t v, Try.f3.params[j]? = some t → args[j]? = some v → Value.okWide Try.prog W .any base t v := hval0
  have hW' := hW
  obtain ⟨p, q, hA0, hV0, rfl, _, _⟩ := hW
  have hA : DataW.TrodAll enc Try.prog W 0 (fun _ => true) true Try.f3.params.toList args.toList ds p := hA0
  rw [Try.params3] at hA hval hsz
  obtain ⟨v0, v1, v2, v3, v4, d0, d1, d2, d3, d4, p0, p1, p2, p3, p4, rfl, rfl, rfl, h0, h1, h2, h3, h4⟩ := trodAll_five hA
  obtain ⟨rfl, rfl⟩ := trodVars_none hV0
  obtain ⟨x1, rfl, rfl, rfl, wx1⟩ := open_int Try.underlying3 (hval 1 3 v1 rfl rfl) h1
  obtain ⟨x3, rfl, rfl, rfl, wx3⟩ := open_int Try.underlying3 (hval 3 3 v3 rfl rfl) h3
  obtain ⟨x4, rfl, rfl, rfl, wx4⟩ := open_int Try.underlying3 (hval 4 3 v4 rfl rfl) h4
  obtain ⟨rs0, hR0, hG0, hL0, hN0⟩ := open_nodes (hval 0 22 v0 rfl rfl) h0 (sized_all (j := 0) (t := 22) hsz rfl rfl)
  have b1 := bounds64 wx1
  obtain ⟨l2, hH2, hG2, hN2⟩ := open_hyps (hval 2 23 v2 rfl rfl) h2 (sized_all (j := 2) (t := 23) hsz rfl rfl)
  have b3 := bounds64 wx3
  have b4 := bounds64 wx4
  clear hA0 hV0 hval0
  refine (substPuts_any W v0 rs0 hR0 hG0 hL0 hN0 x1 v2 l2 hH2 hG2 hN2 x3 x4 b4).mono ?_
  rintro e W' ⟨rfl, bel⟩
  have e1 : Rows.substPutsSpec.fn H ([d0, .lit (.int .i64 x1), d2, .lit (.int .i64 x3), .lit (.int .i64 x4)] ++ []) = { results := [.lit (.bool true)], args := [d0, .lit (.int .i64 x1), d2, .lit (.int .i64 x3), .lit (.int .i64 x4)] } := rfl
  have hlt0 : ∀ x ∈ p0, x.block < W.heap.size := fun x hx => by simpa using hW'.lt x (by simp [hx])
  have hlt2 : ∀ x ∈ p2, x.block < W.heap.size := fun x hx => by simpa using hW'.lt x (by simp [hx])
  refine ⟨_, rfl, _, _, _, [], p0 ++ ([] ++ (p2 ++ ([] ++ []))), [], hW', ?_, ?_, ?_, bel.frame _, fun h => by cases h⟩
  · rw [e1]; exact trodAll_mk1 (shut_bool Try.underlying4 _)
  · rw [e1]; exact trodAll_mk5 (Below.trod laidOut (by kernel_rfl) (of_decide_eq_true (by kernel_rfl)) h0 bel hlt0) (shut_int Try.underlying3 wx1) (Below.trod laidOut (by kernel_rfl) (of_decide_eq_true (by kernel_rfl)) h2 bel hlt2) (shut_int Try.underlying3 wx3) (shut_int Try.underlying3 wx4)
  · rw [e1]; rfl

end Go.Proofs.Ythfedlodikbdgaa.substPuts
namespace Go.Proofs.Ythfedlodikbdgaa
theorem substPuts_holds : Rows.SubstPutsSaid :=
  OpenClaim.holds_of_wide 3 Try.f3 rfl rfl rfl rfl rfl rfl rfl ⟨rfl, rfl, rfl, rfl, rfl⟩ rfl rfl rfl rfl rfl (by kernel_rfl) Try.func3 (by kernel_rfl)
    (of_decide_eq_true (by kernel_rfl)) (by unfold Func.isWrapper; rw [if_neg (of_decide_eq_false (by kernel_rfl))]; exact ⟨rfl, rfl⟩)
    (fun os started H enc _ => substPuts.lifted os started H enc)
end Go.Proofs.Ythfedlodikbdgaa
