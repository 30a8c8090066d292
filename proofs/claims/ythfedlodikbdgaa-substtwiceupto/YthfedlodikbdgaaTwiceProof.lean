/-
  SubstTwice, in its second form: for every slice of rows, every number and every two slices of names and formulas that are together of bulk at most 1048576 the call returns true, and the arguments read afterwards as they did. No other condition.
-/
import Derived.Test.YthfedlodikbdgaaUArgs
import Derived.Test.YthfedlodikbdgaaTwG
import Derived.Test.YthfedlodikbdgaaTwG
import Derived.Deep.CondSized
namespace Go.Proofs.Ythfedlodikbdgaa.substTwice
open Go.ChangeShapes Go.WideShapes Go.ChangeAt Go.RowKit
open Go.ChangeMaps (open_string shut_string)

set_option maxRecDepth 100000 in
set_option maxHeartbeats 2000000 in
theorem lifted (os : Os) (started : os.Started) (H : Type) (enc : TypeId × Value → H) (F : Stop.Interp) :
    ReturnsInHanded {} Try.checked os 7 .any ((Rows.OpenSpec.upto Rows.substTwiceSpec).pre6 enc Try.prog Try.f7 Rows.substTwiceUptoRow.domain false) (((Rows.OpenSpec.upto Rows.substTwiceSpec).at F).post enc Try.prog Try.f7 false true false false) := by
  refine returnsInHanded_of_cond_sized (C := Try.checked) (s := Rows.OpenSpec.upto Rows.substTwiceSpec) (k := Rows.uptoSmall) rfl own started (by kernel_rfl) Try.func7
    (OpenSpec.witness (enc := enc) (C := Try.checked) (s := Rows.OpenSpec.upto Rows.substTwiceSpec) (k := Rows.uptoSmall) rfl false ⟨#[], #[.slice none 0 0, .int .i64 0, .slice none 0 0, .slice none 0 0], []⟩ 8 (by kernel_rfl) (by kernel_rfl) (by kernel_rfl)
      (x := ([.nil, .lit (.int .i64 0), .nil, .nil], [], [])) (by kernel_rfl) rfl (by kernel_rfl)) ?_
  intro W base args ds gs before hval0 hW _ hk0 hsz0 _
  have hsz : (DataW.weightsEach Try.prog (Try.f7.params.toList ++ Rows.substTwiceSpec.plain.varTypes Try.prog) (ds ++ gs)).all (· ≤ reachBytes) = true := hsz0
  have hval : ∀ (j : Nat) t v, Try.f7.params[j]? = some t → args[j]? = some v → Value.okWide Try.prog W .any base t v := hval0
  have hW' := hW
  obtain ⟨p, q, hA0, hV0, rfl, _, _⟩ := hW
  have hA : DataW.TrodAll enc Try.prog W 0 (fun _ => true) true Try.f7.params.toList args.toList ds p := hA0
  rw [Try.params7] at hA hval hsz
  obtain ⟨v0, v1, v2, v3, d0, d1, d2, d3, p0, p1, p2, p3, rfl, rfl, rfl, h0, h1, h2, h3⟩ := trodAll_four hA
  obtain ⟨rfl, rfl⟩ := trodVars_none hV0
  obtain ⟨x1, rfl, rfl, rfl, wx1⟩ := open_int Try.underlying3 (hval 1 3 v1 rfl rfl) h1
  obtain ⟨rs0, hR0, hG0, hL0, hN0⟩ := open_nodes (hval 0 22 v0 rfl rfl) h0 (sized_all (j := 0) (t := 22) hsz rfl rfl)
  have b1 := bounds64 wx1
  obtain ⟨l2, hH2, hG2, hN2⟩ := open_hyps (hval 2 23 v2 rfl rfl) h2 (sized_all (j := 2) (t := 23) hsz rfl rfl)
  obtain ⟨l3, hH3, hG3, hN3⟩ := open_hyps (hval 3 23 v3 rfl rfl) h3 (sized_all (j := 3) (t := 23) hsz rfl rfl)
  have hbulk : Rows.uptoBulkAll [d0, .lit (.int .i64 x1), d2, d3] ≤ 1048576 := of_decide_eq_true hk0
  simp only [Rows.uptoBulkAll] at hbulk
  have hB2 : l2.length ≤ 1048576 := by
    obtain ⟨_, _, e2, _⟩ := hH2
    have hb := bulk_hyps e2 h2
    omega
  have hB3 : l3.length ≤ 1048576 := by
    obtain ⟨_, _, e3, _⟩ := hH3
    have hb := bulk_hyps e3 h3
    omega
  clear hA0 hV0 hval0
  refine (substTwice_any W v0 rs0 hR0 hG0 hL0 hN0 x1 v2 l2 hH2 hG2 hB2 v3 l3 hH3 hG3 hB3).mono ?_
  rintro e W' ⟨rfl, bel⟩
  have e1 : ((Rows.OpenSpec.upto Rows.substTwiceSpec).at F).fn H ([d0, .lit (.int .i64 x1), d2, d3] ++ []) = { results := [.lit (.bool true)], args := [d0, .lit (.int .i64 x1), d2, d3] } := rfl
  have hlt0 : ∀ x ∈ p0, x.block < W.heap.size := fun x hx => by simpa using hW'.lt x (by simp [hx])
  have hlt2 : ∀ x ∈ p2, x.block < W.heap.size := fun x hx => by simpa using hW'.lt x (by simp [hx])
  have hlt3 : ∀ x ∈ p3, x.block < W.heap.size := fun x hx => by simpa using hW'.lt x (by simp [hx])
  refine ⟨_, rfl, _, _, _, [], p0 ++ ([] ++ (p2 ++ p3)), [], hW', ?_, ?_, ?_, bel.frame _, fun h => by cases h⟩
  · rw [e1]; exact trodAll_mk1 (shut_bool Try.underlying4 _)
  · rw [e1]; exact trodAll_mk4 (Below.trod laidOut (by kernel_rfl) (of_decide_eq_true (by kernel_rfl)) h0 bel hlt0) (shut_int Try.underlying3 wx1) (Below.trod laidOut (by kernel_rfl) (of_decide_eq_true (by kernel_rfl)) h2 bel hlt2) (Below.trod laidOut (by kernel_rfl) (of_decide_eq_true (by kernel_rfl)) h3 bel hlt3)
  · rw [e1]; rfl

end Go.Proofs.Ythfedlodikbdgaa.substTwice
namespace Go.Proofs.Ythfedlodikbdgaa
theorem substTwiceUpto_holds : Rows.SubstTwiceUptoSaid :=
  OpenClaim.holds_of_cond 7 Try.f7 rfl rfl rfl rfl rfl rfl rfl ⟨rfl, rfl, rfl, rfl, rfl⟩ rfl rfl rfl rfl rfl (by kernel_rfl) Try.func7 (by kernel_rfl)
    (of_decide_eq_true (by kernel_rfl)) (by unfold Func.isWrapper; rw [if_neg (of_decide_eq_false (by kernel_rfl))]; exact ⟨rfl, rfl⟩)
    (fun os started H enc _ F => substTwice.lifted os started H enc F)
end Go.Proofs.Ythfedlodikbdgaa
