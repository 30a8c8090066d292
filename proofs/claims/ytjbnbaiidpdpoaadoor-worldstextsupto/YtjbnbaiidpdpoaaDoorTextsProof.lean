/-
  WorldsTexts, second form: for every model and every text that are together of bulk at most 1048576 the call returns true, and the arguments read afterwards as they did; the tables that the row lists stand as the text of the program lays them (the card says that they do).
-/
import Derived.Test.YtjbnbaiidpdpoaaDoorTG3
import Derived.Test.YtjbnbaiidpdpoaaDoorWTexts
namespace Go.Proofs.YtjbnbaiidpdpoaaDoor.worldsTextsUpto
open Go.ChangeShapes Go.WideShapes Go.ChangeAt Go.RowKit
open Go.ChangeMaps (open_string shut_string)
open Wm

theorem laid_met (os : Os) (args : Array Value) : laidMet Tryd.prog Rows.worldsTextsUptoRow.laid ((laidWorldW os).forCall (fun _ _ => 0) ⟨#[], args, []⟩).memory :=
  laidMet_of_run3 10 (by kernel_rfl) (by kernel_rfl) (by kernel_rfl)
theorem witness_row (os : Os) {H : Type} (enc : TypeId × Value → H) :
    (Rows.OpenSpec.upto Rows.worldsTextsSpec).preRow enc Tryd.prog Tryd.f3 Rows.worldsTextsUptoRow.domain false Rows.worldsTextsUptoRow.laid ((laidWorldW os).forCall (fun _ _ => 0) ⟨#[], #[.agg #[.slice none 0 0, .slice none 0 0], .string ⟨#[]⟩], []⟩).memory #[.agg #[.slice none 0 0, .slice none 0 0], .string ⟨#[]⟩] := by
  have hw : (DataW.whole enc Tryd.prog ((laidWorldW os).forCall (fun _ _ => 0) ⟨#[], #[.agg #[.slice none 0 0, .slice none 0 0], .string ⟨#[]⟩], []⟩).memory Tryd.f3.params.toList Rows.worldsTextsSpec.vars false #[Value.agg #[.slice none 0 0, .slice none 0 0], Value.string ⟨#[]⟩].toList 8).map (fun x => (x.1, x.2.1)) =
      some ([.agg [.nil, .nil], .lit (.string [])], []) := by kernel_rfl
  obtain ⟨⟨x1, x2, x3⟩, hx, hx1⟩ := Option.map_eq_some_iff.1 hw
  simp only [Prod.mk.injEq] at hx1
  obtain ⟨rfl, rfl⟩ := hx1
  exact OpenSpec.preRow_of_cond 8 hx (by kernel_rfl) (fun k hk => by cases hk; kernel_rfl) (by kernel_rfl) (laid_met os _)

set_option maxRecDepth 100000 in
set_option maxHeartbeats 2000000 in
theorem lifted (os : Os) (started : os.Started) (H : Type) (enc : TypeId × Value → H) (F : Stop.Interp) :
    ReturnsInHanded {} Tryd.checked os 3 .any ((Rows.OpenSpec.upto Rows.worldsTextsSpec).preRow enc Tryd.prog Tryd.f3 Rows.worldsTextsUptoRow.domain false Rows.worldsTextsUptoRow.laid) (((Rows.OpenSpec.upto Rows.worldsTextsSpec).at F).post enc Tryd.prog Tryd.f3 false true false false) := by
  refine returnsInHanded_of_row (C := Tryd.checked) (s := Rows.OpenSpec.upto Rows.worldsTextsSpec) ownW started (by kernel_rfl) Tryd.func3
    (witness_row_atRef (enc := enc) (C := Tryd.checked) false (laidWorldW os) #[.agg #[.slice none 0 0, .slice none 0 0], .string ⟨#[]⟩] rfl (by kernel_rfl) (by kernel_rfl) (by kernel_rfl) (witness_row os enc)) ?_
  intro W base args ds gs before hval0 hW _ hcond hsz0 hL hsh _
  have hval : ∀ (j : Nat) t v, Tryd.f3.params[j]? = some t → args[j]? = some v → Value.okWide Tryd.prog W .any base t v := hval0
  have hW' := hW
  obtain ⟨p, q, hA0, hV0, rfl, _, _⟩ := hW
  have hA : DataW.TrodAll enc Tryd.prog W 0 (fun _ => true) true Tryd.f3.params.toList args.toList ds p := hA0
  rw [Tryd.params3] at hA hval
  obtain ⟨v0, v1, d0, d1, p0, p1, rfl, rfl, rfl, h0, h1⟩ := trodAll_two hA
  obtain ⟨rfl, rfl⟩ := trodVars_none hV0
  obtain ⟨s1, rfl, rfl, rfl, ws1⟩ := open_string Tryd.underlying9 (hval 1 9 v1 rfl rfl) h1
  have hbulk : Rows.uptoBulkAll [d0, .lit (.string s1.data.toList)] ≤ 1048576 := of_decide_eq_true (hcond _ rfl)
  have hu1 : s1.size ≤ 1048576 := by
    have hsz : s1.data.toList.length = s1.size := rfl
    simp only [Rows.uptoBulkAll, Rows.uptoBulk] at hbulk
    omega
  obtain ⟨uv0, vv0, m0, rfl, hM0, hF0, hX0⟩ := open_mdC h0 (sized_all (j := 0) (t := 25) hsz0 rfl rfl) (by simp only [Rows.uptoBulkAll] at hbulk; omega)
  have hs1 : s1.size ≤ 140737488351232 := sized_string (j := 1) (t := 9) hsz0 rfl rfl
  clear hA0 hV0 hval0
  have hT : Tb W := ⟨pows_of hL (.tail _ (.tail _ (.head _))), sp_of hL (.tail _ (.tail _ (.tail _ (.tail _ (.head _))))), wh_of hL (.tail _ (.tail _ (.tail _ (.head _)))), ml_of hsh⟩
  refine (worldsTexts_any W hM0 hF0 (Nat.le_refl _) hX0 hT s1 hs1).mono ?_
  rintro e W' ⟨rfl, bel⟩
  have e1 : ((Rows.OpenSpec.upto Rows.worldsTextsSpec).at F).fn H ([d0, .lit (.string s1.data.toList)] ++ []) = { results := [.lit (.bool true)], args := [d0, .lit (.string s1.data.toList)] } := rfl
  have hlt0 : ∀ x ∈ p0, x.block < W.heap.size := fun x hx => by simpa using hW'.lt x (by simp [hx])
  refine ⟨_, rfl, _, _, _, [], p0 ++ [], [], hW', ?_, ?_, ?_, bel.frame _, fun h => by cases h⟩
  · rw [e1]; exact trodAll_mk1 (shut_bool Tryd.underlying4 _)
  · rw [e1]; exact trodAll_mk2 (Below.trod laidOutW (by kernel_rfl) (of_decide_eq_true (by kernel_rfl)) h0 bel hlt0) (shut_string Tryd.underlying9 ws1)
  · rw [e1]; rfl

theorem said : Rows.WorldsTextsUptoSaid :=
  OpenClaim.holds_of_cond 3 Tryd.f3 rfl rfl rfl rfl rfl rfl rfl ⟨rfl, rfl, rfl, rfl, rfl⟩ rfl rfl rfl rfl rfl (by kernel_rfl) Tryd.func3 (by kernel_rfl)
    (of_decide_eq_true (by kernel_rfl)) (by unfold Func.isWrapper; rw [if_neg (of_decide_eq_false (by kernel_rfl))]; exact ⟨rfl, rfl⟩)
    (fun os started H enc _ F => by rw [OpenClaim.pre_eq_preRow]; exact lifted os started H enc F)
theorem plain (f : FuncId) (fn : Func) (hf : Tryd.pinned.checked.prog.funcNamed "dictum/dictumlaw17.WorldsTexts" = some f) (hfn : Tryd.pinned.checked.prog.funcs[f]? = some fn) :
    false = Tryd.pinned.checked.prog.looks [] ∧ ∀ (j : Nat) t, fn.params[j]? = some t → Tryd.pinned.checked.prog.wantsStandIn t = false := by
  obtain rfl : f = 3 := Option.some.inj ((show Tryd.prog.funcNamed "dictum/dictumlaw17.WorldsTexts" = some 3 by kernel_rfl).symm.trans hf) |>.symm
  obtain rfl : fn = Tryd.f3 := (Option.some.inj (Tryd.func3.symm.trans hfn)).symm
  refine ⟨by kernel_rfl, fun j t ht => ?_⟩
  rw [Tryd.params3] at ht
  have ht' : t = 25 ∨ t = 9 := by simpa using Array.mem_of_getElem? ht
  rcases ht' with rfl | rfl
  · exact (show Tryd.prog.wantsStandIn 25 = false by kernel_rfl)
  · exact (show Tryd.prog.wantsStandIn 9 = false by kernel_rfl)
end Go.Proofs.YtjbnbaiidpdpoaaDoor.worldsTextsUpto
namespace Go.Proofs.YtjbnbaiidpdpoaaDoor
theorem worldsTextsUpto_holds : Rows.WorldsTextsUptoCardSaid :=
  Claim7.holds_tied_plain_at .later [] _ _ _ _ worldsTextsUpto.said (fun _ h => by cases h) (by kernel_rfl) (fun _ h => by cases h) worldsTextsUpto_row_tie rfl ⟨rfl, rfl⟩ (by kernel_rfl) rfl worldsTextsUpto.plain (by kernel_rfl)
end Go.Proofs.YtjbnbaiidpdpoaaDoor
