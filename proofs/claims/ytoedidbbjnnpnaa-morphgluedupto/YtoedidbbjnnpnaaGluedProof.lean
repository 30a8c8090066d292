/-
  The claim MorphGlued, where what it reads is of bulk at most 1048576.
-/
import Derived.Test.YtoedidbbjnnpnaaRows
import Derived.Test.YtoedidbbjnnpnaaTH3
import Derived.Test.YtoedidbbjnnpnaaQMGlued
import Derived.Test.YtoedidbbjnnpnaaTH3
import Derived.Deep.CondSized
namespace Go.Proofs.Ytoedidbbjnnpnaa.morphGlued
open Go.ChangeShapes Go.WideShapes Go.ChangeAt Go.RowKit
open Go.ChangeMaps (open_string shut_string)
open Wm
set_option maxRecDepth 100000 in
set_option maxHeartbeats 2000000 in
theorem lifted (os:Os) (started:os.Started) (H:Type) (enc:TypeId × Value→H) (F:Stop.Interp) :
 ReturnsInHanded {} Try.checked os 7 .any ((Rows.OpenSpec.upto Rows.morphGluedSpec).pre6 enc Try.prog Try.f7 Rows.morphGluedUptoRow.domain false) (((Rows.OpenSpec.upto Rows.morphGluedSpec).at F).post enc Try.prog Try.f7 false true false false):=by
 refine returnsInHanded_of_cond_sized (C:=Try.checked) (s:=Rows.OpenSpec.upto Rows.morphGluedSpec) (k:=Rows.uptoSmall) rfl ownW started (by kernel_rfl) Try.func7
  (OpenSpec.witness (enc:=enc) (C:=Try.checked) (s:=Rows.OpenSpec.upto Rows.morphGluedSpec) (k:=Rows.uptoSmall) rfl false ⟨#[],#[.slice none 0 0,.slice none 0 0,.slice none 0 0],[]⟩ 8 (by kernel_rfl) (by kernel_rfl) (by kernel_rfl)
   (x:=([.nil,.nil,.nil],[],[])) (by kernel_rfl) rfl (by kernel_rfl)) ?_
 intro W base args ds gs before hval0 hW _ hk0 hsz0 _
 have hsz:(DataW.weightsEach Try.prog (Try.f7.params.toList ++ Rows.morphGluedSpec.plain.varTypes Try.prog) (ds ++ gs)).all (·≤ reachBytes)=true:=hsz0
 have hval:∀ (j:Nat) t v,Try.f7.params[j]?=some t→args[j]?=some v→Value.okWide Try.prog W .any base t v:=hval0
 have hW':=hW
 obtain ⟨p,q,hA0,hV0,rfl,_,_⟩:=hW
 have hA:DataW.TrodAll enc Try.prog W 0 (fun _=>true) true Try.f7.params.toList args.toList ds p:=hA0
 rw [Try.params7] at hA hval hsz
 obtain ⟨v0,v1,v2,d0,d1,d2,p0,p1,p2,rfl,rfl,rfl,h0,h1,h2⟩:=trodAll_three hA
 obtain ⟨rfl,rfl⟩:=trodVars_none hV0
 obtain ⟨l0,hI0,hB0,hZ0,hN0⟩:=open_models (okWide_slice Try.underlying45 (hval 0 45 v0 rfl rfl)) h0 (sized_all (j:=0) (t:=45) hsz rfl rfl)
 obtain ⟨l1,hI1,hB1,hN1⟩:=open_strs (okWide_slice Try.underlying34 (hval 1 34 v1 rfl rfl)) h1 (sized_all (j:=1) (t:=34) hsz rfl rfl)
 obtain ⟨rs2,hR2,hG2,hL2,hN2⟩:=open_nodes (hval 2 55 v2 rfl rfl) h2 (sized_all (j:=2) (t:=55) hsz rfl rfl)
 have hbulk:Rows.uptoBulkAll [d0,d1,d2]≤1048576:=of_decide_eq_true hk0
 simp only [Rows.uptoBulkAll] at hbulk
 have hC0:l0.length≤1048576:=by
  obtain ⟨_,_,e0,_⟩:=hI0
  have hb:=bulk_models e0 h0
  omega
 clear hA0 hV0 hval0
 refine (morphGlued_any W hI0 hI1 hB0 (Nat.le_refl _) hZ0 hN0 (by omega) hB1 (by omega) hR2 hG2 (by omega)).mono ?_
 rintro e W' ⟨rfl,bel⟩
 have e1:((Rows.OpenSpec.upto Rows.morphGluedSpec).at F).fn H ([d0,d1,d2] ++ [])={ results:=[.lit (.bool true)],args:=[d0,d1,d2] }:=rfl
 have hlt0:∀ x ∈ p0,x.block<W.heap.size:=fun x hx=>by simpa using hW'.lt x (by simp [hx])
 have hlt1:∀ x ∈ p1,x.block<W.heap.size:=fun x hx=>by simpa using hW'.lt x (by simp [hx])
 have hlt2:∀ x ∈ p2,x.block<W.heap.size:=fun x hx=>by simpa using hW'.lt x (by simp [hx])
 refine ⟨_,rfl,_,_,_,[],p0 ++ (p1 ++ p2),[],hW',?_,?_,?_,bel.frame _,fun h=>by cases h⟩
 ·rw [e1];exact trodAll_mk1 (shut_bool Try.underlying4 _)
 ·rw [e1];exact trodAll_mk3 (Below.trod laidOutW (by kernel_rfl) (of_decide_eq_true (by kernel_rfl)) h0 bel hlt0) (Below.trod laidOutW (by kernel_rfl) (of_decide_eq_true (by kernel_rfl)) h1 bel hlt1) (Below.trod laidOutW (by kernel_rfl) (of_decide_eq_true (by kernel_rfl)) h2 bel hlt2)
 ·rw [e1];rfl
end Go.Proofs.Ytoedidbbjnnpnaa.morphGlued
namespace Go.Proofs.Ytoedidbbjnnpnaa
theorem morphGluedUpto_holds:Rows.MorphGluedUptoSaid :=
 OpenClaim.holds_of_cond 7 Try.f7 rfl rfl rfl rfl rfl rfl rfl ⟨rfl,rfl,rfl,rfl,rfl⟩ rfl rfl rfl rfl rfl (by kernel_rfl) Try.func7 (by kernel_rfl)
  (of_decide_eq_true (by kernel_rfl)) (by unfold Func.isWrapper;rw [if_neg (of_decide_eq_false (by kernel_rfl))];exact ⟨rfl,rfl⟩)
  (fun os started H enc _ F=>morphGlued.lifted os started H enc F)
end Go.Proofs.Ytoedidbbjnnpnaa
