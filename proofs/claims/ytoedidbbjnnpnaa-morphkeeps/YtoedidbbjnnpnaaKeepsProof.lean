/-
  The claim MorphKeeps.
-/
import Derived.Test.YtoedidbbjnnpnaaRows
import Derived.Test.YtoedidbbjnnpnaaTH6
import Derived.Test.YtoedidbbjnnpnaaQMKeeps
namespace Go.Proofs.Ytoedidbbjnnpnaa.morphKeeps
open Go.ChangeShapes Go.WideShapes Go.ChangeAt Go.RowKit
open Go.ChangeMaps (open_string shut_string)
open Wm
set_option maxRecDepth 100000 in
set_option maxHeartbeats 2000000 in
theorem lifted (os:Os) (started:os.Started) (H:Type) (enc:TypeId × Value→H) :
 ReturnsInHanded {} Try.checked os 6 .any (Rows.morphKeepsSpec.pre6 enc Try.prog Try.f6 Rows.morphKeepsRow.domain false) (Rows.morphKeepsSpec.post enc Try.prog Try.f6 false true false false):=by
 refine returnsInHanded_of_change_sized (C:=Try.checked) ownW started (by kernel_rfl) Try.func6
  (ChangeSpec.witness6 (enc:=enc) (C:=Try.checked) false ⟨#[],#[.agg #[.slice none 0 0,.slice none 0 0],.agg #[.slice none 0 0,.slice none 0 0],.slice none 0 0,.int .i64 0,.slice none 0 0],[]⟩ 8 (by kernel_rfl) (by kernel_rfl) (by kernel_rfl) (by kernel_rfl)) ?_
 intro W base args ds gs before hval0 hW _ hsz0 _
 have hsz:(DataW.weightsEach Try.prog (Try.f6.params.toList ++ Rows.morphKeepsSpec.plain.varTypes Try.prog) (ds ++ gs)).all (·≤ reachBytes)=true:=hsz0
 have hval:∀ (j:Nat) t v,Try.f6.params[j]?=some t→args[j]?=some v→Value.okWide Try.prog W .any base t v:=hval0
 have hW':=hW
 obtain ⟨p,q,hA0,hV0,rfl,_,_⟩:=hW
 have hA:DataW.TrodAll enc Try.prog W 0 (fun _=>true) true Try.f6.params.toList args.toList ds p:=hA0
 rw [Try.params6] at hA hval hsz
 obtain ⟨v0,v1,v2,v3,v4,d0,d1,d2,d3,d4,p0,p1,p2,p3,p4,rfl,rfl,rfl,h0,h1,h2,h3,h4⟩:=trodAll_five hA
 obtain ⟨rfl,rfl⟩:=trodVars_none hV0
 obtain ⟨x3,rfl,rfl,rfl,wx3⟩:=open_int Try.underlying3 (hval 3 3 v3 rfl rfl) h3
 obtain ⟨uv0,vv0,m0,rfl,hM0,hF0,hY0⟩:=open_md4 h0 (sized_all (j:=0) (t:=25) hsz rfl rfl)
 obtain ⟨uv1,vv1,m1,rfl,hM1,hF1,hY1⟩:=open_md4 h1 (sized_all (j:=1) (t:=25) hsz rfl rfl)
 obtain ⟨l2,hI2,hB2,hN2⟩:=open_ints (okWide_slice Try.underlying27 (hval 2 27 v2 rfl rfl)) h2 (sized_all (j:=2) (t:=27) hsz rfl rfl)
 have b3:=bounds_i64 wx3
 obtain ⟨rs4,hR4,hG4,hL4,hN4⟩:=open_nodes (hval 4 55 v4 rfl rfl) h4 (sized_all (j:=4) (t:=55) hsz rfl rfl)
 clear hA0 hV0 hval0
 refine (morphKeeps_any W hM0 hF0 hM1 hF1 hI2 (Nat.le_refl _) (by omega) hB2 hY0.2.2.2 hY0.2.2.1 x3 (by omega) hR4 hG4 (by omega)).mono ?_
 rintro e W' ⟨rfl,bel⟩
 have e1:Rows.morphKeepsSpec.fn H ([d0,d1,d2,.lit (.int .i64 x3),d4] ++ [])={ results:=[.lit (.bool true)],args:=[d0,d1,d2,.lit (.int .i64 x3),d4] }:=rfl
 have hlt0:∀ x ∈ p0,x.block<W.heap.size:=fun x hx=>by simpa using hW'.lt x (by simp [hx])
 have hlt1:∀ x ∈ p1,x.block<W.heap.size:=fun x hx=>by simpa using hW'.lt x (by simp [hx])
 have hlt2:∀ x ∈ p2,x.block<W.heap.size:=fun x hx=>by simpa using hW'.lt x (by simp [hx])
 have hlt4:∀ x ∈ p4,x.block<W.heap.size:=fun x hx=>by simpa using hW'.lt x (by simp [hx])
 refine ⟨_,rfl,_,_,_,[],p0 ++ (p1 ++ (p2 ++ ([] ++ p4))),[],hW',?_,?_,?_,bel.frame _,fun h=>by cases h⟩
 ·rw [e1];exact trodAll_mk1 (shut_bool Try.underlying4 _)
 ·rw [e1];exact trodAll_mk5 (Below.trod laidOutW (by kernel_rfl) (of_decide_eq_true (by kernel_rfl)) h0 bel hlt0) (Below.trod laidOutW (by kernel_rfl) (of_decide_eq_true (by kernel_rfl)) h1 bel hlt1) (Below.trod laidOutW (by kernel_rfl) (of_decide_eq_true (by kernel_rfl)) h2 bel hlt2) (shut_int Try.underlying3 wx3) (Below.trod laidOutW (by kernel_rfl) (of_decide_eq_true (by kernel_rfl)) h4 bel hlt4)
 ·rw [e1];rfl
end Go.Proofs.Ytoedidbbjnnpnaa.morphKeeps
namespace Go.Proofs.Ytoedidbbjnnpnaa
theorem morphKeeps_holds:Rows.MorphKeepsSaid :=
 OpenClaim.holds_of_wide 6 Try.f6 rfl rfl rfl rfl rfl rfl rfl ⟨rfl,rfl,rfl,rfl,rfl⟩ rfl rfl rfl rfl rfl (by kernel_rfl) Try.func6 (by kernel_rfl)
  (of_decide_eq_true (by kernel_rfl)) (by unfold Func.isWrapper;rw [if_neg (of_decide_eq_false (by kernel_rfl))];exact ⟨rfl,rfl⟩)
  (fun os started H enc _=>morphKeeps.lifted os started H enc)
end Go.Proofs.Ytoedidbbjnnpnaa
