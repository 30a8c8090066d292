/-
  SearchRuns: for every row of formulas, every sequent and every budget the call returns true, and the arguments read afterwards as they did; the table that the row lists stands as the text of the program lays it (the card says that it is).
-/
import Derived.Test.YtkejippimkjjaaaGreatDoorZA
import Derived.Test.YtkejippimkjjaaaGreatDoorKD2
set_option linter.unusedSimpArgs false
set_option maxRecDepth 100000
set_option maxHeartbeats 2000000
namespace Go.Proofs.YtkejippimkjjaaaGreatDoor.searchRuns
open Go.ChangeShapes Go.WideShapes Go.ChangeAt Go.RowKit
open Go.ChangeMaps (open_string shut_string)
theorem Nz (os:Os) (args:Array Value):laidMet Tryz.prog Rows.searchRunsRow.laid ((qg os).forCall (fun _ _=>0) ⟨#[],args,[]⟩).memory :=
 (LaidIn.of_run (l:=Rows.searchRunsRow.laid) [0] 8 (by kernel_rfl) (by kernel_rfl) (by kernel_rfl) (by kernel_rfl)).met
theorem D9 (os:Os) {H:Type} (enc:TypeId × Value->H) :
 (OpenSpec.ofChange Rows.searchRunsSpec).preRow enc Tryz.prog Tryz.f3 Rows.searchRunsRow.domain false Rows.searchRunsRow.laid ((qg os).forCall (fun _ _=>0) ⟨#[],#[.slice none 0 0,.agg #[.int .u64 0,.int .u64 0,.int .u64 0,.int .u64 0,.int .u64 0,.int .u64 0,.int .u64 0,.int .u64 0,.int .u64 0,.int .u64 0,.int .u64 0,.int .u64 0,.int .u64 0,.int .u64 0,.int .u64 0,.int .u64 0,.int .i64 0],.int .i64 0],[]⟩).memory #[.slice none 0 0,.agg #[.int .u64 0,.int .u64 0,.int .u64 0,.int .u64 0,.int .u64 0,.int .u64 0,.int .u64 0,.int .u64 0,.int .u64 0,.int .u64 0,.int .u64 0,.int .u64 0,.int .u64 0,.int .u64 0,.int .u64 0,.int .u64 0,.int .i64 0],.int .i64 0]:=by
 have hw:(DataW.whole enc Tryz.prog ((qg os).forCall (fun _ _=>0) ⟨#[],#[.slice none 0 0,.agg #[.int .u64 0,.int .u64 0,.int .u64 0,.int .u64 0,.int .u64 0,.int .u64 0,.int .u64 0,.int .u64 0,.int .u64 0,.int .u64 0,.int .u64 0,.int .u64 0,.int .u64 0,.int .u64 0,.int .u64 0,.int .u64 0,.int .i64 0],.int .i64 0],[]⟩).memory Tryz.f3.params.toList Rows.searchRunsSpec.vars false #[Value.slice none 0 0,Value.agg #[.int .u64 0,.int .u64 0,.int .u64 0,.int .u64 0,.int .u64 0,.int .u64 0,.int .u64 0,.int .u64 0,.int .u64 0,.int .u64 0,.int .u64 0,.int .u64 0,.int .u64 0,.int .u64 0,.int .u64 0,.int .u64 0,.int .i64 0],Value.int .i64 0].toList 8).map (fun x=>(x.1,x.2.1)) =
  some ([.nil,.agg [.agg [.lit (.int .u64 0),.lit (.int .u64 0),.lit (.int .u64 0),.lit (.int .u64 0),.lit (.int .u64 0),.lit (.int .u64 0),.lit (.int .u64 0),.lit (.int .u64 0),.lit (.int .u64 0),.lit (.int .u64 0),.lit (.int .u64 0),.lit (.int .u64 0),.lit (.int .u64 0),.lit (.int .u64 0),.lit (.int .u64 0),.lit (.int .u64 0)],.lit (.int .i64 0)],.lit (.int .i64 0)],[]):=by kernel_rfl
 obtain⟨⟨x1,x2,x3⟩,hx,hx1⟩:=Option.map_eq_some_iff.1 hw
 simp only[Prod.mk.injEq] at hx1
 obtain⟨rfl,rfl⟩:=hx1
 exact OpenSpec.preRow_of_cond 8 hx (by kernel_rfl) (fun k hk=>by cases hk) (by kernel_rfl) (Nz os _)
theorem lifted (os:Os) (started:os.Started) (H:Type) (enc:TypeId × Value->H) (F:Stop.Interp) :
 ReturnsInHanded {} Tryz.checked os 3 .any ((OpenSpec.ofChange Rows.searchRunsSpec).preRow enc Tryz.prog Tryz.f3 Rows.searchRunsRow.domain false Rows.searchRunsRow.laid) (((OpenSpec.ofChange Rows.searchRunsSpec).at F).post enc Tryz.prog Tryz.f3 false true false false):=by
 refine returnsInHanded_of_row (C:=Tryz.checked) (s:=OpenSpec.ofChange Rows.searchRunsSpec) VJ started (by kernel_rfl) Tryz.func3
  (witness_row_atRef (enc:=enc) (C:=Tryz.checked) false (qg os) #[.slice none 0 0,.agg #[.int .u64 0,.int .u64 0,.int .u64 0,.int .u64 0,.int .u64 0,.int .u64 0,.int .u64 0,.int .u64 0,.int .u64 0,.int .u64 0,.int .u64 0,.int .u64 0,.int .u64 0,.int .u64 0,.int .u64 0,.int .u64 0,.int .i64 0],.int .i64 0] rfl (by kernel_rfl) (by kernel_rfl) (by kernel_rfl) (D9 os enc)) ?_
 intro W base args ds gs before hval0 hW _ _ hsz0 hL _ _
 have hval:∀ (j:Nat) t v,Tryz.f3.params[j]?=some t->args[j]?=some v->Value.okWide Tryz.prog W .any base t v:=hval0
 have hW':=hW
 obtain⟨p,q,VD,VE,rfl,_,_⟩:=hW
 have hA:DataW.TrodAll enc Tryz.prog W 0 (fun _=>true) true Tryz.f3.params.toList args.toList ds p:=VD
 rw[Tryz.params3] at hA hval
 obtain⟨v0,v1,v2,d0,d1,d2,p0,p1,p2,rfl,rfl,rfl,h0,h1,h2⟩:=trodAll_three hA
 obtain⟨rfl,rfl⟩:=trodVars_none VE
 obtain⟨x2,rfl,rfl,rfl,VF⟩:=open_int Tryz.underlying3 (hval 2 3 v2 rfl rfl) h2
 obtain⟨Zl,hR0,hG0,hL0,hN0⟩:=Gl (hval 0 22 v0 rfl rfl) h0 (Ji (j:=0) (t:=22) hsz0 rfl rfl)
 obtain⟨r1,g1,gH,hg1,rfl⟩:=LC h1
 have b2:=bounds_i64 VF
 clear VD VE hval0
 have hZ:Bt.Tz W:=QY hL (.head _)
 refine(zm W v0 Zl hR0 hG0 hL0 hN0 gH g1 x2 hZ).mono ?_
 rintro e W' ⟨rfl,au⟩
 have e1:((OpenSpec.ofChange Rows.searchRunsSpec).at F).fn H ([d0,d1,.lit (.int .i64 x2)] ++ [])={ results:=[.lit (.bool true)],args:=[d0,d1,.lit (.int .i64 x2)] }:=rfl
 have Gf:∀ x ∈ p0,x.block<W.heap.size:=fun x hx=>by simpa using hW'.lt x (by simp[hx])
 have hlt1:∀ x ∈ p1,x.block<W.heap.size:=fun x hx=>by simpa using hW'.lt x (by simp[hx])
 refine⟨_,rfl,_,_,_,[],p0 ++ (p1 ++ []),[],hW',?_,?_,?_,au.frame _,fun h=>by cases h⟩
 ·rw[e1];exact trodAll_mk1 (shut_bool Tryz.underlying4 _)
 ·rw[e1];exact trodAll_mk3 (Below.trod Br (by kernel_rfl) (of_decide_eq_true (by kernel_rfl)) h0 au Gf) (Below.trod Br (by kernel_rfl) (of_decide_eq_true (by kernel_rfl)) h1 au hlt1) (shut_int Tryz.underlying3 VF)
 ·rw[e1];rfl
theorem said:Rows.SearchRunsSaid :=
 OpenClaim.holds_of_cond 3 Tryz.f3 rfl rfl rfl rfl rfl rfl rfl ⟨rfl,rfl,rfl,rfl,rfl⟩ rfl rfl rfl rfl rfl (by kernel_rfl) Tryz.func3 (by kernel_rfl)
  (of_decide_eq_true (by kernel_rfl)) (by unfold Func.isWrapper;rw[if_neg (of_decide_eq_false (by kernel_rfl))];exact⟨rfl,rfl⟩)
  (fun os started H enc _ F=>by rw[OpenClaim.pre_eq_preRow];exact lifted os started H enc F)
theorem plain (f : FuncId) (fn : Func) (hf : Tryz.pinned.checked.prog.funcNamed "dictum/dictumlaw11.SearchRuns" = some f) (hfn : Tryz.pinned.checked.prog.funcs[f]? = some fn) :
 false=Tryz.pinned.checked.prog.looks []/\∀ (j:Nat) t,fn.params[j]?=some t->Tryz.pinned.checked.prog.wantsStandIn t=false:=by
 obtain rfl : f = 3 := Option.some.inj ((show Tryz.prog.funcNamed "dictum/dictumlaw11.SearchRuns" = some 3 by kernel_rfl).symm.trans hf) |>.symm
 obtain rfl:fn=Tryz.f3:=(Option.some.inj (Tryz.func3.symm.trans hfn)).symm
 refine⟨by kernel_rfl,fun j t ht => ?_⟩
 rw[Tryz.params3] at ht
 have ht':t=22\/t=27\/t=3:=by simpa using Array.mem_of_getElem? ht
 rcases ht' with rfl | rfl | rfl
 ·exact(show Tryz.prog.wantsStandIn 22=false by kernel_rfl)
 ·exact(show Tryz.prog.wantsStandIn 27=false by kernel_rfl)
 ·exact(show Tryz.prog.wantsStandIn 3=false by kernel_rfl)
end Go.Proofs.YtkejippimkjjaaaGreatDoor.searchRuns
namespace Go.Proofs.YtkejippimkjjaaaGreatDoor
theorem searchRuns_holds:Rows.SearchRunsCardSaid :=
 Claim7.holds_tied_plain_at .later [] _ _ _ _ searchRuns.said (fun _ h=>by cases h) (by kernel_rfl) (fun _ h=>by cases h) searchRuns_row_tie rfl ⟨rfl,rfl⟩ (by kernel_rfl) rfl searchRuns.plain (by kernel_rfl)
end Go.Proofs.YtkejippimkjjaaaGreatDoor
