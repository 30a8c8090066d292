/-
  The claim TypesProve.
-/
import Derived.Test.YtkpbpecikibohaaGreatDoorYQ11
import Derived.Test.YtkpbpecikibohaaGreatDoorYQ16
set_option linter.unusedSimpArgs false
set_option maxRecDepth 100000
set_option maxHeartbeats 2000000
namespace Go.Proofs.YtkpbpecikibohaaGreatDoor.typesProve
open Go.ChangeShapes Go.WideShapes Go.ChangeAt Go.RowKit
open Go.ChangeMaps (open_string shut_string)
open Ya
theorem Qb (os:Os) (args:Array Value):laidMetH Tryz.prog Rows.typesProveRow.laid ((qM os).forCall (fun _ _=>0) ⟨#[],args,[]⟩).memory :=
 laidMetH_of_parts (LaidIn.of_run (l:=Rows.typesProveRow.laid.filter fun x=>x.2.handleName?.isNone) [2,1] 8 (by kernel_rfl) (by kernel_rfl) (by kernel_rfl) (by kernel_rfl)).met (by kernel_rfl)
theorem FW (os:Os) {H:Type} (enc:TypeId × Value->H) :
 (OpenSpec.ofChange Rows.typesProveSpec).preRow enc Tryz.prog Tryz.f4 Rows.typesProveRow.domain false Rows.typesProveRow.laid ((qM os).forCall (fun _ _=>0) ⟨#[],#[.slice none 0 0,.slice none 0 0,.agg #[.int .i64 0,.string ⟨#[]⟩,.string ⟨#[]⟩,.int .i64 0,.slice none 0 0],.int .i64 0],[]⟩).memory #[.slice none 0 0,.slice none 0 0,.agg #[.int .i64 0,.string ⟨#[]⟩,.string ⟨#[]⟩,.int .i64 0,.slice none 0 0],.int .i64 0]:=by
 have hw:(DataW.whole enc Tryz.prog ((qM os).forCall (fun _ _=>0) ⟨#[],#[.slice none 0 0,.slice none 0 0,.agg #[.int .i64 0,.string ⟨#[]⟩,.string ⟨#[]⟩,.int .i64 0,.slice none 0 0],.int .i64 0],[]⟩).memory Tryz.f4.params.toList Rows.typesProveSpec.vars false #[Value.slice none 0 0,Value.slice none 0 0,Value.agg #[.int .i64 0,.string ⟨#[]⟩,.string ⟨#[]⟩,.int .i64 0,.slice none 0 0],Value.int .i64 0].toList 8).map (fun x=>(x.1,x.2.1)) =
  some ([.nil,.nil,.agg [.lit (.int .i64 0),.lit (.string []),.lit (.string []),.lit (.int .i64 0),.nil],.lit (.int .i64 0)],[]):=by kernel_rfl
 obtain⟨⟨x1,x2,x3⟩,hx,hx1⟩:=Option.map_eq_some_iff.1 hw
 simp only[Prod.mk.injEq] at hx1
 obtain⟨rfl,rfl⟩:=hx1
 exact OpenSpec.preRow_of_cond 8 hx (by kernel_rfl) (fun k hk=>by cases hk) (by kernel_rfl) (Qb os _)
theorem lifted (os:Os) (started:os.Started) (H:Type) (enc:TypeId × Value->H) (F:Stop.Interp) :
 ReturnsInHanded {} Tryz.checked os 4 .any ((OpenSpec.ofChange Rows.typesProveSpec).preRow enc Tryz.prog Tryz.f4 Rows.typesProveRow.domain false Rows.typesProveRow.laid) (((OpenSpec.ofChange Rows.typesProveSpec).at F).post enc Tryz.prog Tryz.f4 false true false false):=by
 refine returnsInHanded_of_row (C:=Tryz.checked) (s:=OpenSpec.ofChange Rows.typesProveSpec) Zq started (by kernel_rfl) Tryz.func4
  (witness_row_atRef (enc:=enc) (C:=Tryz.checked) false (qM os) #[.slice none 0 0,.slice none 0 0,.agg #[.int .i64 0,.string ⟨#[]⟩,.string ⟨#[]⟩,.int .i64 0,.slice none 0 0],.int .i64 0] rfl (by kernel_rfl) (by kernel_rfl) (by kernel_rfl) (FW os enc)) ?_
 intro W base args ds gs before hval0 hW _ _ hsz0 hL _ _
 have hval:∀ (j:Nat) t v,Tryz.f4.params[j]?=some t->args[j]?=some v->Value.okWide Tryz.prog W .any base t v:=hval0
 have hW':=hW
 obtain⟨p,q,Y7,Y8,rfl,_,_⟩:=hW
 have hA:DataW.TrodAll enc Tryz.prog W 0 (fun _=>true) true Tryz.f4.params.toList args.toList ds p:=Y7
 rw[Tryz.params4] at hA hval
 obtain⟨v0,v1,v2,v3,d0,d1,d2,d3,p0,p1,p2,p3,rfl,rfl,rfl,h0,h1,h2,h3⟩:=trodAll_four hA
 obtain⟨rfl,rfl⟩:=trodVars_none Y8
 obtain⟨x3,rfl,rfl,rfl,Y9⟩:=open_int Tryz.underlying3 (hval 3 3 v3 rfl rfl) h3
 obtain⟨rs0,hR0,hG0,hL0,hN0⟩:=I8 (hval 0 22 v0 rfl rfl) h0 (vR (j:=0) (t:=22) hsz0 rfl rfl)
 obtain⟨hs1,hH1,ZX,ah1,nh1,ch1,rfl⟩:=Ox (hval 1 23 v1 rfl rfl) h1 (vR (j:=1) (t:=23) hsz0 rfl rfl)
 obtain⟨y2,V6,rfl,hK2,hX2⟩:=RV h2 (vR (j:=2) (t:=27) hsz0 rfl rfl)
 have b3:=bounds_i64 Y9
 clear Y7 Y8 hval0
 have WZ : laidMet Tryz.prog [("math/bits.deBruijn64tab", Rows.laid_math_bits_deBruijn64tab), ("dictum/term.shapes", Rows.laid_dictum_term_shapes)] W /\ handlesMet Tryz.prog [("errors.errorType", Rows.laid_errors_errorType)] W := hL
 have hS:Std W:=⟨Ut WZ.1 (.tail _ (.head _)),Uo WZ.2 (.head _)⟩
 have hZ:Bt.Tz W:=Uv WZ.1 (.head _)
 refine(Az W hR0 hG0 hL0 hN0 hH1 ZX hK2 hX2 x3 hS hZ).mono ?_
 rintro e W' ⟨rfl,av⟩
 have e1:((OpenSpec.ofChange Rows.typesProveSpec).at F).fn H ([d0,d1,d2,.lit (.int .i64 x3)] ++ [])={ results:=[.lit (.bool true)],args:=[d0,d1,d2,.lit (.int .i64 x3)] }:=rfl
 have IQ:∀ x ∈ p0,x.block<W.heap.size:=fun x hx=>by simpa using hW'.lt x (by simp[hx])
 have hlt1:∀ x ∈ p1,x.block<W.heap.size:=fun x hx=>by simpa using hW'.lt x (by simp[hx])
 have hlt2:∀ x ∈ p2,x.block<W.heap.size:=fun x hx=>by simpa using hW'.lt x (by simp[hx])
 refine⟨_,rfl,_,_,_,[],p0 ++ (p1 ++ (p2 ++ [])),[],hW',?_,?_,?_,av.frame _,fun h=>by cases h⟩
 ·rw[e1];exact trodAll_mk1 (shut_bool Tryz.underlying4 _)
 ·rw[e1];exact trodAll_mk4 (Below.trod yg (by kernel_rfl) (of_decide_eq_true (by kernel_rfl)) h0 av IQ) (Below.trod yg (by kernel_rfl) (of_decide_eq_true (by kernel_rfl)) h1 av hlt1) (Below.trod yg (by kernel_rfl) (of_decide_eq_true (by kernel_rfl)) h2 av hlt2) (shut_int Tryz.underlying3 Y9)
 ·rw[e1];rfl
theorem said:Rows.TypesProveSaid :=
 OpenClaim.holds_of_cond 4 Tryz.f4 rfl rfl rfl rfl rfl rfl rfl ⟨rfl,rfl,rfl,rfl,rfl⟩ rfl rfl rfl rfl rfl (by kernel_rfl) Tryz.func4 (by kernel_rfl)
  (of_decide_eq_true (by kernel_rfl)) (by unfold Func.isWrapper;rw[if_neg (of_decide_eq_false (by kernel_rfl))];exact⟨rfl,rfl⟩)
  (fun os started H enc _ F=>by rw[OpenClaim.pre_eq_preRow];exact lifted os started H enc F)
theorem plain (f : FuncId) (fn : Func) (hf : Tryz.pinned.checked.prog.funcNamed "dictum/dictumlaw13.TypesProve" = some f) (hfn : Tryz.pinned.checked.prog.funcs[f]? = some fn) :
 true=Tryz.pinned.checked.prog.looks []/\∀ (j:Nat) t,fn.params[j]?=some t->Tryz.pinned.checked.prog.wantsStandIn t=false:=by
 obtain rfl : f = 4 := Option.some.inj ((show Tryz.prog.funcNamed "dictum/dictumlaw13.TypesProve" = some 4 by kernel_rfl).symm.trans hf) |>.symm
 obtain rfl:fn=Tryz.f4:=(Option.some.inj (Tryz.func4.symm.trans hfn)).symm
 refine⟨by kernel_rfl,fun j t ht => ?_⟩
 rw[Tryz.params4] at ht
 have ht':t=22\/t=23\/t=27\/t=3:=by simpa using Array.mem_of_getElem? ht
 rcases ht' with rfl | rfl | rfl | rfl
 ·exact(show Tryz.prog.wantsStandIn 22=false by kernel_rfl)
 ·exact(show Tryz.prog.wantsStandIn 23=false by kernel_rfl)
 ·exact(show Tryz.prog.wantsStandIn 27=false by kernel_rfl)
 ·exact(show Tryz.prog.wantsStandIn 3=false by kernel_rfl)
end Go.Proofs.YtkpbpecikibohaaGreatDoor.typesProve
namespace Go.Proofs.YtkpbpecikibohaaGreatDoor
theorem typesProve_holds:Rows.TypesProveCardSaid :=
 Claim7.holds_tied_plain_at .later [] _ _ _ _ typesProve.said (fun _ h=>by cases h) (by kernel_rfl) (fun _ h=>by cases h) typesProve_row_tie rfl ⟨rfl,rfl⟩ (by kernel_rfl) rfl typesProve.plain (by kernel_rfl)
end Go.Proofs.YtkpbpecikibohaaGreatDoor
