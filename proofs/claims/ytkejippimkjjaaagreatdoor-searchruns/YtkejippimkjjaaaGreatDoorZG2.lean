import Derived.Test.YtkejippimkjjaaaGreatDoorZG1
import Derived.BigGuard
import Derived.Test.YtkejippimkjjaaaGreatDoorZList
set_option linter.unusedSimpArgs false
set_option maxRecDepth 100000
set_option maxHeartbeats 1000000
namespace Go.Proofs.YtkejippimkjjaaaGreatDoor
open Go.RowKit Go.Shelf Go.Maps
open Fm (Nd)
open Bt.Bs (Ok wd)
def ji (w:World) (fv:Value) (p:Sh->Bool):Prop :=
 ∃ (gf:Nat) (cs:List Value),fv=.func (.func gf) #[] cs.toArray/\(∀ vs w,(callFunc gf vs).run Tryz.prog w=.ok (.enter gf vs) w) /\
  ∀ W m,Same w W->Calls Tryz.prog gf ([fC m] ++ cs).toArray W fun e w'=>e=.returned (.bool (p m))/\Below W.heap.size W w'
theorem ji.same {w w':World} {fv:Value} {p:Sh->Bool} (h:ji w fv p) (hb:Same w w'):ji w' fv p:=by
 obtain⟨gf,cs,h1,h2,h3⟩:=h
 exact⟨gf,cs,h1,h2,fun W m hW=>h3 W m (hb.trans hW)⟩
theorem ji.later {w w':World} {fv:Value} {p:Sh->Bool} (h:ji w fv p) (hb:Below w.heap.size w w'):ji w' fv p:=h.same (Same.of_below hb)
theorem ji.one {w:World} {fv:Value} {p:Sh->Bool} (h:ji w fv p):fv.cells=#[fv]/\fv.oneCell'=true:=by
 obtain⟨gf,cs,rfl,_⟩:=h
 exact⟨rfl,rfl⟩
section
variable {ops:Array Oper} {rest:List Oper} {o:Oper} {a:Act} {Q:Exit->Act->World->Prop} {w:World}
theorem uK (hg:Region.wanted o (yielded ops a.tmps)=true) (f:FuncId) (x:Operand) (xs:List Operand) (ts:Array TypeId) (hop:o.op=Op.call { callee:=Callee.value x,args:=xs.toArray,argTypes:=ts }) (vs cs:List Value) (hx:a.eval x=.func (.func f) #[] cs.toArray) (hv:xs.map a.eval=vs)
 (hcf:∀ vs w,(callFunc f vs).run Tryz.prog w=.ok (.enter f vs) w) (h:Calls Tryz.prog f (vs ++ cs).toArray w fun e w'=>∃ v,e=.returned v/\wpList Tryz.prog ops Q rest (a.put o.dst v) w'):wpList Tryz.prog ops Q (o :: rest) a w:=by
 subst hv
 refine Bt.wpList_want hg fun K' hK' => ?_
 have hrun:(execOp a.eval o).run Tryz.prog w=.ok (.enter f (xs.map a.eval ++ cs).toArray) w:=by
  simp[execOp,hop,resolve,invoke,Deferred.ofValue,hx,hcf]
 unfold Oper.wp
 rw[hrun,Oper.upon_enter]
 refine h.mono ?_
 rintro e w' ⟨v,rfl,hK⟩
 exact hK' _ _ hK
end
theorem oz {w:World} {b:Nat} {m:Sh} {T:TypeId} (h:Cl w b (bL m) T):w.cell? ⟨b,0,none⟩=some (.int .i64 m.id)/\w.cell? ⟨b,1,none⟩=some (.int .i64 m.k)/\w.cell? ⟨b,2,none⟩=some (.int .i64 m.a)/\w.cell? ⟨b,3,none⟩=some (.int .i64 m.b)/\w.cell? ⟨b,4,none⟩=some (.int .i64 m.q)/\w.cell? ⟨b,5,none⟩=some (.int .i64 m.c)/\w.cell? ⟨b,6,none⟩=some (.int .i64 m.d) :=
 ⟨h.cell 0,h.cell 1,h.cell 2,h.cell 3,h.cell 4,h.cell 5,h.cell 6⟩
theorem Jk (w0:World) {k b kb wb:Nat} {r:List Nat} {g:Int} {tv:Value} {fl:Bool} (hW:Wk w0 k b r g tv fl) (hr:Ok r) (kd:Int) (hk:Cl w0 kb #[.int .i64 kd] 52) (hw:Cl w0 wb #[.pointer (some ⟨k,0,none⟩)] 84) (m:Sh) :
 Calls Tryz.prog 108 #[fC m,.pointer (some ⟨kb,0,none⟩),.pointer (some ⟨wb,0,none⟩)] w0 fun e w'=>e=.returned (.bool (m.k == kd && dM r m.id))/\Below w0.heap.size w0 w':=by
 have HW:=show Hid (∀ W,Below w0.heap.size w0 W->Wk W k b r g tv fl) from fun W h=>hW.later h
 have HK:=show Hid (∀ W,Below w0.heap.size w0 W->W.cell? ⟨kb,0,none⟩=some (.int .i64 kd)) from fun W h=>(hk.later h).cell 0
 have HV:=show Hid (∀ W,Below w0.heap.size w0 W->W.cell? ⟨wb,0,none⟩=some (.pointer (some ⟨k,0,none⟩))) from fun W h=>(hw.later h).cell 0
 have KL:=show Hid (∀ W,Below w0.heap.size w0 W->Calls Tryz.prog 74 #[.pointer (some ⟨k,0,none⟩),.int .i64 m.id] W fun e w'=>e=.returned (.bool (dM r m.id))/\Below W.heap.size W w') from fun W h=>qj W (hW.later h) hr m.id
 clear hW hk hw
 generalize (dM r m.id)=il at *
 unfold fC
 go_enter Tryz.func108,Tryz.ntmps108
 go_wp2_with (refine aI _ _ rfl _ rfl rfl ?_)
 intro w1 b3 hn1
 have H1:=show Hid (Below w0.heap.size w0 w1) from hn1.au
 have c0:=HK.out w1 hn1.au
 have c1:=HV.out w1 hn1.au
 obtain⟨d0,d1,-,-,d4,-,-⟩:=oz hn1.blk
 have KX:=show Hid _ from KL.out w1 hn1.au
 clear hn1 HW HK HV KL
 cases hx:(m.k == kd)
 ·go_wp2_with fail
  go_ret
  exact⟨by first|rfl | (rw[hx];rfl),H1.out⟩
 ·go_wp2_with fail
  refine Calls.mono KX.out ?_
  rintro e w2 ⟨rfl,hb2⟩
  have H2:=show Hid _ from H1.out.trans (hb2.mono H1.out.size)
  clear hb2 KX H1 c0 c1 d0 d1 d4
  go_wp2_with fail
  go_ret
  exact⟨by first|rfl | (rw[hx];rfl),H2.out⟩
theorem Jl (w0:World) {k b kb wb:Nat} {r:List Nat} {g:Int} {tv:Value} {fl:Bool} (hW:Wk w0 k b r g tv fl) (hr:Ok r) (kd:Int) (hk:Cl w0 kb #[.int .i64 kd] 52) (hw:Cl w0 wb #[.pointer (some ⟨k,0,none⟩)] 84) (m:Sh) :
 Calls Tryz.prog 107 #[fC m,.pointer (some ⟨kb,0,none⟩),.pointer (some ⟨wb,0,none⟩)] w0 fun e w'=>e=.returned (.bool (m.q == kd && dM r m.id))/\Below w0.heap.size w0 w':=by
 have HW:=show Hid (∀ W,Below w0.heap.size w0 W->Wk W k b r g tv fl) from fun W h=>hW.later h
 have HK:=show Hid (∀ W,Below w0.heap.size w0 W->W.cell? ⟨kb,0,none⟩=some (.int .i64 kd)) from fun W h=>(hk.later h).cell 0
 have HV:=show Hid (∀ W,Below w0.heap.size w0 W->W.cell? ⟨wb,0,none⟩=some (.pointer (some ⟨k,0,none⟩))) from fun W h=>(hw.later h).cell 0
 have KL:=show Hid (∀ W,Below w0.heap.size w0 W->Calls Tryz.prog 74 #[.pointer (some ⟨k,0,none⟩),.int .i64 m.id] W fun e w'=>e=.returned (.bool (dM r m.id))/\Below W.heap.size W w') from fun W h=>qj W (hW.later h) hr m.id
 clear hW hk hw
 generalize (dM r m.id)=il at *
 unfold fC
 go_enter Tryz.func107,Tryz.ntmps107
 go_wp2_with (refine aI _ _ rfl _ rfl rfl ?_)
 intro w1 b3 hn1
 have H1:=show Hid (Below w0.heap.size w0 w1) from hn1.au
 have c0:=HK.out w1 hn1.au
 have c1:=HV.out w1 hn1.au
 obtain⟨d0,d1,-,-,d4,-,-⟩:=oz hn1.blk
 have KX:=show Hid _ from KL.out w1 hn1.au
 clear hn1 HW HK HV KL
 cases hx:(m.q == kd)
 ·go_wp2_with fail
  go_ret
  exact⟨by first|rfl | (rw[hx];rfl),H1.out⟩
 ·go_wp2_with fail
  refine Calls.mono KX.out ?_
  rintro e w2 ⟨rfl,hb2⟩
  have H2:=show Hid _ from H1.out.trans (hb2.mono H1.out.size)
  clear hb2 KX H1 c0 c1 d0 d1 d4
  go_wp2_with fail
  go_ret
  exact⟨by first|rfl | (rw[hx];rfl),H2.out⟩
theorem Jm (w0:World) {k b kb wb:Nat} {r:List Nat} {g:Int} {tv:Value} {fl:Bool} (hW:Wk w0 k b r g tv fl) (hr:Ok r) (kd:Int) (hk:Cl w0 kb #[.int .i64 kd] 52) (hw:Cl w0 wb #[.pointer (some ⟨k,0,none⟩)] 84) (m:Sh) :
 Calls Tryz.prog 112 #[fC m,.pointer (some ⟨kb,0,none⟩),.pointer (some ⟨wb,0,none⟩)] w0 fun e w'=>e=.returned (.bool (m.k == kd && m.id == g))/\Below w0.heap.size w0 w':=by
 have HW:=show Hid (∀ W,Below w0.heap.size w0 W->Wk W k b r g tv fl) from fun W h=>hW.later h
 have HK:=show Hid (∀ W,Below w0.heap.size w0 W->W.cell? ⟨kb,0,none⟩=some (.int .i64 kd)) from fun W h=>(hk.later h).cell 0
 have HV:=show Hid (∀ W,Below w0.heap.size w0 W->W.cell? ⟨wb,0,none⟩=some (.pointer (some ⟨k,0,none⟩))) from fun W h=>(hw.later h).cell 0
 have KL:=show Hid (∀ W,Below w0.heap.size w0 W->Calls Tryz.prog 73 #[.pointer (some ⟨k,0,none⟩),.int .i64 m.id] W fun e w'=>e=.returned (.bool (m.id == g))/\Below W.heap.size W w') from fun W h=>xV W (hW.later h) hr m.id
 clear hW hk hw
 generalize (m.id == g)=il at *
 unfold fC
 go_enter Tryz.func112,Tryz.ntmps112
 go_wp2_with (refine aI _ _ rfl _ rfl rfl ?_)
 intro w1 b3 hn1
 have H1:=show Hid (Below w0.heap.size w0 w1) from hn1.au
 have c0:=HK.out w1 hn1.au
 have c1:=HV.out w1 hn1.au
 obtain⟨d0,d1,-,-,d4,-,-⟩:=oz hn1.blk
 have KX:=show Hid _ from KL.out w1 hn1.au
 clear hn1 HW HK HV KL
 cases hx:(m.k == kd)
 ·go_wp2_with fail
  go_ret
  exact⟨by first|rfl | (rw[hx];rfl),H1.out⟩
 ·go_wp2_with fail
  refine Calls.mono KX.out ?_
  rintro e w2 ⟨rfl,hb2⟩
  have H2:=show Hid _ from H1.out.trans (hb2.mono H1.out.size)
  clear hb2 KX H1 c0 c1 d0 d1 d4
  go_wp2_with fail
  go_ret
  exact⟨by first|rfl | (rw[hx];rfl),H2.out⟩
theorem Jo (w0:World) {k b wb:Nat} {r:List Nat} {g:Int} {tv:Value} {fl:Bool} (hW:Wk w0 k b r g tv fl) (hr:Ok r) (hw:Cl w0 wb #[.pointer (some ⟨k,0,none⟩)] 84) (m:Sh) :
 Calls Tryz.prog 72 #[fC m,.pointer (some ⟨wb,0,none⟩)] w0 fun e w'=>e=.returned (.bool (m.id == g && dM r m.id))/\Below w0.heap.size w0 w':=by
 have HV:=show Hid (∀ W,Below w0.heap.size w0 W->W.cell? ⟨wb,0,none⟩=some (.pointer (some ⟨k,0,none⟩))) from fun W h=>(hw.later h).cell 0
 have KL:=show Hid (∀ W,Below w0.heap.size w0 W->Calls Tryz.prog 74 #[.pointer (some ⟨k,0,none⟩),.int .i64 m.id] W fun e w'=>e=.returned (.bool (dM r m.id))/\Below W.heap.size W w') from fun W h=>qj W (hW.later h) hr m.id
 have KG:=show Hid (∀ W,Below w0.heap.size w0 W->Calls Tryz.prog 73 #[.pointer (some ⟨k,0,none⟩),.int .i64 m.id] W fun e w'=>e=.returned (.bool (m.id == g))/\Below W.heap.size W w') from fun W h=>xV W (hW.later h) hr m.id
 clear hW hw
 generalize dM r m.id=il at *
 generalize (m.id == g)=ig at *
 unfold fC
 go_enter Tryz.func72,Tryz.ntmps72
 go_wp2_with (refine aI _ _ rfl _ rfl rfl ?_)
 intro w1 b3 hn1
 have H1:=show Hid (Below w0.heap.size w0 w1/\Cl w1 b3 (bL m) 123) from⟨hn1.au,hn1.blk⟩
 have c1:=HV.out w1 hn1.au
 obtain⟨d0,-,-,-,-,-,-⟩:=oz hn1.blk
 have KX:=show Hid _ from KG.out w1 hn1.au
 clear hn1 KG
 go_wp2_with fail
 refine Calls.mono KX.out ?_
 rintro e w2 ⟨rfl,hb2⟩
 have H2:=show Hid (Below w0.heap.size w0 w2) from H1.out.1.trans (hb2.mono H1.out.1.size)
 have c2:=HV.out w2 H2.out
 obtain⟨e0,-,-,-,-,-,-⟩:=oz (H1.out.2.later hb2)
 have KY:=show Hid _ from KL.out w2 H2.out
 clear hb2 KX H1 c1 d0 KL HV
 cases ig
 ·go_wp2_with fail
  go_ret
  exact⟨rfl,H2.out⟩
 ·go_wp2_with fail
  refine Calls.mono KY.out ?_
  rintro e w3 ⟨rfl,hb3⟩
  have H3:=show Hid _ from H2.out.trans (hb3.mono H2.out.size)
  clear hb3 KY H2 c2 e0
  go_wp2_with fail
  go_ret
  exact⟨rfl,H3.out⟩
theorem Jp (w0:World) {k b wb fb:Nat} {r:List Nat} {g:Int} {tv:Value} {fl:Bool} (hW:Wk w0 k b r g tv fl) (hr:Ok r) (hw:Cl w0 wb #[.pointer (some ⟨k,0,none⟩)] 84) (fv:Value) (p:Sh->Bool) (hf:Cl w0 fb #[fv] 124) (hF:ji w0 fv p) (m:Sh) :
 Calls Tryz.prog 78 #[fC m,.pointer (some ⟨fb,0,none⟩),.pointer (some ⟨wb,0,none⟩)] w0 fun e w'=>e=.returned (.bool (p m && dM r m.a))/\Below w0.heap.size w0 w':=by
 have HV:=show Hid (∀ W,Below w0.heap.size w0 W->W.cell? ⟨wb,0,none⟩=some (.pointer (some ⟨k,0,none⟩))) from fun W h=>(hw.later h).cell 0
 have HF:=show Hid (∀ W,Below w0.heap.size w0 W->W.cell? ⟨fb,0,none⟩=some fv) from fun W h=>(hf.later h).cell 0
 have KL:=show Hid (∀ W,Below w0.heap.size w0 W->Calls Tryz.prog 74 #[.pointer (some ⟨k,0,none⟩),.int .i64 m.a] W fun e w'=>e=.returned (.bool (dM r m.a))/\Below W.heap.size W w') from fun W h=>qj W (hW.later h) hr m.a
 obtain⟨gf,cs,rfl,hcf,hc⟩:=hF
 unfold fC at hc |-
 have HC:=show Hid ((∀ (vs:Array Value) (w:World),(callFunc gf vs).run Tryz.prog w=.ok (.enter gf vs) w)/\∀ W:World,Below w0.heap.size w0 W->Calls Tryz.prog gf ([Value.agg (bL m)] ++ cs).toArray W fun e w'=>e=.returned (.bool (p m))/\Below W.heap.size W w') from⟨hcf,fun W h=>hc W m (Same.of_below h)⟩
 clear hW hw hf hcf hc
 generalize dM r m.a=il at *
 generalize p m=ig at *
 go_enter Tryz.func78,Tryz.ntmps78
 go_wp2_with (refine aI _ _ rfl _ rfl rfl ?_)
 intro w1 b3 hn1
 have H1:=show Hid (Below w0.heap.size w0 w1/\Cl w1 b3 (bL m) 123) from⟨hn1.au,hn1.blk⟩
 have c1:=HF.out w1 hn1.au
 clear hn1
 go_wp2_with (first|(refine gK 123 _ rfl b3 rfl _ _ H1.out.2 rfl Tryz.underlying123 jQ rfl ?_)|(refine uK rfl gf _ [.tmp 6] _ rfl [.agg (bL m)] cs rfl rfl HC.out.1 ?_))
 refine Calls.mono (HC.out.2 w1 H1.out.1) ?_
 rintro e w2 ⟨rfl,hb2⟩
 refine⟨_,rfl,?_⟩
 have H2:=show Hid (Below w0.heap.size w0 w2) from H1.out.1.trans (hb2.mono H1.out.1.size)
 have c2:=HV.out w2 H2.out
 obtain⟨-,-,e2,-,-,-,-⟩:=oz (H1.out.2.later hb2)
 have KY:=show Hid _ from KL.out w2 H2.out
 clear hb2 H1 c1 KL HV HC HF
 cases ig
 ·go_wp2_with fail
  go_ret
  exact⟨rfl,H2.out⟩
 ·go_wp2_with fail
  refine Calls.mono KY.out ?_
  rintro e w3 ⟨rfl,hb3⟩
  have H3:=show Hid _ from H2.out.trans (hb3.mono H2.out.size)
  clear hb3 KY H2 c2 e2
  go_wp2_with fail
  go_ret
  exact⟨rfl,H3.out⟩
structure T3 where
 n:Int
 gf:Nat
 cs:List Value
 pf:Nat
 ps:List Value
def T3.fv (x:T3):Value:=.func (.func x.gf) #[] x.cs.toArray
def T3.pv (x:T3):Value:=.func (.func x.pf) #[] x.ps.toArray
def c3 (x:T3):List Value:=[.int .i64 x.n,x.fv,x.pv]
def jB (l:List T3):List Value:=l.flatMap c3
def mR (r:List Nat) (g:Int) (i:Nat) (m:Sh):Bool:=match i with
 | 0=>m.k == 2 && dM r m.id
 | 1=>m.id == g && dM r m.id
 | 2=>m.k == 3 && dM r m.id
 | 3=>(m.q == 1 && dM r m.id) && dM r m.a
 | 4=>m.q == 2 && dM r m.id
 | 5=>m.q == 3 && dM r m.id
 | 6=>m.q == 4 && dM r m.id
 | 7=>m.k == 5 && (m.id == g)
 | 8=>m.k == 3 && (m.id == g)
 | 9=>m.k == 4 && dM r m.id
 | 10=>m.k == 4 && (m.id == g)
 | 11=>m.k == 4 && (m.id == g)
 | 12=>m.q == 5 && dM r m.id
 | _=>false
theorem bA.wV {w:World} {k b:Nat} {r:List Nat} {g kd:Int} {tv v:Value} {fl:Bool} (h:bA w 108 k kd v) (hW:Wk w k b r g tv fl) (hr:Ok r):ji w v (fun m=>m.k == kd && dM r m.id):=by
 obtain⟨kb,wb,rfl,h1,h2⟩:=h
 exact⟨_,[.pointer (some ⟨kb,0,none⟩),.pointer (some ⟨wb,0,none⟩)],rfl,enters_of Tryz.func108 (by kernel_rfl) rfl,fun W m hb=>Jk W (Cl.same hW (by decide) (by decide) hb) hr kd (h1.same (by decide) (by decide) hb) (h2.same (by decide) (by decide) hb) m⟩
theorem bA.qG {w:World} {k b:Nat} {r:List Nat} {g kd:Int} {tv v:Value} {fl:Bool} (h:bA w 107 k kd v) (hW:Wk w k b r g tv fl) (hr:Ok r):ji w v (fun m=>m.q == kd && dM r m.id):=by
 obtain⟨kb,wb,rfl,h1,h2⟩:=h
 exact⟨_,[.pointer (some ⟨kb,0,none⟩),.pointer (some ⟨wb,0,none⟩)],rfl,enters_of Tryz.func107 (by kernel_rfl) rfl,fun W m hb=>Jl W (Cl.same hW (by decide) (by decide) hb) hr kd (h1.same (by decide) (by decide) hb) (h2.same (by decide) (by decide) hb) m⟩
theorem bA.sZ {w:World} {k b:Nat} {r:List Nat} {g kd:Int} {tv v:Value} {fl:Bool} (h:bA w 112 k kd v) (hW:Wk w k b r g tv fl) (hr:Ok r):ji w v (fun m=>m.k == kd && (m.id == g)):=by
 obtain⟨kb,wb,rfl,h1,h2⟩:=h
 exact⟨_,[.pointer (some ⟨kb,0,none⟩),.pointer (some ⟨wb,0,none⟩)],rfl,enters_of Tryz.func112 (by kernel_rfl) rfl,fun W m hb=>Jm W (Cl.same hW (by decide) (by decide) hb) hr kd (h1.same (by decide) (by decide) hb) (h2.same (by decide) (by decide) hb) m⟩
theorem Rh {w:World} {k b wb:Nat} {r:List Nat} {g:Int} {tv v:Value} {fl:Bool} (hv:v=.func (.func 72) #[] #[.pointer (some ⟨wb,0,none⟩)]) (h2:Cl w wb #[.pointer (some ⟨k,0,none⟩)] 84) (hW:Wk w k b r g tv fl) (hr:Ok r):ji w v (fun m=>m.id == g && dM r m.id):=by
 subst hv
 exact⟨_,[.pointer (some ⟨wb,0,none⟩)],rfl,enters_of Tryz.func72 (by kernel_rfl) rfl,fun W m hb=>Jo W (Cl.same hW (by decide) (by decide) hb) hr (h2.same (by decide) (by decide) hb) m⟩
theorem Ri {w:World} {k b wb fb:Nat} {r:List Nat} {g:Int} {tv v fa:Value} {fl:Bool} (hv:v=.func (.func 78) #[] #[.pointer (some ⟨fb,0,none⟩),.pointer (some ⟨wb,0,none⟩)]) (h2:Cl w wb #[.pointer (some ⟨k,0,none⟩)] 84) (h3:Cl w fb #[fa] 124) (h4:bA w 107 k 1 fa) (hW:Wk w k b r g tv fl) (hr:Ok r):ji w v (fun m=>(m.q == 1 && dM r m.id) && dM r m.a):=by
 subst hv
 exact⟨_,[.pointer (some ⟨fb,0,none⟩),.pointer (some ⟨wb,0,none⟩)],rfl,enters_of Tryz.func78 (by kernel_rfl) rfl,fun W m hb=>Jp W (Cl.same hW (by decide) (by decide) hb) hr (h2.same (by decide) (by decide) hb) fa _ (h3.same (by decide) (by decide) hb) ((h4.qG hW hr).same hb) m⟩
theorem nY.fit {w:World} {k b T wb fb:Nat} {r:List Nat} {g:Int} {tv:Value} {fl:Bool} {F:Nat->Value} (h:nY w k T wb fb F) (hW:Wk w k b r g tv fl) (hr:Ok r):∀ i,i<13->ji w (F i) (mR r g i):=by
 obtain⟨fa,h3,h4⟩:=h.Q6
 exact bR 13 ⟨⟨⟨⟨⟨⟨⟨⟨⟨⟨⟨⟨⟨trivial,bA.wV (h.f 0 (by decide)) hW hr⟩,Rh (h.f 1 (by decide)) h.gY hW hr⟩,bA.wV (h.f 2 (by decide)) hW hr⟩,Ri (h.f 3 (by decide)) h.gY h3 h4 hW hr⟩,bA.qG (h.f 4 (by decide)) hW hr⟩,bA.qG (h.f 5 (by decide)) hW hr⟩,bA.qG (h.f 6 (by decide)) hW hr⟩,bA.sZ (h.f 7 (by decide)) hW hr⟩,bA.sZ (h.f 8 (by decide)) hW hr⟩,bA.wV (h.f 9 (by decide)) hW hr⟩,bA.sZ (h.f 10 (by decide)) hW hr⟩,bA.sZ (h.f 11 (by decide)) hW hr⟩,bA.qG (h.f 12 (by decide)) hW hr⟩
structure Made (w:World) (k b T wb:Nat) (r:List Nat) (g:Int) (L:List T3):Prop where
 wk:Wk w k b r g (.slice (some ⟨T,0,none⟩) 13 13) false
 row:Cl w T (jB L).toArray 127
 len:L.length=13
 num:∀ i (h:i<L.length),L[i].n=(i:Int)+1
 fit:∀ i (h:i<L.length),ji w L[i].fv (mR r g i)
 Rj:∀ i (h:i<L.length),L[i].pv=jJ wb i
 gY:Cl w wb #[.pointer (some ⟨k,0,none⟩)] 84
theorem Made.later {w w':World} {k b T wb:Nat} {r:List Nat} {g:Int} {L:List T3} (h:Made w k b T wb r g L) (hb:Below w.heap.size w w'):Made w' k b T wb r g L :=
 ⟨h.wk.later hb,h.row.later hb,h.len,h.num,fun i hi=>(h.fit i hi).later hb,h.Rj,h.gY.later hb⟩
theorem Made.same {w w':World} {k b T wb:Nat} {r:List Nat} {g:Int} {L:List T3} (h:Made w k b T wb r g L) (hb:Same w w'):Made w' k b T wb r g L :=
 ⟨Cl.same h.wk (by decide) (by decide) hb,h.row.same (by decide) (by decide) hb,h.len,h.num,fun i hi=>(h.fit i hi).same hb,h.Rj,h.gY.same (by decide) (by decide) hb⟩
theorem LK (wb i:Nat) (hi:i<13):∃ pf ps,jJ wb i=.func (.func pf) #[] (List.toArray ps):=by
 revert i
 exact bR 13 ⟨⟨⟨⟨⟨⟨⟨⟨⟨⟨⟨⟨⟨trivial,⟨_,[],rfl⟩⟩,⟨_,[],rfl⟩⟩,⟨_,[.pointer (some ⟨wb,0,none⟩)],rfl⟩⟩,⟨_,[.pointer (some ⟨wb,0,none⟩)],rfl⟩⟩,⟨_,[.pointer (some ⟨wb,0,none⟩)],rfl⟩⟩,⟨_,[.pointer (some ⟨wb,0,none⟩)],rfl⟩⟩,⟨_,[.pointer (some ⟨wb,0,none⟩)],rfl⟩⟩,⟨_,[.pointer (some ⟨wb,0,none⟩)],rfl⟩⟩,⟨_,[.pointer (some ⟨wb,0,none⟩)],rfl⟩⟩,⟨_,[.pointer (some ⟨wb,0,none⟩)],rfl⟩⟩,⟨_,[.pointer (some ⟨wb,0,none⟩)],rfl⟩⟩,⟨_,[.pointer (some ⟨wb,0,none⟩)],rfl⟩⟩,⟨_,[.pointer (some ⟨wb,0,none⟩)],rfl⟩⟩
theorem nY.made {w:World} {k b T wb fb:Nat} {r:List Nat} {g:Int} {F:Nat->Value} (h:nY w k T wb fb F) (hW:Wk w k b r g (.slice (some ⟨T,0,none⟩) 13 13) false) (hr:Ok r):∃ L,Made w k b T wb r g L:=by
 have hf:=h.fit hW hr
 have hch:∀ i:Fin 13,∃ x:T3,x.n=(i.val:Int)+1/\x.fv=F i.val/\x.pv=jJ wb i.val:=fun i=>by
  obtain⟨gf,cs,h1,_⟩:=hf i.val i.isLt
  obtain⟨pf,ps,h2⟩:=LK wb i.val i.isLt
  exact⟨⟨_,gf,cs,pf,ps⟩,rfl,h1.symm,h2.symm⟩
 obtain⟨X,hX⟩:=Classical.axiomOfChoice hch
 have hl:(List.ofFn X).length=13:=by simp
 have hg:∀ i (h:i<(List.ofFn X).length),(List.ofFn X)[i]=X ⟨i,by omega⟩:=fun i h=>List.getElem_ofFn ..
 refine⟨List.ofFn X,hW,?_,hl,fun i hi => ?_,fun i hi => ?_,fun i hi => ?_,h.gY⟩
 ·have e:jB (List.ofFn X)=(LH wb F).toList:=by
   have e1:List.ofFn X=[X ⟨0,by decide⟩,X ⟨1,by decide⟩,X ⟨2,by decide⟩,X ⟨3,by decide⟩,X ⟨4,by decide⟩,X ⟨5,by decide⟩,X ⟨6,by decide⟩,X ⟨7,by decide⟩,X ⟨8,by decide⟩,X ⟨9,by decide⟩,X ⟨10,by decide⟩,X ⟨11,by decide⟩,X ⟨12,by decide⟩]:=by
    apply List.ext_getElem
    ·simp
    ·intro i h1 h2
     rw[hg i h1]
     match i,h2 with
     | 0,_=>rfl
     | 1,_=>rfl
     | 2,_=>rfl
     | 3,_=>rfl
     | 4,_=>rfl
     | 5,_=>rfl
     | 6,_=>rfl
     | 7,_=>rfl
     | 8,_=>rfl
     | 9,_=>rfl
     | 10,_=>rfl
     | 11,_=>rfl
     | 12,_=>rfl
   rw[e1]
   simp only[jB,c3,List.flatMap_cons,List.flatMap_nil,(hX _).1,(hX _).2.1,(hX _).2.2]
   rfl
  rw[e]
  exact h.row
 ·rw[hg i hi]
  exact(hX _).1
 ·rw[hg i hi,(hX _).2.1]
  exact hf i (by omega)
 ·rw[hg i hi]
  exact(hX _).2.2
theorem Rk (b:Nat) (r0 r1 r2 r3 r4 r5 r6 r7 r8 r9 bM bP bT bY bZ dI:Nat) (g:Int) (tv v:Value) (fl:Bool):(uI b [r0,r1,r2,r3,r4,r5,r6,r7,r8,r9,bM,bP,bT,bY,bZ,dI] g tv fl).setIfInBounds 18 v=uI b [r0,r1,r2,r3,r4,r5,r6,r7,r8,r9,bM,bP,bT,bY,bZ,dI] g v fl:=by kernel_rfl
theorem Rl (b:Nat) (r0 r1 r2 r3 r4 r5 r6 r7 r8 r9 bM bP bT bY bZ dI:Nat) (g:Int) (tv:Value) (fl lH:Bool):(uI b [r0,r1,r2,r3,r4,r5,r6,r7,r8,r9,bM,bP,bT,bY,bZ,dI] g tv fl).setIfInBounds 19 (.bool lH)=uI b [r0,r1,r2,r3,r4,r5,r6,r7,r8,r9,bM,bP,bT,bY,bZ,dI] g tv lH:=by kernel_rfl
theorem Wk.VT {w:World} {k b:Nat} {r:List Nat} {g:Int} {tv:Value} {fl:Bool} (h:Wk w k b r g tv fl) (hr:r.length=16) (v:Value):Wk (w.setCell ⟨k,18,none⟩ v) k b r g v fl:=by
 have:=heap_setCell_same w k 18 _ _ v h
 match r,hr with
 | [r0,r1,r2,r3,r4,r5,r6,r7,r8,r9,bM,bP,bT,bY,bZ,dI],_=>rw[Rk] at this;exact this
theorem Wk.VU {w:World} {k b:Nat} {r:List Nat} {g:Int} {tv:Value} {fl:Bool} (h:Wk w k b r g tv fl) (hr:r.length=16) (lH:Bool):Wk (w.setCell ⟨k,19,none⟩ (.bool lH)) k b r g tv lH:=by
 have:=heap_setCell_same w k 19 _ _ (.bool lH) h
 match r,hr with
 | [r0,r1,r2,r3,r4,r5,r6,r7,r8,r9,bM,bP,bT,bY,bZ,dI],_=>rw[Rl] at this;exact this
theorem LM (w:World) (b:Nat) (r0 r1 r2 r3 r4 r5 r6 r7 r8 r9 bM bP bT bY bZ dI:Nat) (g:Int):(Instr.build 115 #[(0,.pointer (some ⟨b,0,none⟩)),(1,.agg (ak [r0,r1,r2,r3,r4,r5,r6,r7,r8,r9,bM,bP,bT,bY,bZ,dI] g))]).run Tryz.prog w=.ok (.agg (uI b [r0,r1,r2,r3,r4,r5,r6,r7,r8,r9,bM,bP,bT,bY,bZ,dI] g (.slice none 0 0) false)) w:=by kernel_rfl
theorem Ao {ops:Array Oper} {rest:List Oper} {o:Oper} {a:Act} {Q:Exit->Act->World->Prop} (w:World) (hg:o.guard=none) (x y:Operand) (hop:o.op=Op.build 115 #[(0,x),(1,y)]) (b:Nat) {r:List Nat} {g:Int} (hx:a.eval x=.pointer (some ⟨b,0,none⟩)) (hy:a.eval y=.agg (ak r g)) (hr:r.length=16)
 (hK:wpList Tryz.prog ops Q rest (a.put o.dst (.agg (uI b r g (.slice none 0 0) false))) w):wpList Tryz.prog ops Q (o :: rest) a w:=by
 refine wpList_plain hg fun K' hK' => ?_
 have hrun:(Instr.build 115 #[(0,.pointer (some ⟨b,0,none⟩)),(1,.agg (ak r g))]).run Tryz.prog w=.ok (.agg (uI b r g (.slice none 0 0) false)) w:=by
  match r,hr with
  | [r0,r1,r2,r3,r4,r5,r6,r7,r8,r9,bM,bP,bT,bY,bZ,dI],_=>exact LM ..
 unfold Oper.wp
 simp[execOp,hop,hx,hy,hrun,Result.andThen]
 exact hK' _ _ hK
theorem rO (w0:World) (b:Nat) {r:List Nat} (hr:Ok r) (g:Int):Calls Tryz.prog 27 #[.pointer (some ⟨b,0,none⟩),.agg (ak r g)] w0 fun e w'=>∃ k T wb L,e=.returned (.pointer (some ⟨k,0,none⟩))/\Made w' k b T wb r g L/\w0.heap.size<=k/\Below w0.heap.size w0 w':=by
 have hl:=hr.1
 have KL:=show Hid (∀ (w:World) (k:Nat),Calls Tryz.prog 46 #[.pointer (some ⟨k,0,none⟩)] w fun e w'=>∃ T wb fb F,e=.returned (.slice (some ⟨T,0,none⟩) 13 13)/\nY w' k T wb fb F/\Below w.heap.size w w') from fun w k=>LJ w k
 go_enter Tryz.func27,Tryz.ntmps27
 go_wp2_with (refine aI 27 _ rfl _ rfl rfl ?_)
 intro w1 b3 hn1
 have H1:=show Hid (aX w1 b3 r g/\Below w0.heap.size w0 w1) from⟨hn1.blk,hn1.au⟩
 clear hn1
 go_wp2_with (first|(refine aJ _ _ rfl b3 rfl H1.out.1 hl rfl ?_)|(refine Ao _ rfl _ _ rfl b rfl rfl hl ?_)|(refine aI 115 _ rfl _ rfl rfl ?_))
 intro w2 k hn2
 have H2:=show Hid (Wk w2 k b r g (.slice none 0 0) false/\Below w0.heap.size w0 w2/\w0.heap.size<=k) from⟨hn2.blk,aS H1.out.2 hn2,by have:=H1.out.2.size;have:=hn2.ge;omega⟩
 clear hn2 H1
 go_wp2_with fail
 refine Calls.mono (KL.out w2 k) ?_
 rintro e w3 ⟨T,wb,fb,F,rfl,hT,hb3⟩
 have hW3:=H2.out.1.later hb3
 have c18:=hW3.Q0 hl
 have f18:=Cl.fr hW3 18
 have UR:=show Hid (dY k w3 (w3.setCell ⟨k,18,none⟩ (.slice (some ⟨T,0,none⟩) 13 13))) from dY.set (Kp.refl _ w3) 18 _
 have H4:=show Hid (Wk (w3.setCell ⟨k,18,none⟩ (.slice (some ⟨T,0,none⟩) 13 13)) k b r g (.slice (some ⟨T,0,none⟩) 13 13) false) from hW3.VT hl _
 have H3:=show Hid (nY w3 k T wb fb F/\Wk w3 k b r g (.slice none 0 0) false/\Below w0.heap.size w0 w3/\w0.heap.size<=k) from⟨hT,hW3,H2.out.2.1.trans (hb3.mono H2.out.2.1.size),H2.out.2.2⟩
 clear hT hb3 hW3 H2 KL
 go_wp2_with fail
 go_ret
 obtain⟨L,hL⟩:=(H3.out.1.kp H3.out.2.1 UR.out).made H4.out hr
 exact⟨k,T,wb,L,rfl,hL,H3.out.2.2.2,aP H3.out.2.2.1 UR.out H3.out.2.2.2⟩
end Go.Proofs.YtkejippimkjjaaaGreatDoor
