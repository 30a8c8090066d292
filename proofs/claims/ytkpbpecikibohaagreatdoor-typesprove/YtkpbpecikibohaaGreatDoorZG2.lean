import Derived.Test.YtkpbpecikibohaaGreatDoorZG1
import Derived.BigGuard
import Derived.Test.YtkpbpecikibohaaGreatDoorZList
set_option linter.unusedSimpArgs false
set_option maxRecDepth 100000
set_option maxHeartbeats 1000000
namespace Go.Proofs.YtkpbpecikibohaaGreatDoor
open Go.RowKit Go.Shelf Go.Maps
open Fm (Nd)
open Bt.Bs (Ok wd)
def je (w:World) (fv:Value) (p:Sh->Bool):Prop :=
 ∃ (gf:Nat) (cs:List Value),fv=.func (.func gf) #[] cs.toArray/\(∀ vs w,(callFunc gf vs).run Tryz.prog w=.ok (.enter gf vs) w) /\
  ∀ W m,Same w W->Calls Tryz.prog gf ([fB m] ++ cs).toArray W fun e w'=>e=.returned (.bool (p m))/\Below W.heap.size W w'
theorem je.same {w w':World} {fv:Value} {p:Sh->Bool} (h:je w fv p) (hb:Same w w'):je w' fv p:=by
 obtain⟨gf,cs,h1,h2,h3⟩:=h
 exact⟨gf,cs,h1,h2,fun W m hW=>h3 W m (hb.trans hW)⟩
theorem je.later {w w':World} {fv:Value} {p:Sh->Bool} (h:je w fv p) (hb:Below w.heap.size w w'):je w' fv p:=h.same (Same.of_below hb)
theorem je.one {w:World} {fv:Value} {p:Sh->Bool} (h:je w fv p):fv.cells=#[fv]/\fv.oneCell'=true:=by
 obtain⟨gf,cs,rfl,_⟩:=h
 exact⟨rfl,rfl⟩
section
variable {ops:Array Oper} {rest:List Oper} {o:Oper} {a:Act} {Q:Exit->Act->World->Prop} {w:World}
theorem vZ (hg:Region.wanted o (yielded ops a.tmps)=true) (f:FuncId) (x:Operand) (xs:List Operand) (ts:Array TypeId) (hop:o.op=Op.call { callee:=Callee.value x,args:=xs.toArray,argTypes:=ts }) (vs cs:List Value) (hx:a.eval x=.func (.func f) #[] cs.toArray) (hv:xs.map a.eval=vs)
 (hcf:∀ vs w,(callFunc f vs).run Tryz.prog w=.ok (.enter f vs) w) (h:Calls Tryz.prog f (vs ++ cs).toArray w fun e w'=>∃ v,e=.returned v/\wpList Tryz.prog ops Q rest (a.put o.dst v) w'):wpList Tryz.prog ops Q (o :: rest) a w:=by
 subst hv
 refine Bt.wpList_want hg fun K' hK' => ?_
 have hrun:(execOp a.eval o).run Tryz.prog w=.ok (.enter f (xs.map a.eval ++ cs).toArray) w:=by
  simp[execOp,hop,resolve,invoke,Deferred.ofValue,hx,hcf]
 unfold Oper.wp
 rw[hrun,Oper.upon_enter]
 refine h.mono ?_
 rintro e w' ⟨v,rfl,hK⟩
 exact hK' _ _ hK
end
theorem oQ {w:World} {b:Nat} {m:Sh} {T:TypeId} (h:Cl w b (bB m) T):w.cell? ⟨b,0,none⟩=some (.int .i64 m.id)/\w.cell? ⟨b,1,none⟩=some (.int .i64 m.k)/\w.cell? ⟨b,2,none⟩=some (.int .i64 m.a)/\w.cell? ⟨b,3,none⟩=some (.int .i64 m.b)/\w.cell? ⟨b,4,none⟩=some (.int .i64 m.q)/\w.cell? ⟨b,5,none⟩=some (.int .i64 m.c)/\w.cell? ⟨b,6,none⟩=some (.int .i64 m.d) :=
 ⟨h.cell 0,h.cell 1,h.cell 2,h.cell 3,h.cell 4,h.cell 5,h.cell 6⟩
theorem Mc (w0:World) {k b kb wb:Nat} {r:List Nat} {g:Int} {tv:Value} {fl:Bool} (hW:Wk w0 k b r g tv fl) (hr:Ok r) (kd:Int) (hk:Cl w0 kb #[.int .i64 kd] 65) (hw:Cl w0 wb #[.pointer (some ⟨k,0,none⟩)] 136) (m:Sh) :
 Calls Tryz.prog 153 #[fB m,.pointer (some ⟨kb,0,none⟩),.pointer (some ⟨wb,0,none⟩)] w0 fun e w'=>e=.returned (.bool (m.k == kd && dX r m.id))/\Below w0.heap.size w0 w':=by
 have HW:=show Hid (∀ W,Below w0.heap.size w0 W->Wk W k b r g tv fl) from fun W h=>hW.later h
 have HK:=show Hid (∀ W,Below w0.heap.size w0 W->W.cell? ⟨kb,0,none⟩=some (.int .i64 kd)) from fun W h=>(hk.later h).cell 0
 have HV:=show Hid (∀ W,Below w0.heap.size w0 W->W.cell? ⟨wb,0,none⟩=some (.pointer (some ⟨k,0,none⟩))) from fun W h=>(hw.later h).cell 0
 have KL:=show Hid (∀ W,Below w0.heap.size w0 W->Calls Tryz.prog 121 #[.pointer (some ⟨k,0,none⟩),.int .i64 m.id] W fun e w'=>e=.returned (.bool (dX r m.id))/\Below W.heap.size W w') from fun W h=>qN W (hW.later h) hr m.id
 clear hW hk hw
 generalize (dX r m.id)=il at *
 unfold fB
 go_enter Tryz.func153,Tryz.ntmps153
 go_wp2_with (refine aC _ _ rfl _ rfl rfl ?_)
 intro w1 b3 hn1
 have H1:=show Hid (Below w0.heap.size w0 w1) from hn1.av
 have c0:=HK.out w1 hn1.av
 have c1:=HV.out w1 hn1.av
 obtain⟨d0,d1,-,-,d4,-,-⟩:=oQ hn1.blk
 have KX:=show Hid _ from KL.out w1 hn1.av
 clear hn1 HW HK HV KL
 cases hx:(m.k == kd)
 ·go_wp2_with fail
  go_ret
  exact⟨by first|rfl | (rw[hx];rfl),H1.out⟩
 ·go_wp2_with fail
  refine Calls.mono KX.out ?_
  rintro e w2 ⟨rfl,hb2⟩
  have H2:=show Hid _ from H1.out.trans (hb2.mono H1.out.size)
  clear hb2 KX H1 c0 c1 d0 d1 d4
  go_wp2_with fail
  go_ret
  exact⟨by first|rfl | (rw[hx];rfl),H2.out⟩
theorem Md (w0:World) {k b kb wb:Nat} {r:List Nat} {g:Int} {tv:Value} {fl:Bool} (hW:Wk w0 k b r g tv fl) (hr:Ok r) (kd:Int) (hk:Cl w0 kb #[.int .i64 kd] 65) (hw:Cl w0 wb #[.pointer (some ⟨k,0,none⟩)] 136) (m:Sh) :
 Calls Tryz.prog 152 #[fB m,.pointer (some ⟨kb,0,none⟩),.pointer (some ⟨wb,0,none⟩)] w0 fun e w'=>e=.returned (.bool (m.q == kd && dX r m.id))/\Below w0.heap.size w0 w':=by
 have HW:=show Hid (∀ W,Below w0.heap.size w0 W->Wk W k b r g tv fl) from fun W h=>hW.later h
 have HK:=show Hid (∀ W,Below w0.heap.size w0 W->W.cell? ⟨kb,0,none⟩=some (.int .i64 kd)) from fun W h=>(hk.later h).cell 0
 have HV:=show Hid (∀ W,Below w0.heap.size w0 W->W.cell? ⟨wb,0,none⟩=some (.pointer (some ⟨k,0,none⟩))) from fun W h=>(hw.later h).cell 0
 have KL:=show Hid (∀ W,Below w0.heap.size w0 W->Calls Tryz.prog 121 #[.pointer (some ⟨k,0,none⟩),.int .i64 m.id] W fun e w'=>e=.returned (.bool (dX r m.id))/\Below W.heap.size W w') from fun W h=>qN W (hW.later h) hr m.id
 clear hW hk hw
 generalize (dX r m.id)=il at *
 unfold fB
 go_enter Tryz.func152,Tryz.ntmps152
 go_wp2_with (refine aC _ _ rfl _ rfl rfl ?_)
 intro w1 b3 hn1
 have H1:=show Hid (Below w0.heap.size w0 w1) from hn1.av
 have c0:=HK.out w1 hn1.av
 have c1:=HV.out w1 hn1.av
 obtain⟨d0,d1,-,-,d4,-,-⟩:=oQ hn1.blk
 have KX:=show Hid _ from KL.out w1 hn1.av
 clear hn1 HW HK HV KL
 cases hx:(m.q == kd)
 ·go_wp2_with fail
  go_ret
  exact⟨by first|rfl | (rw[hx];rfl),H1.out⟩
 ·go_wp2_with fail
  refine Calls.mono KX.out ?_
  rintro e w2 ⟨rfl,hb2⟩
  have H2:=show Hid _ from H1.out.trans (hb2.mono H1.out.size)
  clear hb2 KX H1 c0 c1 d0 d1 d4
  go_wp2_with fail
  go_ret
  exact⟨by first|rfl | (rw[hx];rfl),H2.out⟩
theorem Me (w0:World) {k b kb wb:Nat} {r:List Nat} {g:Int} {tv:Value} {fl:Bool} (hW:Wk w0 k b r g tv fl) (hr:Ok r) (kd:Int) (hk:Cl w0 kb #[.int .i64 kd] 65) (hw:Cl w0 wb #[.pointer (some ⟨k,0,none⟩)] 136) (m:Sh) :
 Calls Tryz.prog 157 #[fB m,.pointer (some ⟨kb,0,none⟩),.pointer (some ⟨wb,0,none⟩)] w0 fun e w'=>e=.returned (.bool (m.k == kd && m.id == g))/\Below w0.heap.size w0 w':=by
 have HW:=show Hid (∀ W,Below w0.heap.size w0 W->Wk W k b r g tv fl) from fun W h=>hW.later h
 have HK:=show Hid (∀ W,Below w0.heap.size w0 W->W.cell? ⟨kb,0,none⟩=some (.int .i64 kd)) from fun W h=>(hk.later h).cell 0
 have HV:=show Hid (∀ W,Below w0.heap.size w0 W->W.cell? ⟨wb,0,none⟩=some (.pointer (some ⟨k,0,none⟩))) from fun W h=>(hw.later h).cell 0
 have KL:=show Hid (∀ W,Below w0.heap.size w0 W->Calls Tryz.prog 120 #[.pointer (some ⟨k,0,none⟩),.int .i64 m.id] W fun e w'=>e=.returned (.bool (m.id == g))/\Below W.heap.size W w') from fun W h=>zy W (hW.later h) hr m.id
 clear hW hk hw
 generalize (m.id == g)=il at *
 unfold fB
 go_enter Tryz.func157,Tryz.ntmps157
 go_wp2_with (refine aC _ _ rfl _ rfl rfl ?_)
 intro w1 b3 hn1
 have H1:=show Hid (Below w0.heap.size w0 w1) from hn1.av
 have c0:=HK.out w1 hn1.av
 have c1:=HV.out w1 hn1.av
 obtain⟨d0,d1,-,-,d4,-,-⟩:=oQ hn1.blk
 have KX:=show Hid _ from KL.out w1 hn1.av
 clear hn1 HW HK HV KL
 cases hx:(m.k == kd)
 ·go_wp2_with fail
  go_ret
  exact⟨by first|rfl | (rw[hx];rfl),H1.out⟩
 ·go_wp2_with fail
  refine Calls.mono KX.out ?_
  rintro e w2 ⟨rfl,hb2⟩
  have H2:=show Hid _ from H1.out.trans (hb2.mono H1.out.size)
  clear hb2 KX H1 c0 c1 d0 d1 d4
  go_wp2_with fail
  go_ret
  exact⟨by first|rfl | (rw[hx];rfl),H2.out⟩
theorem Mf (w0:World) {k b wb:Nat} {r:List Nat} {g:Int} {tv:Value} {fl:Bool} (hW:Wk w0 k b r g tv fl) (hr:Ok r) (hw:Cl w0 wb #[.pointer (some ⟨k,0,none⟩)] 136) (m:Sh) :
 Calls Tryz.prog 119 #[fB m,.pointer (some ⟨wb,0,none⟩)] w0 fun e w'=>e=.returned (.bool (m.id == g && dX r m.id))/\Below w0.heap.size w0 w':=by
 have HV:=show Hid (∀ W,Below w0.heap.size w0 W->W.cell? ⟨wb,0,none⟩=some (.pointer (some ⟨k,0,none⟩))) from fun W h=>(hw.later h).cell 0
 have KL:=show Hid (∀ W,Below w0.heap.size w0 W->Calls Tryz.prog 121 #[.pointer (some ⟨k,0,none⟩),.int .i64 m.id] W fun e w'=>e=.returned (.bool (dX r m.id))/\Below W.heap.size W w') from fun W h=>qN W (hW.later h) hr m.id
 have KG:=show Hid (∀ W,Below w0.heap.size w0 W->Calls Tryz.prog 120 #[.pointer (some ⟨k,0,none⟩),.int .i64 m.id] W fun e w'=>e=.returned (.bool (m.id == g))/\Below W.heap.size W w') from fun W h=>zy W (hW.later h) hr m.id
 clear hW hw
 generalize dX r m.id=il at *
 generalize (m.id == g)=ig at *
 unfold fB
 go_enter Tryz.func119,Tryz.ntmps119
 go_wp2_with (refine aC _ _ rfl _ rfl rfl ?_)
 intro w1 b3 hn1
 have H1:=show Hid (Below w0.heap.size w0 w1/\Cl w1 b3 (bB m) 182) from⟨hn1.av,hn1.blk⟩
 have c1:=HV.out w1 hn1.av
 obtain⟨d0,-,-,-,-,-,-⟩:=oQ hn1.blk
 have KX:=show Hid _ from KG.out w1 hn1.av
 clear hn1 KG
 go_wp2_with fail
 refine Calls.mono KX.out ?_
 rintro e w2 ⟨rfl,hb2⟩
 have H2:=show Hid (Below w0.heap.size w0 w2) from H1.out.1.trans (hb2.mono H1.out.1.size)
 have c2:=HV.out w2 H2.out
 obtain⟨e0,-,-,-,-,-,-⟩:=oQ (H1.out.2.later hb2)
 have KY:=show Hid _ from KL.out w2 H2.out
 clear hb2 KX H1 c1 d0 KL HV
 cases ig
 ·go_wp2_with fail
  go_ret
  exact⟨rfl,H2.out⟩
 ·go_wp2_with fail
  refine Calls.mono KY.out ?_
  rintro e w3 ⟨rfl,hb3⟩
  have H3:=show Hid _ from H2.out.trans (hb3.mono H2.out.size)
  clear hb3 KY H2 c2 e0
  go_wp2_with fail
  go_ret
  exact⟨rfl,H3.out⟩
theorem Mg (w0:World) {k b wb fb:Nat} {r:List Nat} {g:Int} {tv:Value} {fl:Bool} (hW:Wk w0 k b r g tv fl) (hr:Ok r) (hw:Cl w0 wb #[.pointer (some ⟨k,0,none⟩)] 136) (fv:Value) (p:Sh->Bool) (hf:Cl w0 fb #[fv] 183) (hF:je w0 fv p) (m:Sh) :
 Calls Tryz.prog 125 #[fB m,.pointer (some ⟨fb,0,none⟩),.pointer (some ⟨wb,0,none⟩)] w0 fun e w'=>e=.returned (.bool (p m && dX r m.a))/\Below w0.heap.size w0 w':=by
 have HV:=show Hid (∀ W,Below w0.heap.size w0 W->W.cell? ⟨wb,0,none⟩=some (.pointer (some ⟨k,0,none⟩))) from fun W h=>(hw.later h).cell 0
 have HF:=show Hid (∀ W,Below w0.heap.size w0 W->W.cell? ⟨fb,0,none⟩=some fv) from fun W h=>(hf.later h).cell 0
 have KL:=show Hid (∀ W,Below w0.heap.size w0 W->Calls Tryz.prog 121 #[.pointer (some ⟨k,0,none⟩),.int .i64 m.a] W fun e w'=>e=.returned (.bool (dX r m.a))/\Below W.heap.size W w') from fun W h=>qN W (hW.later h) hr m.a
 obtain⟨gf,cs,rfl,hcf,hc⟩:=hF
 unfold fB at hc |-
 have HC:=show Hid ((∀ (vs:Array Value) (w:World),(callFunc gf vs).run Tryz.prog w=.ok (.enter gf vs) w)/\∀ W:World,Below w0.heap.size w0 W->Calls Tryz.prog gf ([Value.agg (bB m)] ++ cs).toArray W fun e w'=>e=.returned (.bool (p m))/\Below W.heap.size W w') from⟨hcf,fun W h=>hc W m (Same.of_below h)⟩
 clear hW hw hf hcf hc
 generalize dX r m.a=il at *
 generalize p m=ig at *
 go_enter Tryz.func125,Tryz.ntmps125
 go_wp2_with (refine aC _ _ rfl _ rfl rfl ?_)
 intro w1 b3 hn1
 have H1:=show Hid (Below w0.heap.size w0 w1/\Cl w1 b3 (bB m) 182) from⟨hn1.av,hn1.blk⟩
 have c1:=HF.out w1 hn1.av
 clear hn1
 go_wp2_with (first|(refine fq 182 _ rfl b3 rfl _ _ H1.out.2 rfl Tryz.underlying182 jW rfl ?_)|(refine vZ rfl gf _ [.tmp 6] _ rfl [.agg (bB m)] cs rfl rfl HC.out.1 ?_))
 refine Calls.mono (HC.out.2 w1 H1.out.1) ?_
 rintro e w2 ⟨rfl,hb2⟩
 refine⟨_,rfl,?_⟩
 have H2:=show Hid (Below w0.heap.size w0 w2) from H1.out.1.trans (hb2.mono H1.out.1.size)
 have c2:=HV.out w2 H2.out
 obtain⟨-,-,e2,-,-,-,-⟩:=oQ (H1.out.2.later hb2)
 have KY:=show Hid _ from KL.out w2 H2.out
 clear hb2 H1 c1 KL HV HC HF
 cases ig
 ·go_wp2_with fail
  go_ret
  exact⟨rfl,H2.out⟩
 ·go_wp2_with fail
  refine Calls.mono KY.out ?_
  rintro e w3 ⟨rfl,hb3⟩
  have H3:=show Hid _ from H2.out.trans (hb3.mono H2.out.size)
  clear hb3 KY H2 c2 e2
  go_wp2_with fail
  go_ret
  exact⟨rfl,H3.out⟩
structure T3 where
 n:Int
 gf:Nat
 cs:List Value
 pf:Nat
 ps:List Value
def T3.fv (x:T3):Value:=.func (.func x.gf) #[] x.cs.toArray
def T3.pv (x:T3):Value:=.func (.func x.pf) #[] x.ps.toArray
def c3 (x:T3):List Value:=[.int .i64 x.n,x.fv,x.pv]
def jD (l:List T3):List Value:=l.flatMap c3
def mY (r:List Nat) (g:Int) (i:Nat) (m:Sh):Bool:=match i with
 | 0=>m.k == 2 && dX r m.id
 | 1=>m.id == g && dX r m.id
 | 2=>m.k == 3 && dX r m.id
 | 3=>(m.q == 1 && dX r m.id) && dX r m.a
 | 4=>m.q == 2 && dX r m.id
 | 5=>m.q == 3 && dX r m.id
 | 6=>m.q == 4 && dX r m.id
 | 7=>m.k == 5 && (m.id == g)
 | 8=>m.k == 3 && (m.id == g)
 | 9=>m.k == 4 && dX r m.id
 | 10=>m.k == 4 && (m.id == g)
 | 11=>m.k == 4 && (m.id == g)
 | 12=>m.q == 5 && dX r m.id
 | _=>false
theorem aX.yu {w:World} {k b:Nat} {r:List Nat} {g kd:Int} {tv v:Value} {fl:Bool} (h:aX w 153 k kd v) (hW:Wk w k b r g tv fl) (hr:Ok r):je w v (fun m=>m.k == kd && dX r m.id):=by
 obtain⟨kb,wb,rfl,h1,h2⟩:=h
 exact⟨_,[.pointer (some ⟨kb,0,none⟩),.pointer (some ⟨wb,0,none⟩)],rfl,enters_of Tryz.func153 (by kernel_rfl) rfl,fun W m hb=>Mc W (Cl.same hW (by decide) (by decide) hb) hr kd (h1.same (by decide) (by decide) hb) (h2.same (by decide) (by decide) hb) m⟩
theorem aX.rF {w:World} {k b:Nat} {r:List Nat} {g kd:Int} {tv v:Value} {fl:Bool} (h:aX w 152 k kd v) (hW:Wk w k b r g tv fl) (hr:Ok r):je w v (fun m=>m.q == kd && dX r m.id):=by
 obtain⟨kb,wb,rfl,h1,h2⟩:=h
 exact⟨_,[.pointer (some ⟨kb,0,none⟩),.pointer (some ⟨wb,0,none⟩)],rfl,enters_of Tryz.func152 (by kernel_rfl) rfl,fun W m hb=>Md W (Cl.same hW (by decide) (by decide) hb) hr kd (h1.same (by decide) (by decide) hb) (h2.same (by decide) (by decide) hb) m⟩
theorem aX.uP {w:World} {k b:Nat} {r:List Nat} {g kd:Int} {tv v:Value} {fl:Bool} (h:aX w 157 k kd v) (hW:Wk w k b r g tv fl) (hr:Ok r):je w v (fun m=>m.k == kd && (m.id == g)):=by
 obtain⟨kb,wb,rfl,h1,h2⟩:=h
 exact⟨_,[.pointer (some ⟨kb,0,none⟩),.pointer (some ⟨wb,0,none⟩)],rfl,enters_of Tryz.func157 (by kernel_rfl) rfl,fun W m hb=>Me W (Cl.same hW (by decide) (by decide) hb) hr kd (h1.same (by decide) (by decide) hb) (h2.same (by decide) (by decide) hb) m⟩
theorem Vd {w:World} {k b wb:Nat} {r:List Nat} {g:Int} {tv v:Value} {fl:Bool} (hv:v=.func (.func 119) #[] #[.pointer (some ⟨wb,0,none⟩)]) (h2:Cl w wb #[.pointer (some ⟨k,0,none⟩)] 136) (hW:Wk w k b r g tv fl) (hr:Ok r):je w v (fun m=>m.id == g && dX r m.id):=by
 subst hv
 exact⟨_,[.pointer (some ⟨wb,0,none⟩)],rfl,enters_of Tryz.func119 (by kernel_rfl) rfl,fun W m hb=>Mf W (Cl.same hW (by decide) (by decide) hb) hr (h2.same (by decide) (by decide) hb) m⟩
theorem Ve {w:World} {k b wb fb:Nat} {r:List Nat} {g:Int} {tv v fa:Value} {fl:Bool} (hv:v=.func (.func 125) #[] #[.pointer (some ⟨fb,0,none⟩),.pointer (some ⟨wb,0,none⟩)]) (h2:Cl w wb #[.pointer (some ⟨k,0,none⟩)] 136) (h3:Cl w fb #[fa] 183) (h4:aX w 152 k 1 fa) (hW:Wk w k b r g tv fl) (hr:Ok r):je w v (fun m=>(m.q == 1 && dX r m.id) && dX r m.a):=by
 subst hv
 exact⟨_,[.pointer (some ⟨fb,0,none⟩),.pointer (some ⟨wb,0,none⟩)],rfl,enters_of Tryz.func125 (by kernel_rfl) rfl,fun W m hb=>Mg W (Cl.same hW (by decide) (by decide) hb) hr (h2.same (by decide) (by decide) hb) fa _ (h3.same (by decide) (by decide) hb) ((h4.rF hW hr).same hb) m⟩
theorem oH.fit {w:World} {k b T wb fb:Nat} {r:List Nat} {g:Int} {tv:Value} {fl:Bool} {F:Nat->Value} (h:oH w k T wb fb F) (hW:Wk w k b r g tv fl) (hr:Ok r):∀ i,i<13->je w (F i) (mY r g i):=by
 obtain⟨fa,h3,h4⟩:=h.U4
 exact dL 13 ⟨⟨⟨⟨⟨⟨⟨⟨⟨⟨⟨⟨⟨trivial,aX.yu (h.f 0 (by decide)) hW hr⟩,Vd (h.f 1 (by decide)) h.gU hW hr⟩,aX.yu (h.f 2 (by decide)) hW hr⟩,Ve (h.f 3 (by decide)) h.gU h3 h4 hW hr⟩,aX.rF (h.f 4 (by decide)) hW hr⟩,aX.rF (h.f 5 (by decide)) hW hr⟩,aX.rF (h.f 6 (by decide)) hW hr⟩,aX.uP (h.f 7 (by decide)) hW hr⟩,aX.uP (h.f 8 (by decide)) hW hr⟩,aX.yu (h.f 9 (by decide)) hW hr⟩,aX.uP (h.f 10 (by decide)) hW hr⟩,aX.uP (h.f 11 (by decide)) hW hr⟩,aX.rF (h.f 12 (by decide)) hW hr⟩
structure Made (w:World) (k b T wb:Nat) (r:List Nat) (g:Int) (L:List T3):Prop where
 wk:Wk w k b r g (.slice (some ⟨T,0,none⟩) 13 13) false
 row:Cl w T (jD L).toArray 186
 len:L.length=13
 num:∀ i (h:i<L.length),L[i].n=(i:Int)+1
 fit:∀ i (h:i<L.length),je w L[i].fv (mY r g i)
 Vf:∀ i (h:i<L.length),L[i].pv=jJ wb i
 gU:Cl w wb #[.pointer (some ⟨k,0,none⟩)] 136
theorem Made.later {w w':World} {k b T wb:Nat} {r:List Nat} {g:Int} {L:List T3} (h:Made w k b T wb r g L) (hb:Below w.heap.size w w'):Made w' k b T wb r g L :=
 ⟨h.wk.later hb,h.row.later hb,h.len,h.num,fun i hi=>(h.fit i hi).later hb,h.Vf,h.gU.later hb⟩
theorem Made.same {w w':World} {k b T wb:Nat} {r:List Nat} {g:Int} {L:List T3} (h:Made w k b T wb r g L) (hb:Same w w'):Made w' k b T wb r g L :=
 ⟨Cl.same h.wk (by decide) (by decide) hb,h.row.same (by decide) (by decide) hb,h.len,h.num,fun i hi=>(h.fit i hi).same hb,h.Vf,h.gU.same (by decide) (by decide) hb⟩
theorem OQ (wb i:Nat) (hi:i<13):∃ pf ps,jJ wb i=.func (.func pf) #[] (List.toArray ps):=by
 revert i
 exact dL 13 ⟨⟨⟨⟨⟨⟨⟨⟨⟨⟨⟨⟨⟨trivial,⟨_,[],rfl⟩⟩,⟨_,[],rfl⟩⟩,⟨_,[.pointer (some ⟨wb,0,none⟩)],rfl⟩⟩,⟨_,[.pointer (some ⟨wb,0,none⟩)],rfl⟩⟩,⟨_,[.pointer (some ⟨wb,0,none⟩)],rfl⟩⟩,⟨_,[.pointer (some ⟨wb,0,none⟩)],rfl⟩⟩,⟨_,[.pointer (some ⟨wb,0,none⟩)],rfl⟩⟩,⟨_,[.pointer (some ⟨wb,0,none⟩)],rfl⟩⟩,⟨_,[.pointer (some ⟨wb,0,none⟩)],rfl⟩⟩,⟨_,[.pointer (some ⟨wb,0,none⟩)],rfl⟩⟩,⟨_,[.pointer (some ⟨wb,0,none⟩)],rfl⟩⟩,⟨_,[.pointer (some ⟨wb,0,none⟩)],rfl⟩⟩,⟨_,[.pointer (some ⟨wb,0,none⟩)],rfl⟩⟩
theorem oH.made {w:World} {k b T wb fb:Nat} {r:List Nat} {g:Int} {F:Nat->Value} (h:oH w k T wb fb F) (hW:Wk w k b r g (.slice (some ⟨T,0,none⟩) 13 13) false) (hr:Ok r):∃ L,Made w k b T wb r g L:=by
 have hf:=h.fit hW hr
 have hch:∀ i:Fin 13,∃ x:T3,x.n=(i.val:Int)+1/\x.fv=F i.val/\x.pv=jJ wb i.val:=fun i=>by
  obtain⟨gf,cs,h1,_⟩:=hf i.val i.isLt
  obtain⟨pf,ps,h2⟩:=OQ wb i.val i.isLt
  exact⟨⟨_,gf,cs,pf,ps⟩,rfl,h1.symm,h2.symm⟩
 obtain⟨X,hX⟩:=Classical.axiomOfChoice hch
 have hl:(List.ofFn X).length=13:=by simp
 have hg:∀ i (h:i<(List.ofFn X).length),(List.ofFn X)[i]=X ⟨i,by omega⟩:=fun i h=>List.getElem_ofFn ..
 refine⟨List.ofFn X,hW,?_,hl,fun i hi => ?_,fun i hi => ?_,fun i hi => ?_,h.gU⟩
 ·have e:jD (List.ofFn X)=(OO wb F).toList:=by
   have e1:List.ofFn X=[X ⟨0,by decide⟩,X ⟨1,by decide⟩,X ⟨2,by decide⟩,X ⟨3,by decide⟩,X ⟨4,by decide⟩,X ⟨5,by decide⟩,X ⟨6,by decide⟩,X ⟨7,by decide⟩,X ⟨8,by decide⟩,X ⟨9,by decide⟩,X ⟨10,by decide⟩,X ⟨11,by decide⟩,X ⟨12,by decide⟩]:=by
    apply List.ext_getElem
    ·simp
    ·intro i h1 h2
     rw[hg i h1]
     match i,h2 with
     | 0,_=>rfl
     | 1,_=>rfl
     | 2,_=>rfl
     | 3,_=>rfl
     | 4,_=>rfl
     | 5,_=>rfl
     | 6,_=>rfl
     | 7,_=>rfl
     | 8,_=>rfl
     | 9,_=>rfl
     | 10,_=>rfl
     | 11,_=>rfl
     | 12,_=>rfl
   rw[e1]
   simp only[jD,c3,List.flatMap_cons,List.flatMap_nil,(hX _).1,(hX _).2.1,(hX _).2.2]
   rfl
  rw[e]
  exact h.row
 ·rw[hg i hi]
  exact(hX _).1
 ·rw[hg i hi,(hX _).2.1]
  exact hf i (by omega)
 ·rw[hg i hi]
  exact(hX _).2.2
theorem Vg (b:Nat) (r0 r1 r2 r3 r4 r5 r6 r7 r8 r9 bS bW dB dD dF dP:Nat) (g:Int) (tv v:Value) (fl:Bool):(vY b [r0,r1,r2,r3,r4,r5,r6,r7,r8,r9,bS,bW,dB,dD,dF,dP] g tv fl).setIfInBounds 18 v=vY b [r0,r1,r2,r3,r4,r5,r6,r7,r8,r9,bS,bW,dB,dD,dF,dP] g v fl:=by kernel_rfl
theorem Vh (b:Nat) (r0 r1 r2 r3 r4 r5 r6 r7 r8 r9 bS bW dB dD dF dP:Nat) (g:Int) (tv:Value) (fl lD:Bool):(vY b [r0,r1,r2,r3,r4,r5,r6,r7,r8,r9,bS,bW,dB,dD,dF,dP] g tv fl).setIfInBounds 19 (.bool lD)=vY b [r0,r1,r2,r3,r4,r5,r6,r7,r8,r9,bS,bW,dB,dD,dF,dP] g tv lD:=by kernel_rfl
theorem Wk.ZC {w:World} {k b:Nat} {r:List Nat} {g:Int} {tv:Value} {fl:Bool} (h:Wk w k b r g tv fl) (hr:r.length=16) (v:Value):Wk (w.setCell ⟨k,18,none⟩ v) k b r g v fl:=by
 have:=heap_setCell_same w k 18 _ _ v h
 match r,hr with
 | [r0,r1,r2,r3,r4,r5,r6,r7,r8,r9,bS,bW,dB,dD,dF,dP],_=>rw[Vg] at this;exact this
theorem Wk.ZE {w:World} {k b:Nat} {r:List Nat} {g:Int} {tv:Value} {fl:Bool} (h:Wk w k b r g tv fl) (hr:r.length=16) (lD:Bool):Wk (w.setCell ⟨k,19,none⟩ (.bool lD)) k b r g tv lD:=by
 have:=heap_setCell_same w k 19 _ _ (.bool lD) h
 match r,hr with
 | [r0,r1,r2,r3,r4,r5,r6,r7,r8,r9,bS,bW,dB,dD,dF,dP],_=>rw[Vh] at this;exact this
theorem OT (w:World) (b:Nat) (r0 r1 r2 r3 r4 r5 r6 r7 r8 r9 bS bW dB dD dF dP:Nat) (g:Int):(Instr.build 174 #[(0,.pointer (some ⟨b,0,none⟩)),(1,.agg (au [r0,r1,r2,r3,r4,r5,r6,r7,r8,r9,bS,bW,dB,dD,dF,dP] g))]).run Tryz.prog w=.ok (.agg (vY b [r0,r1,r2,r3,r4,r5,r6,r7,r8,r9,bS,bW,dB,dD,dF,dP] g (.slice none 0 0) false)) w:=by kernel_rfl
theorem BS {ops:Array Oper} {rest:List Oper} {o:Oper} {a:Act} {Q:Exit->Act->World->Prop} (w:World) (hg:o.guard=none) (x y:Operand) (hop:o.op=Op.build 174 #[(0,x),(1,y)]) (b:Nat) {r:List Nat} {g:Int} (hx:a.eval x=.pointer (some ⟨b,0,none⟩)) (hy:a.eval y=.agg (au r g)) (hr:r.length=16)
 (hK:wpList Tryz.prog ops Q rest (a.put o.dst (.agg (vY b r g (.slice none 0 0) false))) w):wpList Tryz.prog ops Q (o :: rest) a w:=by
 refine wpList_plain hg fun K' hK' => ?_
 have hrun:(Instr.build 174 #[(0,.pointer (some ⟨b,0,none⟩)),(1,.agg (au r g))]).run Tryz.prog w=.ok (.agg (vY b r g (.slice none 0 0) false)) w:=by
  match r,hr with
  | [r0,r1,r2,r3,r4,r5,r6,r7,r8,r9,bS,bW,dB,dD,dF,dP],_=>exact OT ..
 unfold Oper.wp
 simp[execOp,hop,hx,hy,hrun,Result.andThen]
 exact hK' _ _ hK
theorem sU (w0:World) (b:Nat) {r:List Nat} (hr:Ok r) (g:Int):Calls Tryz.prog 66 #[.pointer (some ⟨b,0,none⟩),.agg (au r g)] w0 fun e w'=>∃ k T wb L,e=.returned (.pointer (some ⟨k,0,none⟩))/\Made w' k b T wb r g L/\w0.heap.size<=k/\Below w0.heap.size w0 w':=by
 have hl:=hr.1
 have KL:=show Hid (∀ (w:World) (k:Nat),Calls Tryz.prog 93 #[.pointer (some ⟨k,0,none⟩)] w fun e w'=>∃ T wb fb F,e=.returned (.slice (some ⟨T,0,none⟩) 13 13)/\oH w' k T wb fb F/\Below w.heap.size w w') from fun w k=>OP w k
 go_enter Tryz.func66,Tryz.ntmps66
 go_wp2_with (refine aC 53 _ rfl _ rfl rfl ?_)
 intro w1 b3 hn1
 have H1:=show Hid (bM w1 b3 r g/\Below w0.heap.size w0 w1) from⟨hn1.blk,hn1.av⟩
 clear hn1
 go_wp2_with (first|(refine dU _ _ rfl b3 rfl H1.out.1 hl rfl ?_)|(refine BS _ rfl _ _ rfl b rfl rfl hl ?_)|(refine aC 174 _ rfl _ rfl rfl ?_))
 intro w2 k hn2
 have H2:=show Hid (Wk w2 k b r g (.slice none 0 0) false/\Below w0.heap.size w0 w2/\w0.heap.size<=k) from⟨hn2.blk,cO H1.out.2 hn2,by have:=H1.out.2.size;have:=hn2.ge;omega⟩
 clear hn2 H1
 go_wp2_with fail
 refine Calls.mono (KL.out w2 k) ?_
 rintro e w3 ⟨T,wb,fb,F,rfl,hT,hb3⟩
 have hW3:=H2.out.1.later hb3
 have c18:=hW3.U2 hl
 have f18:=Cl.fr hW3 18
 have Yx:=show Hid (dn k w3 (w3.setCell ⟨k,18,none⟩ (.slice (some ⟨T,0,none⟩) 13 13))) from dn.set (Kp.refl _ w3) 18 _
 have H4:=show Hid (Wk (w3.setCell ⟨k,18,none⟩ (.slice (some ⟨T,0,none⟩) 13 13)) k b r g (.slice (some ⟨T,0,none⟩) 13 13) false) from hW3.ZC hl _
 have H3:=show Hid (oH w3 k T wb fb F/\Wk w3 k b r g (.slice none 0 0) false/\Below w0.heap.size w0 w3/\w0.heap.size<=k) from⟨hT,hW3,H2.out.2.1.trans (hb3.mono H2.out.2.1.size),H2.out.2.2⟩
 clear hT hb3 hW3 H2 KL
 go_wp2_with fail
 go_ret
 obtain⟨L,hL⟩:=(H3.out.1.kp H3.out.2.1 Yx.out).made H4.out hr
 exact⟨k,T,wb,L,rfl,hL,H3.out.2.2.2,bR H3.out.2.2.1 Yx.out H3.out.2.2.2⟩
end Go.Proofs.YtkpbpecikibohaaGreatDoor
