import Derived.Test.YtkpbpecikibohaaGreatDoorZG1
import Derived.Laws.EntriesVeiled
set_option linter.unusedSimpArgs false
set_option maxRecDepth 100000
set_option maxHeartbeats 4000000
namespace Go.Proofs.YtkpbpecikibohaaGreatDoor
open Go.RowKit Go.Shelf Go.Maps
open Fm (Nd)
open Bt.Bs (Ok wd)
def aX (w:World) (gf k:Nat) (kd:Int) (v:Value):Prop :=
 ∃ kb wb,v=.func (.func gf) #[] #[.pointer (some ⟨kb,0,none⟩),.pointer (some ⟨wb,0,none⟩)]/\Cl w kb #[.int .i64 kd] 65/\Cl w wb #[.pointer (some ⟨k,0,none⟩)] 136
theorem aX.later {w w':World} {gf k:Nat} {kd:Int} {v:Value} (h:aX w gf k kd v) (hb:Below w.heap.size w w'):aX w' gf k kd v:=by
 obtain⟨kb,wb,hv,h1,h2⟩:=h
 exact⟨kb,wb,hv,h1.later hb,h2.later hb⟩
theorem aX.kp {w w':World} {gf k:Nat} {kd:Int} {v:Value} (h:aX w gf k kd v) {cs:Array Value} (hk:Cl w k cs 174) (hb:dn k w w'):aX w' gf k kd v:=by
 obtain⟨kb,wb,hv,h1,h2⟩:=h
 exact⟨kb,wb,hv,h1.kp hb (fun e=>by subst e;have:=h1.symm.trans hk;simp at this),h2.kp hb (fun e=>by subst e;have:=h2.symm.trans hk;simp at this)⟩
theorem yt (w:World) (k:Nat) (kd:Int):Calls Tryz.prog 118 #[.pointer (some ⟨k,0,none⟩),.int .i64 kd] w fun e w'=>∃ v,e=.returned v/\aX w' 153 k kd v/\Below w.heap.size w w':=by
 go_enter Tryz.func118,Tryz.ntmps118
 go_wp2_with (refine fD _ _ rfl _ rfl rfl rfl ?_)
 intro w1 b1 hn1
 go_wp2_with (refine fD _ _ rfl _ rfl rfl rfl ?_)
 intro w2 b2 hn2
 go_wp2_with fail
 go_ret
 exact⟨_,rfl,⟨b2,b1,rfl,hn2.blk,Cl.new hn1.blk hn2⟩,cO hn1.av hn2⟩
theorem pY (w:World) (k:Nat) (kd:Int):Calls Tryz.prog 116 #[.pointer (some ⟨k,0,none⟩),.int .i64 kd] w fun e w'=>∃ v,e=.returned v/\aX w' 152 k kd v/\Below w.heap.size w w':=by
 go_enter Tryz.func116,Tryz.ntmps116
 go_wp2_with (refine fD _ _ rfl _ rfl rfl rfl ?_)
 intro w1 b1 hn1
 go_wp2_with (refine fD _ _ rfl _ rfl rfl rfl ?_)
 intro w2 b2 hn2
 go_wp2_with fail
 go_ret
 exact⟨_,rfl,⟨b2,b1,rfl,hn2.blk,Cl.new hn1.blk hn2⟩,cO hn1.av hn2⟩
theorem uO (w:World) (k:Nat) (kd:Int):Calls Tryz.prog 131 #[.pointer (some ⟨k,0,none⟩),.int .i64 kd] w fun e w'=>∃ v,e=.returned v/\aX w' 157 k kd v/\Below w.heap.size w w':=by
 go_enter Tryz.func131,Tryz.ntmps131
 go_wp2_with (refine fD _ _ rfl _ rfl rfl rfl ?_)
 intro w1 b1 hn1
 go_wp2_with (refine fD _ _ rfl _ rfl rfl rfl ?_)
 intro w2 b2 hn2
 go_wp2_with fail
 go_ret
 exact⟨_,rfl,⟨b2,b1,rfl,hn2.blk,Cl.new hn1.blk hn2⟩,cO hn1.av hn2⟩
def ko (w:World) (k wb fb:Nat) (i:Nat) (v:Value):Prop:=match i with
 | 0=>aX w 153 k 2 v
 | 1=>v=.func (.func 119) #[] #[.pointer (some ⟨wb,0,none⟩)]
 | 2=>aX w 153 k 3 v
 | 3=>v=.func (.func 125) #[] #[.pointer (some ⟨fb,0,none⟩),.pointer (some ⟨wb,0,none⟩)]
 | 4=>aX w 152 k 2 v
 | 5=>aX w 152 k 3 v
 | 6=>aX w 152 k 4 v
 | 7=>aX w 157 k 5 v
 | 8=>aX w 157 k 3 v
 | 9=>aX w 153 k 4 v
 | 10=>aX w 157 k 4 v
 | 11=>aX w 157 k 4 v
 | 12=>aX w 152 k 5 v
 | _=>True
def jJ (wb:Nat) (i:Nat):Value:=match i with
 | 0=>.func (.func 117) #[] #[]
 | 1=>.func (.func 117) #[] #[]
 | 2=>.func (.func 122) #[] #[.pointer (some ⟨wb,0,none⟩)]
 | 3=>.func (.func 126) #[] #[.pointer (some ⟨wb,0,none⟩)]
 | 4=>.func (.func 127) #[] #[.pointer (some ⟨wb,0,none⟩)]
 | 5=>.func (.func 128) #[] #[.pointer (some ⟨wb,0,none⟩)]
 | 6=>.func (.func 130) #[] #[.pointer (some ⟨wb,0,none⟩)]
 | 7=>.func (.func 132) #[] #[.pointer (some ⟨wb,0,none⟩)]
 | 8=>.func (.func 134) #[] #[.pointer (some ⟨wb,0,none⟩)]
 | 9=>.func (.func 135) #[] #[.pointer (some ⟨wb,0,none⟩)]
 | 10=>.func (.func 136) #[] #[.pointer (some ⟨wb,0,none⟩)]
 | 11=>.func (.func 137) #[] #[.pointer (some ⟨wb,0,none⟩)]
 | 12=>.func (.func 138) #[] #[.pointer (some ⟨wb,0,none⟩)]
 | _=>undef
def OO (wb:Nat) (F:Nat->Value):Array Value:=#[.int .i64 1,F 0,jJ wb 0,.int .i64 2,F 1,jJ wb 1,.int .i64 3,F 2,jJ wb 2,.int .i64 4,F 3,jJ wb 3,.int .i64 5,F 4,jJ wb 4,.int .i64 6,F 5,jJ wb 5,.int .i64 7,F 6,jJ wb 6,.int .i64 8,F 7,jJ wb 7,.int .i64 9,F 8,jJ wb 8,.int .i64 10,F 9,jJ wb 9,.int .i64 11,F 10,jJ wb 10,.int .i64 12,F 11,jJ wb 11,.int .i64 13,F 12,jJ wb 12]
theorem ko.later {w w':World} {k wb fb i:Nat} {v:Value} (h:ko w k wb fb i v) (hb:Below w.heap.size w w'):ko w' k wb fb i v:=by
 match i,h with
 | 0,h=>exact aX.later h hb
 | 1,h=>exact h
 | 2,h=>exact aX.later h hb
 | 3,h=>exact h
 | 4,h=>exact aX.later h hb
 | 5,h=>exact aX.later h hb
 | 6,h=>exact aX.later h hb
 | 7,h=>exact aX.later h hb
 | 8,h=>exact aX.later h hb
 | 9,h=>exact aX.later h hb
 | 10,h=>exact aX.later h hb
 | 11,h=>exact aX.later h hb
 | 12,h=>exact aX.later h hb
 | _+13,h=>trivial
theorem ko.kp {w w':World} {k wb fb i:Nat} {v:Value} (h:ko w k wb fb i v) {cs:Array Value} (hk:Cl w k cs 174) (hb:dn k w w'):ko w' k wb fb i v:=by
 match i,h with
 | 0,h=>exact aX.kp h hk hb
 | 1,h=>exact h
 | 2,h=>exact aX.kp h hk hb
 | 3,h=>exact h
 | 4,h=>exact aX.kp h hk hb
 | 5,h=>exact aX.kp h hk hb
 | 6,h=>exact aX.kp h hk hb
 | 7,h=>exact aX.kp h hk hb
 | 8,h=>exact aX.kp h hk hb
 | 9,h=>exact aX.kp h hk hb
 | 10,h=>exact aX.kp h hk hb
 | 11,h=>exact aX.kp h hk hb
 | 12,h=>exact aX.kp h hk hb
 | _+13,h=>trivial
structure oH (w:World) (k T wb fb:Nat) (F:Nat->Value):Prop where
 row:Cl w T (OO wb F) 186
 gU:Cl w wb #[.pointer (some ⟨k,0,none⟩)] 136
 U4:∃ fa,Cl w fb #[fa] 183/\aX w 152 k 1 fa
 f:∀ i,i<13->ko w k wb fb i (F i)
theorem oH.later {w w':World} {k T wb fb:Nat} {F:Nat->Value} (h:oH w k T wb fb F) (hb:Below w.heap.size w w'):oH w' k T wb fb F:=by
 obtain⟨fa,h1,h2⟩:=h.U4
 exact⟨h.row.later hb,h.gU.later hb,⟨fa,h1.later hb,h2.later hb⟩,fun i hi=>(h.f i hi).later hb⟩
theorem oH.kp {w w':World} {k T wb fb:Nat} {F:Nat->Value} (h:oH w k T wb fb F) {cs:Array Value} (hk:Cl w k cs 174) (hb:dn k w w'):oH w' k T wb fb F:=by
 obtain⟨fa,h1,h2⟩:=h.U4
 refine⟨h.row.kp hb ?_,h.gU.kp hb ?_,⟨fa,h1.kp hb ?_,h2.kp hk hb⟩,fun i hi=>(h.f i hi).kp hk hb⟩
 ·rintro rfl
  have:=h.row.symm.trans hk
  simp at this
 ·rintro rfl
  have:=h.gU.symm.trans hk
  simp at this
 ·rintro rfl
  have:=h1.symm.trans hk
  simp at this
theorem RZ (w:World) (a0 b0 c0 a1 b1 c1 a2 b2 c2 a3 b3 c3 a4 b4 c4 a5 b5 c5 a6 b6 c6 a7 b7 c7 a8 b8 c8 a9 b9 c9 LU b10 c10 LV b11 c11 a12 b12 c12:Value):(Instr.buildSlice 172 13 #[(0,.agg #[a0,b0,c0]),(1,.agg #[a1,b1,c1]),(2,.agg #[a2,b2,c2]),(3,.agg #[a3,b3,c3]),(4,.agg #[a4,b4,c4]),(5,.agg #[a5,b5,c5]),(6,.agg #[a6,b6,c6]),(7,.agg #[a7,b7,c7]),(8,.agg #[a8,b8,c8]),(9,.agg #[a9,b9,c9]),(10,.agg #[LU,b10,c10]),(11,.agg #[LV,b11,c11]),(12,.agg #[a12,b12,c12])]).run Tryz.prog w=.ok (.slice (some ⟨w.heap.size,0,none⟩) 13 13) (w.alloc (.cells #[a0,b0,c0,a1,b1,c1,a2,b2,c2,a3,b3,c3,a4,b4,c4,a5,b5,c5,a6,b6,c6,a7,b7,c7,a8,b8,c8,a9,b9,c9,LU,b10,c10,LV,b11,c11,a12,b12,c12] 186)):=by kernel_rfl
theorem kr (w:World) (n:Int) (f1 f2:Fn) (x1 x2 c1 c2:Array Value):(Instr.build 186 #[(0,.int .i64 n),(1,.func f1 x1 c1),(2,.func f2 x2 c2)]).run Tryz.prog w=.ok (.agg #[.int .i64 n,.func f1 x1 c1,.func f2 x2 c2]) w:=by kernel_rfl
theorem Xo (w:World):(zeroValue 183).run Tryz.prog w=.ok Value.nilFunc w:=by kernel_rfl
theorem OP (w0:World) (k:Nat):Calls Tryz.prog 93 #[.pointer (some ⟨k,0,none⟩)] w0 fun e w'=>∃ T wb fb F,e=.returned (.slice (some ⟨T,0,none⟩) 13 13)/\oH w' k T wb fb F/\Below w0.heap.size w0 w':=by
 have KF:=show Hid (∀ w,Calls Tryz.prog 116 #[.pointer (some ⟨k,0,none⟩),.int .i64 1] w fun e w'=>∃ v,e=.returned v/\aX w' 152 k 1 v/\Below w.heap.size w w') from fun w=>pY w k 1
 go_enter Tryz.func93,Tryz.ntmps93
 go_wp2_with (refine fD _ _ rfl _ rfl rfl rfl ?_)
 intro w1 wb hn1
 have c1:w1.cell? ⟨wb,0,none⟩=some (.pointer (some ⟨k,0,none⟩)):=Cl.cell hn1.blk 0
 go_wp2_with fail
 refine Calls.mono (KF.out w1) ?_
 rintro e w2 ⟨fa,rfl,hfa,hb2⟩
 have H2:=show Hid (Below w0.heap.size w0 w2/\Cl w2 wb #[.pointer (some ⟨k,0,none⟩)] 136/\aX w2 152 k 1 fa) from⟨hn1.av.trans (hb2.mono hn1.av.size),Cl.later hn1.blk hb2,hfa⟩
 clear hn1 hb2 c1 KF
 obtain⟨DU,gV,rfl,hf1,hf2⟩:=hfa
 go_wp2_with (refine fO _ rfl _ Xo rfl rfl ?_)
 intro w3 fb aL
 have za:=show Hid (Cl (w3.setCell ⟨fb,0,none⟩ (.func (.func 152) #[] #[.pointer (some ⟨DU,0,none⟩),.pointer (some ⟨gV,0,none⟩)])) fb #[.func (.func 152) #[] #[.pointer (some ⟨DU,0,none⟩),.pointer (some ⟨gV,0,none⟩)]] 183) from heap_setCell_same w3 fb 0 _ _ _ aL.blk
 have hlt3:w2.heap.size<=fb:=aL.ge
 have L9:=show Hid (dn fb w3 (w3.setCell ⟨fb,0,none⟩ (.func (.func 152) #[] #[.pointer (some ⟨DU,0,none⟩),.pointer (some ⟨gV,0,none⟩)]))) from dn.set (Kp.refl _ w3) 0 _
 have c3:w3.cell? ⟨fb,0,none⟩=some Value.nilFunc:=Cl.cell aL.blk 0
 have f3:=Cl.fr aL.blk 0
 have H3:=show Hid (Below w0.heap.size w0 w3/\Cl w3 wb #[.pointer (some ⟨k,0,none⟩)] 136/\Cl w3 DU #[.int .i64 1] 65/\Cl w3 gV #[.pointer (some ⟨k,0,none⟩)] 136/\wb≠fb/\DU≠fb/\gV≠fb/\w0.heap.size<=fb) from
  ⟨cO H2.out.1 aL,H2.out.2.1.new aL,hf1.new aL,hf2.new aL,by have:=H2.out.2.1.lt;omega,by have:=hf1.lt;omega,by have:=hf2.lt;omega,by have:=H2.out.1.size;omega⟩
 clear aL H2 hf1 hf2
 go_wp2_with fail
 generalize (w3.setCell ⟨fb,0,none⟩ (.func (.func 152) #[] #[.pointer (some ⟨DU,0,none⟩),.pointer (some ⟨gV,0,none⟩)]))=w4 at *
 have H4:=show Hid (Below w0.heap.size w0 w4/\Cl w4 wb #[.pointer (some ⟨k,0,none⟩)] 136) from⟨bR H3.out.1 L9.out H3.out.2.2.2.2.2.2.2,H3.out.2.1.kp L9.out H3.out.2.2.2.2.1⟩
 have Yt:=show Hid (∀ W,Below w4.heap.size w4 W->∃ fa,Cl W fb #[fa] 183/\aX W 152 k 1 fa) from fun W h=>
  ⟨_,za.out.later h,DU,gV,rfl,(H3.out.2.2.1.kp L9.out H3.out.2.2.2.2.2.1).later h,(H3.out.2.2.2.1.kp L9.out H3.out.2.2.2.2.2.2.1).later h⟩
 refine bK (by kernel_rfl) [some 7,some 8,some 9,some 10,some 11,some 12,some 13,some 14,some 15,some 16,some 17,some 18,some 19,some 20,some 21,some 22,some 23,some 24,some 25,some 26,some 27,some 28,some 29,some 30,some 31,some 32,some 33,some 34,some 35,some 36,some 37,some 38,some 39,some 40,some 41,some 42,some 43,some 44,some 45,some 46,some 47,some 48,some 49,some 50,some 51,some 52,some 53,some 54,some 55,some 56,some 57,some 2] [[],[0],[],[1,2],[],[],[4,5],[],[7],[],[8,9],[],[],[11,12],[],[14],[],[15,16],[],[18],[],[19,20],[],[22],[],[23,24],[],[26],[],[27,28],[],[30],[],[31,32],[],[34],[],[35,36],[],[38],[],[39,40],[],[42],[],[43,44],[],[46],[],[47,48],[3,6,10,13,17,21,25,29,33,37,41,45,49],[50]] (by kernel_rfl) (fun i v w=>match i with | 0=>v=.pointer (some ⟨k,0,none⟩) | 1=>aX w 153 k 2 v | 2=>v=.func (.func 117) #[] #[] | 3=>∃ F,v=.agg #[.int .i64 1,F,.func (.func 117) #[] #[]]/\aX w 153 k 2 F | 4=>v=.func (.func 119) #[] #[.pointer (some ⟨wb,0,none⟩)] | 5=>v=.func (.func 117) #[] #[] | 6=>∃ F,v=.agg #[.int .i64 2,F,.func (.func 117) #[] #[]]/\F=.func (.func 119) #[] #[.pointer (some ⟨wb,0,none⟩)] | 7=>v=.pointer (some ⟨k,0,none⟩) | 8=>aX w 153 k 3 v | 9=>v=.func (.func 122) #[] #[.pointer (some ⟨wb,0,none⟩)] | 10=>∃ F,v=.agg #[.int .i64 3,F,.func (.func 122) #[] #[.pointer (some ⟨wb,0,none⟩)]]/\aX w 153 k 3 F | 11=>v=.func (.func 125) #[] #[.pointer (some ⟨fb,0,none⟩),.pointer (some ⟨wb,0,none⟩)] | 12=>v=.func (.func 126) #[] #[.pointer (some ⟨wb,0,none⟩)] | 13=>∃ F,v=.agg #[.int .i64 4,F,.func (.func 126) #[] #[.pointer (some ⟨wb,0,none⟩)]]/\F=.func (.func 125) #[] #[.pointer (some ⟨fb,0,none⟩),.pointer (some ⟨wb,0,none⟩)] | 14=>v=.pointer (some ⟨k,0,none⟩) | 15=>aX w 152 k 2 v | 16=>v=.func (.func 127) #[] #[.pointer (some ⟨wb,0,none⟩)] | 17=>∃ F,v=.agg #[.int .i64 5,F,.func (.func 127) #[] #[.pointer (some ⟨wb,0,none⟩)]]/\aX w 152 k 2 F | 18=>v=.pointer (some ⟨k,0,none⟩) | 19=>aX w 152 k 3 v | 20=>v=.func (.func 128) #[] #[.pointer (some ⟨wb,0,none⟩)] | 21=>∃ F,v=.agg #[.int .i64 6,F,.func (.func 128) #[] #[.pointer (some ⟨wb,0,none⟩)]]/\aX w 152 k 3 F | 22=>v=.pointer (some ⟨k,0,none⟩) | 23=>aX w 152 k 4 v | 24=>v=.func (.func 130) #[] #[.pointer (some ⟨wb,0,none⟩)] | 25=>∃ F,v=.agg #[.int .i64 7,F,.func (.func 130) #[] #[.pointer (some ⟨wb,0,none⟩)]]/\aX w 152 k 4 F | 26=>v=.pointer (some ⟨k,0,none⟩) | 27=>aX w 157 k 5 v | 28=>v=.func (.func 132) #[] #[.pointer (some ⟨wb,0,none⟩)] | 29=>∃ F,v=.agg #[.int .i64 8,F,.func (.func 132) #[] #[.pointer (some ⟨wb,0,none⟩)]]/\aX w 157 k 5 F | 30=>v=.pointer (some ⟨k,0,none⟩) | 31=>aX w 157 k 3 v | 32=>v=.func (.func 134) #[] #[.pointer (some ⟨wb,0,none⟩)] | 33=>∃ F,v=.agg #[.int .i64 9,F,.func (.func 134) #[] #[.pointer (some ⟨wb,0,none⟩)]]/\aX w 157 k 3 F | 34=>v=.pointer (some ⟨k,0,none⟩) | 35=>aX w 153 k 4 v | 36=>v=.func (.func 135) #[] #[.pointer (some ⟨wb,0,none⟩)] | 37=>∃ F,v=.agg #[.int .i64 10,F,.func (.func 135) #[] #[.pointer (some ⟨wb,0,none⟩)]]/\aX w 153 k 4 F | 38=>v=.pointer (some ⟨k,0,none⟩) | 39=>aX w 157 k 4 v | 40=>v=.func (.func 136) #[] #[.pointer (some ⟨wb,0,none⟩)] | 41=>∃ F,v=.agg #[.int .i64 11,F,.func (.func 136) #[] #[.pointer (some ⟨wb,0,none⟩)]]/\aX w 157 k 4 F | 42=>v=.pointer (some ⟨k,0,none⟩) | 43=>aX w 157 k 4 v | 44=>v=.func (.func 137) #[] #[.pointer (some ⟨wb,0,none⟩)] | 45=>∃ F,v=.agg #[.int .i64 12,F,.func (.func 137) #[] #[.pointer (some ⟨wb,0,none⟩)]]/\aX w 157 k 4 F | 46=>v=.pointer (some ⟨k,0,none⟩) | 47=>aX w 152 k 5 v | 48=>v=.func (.func 138) #[] #[.pointer (some ⟨wb,0,none⟩)] | 49=>∃ F,v=.agg #[.int .i64 13,F,.func (.func 138) #[] #[.pointer (some ⟨wb,0,none⟩)]]/\aX w 152 k 5 F | 50=>∃ T F,v=.slice (some ⟨T,0,none⟩) 13 13/\oH w k T wb fb F | 51=>∃ T F,v=.slice (some ⟨T,0,none⟩) 13 13/\oH w k T wb fb F | _=>True) (fun _ W=>Below w4.heap.size w4 W/\Cl W wb #[.pointer (some ⟨k,0,none⟩)] 136) (fun W W'=>Below W.heap.size W W') ?hle (⟨(Below.refl _ _).drew,H4.out.2⟩) (dL 52 ?steps) ?fin
 case hle=>
  intro i v w w1 hl h
  match i,h with
  | 0,h=>exact h
  | 1,h=>exact aX.later h hl
  | 2,h=>exact h
  | 3,h=>exact(by obtain⟨F,hv,hF⟩:=h;exact⟨F,hv,aX.later hF hl⟩)
  | 4,h=>exact h
  | 5,h=>exact h
  | 6,h=>exact h
  | 7,h=>exact h
  | 8,h=>exact aX.later h hl
  | 9,h=>exact h
  | 10,h=>exact(by obtain⟨F,hv,hF⟩:=h;exact⟨F,hv,aX.later hF hl⟩)
  | 11,h=>exact h
  | 12,h=>exact h
  | 13,h=>exact h
  | 14,h=>exact h
  | 15,h=>exact aX.later h hl
  | 16,h=>exact h
  | 17,h=>exact(by obtain⟨F,hv,hF⟩:=h;exact⟨F,hv,aX.later hF hl⟩)
  | 18,h=>exact h
  | 19,h=>exact aX.later h hl
  | 20,h=>exact h
  | 21,h=>exact(by obtain⟨F,hv,hF⟩:=h;exact⟨F,hv,aX.later hF hl⟩)
  | 22,h=>exact h
  | 23,h=>exact aX.later h hl
  | 24,h=>exact h
  | 25,h=>exact(by obtain⟨F,hv,hF⟩:=h;exact⟨F,hv,aX.later hF hl⟩)
  | 26,h=>exact h
  | 27,h=>exact aX.later h hl
  | 28,h=>exact h
  | 29,h=>exact(by obtain⟨F,hv,hF⟩:=h;exact⟨F,hv,aX.later hF hl⟩)
  | 30,h=>exact h
  | 31,h=>exact aX.later h hl
  | 32,h=>exact h
  | 33,h=>exact(by obtain⟨F,hv,hF⟩:=h;exact⟨F,hv,aX.later hF hl⟩)
  | 34,h=>exact h
  | 35,h=>exact aX.later h hl
  | 36,h=>exact h
  | 37,h=>exact(by obtain⟨F,hv,hF⟩:=h;exact⟨F,hv,aX.later hF hl⟩)
  | 38,h=>exact h
  | 39,h=>exact aX.later h hl
  | 40,h=>exact h
  | 41,h=>exact(by obtain⟨F,hv,hF⟩:=h;exact⟨F,hv,aX.later hF hl⟩)
  | 42,h=>exact h
  | 43,h=>exact aX.later h hl
  | 44,h=>exact h
  | 45,h=>exact(by obtain⟨F,hv,hF⟩:=h;exact⟨F,hv,aX.later hF hl⟩)
  | 46,h=>exact h
  | 47,h=>exact aX.later h hl
  | 48,h=>exact h
  | 49,h=>exact(by obtain⟨F,hv,hF⟩:=h;exact⟨F,hv,aX.later hF hl⟩)
  | 50,h=>exact(by obtain⟨T,F,hv,hT⟩:=h;exact⟨T,F,hv,oH.later hT hl⟩)
  | 51,h=>exact(by obtain⟨T,F,hv,hT⟩:=h;exact⟨T,F,hv,oH.later hT hl⟩)
  | _+52,h=>trivial
 case steps=>
  refine⟨⟨⟨⟨⟨⟨⟨⟨⟨⟨⟨⟨⟨⟨⟨⟨⟨⟨⟨⟨⟨⟨⟨⟨⟨⟨⟨⟨⟨⟨⟨⟨⟨⟨⟨⟨⟨⟨⟨⟨⟨⟨⟨⟨⟨⟨⟨⟨⟨⟨⟨⟨trivial,?s0⟩,?s1⟩,?s2⟩,?s3⟩,?s4⟩,?s5⟩,?s6⟩,?s7⟩,?s8⟩,?s9⟩,?s10⟩,?s11⟩,?s12⟩,?s13⟩,?kg⟩,?s15⟩,?s16⟩,?DV⟩,?DW⟩,?U5⟩,?s20⟩,?U6⟩,?U7⟩,?s23⟩,?s24⟩,?s25⟩,?s26⟩,?s27⟩,?s28⟩,?s29⟩,?s30⟩,?s31⟩,?s32⟩,?s33⟩,?s34⟩,?s35⟩,?s36⟩,?s37⟩,?s38⟩,?s39⟩,?s40⟩,?s41⟩,?s42⟩,?s43⟩,?s44⟩,?s45⟩,?s46⟩,?s47⟩,?s48⟩,?s49⟩,?s50⟩,?s51⟩
  case s0=>
   intro done a w hS h0 hd hn hO hN
   have o1:a.tmps[1]?=some (.pointer (some ⟨wb,0,none⟩)):=outs hO 1 rfl
   have hc:w.cell? ⟨wb,0,none⟩=some (.pointer (some ⟨k,0,none⟩)):=hS.2.cell 0
   refine ah rfl (.pointer (some ⟨k,0,none⟩)) w rfl (by go_simp) ⟨_,rfl,rfl,hS,Below.refl _ _⟩
  case s1=>
   intro done a w hS h0 hd hn hO hN
   obtain⟨v0,g0,r0⟩:=aj hN 0 7
   obtain rfl:v0=.pointer (some ⟨k,0,none⟩):=r0
   refine aW rfl rfl 118 [.tmp 7,.const (.int .i64 2)] #[136,65] rfl [.pointer (some ⟨k,0,none⟩),.int .i64 2] (by simp[Act.eval,g0]) (enters_of Tryz.func118 (by kernel_rfl) rfl) (Calls.mono (yt w k 2) ?_)
   rintro e w1 ⟨v,rfl,hv,hb⟩
   exact⟨_,rfl,_,rfl,hv,⟨hS.1.trans (hb.mono hS.1.size),hS.2.later hb⟩,hb⟩
  case s2=>
   intro done a w hS h0 hd hn hO hN
   have o4:a.tmps[4]?=some (.func (.func 117) #[] #[]):=outs hO 4 rfl
   refine ah rfl (.func (.func 117) #[] #[]) w rfl (by go_simp) ⟨_,rfl,rfl,hS,Below.refl _ _⟩
  case s3=>
   intro done a w hS h0 hd hn hO hN
   obtain⟨v1,g1,r1⟩:=aj hN 1 8
   obtain⟨v2,g2,r2⟩:=aj hN 2 9
   obtain rfl:v2=.func (.func 117) #[] #[]:=r2
   obtain⟨kb,gV,rfl,hk1,hk2⟩:=r1
   refine ah rfl (.agg #[.int .i64 1,.func (.func 153) #[] #[.pointer (some ⟨kb,0,none⟩),.pointer (some ⟨gV,0,none⟩)],.func (.func 117) #[] #[]]) w rfl (by simp[execOp,Act.eval,g1,g2,kr,Result.andThen]) ⟨_,rfl,⟨_,rfl,kb,gV,rfl,hk1,hk2⟩,hS,Below.refl _ _⟩
  case s4=>
   intro done a w hS h0 hd hn hO hN
   have o1:a.tmps[1]?=some (.pointer (some ⟨wb,0,none⟩)):=outs hO 1 rfl
   refine ah rfl (.func (.func 119) #[] #[.pointer (some ⟨wb,0,none⟩)]) w rfl (by go_simp) ⟨_,rfl,rfl,hS,Below.refl _ _⟩
  case s5=>
   intro done a w hS h0 hd hn hO hN
   have o4:a.tmps[4]?=some (.func (.func 117) #[] #[]):=outs hO 4 rfl
   refine ah rfl (.func (.func 117) #[] #[]) w rfl (by go_simp) ⟨_,rfl,rfl,hS,Below.refl _ _⟩
  case s6=>
   intro done a w hS h0 hd hn hO hN
   obtain⟨v4,g4,r4⟩:=aj hN 4 11
   obtain rfl:v4=.func (.func 119) #[] #[.pointer (some ⟨wb,0,none⟩)]:=r4
   obtain⟨v5,g5,r5⟩:=aj hN 5 12
   obtain rfl:v5=.func (.func 117) #[] #[]:=r5
   refine ah rfl (.agg #[.int .i64 2,.func (.func 119) #[] #[.pointer (some ⟨wb,0,none⟩)],.func (.func 117) #[] #[]]) w rfl (by simp[execOp,Act.eval,g4,g5,kr,Result.andThen]) ⟨_,rfl,⟨_,rfl,rfl⟩,hS,Below.refl _ _⟩
  case s7=>
   intro done a w hS h0 hd hn hO hN
   have o1:a.tmps[1]?=some (.pointer (some ⟨wb,0,none⟩)):=outs hO 1 rfl
   have hc:w.cell? ⟨wb,0,none⟩=some (.pointer (some ⟨k,0,none⟩)):=hS.2.cell 0
   refine ah rfl (.pointer (some ⟨k,0,none⟩)) w rfl (by go_simp) ⟨_,rfl,rfl,hS,Below.refl _ _⟩
  case s8=>
   intro done a w hS h0 hd hn hO hN
   obtain⟨v7,g7,r7⟩:=aj hN 7 14
   obtain rfl:v7=.pointer (some ⟨k,0,none⟩):=r7
   refine aW rfl rfl 118 [.tmp 14,.const (.int .i64 3)] #[136,65] rfl [.pointer (some ⟨k,0,none⟩),.int .i64 3] (by simp[Act.eval,g7]) (enters_of Tryz.func118 (by kernel_rfl) rfl) (Calls.mono (yt w k 3) ?_)
   rintro e w1 ⟨v,rfl,hv,hb⟩
   exact⟨_,rfl,_,rfl,hv,⟨hS.1.trans (hb.mono hS.1.size),hS.2.later hb⟩,hb⟩
  case s9=>
   intro done a w hS h0 hd hn hO hN
   have o1:a.tmps[1]?=some (.pointer (some ⟨wb,0,none⟩)):=outs hO 1 rfl
   refine ah rfl (.func (.func 122) #[] #[.pointer (some ⟨wb,0,none⟩)]) w rfl (by go_simp) ⟨_,rfl,rfl,hS,Below.refl _ _⟩
  case s10=>
   intro done a w hS h0 hd hn hO hN
   obtain⟨v8,g8,r8⟩:=aj hN 8 15
   obtain⟨v9,g9,r9⟩:=aj hN 9 16
   obtain rfl:v9=.func (.func 122) #[] #[.pointer (some ⟨wb,0,none⟩)]:=r9
   obtain⟨kb,gV,rfl,hk1,hk2⟩:=r8
   refine ah rfl (.agg #[.int .i64 3,.func (.func 153) #[] #[.pointer (some ⟨kb,0,none⟩),.pointer (some ⟨gV,0,none⟩)],.func (.func 122) #[] #[.pointer (some ⟨wb,0,none⟩)]]) w rfl (by simp[execOp,Act.eval,g8,g9,kr,Result.andThen]) ⟨_,rfl,⟨_,rfl,kb,gV,rfl,hk1,hk2⟩,hS,Below.refl _ _⟩
  case s11=>
   intro done a w hS h0 hd hn hO hN
   have o3:a.tmps[3]?=some (.pointer (some ⟨fb,0,none⟩)):=outs hO 3 rfl
   have o1:a.tmps[1]?=some (.pointer (some ⟨wb,0,none⟩)):=outs hO 1 rfl
   refine ah rfl (.func (.func 125) #[] #[.pointer (some ⟨fb,0,none⟩),.pointer (some ⟨wb,0,none⟩)]) w rfl (by go_simp) ⟨_,rfl,rfl,hS,Below.refl _ _⟩
  case s12=>
   intro done a w hS h0 hd hn hO hN
   have o1:a.tmps[1]?=some (.pointer (some ⟨wb,0,none⟩)):=outs hO 1 rfl
   refine ah rfl (.func (.func 126) #[] #[.pointer (some ⟨wb,0,none⟩)]) w rfl (by go_simp) ⟨_,rfl,rfl,hS,Below.refl _ _⟩
  case s13=>
   intro done a w hS h0 hd hn hO hN
   obtain⟨v11,g11,bW⟩:=aj hN 11 18
   obtain rfl:v11=.func (.func 125) #[] #[.pointer (some ⟨fb,0,none⟩),.pointer (some ⟨wb,0,none⟩)]:=bW
   obtain⟨v12,g12,dB⟩:=aj hN 12 19
   obtain rfl:v12=.func (.func 126) #[] #[.pointer (some ⟨wb,0,none⟩)]:=dB
   refine ah rfl (.agg #[.int .i64 4,.func (.func 125) #[] #[.pointer (some ⟨fb,0,none⟩),.pointer (some ⟨wb,0,none⟩)],.func (.func 126) #[] #[.pointer (some ⟨wb,0,none⟩)]]) w rfl (by simp[execOp,Act.eval,g11,g12,kr,Result.andThen]) ⟨_,rfl,⟨_,rfl,rfl⟩,hS,Below.refl _ _⟩
  case kg=>
   intro done a w hS h0 hd hn hO hN
   have o1:a.tmps[1]?=some (.pointer (some ⟨wb,0,none⟩)):=outs hO 1 rfl
   have hc:w.cell? ⟨wb,0,none⟩=some (.pointer (some ⟨k,0,none⟩)):=hS.2.cell 0
   refine ah rfl (.pointer (some ⟨k,0,none⟩)) w rfl (by go_simp) ⟨_,rfl,rfl,hS,Below.refl _ _⟩
  case s15=>
   intro done a w hS h0 hd hn hO hN
   obtain⟨v14,g14,dF⟩:=aj hN 14 21
   obtain rfl:v14=.pointer (some ⟨k,0,none⟩):=dF
   refine aW rfl rfl 116 [.tmp 21,.const (.int .i64 2)] #[136,65] rfl [.pointer (some ⟨k,0,none⟩),.int .i64 2] (by simp[Act.eval,g14]) (enters_of Tryz.func116 (by kernel_rfl) rfl) (Calls.mono (pY w k 2) ?_)
   rintro e w1 ⟨v,rfl,hv,hb⟩
   exact⟨_,rfl,_,rfl,hv,⟨hS.1.trans (hb.mono hS.1.size),hS.2.later hb⟩,hb⟩
  case s16=>
   intro done a w hS h0 hd hn hO hN
   have o1:a.tmps[1]?=some (.pointer (some ⟨wb,0,none⟩)):=outs hO 1 rfl
   refine ah rfl (.func (.func 127) #[] #[.pointer (some ⟨wb,0,none⟩)]) w rfl (by go_simp) ⟨_,rfl,rfl,hS,Below.refl _ _⟩
  case DV=>
   intro done a w hS h0 hd hn hO hN
   obtain⟨v15,g15,dP⟩:=aj hN 15 22
   obtain⟨v16,g16,r16⟩:=aj hN 16 23
   obtain rfl:v16=.func (.func 127) #[] #[.pointer (some ⟨wb,0,none⟩)]:=r16
   obtain⟨kb,gV,rfl,hk1,hk2⟩:=dP
   refine ah rfl (.agg #[.int .i64 5,.func (.func 152) #[] #[.pointer (some ⟨kb,0,none⟩),.pointer (some ⟨gV,0,none⟩)],.func (.func 127) #[] #[.pointer (some ⟨wb,0,none⟩)]]) w rfl (by simp[execOp,Act.eval,g15,g16,kr,Result.andThen]) ⟨_,rfl,⟨_,rfl,kb,gV,rfl,hk1,hk2⟩,hS,Below.refl _ _⟩
  case DW=>
   intro done a w hS h0 hd hn hO hN
   have o1:a.tmps[1]?=some (.pointer (some ⟨wb,0,none⟩)):=outs hO 1 rfl
   have hc:w.cell? ⟨wb,0,none⟩=some (.pointer (some ⟨k,0,none⟩)):=hS.2.cell 0
   refine ah rfl (.pointer (some ⟨k,0,none⟩)) w rfl (by go_simp) ⟨_,rfl,rfl,hS,Below.refl _ _⟩
  case U5=>
   intro done a w hS h0 hd hn hO hN
   obtain⟨v18,g18,U8⟩:=aj hN 18 25
   obtain rfl:v18=.pointer (some ⟨k,0,none⟩):=U8
   refine aW rfl rfl 116 [.tmp 25,.const (.int .i64 3)] #[136,65] rfl [.pointer (some ⟨k,0,none⟩),.int .i64 3] (by simp[Act.eval,g18]) (enters_of Tryz.func116 (by kernel_rfl) rfl) (Calls.mono (pY w k 3) ?_)
   rintro e w1 ⟨v,rfl,hv,hb⟩
   exact⟨_,rfl,_,rfl,hv,⟨hS.1.trans (hb.mono hS.1.size),hS.2.later hb⟩,hb⟩
  case s20=>
   intro done a w hS h0 hd hn hO hN
   have o1:a.tmps[1]?=some (.pointer (some ⟨wb,0,none⟩)):=outs hO 1 rfl
   refine ah rfl (.func (.func 128) #[] #[.pointer (some ⟨wb,0,none⟩)]) w rfl (by go_simp) ⟨_,rfl,rfl,hS,Below.refl _ _⟩
  case U6=>
   intro done a w hS h0 hd hn hO hN
   obtain⟨v19,g19,U9⟩:=aj hN 19 26
   obtain⟨v20,g20,Va⟩:=aj hN 20 27
   obtain rfl:v20=.func (.func 128) #[] #[.pointer (some ⟨wb,0,none⟩)]:=Va
   obtain⟨kb,gV,rfl,hk1,hk2⟩:=U9
   refine ah rfl (.agg #[.int .i64 6,.func (.func 152) #[] #[.pointer (some ⟨kb,0,none⟩),.pointer (some ⟨gV,0,none⟩)],.func (.func 128) #[] #[.pointer (some ⟨wb,0,none⟩)]]) w rfl (by simp[execOp,Act.eval,g19,g20,kr,Result.andThen]) ⟨_,rfl,⟨_,rfl,kb,gV,rfl,hk1,hk2⟩,hS,Below.refl _ _⟩
  case U7=>
   intro done a w hS h0 hd hn hO hN
   have o1:a.tmps[1]?=some (.pointer (some ⟨wb,0,none⟩)):=outs hO 1 rfl
   have hc:w.cell? ⟨wb,0,none⟩=some (.pointer (some ⟨k,0,none⟩)):=hS.2.cell 0
   refine ah rfl (.pointer (some ⟨k,0,none⟩)) w rfl (by go_simp) ⟨_,rfl,rfl,hS,Below.refl _ _⟩
  case s23=>
   intro done a w hS h0 hd hn hO hN
   obtain⟨v22,g22,r22⟩:=aj hN 22 29
   obtain rfl:v22=.pointer (some ⟨k,0,none⟩):=r22
   refine aW rfl rfl 116 [.tmp 29,.const (.int .i64 4)] #[136,65] rfl [.pointer (some ⟨k,0,none⟩),.int .i64 4] (by simp[Act.eval,g22]) (enters_of Tryz.func116 (by kernel_rfl) rfl) (Calls.mono (pY w k 4) ?_)
   rintro e w1 ⟨v,rfl,hv,hb⟩
   exact⟨_,rfl,_,rfl,hv,⟨hS.1.trans (hb.mono hS.1.size),hS.2.later hb⟩,hb⟩
  case s24=>
   intro done a w hS h0 hd hn hO hN
   have o1:a.tmps[1]?=some (.pointer (some ⟨wb,0,none⟩)):=outs hO 1 rfl
   refine ah rfl (.func (.func 130) #[] #[.pointer (some ⟨wb,0,none⟩)]) w rfl (by go_simp) ⟨_,rfl,rfl,hS,Below.refl _ _⟩
  case s25=>
   intro done a w hS h0 hd hn hO hN
   obtain⟨v23,g23,r23⟩:=aj hN 23 30
   obtain⟨v24,g24,r24⟩:=aj hN 24 31
   obtain rfl:v24=.func (.func 130) #[] #[.pointer (some ⟨wb,0,none⟩)]:=r24
   obtain⟨kb,gV,rfl,hk1,hk2⟩:=r23
   refine ah rfl (.agg #[.int .i64 7,.func (.func 152) #[] #[.pointer (some ⟨kb,0,none⟩),.pointer (some ⟨gV,0,none⟩)],.func (.func 130) #[] #[.pointer (some ⟨wb,0,none⟩)]]) w rfl (by simp[execOp,Act.eval,g23,g24,kr,Result.andThen]) ⟨_,rfl,⟨_,rfl,kb,gV,rfl,hk1,hk2⟩,hS,Below.refl _ _⟩
  case s26=>
   intro done a w hS h0 hd hn hO hN
   have o1:a.tmps[1]?=some (.pointer (some ⟨wb,0,none⟩)):=outs hO 1 rfl
   have hc:w.cell? ⟨wb,0,none⟩=some (.pointer (some ⟨k,0,none⟩)):=hS.2.cell 0
   refine ah rfl (.pointer (some ⟨k,0,none⟩)) w rfl (by go_simp) ⟨_,rfl,rfl,hS,Below.refl _ _⟩
  case s27=>
   intro done a w hS h0 hd hn hO hN
   obtain⟨v26,g26,r26⟩:=aj hN 26 33
   obtain rfl:v26=.pointer (some ⟨k,0,none⟩):=r26
   refine aW rfl rfl 131 [.tmp 33,.const (.int .i64 5)] #[136,65] rfl [.pointer (some ⟨k,0,none⟩),.int .i64 5] (by simp[Act.eval,g26]) (enters_of Tryz.func131 (by kernel_rfl) rfl) (Calls.mono (uO w k 5) ?_)
   rintro e w1 ⟨v,rfl,hv,hb⟩
   exact⟨_,rfl,_,rfl,hv,⟨hS.1.trans (hb.mono hS.1.size),hS.2.later hb⟩,hb⟩
  case s28=>
   intro done a w hS h0 hd hn hO hN
   have o1:a.tmps[1]?=some (.pointer (some ⟨wb,0,none⟩)):=outs hO 1 rfl
   refine ah rfl (.func (.func 132) #[] #[.pointer (some ⟨wb,0,none⟩)]) w rfl (by go_simp) ⟨_,rfl,rfl,hS,Below.refl _ _⟩
  case s29=>
   intro done a w hS h0 hd hn hO hN
   obtain⟨v27,g27,r27⟩:=aj hN 27 34
   obtain⟨v28,g28,r28⟩:=aj hN 28 35
   obtain rfl:v28=.func (.func 132) #[] #[.pointer (some ⟨wb,0,none⟩)]:=r28
   obtain⟨kb,gV,rfl,hk1,hk2⟩:=r27
   refine ah rfl (.agg #[.int .i64 8,.func (.func 157) #[] #[.pointer (some ⟨kb,0,none⟩),.pointer (some ⟨gV,0,none⟩)],.func (.func 132) #[] #[.pointer (some ⟨wb,0,none⟩)]]) w rfl (by simp[execOp,Act.eval,g27,g28,kr,Result.andThen]) ⟨_,rfl,⟨_,rfl,kb,gV,rfl,hk1,hk2⟩,hS,Below.refl _ _⟩
  case s30=>
   intro done a w hS h0 hd hn hO hN
   have o1:a.tmps[1]?=some (.pointer (some ⟨wb,0,none⟩)):=outs hO 1 rfl
   have hc:w.cell? ⟨wb,0,none⟩=some (.pointer (some ⟨k,0,none⟩)):=hS.2.cell 0
   refine ah rfl (.pointer (some ⟨k,0,none⟩)) w rfl (by go_simp) ⟨_,rfl,rfl,hS,Below.refl _ _⟩
  case s31=>
   intro done a w hS h0 hd hn hO hN
   obtain⟨v30,g30,r30⟩:=aj hN 30 37
   obtain rfl:v30=.pointer (some ⟨k,0,none⟩):=r30
   refine aW rfl rfl 131 [.tmp 37,.const (.int .i64 3)] #[136,65] rfl [.pointer (some ⟨k,0,none⟩),.int .i64 3] (by simp[Act.eval,g30]) (enters_of Tryz.func131 (by kernel_rfl) rfl) (Calls.mono (uO w k 3) ?_)
   rintro e w1 ⟨v,rfl,hv,hb⟩
   exact⟨_,rfl,_,rfl,hv,⟨hS.1.trans (hb.mono hS.1.size),hS.2.later hb⟩,hb⟩
  case s32=>
   intro done a w hS h0 hd hn hO hN
   have o1:a.tmps[1]?=some (.pointer (some ⟨wb,0,none⟩)):=outs hO 1 rfl
   refine ah rfl (.func (.func 134) #[] #[.pointer (some ⟨wb,0,none⟩)]) w rfl (by go_simp) ⟨_,rfl,rfl,hS,Below.refl _ _⟩
  case s33=>
   intro done a w hS h0 hd hn hO hN
   obtain⟨v31,g31,r31⟩:=aj hN 31 38
   obtain⟨v32,g32,r32⟩:=aj hN 32 39
   obtain rfl:v32=.func (.func 134) #[] #[.pointer (some ⟨wb,0,none⟩)]:=r32
   obtain⟨kb,gV,rfl,hk1,hk2⟩:=r31
   refine ah rfl (.agg #[.int .i64 9,.func (.func 157) #[] #[.pointer (some ⟨kb,0,none⟩),.pointer (some ⟨gV,0,none⟩)],.func (.func 134) #[] #[.pointer (some ⟨wb,0,none⟩)]]) w rfl (by simp[execOp,Act.eval,g31,g32,kr,Result.andThen]) ⟨_,rfl,⟨_,rfl,kb,gV,rfl,hk1,hk2⟩,hS,Below.refl _ _⟩
  case s34=>
   intro done a w hS h0 hd hn hO hN
   have o1:a.tmps[1]?=some (.pointer (some ⟨wb,0,none⟩)):=outs hO 1 rfl
   have hc:w.cell? ⟨wb,0,none⟩=some (.pointer (some ⟨k,0,none⟩)):=hS.2.cell 0
   refine ah rfl (.pointer (some ⟨k,0,none⟩)) w rfl (by go_simp) ⟨_,rfl,rfl,hS,Below.refl _ _⟩
  case s35=>
   intro done a w hS h0 hd hn hO hN
   obtain⟨v34,g34,r34⟩:=aj hN 34 41
   obtain rfl:v34=.pointer (some ⟨k,0,none⟩):=r34
   refine aW rfl rfl 118 [.tmp 41,.const (.int .i64 4)] #[136,65] rfl [.pointer (some ⟨k,0,none⟩),.int .i64 4] (by simp[Act.eval,g34]) (enters_of Tryz.func118 (by kernel_rfl) rfl) (Calls.mono (yt w k 4) ?_)
   rintro e w1 ⟨v,rfl,hv,hb⟩
   exact⟨_,rfl,_,rfl,hv,⟨hS.1.trans (hb.mono hS.1.size),hS.2.later hb⟩,hb⟩
  case s36=>
   intro done a w hS h0 hd hn hO hN
   have o1:a.tmps[1]?=some (.pointer (some ⟨wb,0,none⟩)):=outs hO 1 rfl
   refine ah rfl (.func (.func 135) #[] #[.pointer (some ⟨wb,0,none⟩)]) w rfl (by go_simp) ⟨_,rfl,rfl,hS,Below.refl _ _⟩
  case s37=>
   intro done a w hS h0 hd hn hO hN
   obtain⟨v35,g35,r35⟩:=aj hN 35 42
   obtain⟨v36,g36,r36⟩:=aj hN 36 43
   obtain rfl:v36=.func (.func 135) #[] #[.pointer (some ⟨wb,0,none⟩)]:=r36
   obtain⟨kb,gV,rfl,hk1,hk2⟩:=r35
   refine ah rfl (.agg #[.int .i64 10,.func (.func 153) #[] #[.pointer (some ⟨kb,0,none⟩),.pointer (some ⟨gV,0,none⟩)],.func (.func 135) #[] #[.pointer (some ⟨wb,0,none⟩)]]) w rfl (by simp[execOp,Act.eval,g35,g36,kr,Result.andThen]) ⟨_,rfl,⟨_,rfl,kb,gV,rfl,hk1,hk2⟩,hS,Below.refl _ _⟩
  case s38=>
   intro done a w hS h0 hd hn hO hN
   have o1:a.tmps[1]?=some (.pointer (some ⟨wb,0,none⟩)):=outs hO 1 rfl
   have hc:w.cell? ⟨wb,0,none⟩=some (.pointer (some ⟨k,0,none⟩)):=hS.2.cell 0
   refine ah rfl (.pointer (some ⟨k,0,none⟩)) w rfl (by go_simp) ⟨_,rfl,rfl,hS,Below.refl _ _⟩
  case s39=>
   intro done a w hS h0 hd hn hO hN
   obtain⟨v38,g38,r38⟩:=aj hN 38 45
   obtain rfl:v38=.pointer (some ⟨k,0,none⟩):=r38
   refine aW rfl rfl 131 [.tmp 45,.const (.int .i64 4)] #[136,65] rfl [.pointer (some ⟨k,0,none⟩),.int .i64 4] (by simp[Act.eval,g38]) (enters_of Tryz.func131 (by kernel_rfl) rfl) (Calls.mono (uO w k 4) ?_)
   rintro e w1 ⟨v,rfl,hv,hb⟩
   exact⟨_,rfl,_,rfl,hv,⟨hS.1.trans (hb.mono hS.1.size),hS.2.later hb⟩,hb⟩
  case s40=>
   intro done a w hS h0 hd hn hO hN
   have o1:a.tmps[1]?=some (.pointer (some ⟨wb,0,none⟩)):=outs hO 1 rfl
   refine ah rfl (.func (.func 136) #[] #[.pointer (some ⟨wb,0,none⟩)]) w rfl (by go_simp) ⟨_,rfl,rfl,hS,Below.refl _ _⟩
  case s41=>
   intro done a w hS h0 hd hn hO hN
   obtain⟨v39,g39,r39⟩:=aj hN 39 46
   obtain⟨v40,g40,r40⟩:=aj hN 40 47
   obtain rfl:v40=.func (.func 136) #[] #[.pointer (some ⟨wb,0,none⟩)]:=r40
   obtain⟨kb,gV,rfl,hk1,hk2⟩:=r39
   refine ah rfl (.agg #[.int .i64 11,.func (.func 157) #[] #[.pointer (some ⟨kb,0,none⟩),.pointer (some ⟨gV,0,none⟩)],.func (.func 136) #[] #[.pointer (some ⟨wb,0,none⟩)]]) w rfl (by simp[execOp,Act.eval,g39,g40,kr,Result.andThen]) ⟨_,rfl,⟨_,rfl,kb,gV,rfl,hk1,hk2⟩,hS,Below.refl _ _⟩
  case s42=>
   intro done a w hS h0 hd hn hO hN
   have o1:a.tmps[1]?=some (.pointer (some ⟨wb,0,none⟩)):=outs hO 1 rfl
   have hc:w.cell? ⟨wb,0,none⟩=some (.pointer (some ⟨k,0,none⟩)):=hS.2.cell 0
   refine ah rfl (.pointer (some ⟨k,0,none⟩)) w rfl (by go_simp) ⟨_,rfl,rfl,hS,Below.refl _ _⟩
  case s43=>
   intro done a w hS h0 hd hn hO hN
   obtain⟨v42,g42,r42⟩:=aj hN 42 49
   obtain rfl:v42=.pointer (some ⟨k,0,none⟩):=r42
   refine aW rfl rfl 131 [.tmp 49,.const (.int .i64 4)] #[136,65] rfl [.pointer (some ⟨k,0,none⟩),.int .i64 4] (by simp[Act.eval,g42]) (enters_of Tryz.func131 (by kernel_rfl) rfl) (Calls.mono (uO w k 4) ?_)
   rintro e w1 ⟨v,rfl,hv,hb⟩
   exact⟨_,rfl,_,rfl,hv,⟨hS.1.trans (hb.mono hS.1.size),hS.2.later hb⟩,hb⟩
  case s44=>
   intro done a w hS h0 hd hn hO hN
   have o1:a.tmps[1]?=some (.pointer (some ⟨wb,0,none⟩)):=outs hO 1 rfl
   refine ah rfl (.func (.func 137) #[] #[.pointer (some ⟨wb,0,none⟩)]) w rfl (by go_simp) ⟨_,rfl,rfl,hS,Below.refl _ _⟩
  case s45=>
   intro done a w hS h0 hd hn hO hN
   obtain⟨v43,g43,r43⟩:=aj hN 43 50
   obtain⟨v44,g44,r44⟩:=aj hN 44 51
   obtain rfl:v44=.func (.func 137) #[] #[.pointer (some ⟨wb,0,none⟩)]:=r44
   obtain⟨kb,gV,rfl,hk1,hk2⟩:=r43
   refine ah rfl (.agg #[.int .i64 12,.func (.func 157) #[] #[.pointer (some ⟨kb,0,none⟩),.pointer (some ⟨gV,0,none⟩)],.func (.func 137) #[] #[.pointer (some ⟨wb,0,none⟩)]]) w rfl (by simp[execOp,Act.eval,g43,g44,kr,Result.andThen]) ⟨_,rfl,⟨_,rfl,kb,gV,rfl,hk1,hk2⟩,hS,Below.refl _ _⟩
  case s46=>
   intro done a w hS h0 hd hn hO hN
   have o1:a.tmps[1]?=some (.pointer (some ⟨wb,0,none⟩)):=outs hO 1 rfl
   have hc:w.cell? ⟨wb,0,none⟩=some (.pointer (some ⟨k,0,none⟩)):=hS.2.cell 0
   refine ah rfl (.pointer (some ⟨k,0,none⟩)) w rfl (by go_simp) ⟨_,rfl,rfl,hS,Below.refl _ _⟩
  case s47=>
   intro done a w hS h0 hd hn hO hN
   obtain⟨v46,g46,r46⟩:=aj hN 46 53
   obtain rfl:v46=.pointer (some ⟨k,0,none⟩):=r46
   refine aW rfl rfl 116 [.tmp 53,.const (.int .i64 5)] #[136,65] rfl [.pointer (some ⟨k,0,none⟩),.int .i64 5] (by simp[Act.eval,g46]) (enters_of Tryz.func116 (by kernel_rfl) rfl) (Calls.mono (pY w k 5) ?_)
   rintro e w1 ⟨v,rfl,hv,hb⟩
   exact⟨_,rfl,_,rfl,hv,⟨hS.1.trans (hb.mono hS.1.size),hS.2.later hb⟩,hb⟩
  case s48=>
   intro done a w hS h0 hd hn hO hN
   have o1:a.tmps[1]?=some (.pointer (some ⟨wb,0,none⟩)):=outs hO 1 rfl
   refine ah rfl (.func (.func 138) #[] #[.pointer (some ⟨wb,0,none⟩)]) w rfl (by go_simp) ⟨_,rfl,rfl,hS,Below.refl _ _⟩
  case s49=>
   intro done a w hS h0 hd hn hO hN
   obtain⟨v47,g47,r47⟩:=aj hN 47 54
   obtain⟨v48,g48,r48⟩:=aj hN 48 55
   obtain rfl:v48=.func (.func 138) #[] #[.pointer (some ⟨wb,0,none⟩)]:=r48
   obtain⟨kb,gV,rfl,hk1,hk2⟩:=r47
   refine ah rfl (.agg #[.int .i64 13,.func (.func 152) #[] #[.pointer (some ⟨kb,0,none⟩),.pointer (some ⟨gV,0,none⟩)],.func (.func 138) #[] #[.pointer (some ⟨wb,0,none⟩)]]) w rfl (by simp[execOp,Act.eval,g47,g48,kr,Result.andThen]) ⟨_,rfl,⟨_,rfl,kb,gV,rfl,hk1,hk2⟩,hS,Below.refl _ _⟩
  case s50=>
   intro done a w hS h0 hd hn hO hN
   obtain⟨v3,g3,r3⟩:=aj hN 3 10
   obtain⟨v6,g6,r6⟩:=aj hN 6 13
   obtain⟨v10,g10,bS⟩:=aj hN 10 17
   obtain⟨v13,g13,dD⟩:=aj hN 13 20
   obtain⟨v17,g17,Ma⟩:=aj hN 17 24
   obtain⟨v21,g21,Vb⟩:=aj hN 21 28
   obtain⟨v25,g25,r25⟩:=aj hN 25 32
   obtain⟨v29,g29,r29⟩:=aj hN 29 36
   obtain⟨v33,g33,r33⟩:=aj hN 33 40
   obtain⟨v37,g37,r37⟩:=aj hN 37 44
   obtain⟨v41,g41,r41⟩:=aj hN 41 48
   obtain⟨v45,g45,r45⟩:=aj hN 45 52
   obtain⟨v49,g49,r49⟩:=aj hN 49 56
   obtain⟨F0,rfl,jC⟩:=r3
   obtain⟨F1,rfl,hF1⟩:=r6
   obtain⟨F2,rfl,hF2⟩:=bS
   obtain⟨F3,rfl,hF3⟩:=dD
   obtain⟨F4,rfl,hF4⟩:=Ma
   obtain⟨F5,rfl,hF5⟩:=Vb
   obtain⟨F6,rfl,hF6⟩:=r25
   obtain⟨F7,rfl,hF7⟩:=r29
   obtain⟨F8,rfl,hF8⟩:=r33
   obtain⟨F9,rfl,hF9⟩:=r37
   obtain⟨Yu,rfl,Zz⟩:=r41
   obtain⟨Yv,rfl,ZA⟩:=r45
   obtain⟨Yw,rfl,ZB⟩:=r49
   have hfb:∃ fa,Cl w fb #[fa] 183/\aX w 152 k 1 fa:=Yt.out w hS.1
   refine ah rfl (.slice (some ⟨w.heap.size,0,none⟩) 13 13) (w.alloc (.cells (OO wb (fun i=>match i with | 0=>F0 | 1=>F1 | 2=>F2 | 3=>F3 | 4=>F4 | 5=>F5 | 6=>F6 | 7=>F7 | 8=>F8 | 9=>F9 | 10=>Yu | 11=>Yv | 12=>Yw | _=>undef)) 186)) rfl (by simp[execOp,Act.eval,g3,g6,g10,g13,g17,g21,g25,g29,g33,g37,g41,g45,g49,RZ,Result.andThen];rfl) ⟨_,rfl,?_,⟨hS.1.alloc hS.1.size _,hS.2.later (ak w _)⟩,ak w _⟩
   refine⟨w.heap.size,fun i=>match i with | 0=>F0 | 1=>F1 | 2=>F2 | 3=>F3 | 4=>F4 | 5=>F5 | 6=>F6 | 7=>F7 | 8=>F8 | 9=>F9 | 10=>Yu | 11=>Yv | 12=>Yw | _=>undef,rfl,(bE w _ _).blk,hS.2.later (ak w _),?_,dL 13 ⟨⟨⟨⟨⟨⟨⟨⟨⟨⟨⟨⟨⟨trivial,ko.later (i:=0) jC (ak w _)⟩,ko.later (i:=1) hF1 (ak w _)⟩,ko.later (i:=2) hF2 (ak w _)⟩,ko.later (i:=3) hF3 (ak w _)⟩,ko.later (i:=4) hF4 (ak w _)⟩,ko.later (i:=5) hF5 (ak w _)⟩,ko.later (i:=6) hF6 (ak w _)⟩,ko.later (i:=7) hF7 (ak w _)⟩,ko.later (i:=8) hF8 (ak w _)⟩,ko.later (i:=9) hF9 (ak w _)⟩,ko.later (i:=10) Zz (ak w _)⟩,ko.later (i:=11) ZA (ak w _)⟩,ko.later (i:=12) ZB (ak w _)⟩⟩
   obtain⟨fa,h1,h2⟩:=hfb
   exact⟨fa,h1.later (ak w _),h2.later (ak w _)⟩
  case s51=>
   intro done a w hS h0 hd hn hO hN
   obtain⟨v50,g50,r50⟩:=aj hN 50 57
   obtain⟨T,F,rfl,hT⟩:=r50
   refine ah rfl (.slice (some ⟨T,0,none⟩) 13 13) w rfl (by go_simp) ⟨_,rfl,⟨T,F,rfl,hT⟩,hS,Below.refl _ _⟩
 case fin=>
  intro vs done w hdone hS hR
  simp only[bn,Act.put,List.setIfInBounds_toArray,List.set_cons_zero,List.set_cons_succ]
  obtain⟨T,F,hv,hT⟩:∃ T F,vs 51=.slice (some ⟨T,0,none⟩) 13 13/\oH w k T wb fb F:=hR 51 (by decide)
  rw[hv]
  have HZ:=show Hid _ from And.intro (H4.out.1.trans (hS.1.mono H4.out.1.size)) hT
  clear hS hR hdone hv hT H4 H3 Yt za L9 c3 f3
  go_wp2_with fail
  go_ret
  exact⟨T,wb,fb,F,rfl,HZ.out.2,HZ.out.1⟩
end Go.Proofs.YtkpbpecikibohaaGreatDoor
