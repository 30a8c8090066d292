import Derived.Test.YtkejippimkjjaaaGreatDoorZG1
import Derived.Laws.EntriesVeiled
set_option linter.unusedSimpArgs false
set_option maxRecDepth 100000
set_option maxHeartbeats 4000000
namespace Go.Proofs.YtkejippimkjjaaaGreatDoor
open Go.RowKit Go.Shelf Go.Maps
open Fm (Nd)
open Bt.Bs (Ok wd)
def bA (w:World) (gf k:Nat) (kd:Int) (v:Value):Prop :=
 ∃ kb wb,v=.func (.func gf) #[] #[.pointer (some ⟨kb,0,none⟩),.pointer (some ⟨wb,0,none⟩)]/\Cl w kb #[.int .i64 kd] 52/\Cl w wb #[.pointer (some ⟨k,0,none⟩)] 84
theorem bA.later {w w':World} {gf k:Nat} {kd:Int} {v:Value} (h:bA w gf k kd v) (hb:Below w.heap.size w w'):bA w' gf k kd v:=by
 obtain⟨kb,wb,hv,h1,h2⟩:=h
 exact⟨kb,wb,hv,h1.later hb,h2.later hb⟩
theorem bA.kp {w w':World} {gf k:Nat} {kd:Int} {v:Value} (h:bA w gf k kd v) {cs:Array Value} (hk:Cl w k cs 115) (hb:dY k w w'):bA w' gf k kd v:=by
 obtain⟨kb,wb,hv,h1,h2⟩:=h
 exact⟨kb,wb,hv,h1.kp hb (fun e=>by subst e;have:=h1.symm.trans hk;simp at this),h2.kp hb (fun e=>by subst e;have:=h2.symm.trans hk;simp at this)⟩
theorem wU (w:World) (k:Nat) (kd:Int):Calls Tryz.prog 71 #[.pointer (some ⟨k,0,none⟩),.int .i64 kd] w fun e w'=>∃ v,e=.returned v/\bA w' 108 k kd v/\Below w.heap.size w w':=by
 go_enter Tryz.func71,Tryz.ntmps71
 go_wp2_with (refine iw _ _ rfl _ rfl rfl rfl ?_)
 intro w1 b1 hn1
 go_wp2_with (refine iw _ _ rfl _ rfl rfl rfl ?_)
 intro w2 b2 hn2
 go_wp2_with fail
 go_ret
 exact⟨_,rfl,⟨b2,b1,rfl,hn2.blk,Cl.new hn1.blk hn2⟩,aS hn1.au hn2⟩
theorem oV (w:World) (k:Nat) (kd:Int):Calls Tryz.prog 69 #[.pointer (some ⟨k,0,none⟩),.int .i64 kd] w fun e w'=>∃ v,e=.returned v/\bA w' 107 k kd v/\Below w.heap.size w w':=by
 go_enter Tryz.func69,Tryz.ntmps69
 go_wp2_with (refine iw _ _ rfl _ rfl rfl rfl ?_)
 intro w1 b1 hn1
 go_wp2_with (refine iw _ _ rfl _ rfl rfl rfl ?_)
 intro w2 b2 hn2
 go_wp2_with fail
 go_ret
 exact⟨_,rfl,⟨b2,b1,rfl,hn2.blk,Cl.new hn1.blk hn2⟩,aS hn1.au hn2⟩
theorem sW (w:World) (k:Nat) (kd:Int):Calls Tryz.prog 84 #[.pointer (some ⟨k,0,none⟩),.int .i64 kd] w fun e w'=>∃ v,e=.returned v/\bA w' 112 k kd v/\Below w.heap.size w w':=by
 go_enter Tryz.func84,Tryz.ntmps84
 go_wp2_with (refine iw _ _ rfl _ rfl rfl rfl ?_)
 intro w1 b1 hn1
 go_wp2_with (refine iw _ _ rfl _ rfl rfl rfl ?_)
 intro w2 b2 hn2
 go_wp2_with fail
 go_ret
 exact⟨_,rfl,⟨b2,b1,rfl,hn2.blk,Cl.new hn1.blk hn2⟩,aS hn1.au hn2⟩
def j6 (w:World) (k wb fb:Nat) (i:Nat) (v:Value):Prop:=match i with
 | 0=>bA w 108 k 2 v
 | 1=>v=.func (.func 72) #[] #[.pointer (some ⟨wb,0,none⟩)]
 | 2=>bA w 108 k 3 v
 | 3=>v=.func (.func 78) #[] #[.pointer (some ⟨fb,0,none⟩),.pointer (some ⟨wb,0,none⟩)]
 | 4=>bA w 107 k 2 v
 | 5=>bA w 107 k 3 v
 | 6=>bA w 107 k 4 v
 | 7=>bA w 112 k 5 v
 | 8=>bA w 112 k 3 v
 | 9=>bA w 108 k 4 v
 | 10=>bA w 112 k 4 v
 | 11=>bA w 112 k 4 v
 | 12=>bA w 107 k 5 v
 | _=>True
def jJ (wb:Nat) (i:Nat):Value:=match i with
 | 0=>.func (.func 70) #[] #[]
 | 1=>.func (.func 70) #[] #[]
 | 2=>.func (.func 75) #[] #[.pointer (some ⟨wb,0,none⟩)]
 | 3=>.func (.func 79) #[] #[.pointer (some ⟨wb,0,none⟩)]
 | 4=>.func (.func 80) #[] #[.pointer (some ⟨wb,0,none⟩)]
 | 5=>.func (.func 81) #[] #[.pointer (some ⟨wb,0,none⟩)]
 | 6=>.func (.func 83) #[] #[.pointer (some ⟨wb,0,none⟩)]
 | 7=>.func (.func 85) #[] #[.pointer (some ⟨wb,0,none⟩)]
 | 8=>.func (.func 87) #[] #[.pointer (some ⟨wb,0,none⟩)]
 | 9=>.func (.func 88) #[] #[.pointer (some ⟨wb,0,none⟩)]
 | 10=>.func (.func 89) #[] #[.pointer (some ⟨wb,0,none⟩)]
 | 11=>.func (.func 90) #[] #[.pointer (some ⟨wb,0,none⟩)]
 | 12=>.func (.func 91) #[] #[.pointer (some ⟨wb,0,none⟩)]
 | _=>undef
def LH (wb:Nat) (F:Nat->Value):Array Value:=#[.int .i64 1,F 0,jJ wb 0,.int .i64 2,F 1,jJ wb 1,.int .i64 3,F 2,jJ wb 2,.int .i64 4,F 3,jJ wb 3,.int .i64 5,F 4,jJ wb 4,.int .i64 6,F 5,jJ wb 5,.int .i64 7,F 6,jJ wb 6,.int .i64 8,F 7,jJ wb 7,.int .i64 9,F 8,jJ wb 8,.int .i64 10,F 9,jJ wb 9,.int .i64 11,F 10,jJ wb 10,.int .i64 12,F 11,jJ wb 11,.int .i64 13,F 12,jJ wb 12]
theorem j6.later {w w':World} {k wb fb i:Nat} {v:Value} (h:j6 w k wb fb i v) (hb:Below w.heap.size w w'):j6 w' k wb fb i v:=by
 match i,h with
 | 0,h=>exact bA.later h hb
 | 1,h=>exact h
 | 2,h=>exact bA.later h hb
 | 3,h=>exact h
 | 4,h=>exact bA.later h hb
 | 5,h=>exact bA.later h hb
 | 6,h=>exact bA.later h hb
 | 7,h=>exact bA.later h hb
 | 8,h=>exact bA.later h hb
 | 9,h=>exact bA.later h hb
 | 10,h=>exact bA.later h hb
 | 11,h=>exact bA.later h hb
 | 12,h=>exact bA.later h hb
 | _+13,h=>trivial
theorem j6.kp {w w':World} {k wb fb i:Nat} {v:Value} (h:j6 w k wb fb i v) {cs:Array Value} (hk:Cl w k cs 115) (hb:dY k w w'):j6 w' k wb fb i v:=by
 match i,h with
 | 0,h=>exact bA.kp h hk hb
 | 1,h=>exact h
 | 2,h=>exact bA.kp h hk hb
 | 3,h=>exact h
 | 4,h=>exact bA.kp h hk hb
 | 5,h=>exact bA.kp h hk hb
 | 6,h=>exact bA.kp h hk hb
 | 7,h=>exact bA.kp h hk hb
 | 8,h=>exact bA.kp h hk hb
 | 9,h=>exact bA.kp h hk hb
 | 10,h=>exact bA.kp h hk hb
 | 11,h=>exact bA.kp h hk hb
 | 12,h=>exact bA.kp h hk hb
 | _+13,h=>trivial
structure nY (w:World) (k T wb fb:Nat) (F:Nat->Value):Prop where
 row:Cl w T (LH wb F) 127
 gY:Cl w wb #[.pointer (some ⟨k,0,none⟩)] 84
 Q6:∃ fa,Cl w fb #[fa] 124/\bA w 107 k 1 fa
 f:∀ i,i<13->j6 w k wb fb i (F i)
theorem nY.later {w w':World} {k T wb fb:Nat} {F:Nat->Value} (h:nY w k T wb fb F) (hb:Below w.heap.size w w'):nY w' k T wb fb F:=by
 obtain⟨fa,h1,h2⟩:=h.Q6
 exact⟨h.row.later hb,h.gY.later hb,⟨fa,h1.later hb,h2.later hb⟩,fun i hi=>(h.f i hi).later hb⟩
theorem nY.kp {w w':World} {k T wb fb:Nat} {F:Nat->Value} (h:nY w k T wb fb F) {cs:Array Value} (hk:Cl w k cs 115) (hb:dY k w w'):nY w' k T wb fb F:=by
 obtain⟨fa,h1,h2⟩:=h.Q6
 refine⟨h.row.kp hb ?_,h.gY.kp hb ?_,⟨fa,h1.kp hb ?_,h2.kp hk hb⟩,fun i hi=>(h.f i hi).kp hk hb⟩
 ·rintro rfl
  have:=h.row.symm.trans hk
  simp at this
 ·rintro rfl
  have:=h.gY.symm.trans hk
  simp at this
 ·rintro rfl
  have:=h1.symm.trans hk
  simp at this
theorem O8 (w:World) (a0 b0 c0 a1 b1 c1 a2 b2 c2 a3 b3 c3 a4 b4 c4 a5 b5 c5 a6 b6 c6 a7 b7 c7 a8 b8 c8 a9 b9 c9 IC b10 c10 IE b11 c11 a12 b12 c12:Value):(Instr.buildSlice 113 13 #[(0,.agg #[a0,b0,c0]),(1,.agg #[a1,b1,c1]),(2,.agg #[a2,b2,c2]),(3,.agg #[a3,b3,c3]),(4,.agg #[a4,b4,c4]),(5,.agg #[a5,b5,c5]),(6,.agg #[a6,b6,c6]),(7,.agg #[a7,b7,c7]),(8,.agg #[a8,b8,c8]),(9,.agg #[a9,b9,c9]),(10,.agg #[IC,b10,c10]),(11,.agg #[IE,b11,c11]),(12,.agg #[a12,b12,c12])]).run Tryz.prog w=.ok (.slice (some ⟨w.heap.size,0,none⟩) 13 13) (w.alloc (.cells #[a0,b0,c0,a1,b1,c1,a2,b2,c2,a3,b3,c3,a4,b4,c4,a5,b5,c5,a6,b6,c6,a7,b7,c7,a8,b8,c8,a9,b9,c9,IC,b10,c10,IE,b11,c11,a12,b12,c12] 127)):=by kernel_rfl
theorem kg (w:World) (n:Int) (f1 f2:Fn) (x1 x2 c1 c2:Array Value):(Instr.build 127 #[(0,.int .i64 n),(1,.func f1 x1 c1),(2,.func f2 x2 c2)]).run Tryz.prog w=.ok (.agg #[.int .i64 n,.func f1 x1 c1,.func f2 x2 c2]) w:=by kernel_rfl
theorem Ug (w:World):(zeroValue 124).run Tryz.prog w=.ok Value.nilFunc w:=by kernel_rfl
theorem LJ (w0:World) (k:Nat):Calls Tryz.prog 46 #[.pointer (some ⟨k,0,none⟩)] w0 fun e w'=>∃ T wb fb F,e=.returned (.slice (some ⟨T,0,none⟩) 13 13)/\nY w' k T wb fb F/\Below w0.heap.size w0 w':=by
 have KF:=show Hid (∀ w,Calls Tryz.prog 69 #[.pointer (some ⟨k,0,none⟩),.int .i64 1] w fun e w'=>∃ v,e=.returned v/\bA w' 107 k 1 v/\Below w.heap.size w w') from fun w=>oV w k 1
 go_enter Tryz.func46,Tryz.ntmps46
 go_wp2_with (refine iw _ _ rfl _ rfl rfl rfl ?_)
 intro w1 wb hn1
 have c1:w1.cell? ⟨wb,0,none⟩=some (.pointer (some ⟨k,0,none⟩)):=Cl.cell hn1.blk 0
 go_wp2_with fail
 refine Calls.mono (KF.out w1) ?_
 rintro e w2 ⟨fa,rfl,hfa,hb2⟩
 have H2:=show Hid (Below w0.heap.size w0 w2/\Cl w2 wb #[.pointer (some ⟨k,0,none⟩)] 84/\bA w2 107 k 1 fa) from⟨hn1.au.trans (hb2.mono hn1.au.size),Cl.later hn1.blk hb2,hfa⟩
 clear hn1 hb2 c1 KF
 obtain⟨BF,gZ,rfl,hf1,hf2⟩:=hfa
 go_wp2_with (refine jd _ rfl _ Ug rfl rfl ?_)
 intro w3 fb aM
 have xO:=show Hid (Cl (w3.setCell ⟨fb,0,none⟩ (.func (.func 107) #[] #[.pointer (some ⟨BF,0,none⟩),.pointer (some ⟨gZ,0,none⟩)])) fb #[.func (.func 107) #[] #[.pointer (some ⟨BF,0,none⟩),.pointer (some ⟨gZ,0,none⟩)]] 124) from heap_setCell_same w3 fb 0 _ _ _ aM.blk
 have hlt3:w2.heap.size<=fb:=aM.ge
 have zI:=show Hid (dY fb w3 (w3.setCell ⟨fb,0,none⟩ (.func (.func 107) #[] #[.pointer (some ⟨BF,0,none⟩),.pointer (some ⟨gZ,0,none⟩)]))) from dY.set (Kp.refl _ w3) 0 _
 have c3:w3.cell? ⟨fb,0,none⟩=some Value.nilFunc:=Cl.cell aM.blk 0
 have f3:=Cl.fr aM.blk 0
 have H3:=show Hid (Below w0.heap.size w0 w3/\Cl w3 wb #[.pointer (some ⟨k,0,none⟩)] 84/\Cl w3 BF #[.int .i64 1] 52/\Cl w3 gZ #[.pointer (some ⟨k,0,none⟩)] 84/\wb≠fb/\BF≠fb/\gZ≠fb/\w0.heap.size<=fb) from
  ⟨aS H2.out.1 aM,H2.out.2.1.new aM,hf1.new aM,hf2.new aM,by have:=H2.out.2.1.lt;omega,by have:=hf1.lt;omega,by have:=hf2.lt;omega,by have:=H2.out.1.size;omega⟩
 clear aM H2 hf1 hf2
 go_wp2_with fail
 generalize (w3.setCell ⟨fb,0,none⟩ (.func (.func 107) #[] #[.pointer (some ⟨BF,0,none⟩),.pointer (some ⟨gZ,0,none⟩)]))=w4 at *
 have H4:=show Hid (Below w0.heap.size w0 w4/\Cl w4 wb #[.pointer (some ⟨k,0,none⟩)] 84) from⟨aP H3.out.1 zI.out H3.out.2.2.2.2.2.2.2,H3.out.2.1.kp zI.out H3.out.2.2.2.2.1⟩
 have UM:=show Hid (∀ W,Below w4.heap.size w4 W->∃ fa,Cl W fb #[fa] 124/\bA W 107 k 1 fa) from fun W h=>
  ⟨_,xO.out.later h,BF,gZ,rfl,(H3.out.2.2.1.kp zI.out H3.out.2.2.2.2.2.1).later h,(H3.out.2.2.2.1.kp zI.out H3.out.2.2.2.2.2.2.1).later h⟩
 refine bC (by kernel_rfl) [some 7,some 8,some 9,some 10,some 11,some 12,some 13,some 14,some 15,some 16,some 17,some 18,some 19,some 20,some 21,some 22,some 23,some 24,some 25,some 26,some 27,some 28,some 29,some 30,some 31,some 32,some 33,some 34,some 35,some 36,some 37,some 38,some 39,some 40,some 41,some 42,some 43,some 44,some 45,some 46,some 47,some 48,some 49,some 50,some 51,some 52,some 53,some 54,some 55,some 56,some 57,some 2] [[],[0],[],[1,2],[],[],[4,5],[],[7],[],[8,9],[],[],[11,12],[],[14],[],[15,16],[],[18],[],[19,20],[],[22],[],[23,24],[],[26],[],[27,28],[],[30],[],[31,32],[],[34],[],[35,36],[],[38],[],[39,40],[],[42],[],[43,44],[],[46],[],[47,48],[3,6,10,13,17,21,25,29,33,37,41,45,49],[50]] (by kernel_rfl) (fun i v w=>match i with | 0=>v=.pointer (some ⟨k,0,none⟩) | 1=>bA w 108 k 2 v | 2=>v=.func (.func 70) #[] #[] | 3=>∃ F,v=.agg #[.int .i64 1,F,.func (.func 70) #[] #[]]/\bA w 108 k 2 F | 4=>v=.func (.func 72) #[] #[.pointer (some ⟨wb,0,none⟩)] | 5=>v=.func (.func 70) #[] #[] | 6=>∃ F,v=.agg #[.int .i64 2,F,.func (.func 70) #[] #[]]/\F=.func (.func 72) #[] #[.pointer (some ⟨wb,0,none⟩)] | 7=>v=.pointer (some ⟨k,0,none⟩) | 8=>bA w 108 k 3 v | 9=>v=.func (.func 75) #[] #[.pointer (some ⟨wb,0,none⟩)] | 10=>∃ F,v=.agg #[.int .i64 3,F,.func (.func 75) #[] #[.pointer (some ⟨wb,0,none⟩)]]/\bA w 108 k 3 F | 11=>v=.func (.func 78) #[] #[.pointer (some ⟨fb,0,none⟩),.pointer (some ⟨wb,0,none⟩)] | 12=>v=.func (.func 79) #[] #[.pointer (some ⟨wb,0,none⟩)] | 13=>∃ F,v=.agg #[.int .i64 4,F,.func (.func 79) #[] #[.pointer (some ⟨wb,0,none⟩)]]/\F=.func (.func 78) #[] #[.pointer (some ⟨fb,0,none⟩),.pointer (some ⟨wb,0,none⟩)] | 14=>v=.pointer (some ⟨k,0,none⟩) | 15=>bA w 107 k 2 v | 16=>v=.func (.func 80) #[] #[.pointer (some ⟨wb,0,none⟩)] | 17=>∃ F,v=.agg #[.int .i64 5,F,.func (.func 80) #[] #[.pointer (some ⟨wb,0,none⟩)]]/\bA w 107 k 2 F | 18=>v=.pointer (some ⟨k,0,none⟩) | 19=>bA w 107 k 3 v | 20=>v=.func (.func 81) #[] #[.pointer (some ⟨wb,0,none⟩)] | 21=>∃ F,v=.agg #[.int .i64 6,F,.func (.func 81) #[] #[.pointer (some ⟨wb,0,none⟩)]]/\bA w 107 k 3 F | 22=>v=.pointer (some ⟨k,0,none⟩) | 23=>bA w 107 k 4 v | 24=>v=.func (.func 83) #[] #[.pointer (some ⟨wb,0,none⟩)] | 25=>∃ F,v=.agg #[.int .i64 7,F,.func (.func 83) #[] #[.pointer (some ⟨wb,0,none⟩)]]/\bA w 107 k 4 F | 26=>v=.pointer (some ⟨k,0,none⟩) | 27=>bA w 112 k 5 v | 28=>v=.func (.func 85) #[] #[.pointer (some ⟨wb,0,none⟩)] | 29=>∃ F,v=.agg #[.int .i64 8,F,.func (.func 85) #[] #[.pointer (some ⟨wb,0,none⟩)]]/\bA w 112 k 5 F | 30=>v=.pointer (some ⟨k,0,none⟩) | 31=>bA w 112 k 3 v | 32=>v=.func (.func 87) #[] #[.pointer (some ⟨wb,0,none⟩)] | 33=>∃ F,v=.agg #[.int .i64 9,F,.func (.func 87) #[] #[.pointer (some ⟨wb,0,none⟩)]]/\bA w 112 k 3 F | 34=>v=.pointer (some ⟨k,0,none⟩) | 35=>bA w 108 k 4 v | 36=>v=.func (.func 88) #[] #[.pointer (some ⟨wb,0,none⟩)] | 37=>∃ F,v=.agg #[.int .i64 10,F,.func (.func 88) #[] #[.pointer (some ⟨wb,0,none⟩)]]/\bA w 108 k 4 F | 38=>v=.pointer (some ⟨k,0,none⟩) | 39=>bA w 112 k 4 v | 40=>v=.func (.func 89) #[] #[.pointer (some ⟨wb,0,none⟩)] | 41=>∃ F,v=.agg #[.int .i64 11,F,.func (.func 89) #[] #[.pointer (some ⟨wb,0,none⟩)]]/\bA w 112 k 4 F | 42=>v=.pointer (some ⟨k,0,none⟩) | 43=>bA w 112 k 4 v | 44=>v=.func (.func 90) #[] #[.pointer (some ⟨wb,0,none⟩)] | 45=>∃ F,v=.agg #[.int .i64 12,F,.func (.func 90) #[] #[.pointer (some ⟨wb,0,none⟩)]]/\bA w 112 k 4 F | 46=>v=.pointer (some ⟨k,0,none⟩) | 47=>bA w 107 k 5 v | 48=>v=.func (.func 91) #[] #[.pointer (some ⟨wb,0,none⟩)] | 49=>∃ F,v=.agg #[.int .i64 13,F,.func (.func 91) #[] #[.pointer (some ⟨wb,0,none⟩)]]/\bA w 107 k 5 F | 50=>∃ T F,v=.slice (some ⟨T,0,none⟩) 13 13/\nY w k T wb fb F | 51=>∃ T F,v=.slice (some ⟨T,0,none⟩) 13 13/\nY w k T wb fb F | _=>True) (fun _ W=>Below w4.heap.size w4 W/\Cl W wb #[.pointer (some ⟨k,0,none⟩)] 84) (fun W W'=>Below W.heap.size W W') ?hle (⟨(Below.refl _ _).drew,H4.out.2⟩) (bR 52 ?steps) ?fin
 case hle=>
  intro i v w w1 hl h
  match i,h with
  | 0,h=>exact h
  | 1,h=>exact bA.later h hl
  | 2,h=>exact h
  | 3,h=>exact(by obtain⟨F,hv,hF⟩:=h;exact⟨F,hv,bA.later hF hl⟩)
  | 4,h=>exact h
  | 5,h=>exact h
  | 6,h=>exact h
  | 7,h=>exact h
  | 8,h=>exact bA.later h hl
  | 9,h=>exact h
  | 10,h=>exact(by obtain⟨F,hv,hF⟩:=h;exact⟨F,hv,bA.later hF hl⟩)
  | 11,h=>exact h
  | 12,h=>exact h
  | 13,h=>exact h
  | 14,h=>exact h
  | 15,h=>exact bA.later h hl
  | 16,h=>exact h
  | 17,h=>exact(by obtain⟨F,hv,hF⟩:=h;exact⟨F,hv,bA.later hF hl⟩)
  | 18,h=>exact h
  | 19,h=>exact bA.later h hl
  | 20,h=>exact h
  | 21,h=>exact(by obtain⟨F,hv,hF⟩:=h;exact⟨F,hv,bA.later hF hl⟩)
  | 22,h=>exact h
  | 23,h=>exact bA.later h hl
  | 24,h=>exact h
  | 25,h=>exact(by obtain⟨F,hv,hF⟩:=h;exact⟨F,hv,bA.later hF hl⟩)
  | 26,h=>exact h
  | 27,h=>exact bA.later h hl
  | 28,h=>exact h
  | 29,h=>exact(by obtain⟨F,hv,hF⟩:=h;exact⟨F,hv,bA.later hF hl⟩)
  | 30,h=>exact h
  | 31,h=>exact bA.later h hl
  | 32,h=>exact h
  | 33,h=>exact(by obtain⟨F,hv,hF⟩:=h;exact⟨F,hv,bA.later hF hl⟩)
  | 34,h=>exact h
  | 35,h=>exact bA.later h hl
  | 36,h=>exact h
  | 37,h=>exact(by obtain⟨F,hv,hF⟩:=h;exact⟨F,hv,bA.later hF hl⟩)
  | 38,h=>exact h
  | 39,h=>exact bA.later h hl
  | 40,h=>exact h
  | 41,h=>exact(by obtain⟨F,hv,hF⟩:=h;exact⟨F,hv,bA.later hF hl⟩)
  | 42,h=>exact h
  | 43,h=>exact bA.later h hl
  | 44,h=>exact h
  | 45,h=>exact(by obtain⟨F,hv,hF⟩:=h;exact⟨F,hv,bA.later hF hl⟩)
  | 46,h=>exact h
  | 47,h=>exact bA.later h hl
  | 48,h=>exact h
  | 49,h=>exact(by obtain⟨F,hv,hF⟩:=h;exact⟨F,hv,bA.later hF hl⟩)
  | 50,h=>exact(by obtain⟨T,F,hv,hT⟩:=h;exact⟨T,F,hv,nY.later hT hl⟩)
  | 51,h=>exact(by obtain⟨T,F,hv,hT⟩:=h;exact⟨T,F,hv,nY.later hT hl⟩)
  | _+52,h=>trivial
 case steps=>
  refine⟨⟨⟨⟨⟨⟨⟨⟨⟨⟨⟨⟨⟨⟨⟨⟨⟨⟨⟨⟨⟨⟨⟨⟨⟨⟨⟨⟨⟨⟨⟨⟨⟨⟨⟨⟨⟨⟨⟨⟨⟨⟨⟨⟨⟨⟨⟨⟨⟨⟨⟨⟨trivial,?s0⟩,?s1⟩,?s2⟩,?s3⟩,?s4⟩,?s5⟩,?s6⟩,?s7⟩,?s8⟩,?s9⟩,?s10⟩,?s11⟩,?s12⟩,?s13⟩,?gG⟩,?s15⟩,?s16⟩,?rW⟩,?uJ⟩,?Q7⟩,?s20⟩,?Q8⟩,?Q9⟩,?WU⟩,?s24⟩,?WV⟩,?WW⟩,?WX⟩,?WY⟩,?WZ⟩,?Xa⟩,?Xb⟩,?Xc⟩,?Xd⟩,?Xe⟩,?Xf⟩,?Xg⟩,?Xh⟩,?Xi⟩,?Xj⟩,?Xk⟩,?Xl⟩,?Xm⟩,?s43⟩,?s44⟩,?Xn⟩,?Xo⟩,?Xp⟩,?Xq⟩,?s49⟩,?Xr⟩,?Xt⟩
  case s0=>
   intro done a w hS h0 hd hn hO hN
   have o1:a.tmps[1]?=some (.pointer (some ⟨wb,0,none⟩)):=outs hO 1 rfl
   have hc:w.cell? ⟨wb,0,none⟩=some (.pointer (some ⟨k,0,none⟩)):=hS.2.cell 0
   refine ah rfl (.pointer (some ⟨k,0,none⟩)) w rfl (by go_simp) ⟨_,rfl,rfl,hS,Below.refl _ _⟩
  case s1=>
   intro done a w hS h0 hd hn hO hN
   obtain⟨v0,g0,r0⟩:=aj hN 0 7
   obtain rfl:v0=.pointer (some ⟨k,0,none⟩):=r0
   refine aR rfl rfl 71 [.tmp 7,.const (.int .i64 2)] #[84,52] rfl [.pointer (some ⟨k,0,none⟩),.int .i64 2] (by simp[Act.eval,g0]) (enters_of Tryz.func71 (by kernel_rfl) rfl) (Calls.mono (wU w k 2) ?_)
   rintro e w1 ⟨v,rfl,hv,hb⟩
   exact⟨_,rfl,_,rfl,hv,⟨hS.1.trans (hb.mono hS.1.size),hS.2.later hb⟩,hb⟩
  case s2=>
   intro done a w hS h0 hd hn hO hN
   have o4:a.tmps[4]?=some (.func (.func 70) #[] #[]):=outs hO 4 rfl
   refine ah rfl (.func (.func 70) #[] #[]) w rfl (by go_simp) ⟨_,rfl,rfl,hS,Below.refl _ _⟩
  case s3=>
   intro done a w hS h0 hd hn hO hN
   obtain⟨v1,g1,r1⟩:=aj hN 1 8
   obtain⟨v2,g2,r2⟩:=aj hN 2 9
   obtain rfl:v2=.func (.func 70) #[] #[]:=r2
   obtain⟨kb,gZ,rfl,hk1,hk2⟩:=r1
   refine ah rfl (.agg #[.int .i64 1,.func (.func 108) #[] #[.pointer (some ⟨kb,0,none⟩),.pointer (some ⟨gZ,0,none⟩)],.func (.func 70) #[] #[]]) w rfl (by simp[execOp,Act.eval,g1,g2,kg,Result.andThen]) ⟨_,rfl,⟨_,rfl,kb,gZ,rfl,hk1,hk2⟩,hS,Below.refl _ _⟩
  case s4=>
   intro done a w hS h0 hd hn hO hN
   have o1:a.tmps[1]?=some (.pointer (some ⟨wb,0,none⟩)):=outs hO 1 rfl
   refine ah rfl (.func (.func 72) #[] #[.pointer (some ⟨wb,0,none⟩)]) w rfl (by go_simp) ⟨_,rfl,rfl,hS,Below.refl _ _⟩
  case s5=>
   intro done a w hS h0 hd hn hO hN
   have o4:a.tmps[4]?=some (.func (.func 70) #[] #[]):=outs hO 4 rfl
   refine ah rfl (.func (.func 70) #[] #[]) w rfl (by go_simp) ⟨_,rfl,rfl,hS,Below.refl _ _⟩
  case s6=>
   intro done a w hS h0 hd hn hO hN
   obtain⟨v4,g4,r4⟩:=aj hN 4 11
   obtain rfl:v4=.func (.func 72) #[] #[.pointer (some ⟨wb,0,none⟩)]:=r4
   obtain⟨v5,g5,r5⟩:=aj hN 5 12
   obtain rfl:v5=.func (.func 70) #[] #[]:=r5
   refine ah rfl (.agg #[.int .i64 2,.func (.func 72) #[] #[.pointer (some ⟨wb,0,none⟩)],.func (.func 70) #[] #[]]) w rfl (by simp[execOp,Act.eval,g4,g5,kg,Result.andThen]) ⟨_,rfl,⟨_,rfl,rfl⟩,hS,Below.refl _ _⟩
  case s7=>
   intro done a w hS h0 hd hn hO hN
   have o1:a.tmps[1]?=some (.pointer (some ⟨wb,0,none⟩)):=outs hO 1 rfl
   have hc:w.cell? ⟨wb,0,none⟩=some (.pointer (some ⟨k,0,none⟩)):=hS.2.cell 0
   refine ah rfl (.pointer (some ⟨k,0,none⟩)) w rfl (by go_simp) ⟨_,rfl,rfl,hS,Below.refl _ _⟩
  case s8=>
   intro done a w hS h0 hd hn hO hN
   obtain⟨v7,g7,r7⟩:=aj hN 7 14
   obtain rfl:v7=.pointer (some ⟨k,0,none⟩):=r7
   refine aR rfl rfl 71 [.tmp 14,.const (.int .i64 3)] #[84,52] rfl [.pointer (some ⟨k,0,none⟩),.int .i64 3] (by simp[Act.eval,g7]) (enters_of Tryz.func71 (by kernel_rfl) rfl) (Calls.mono (wU w k 3) ?_)
   rintro e w1 ⟨v,rfl,hv,hb⟩
   exact⟨_,rfl,_,rfl,hv,⟨hS.1.trans (hb.mono hS.1.size),hS.2.later hb⟩,hb⟩
  case s9=>
   intro done a w hS h0 hd hn hO hN
   have o1:a.tmps[1]?=some (.pointer (some ⟨wb,0,none⟩)):=outs hO 1 rfl
   refine ah rfl (.func (.func 75) #[] #[.pointer (some ⟨wb,0,none⟩)]) w rfl (by go_simp) ⟨_,rfl,rfl,hS,Below.refl _ _⟩
  case s10=>
   intro done a w hS h0 hd hn hO hN
   obtain⟨v8,g8,r8⟩:=aj hN 8 15
   obtain⟨v9,g9,r9⟩:=aj hN 9 16
   obtain rfl:v9=.func (.func 75) #[] #[.pointer (some ⟨wb,0,none⟩)]:=r9
   obtain⟨kb,gZ,rfl,hk1,hk2⟩:=r8
   refine ah rfl (.agg #[.int .i64 3,.func (.func 108) #[] #[.pointer (some ⟨kb,0,none⟩),.pointer (some ⟨gZ,0,none⟩)],.func (.func 75) #[] #[.pointer (some ⟨wb,0,none⟩)]]) w rfl (by simp[execOp,Act.eval,g8,g9,kg,Result.andThen]) ⟨_,rfl,⟨_,rfl,kb,gZ,rfl,hk1,hk2⟩,hS,Below.refl _ _⟩
  case s11=>
   intro done a w hS h0 hd hn hO hN
   have o3:a.tmps[3]?=some (.pointer (some ⟨fb,0,none⟩)):=outs hO 3 rfl
   have o1:a.tmps[1]?=some (.pointer (some ⟨wb,0,none⟩)):=outs hO 1 rfl
   refine ah rfl (.func (.func 78) #[] #[.pointer (some ⟨fb,0,none⟩),.pointer (some ⟨wb,0,none⟩)]) w rfl (by go_simp) ⟨_,rfl,rfl,hS,Below.refl _ _⟩
  case s12=>
   intro done a w hS h0 hd hn hO hN
   have o1:a.tmps[1]?=some (.pointer (some ⟨wb,0,none⟩)):=outs hO 1 rfl
   refine ah rfl (.func (.func 79) #[] #[.pointer (some ⟨wb,0,none⟩)]) w rfl (by go_simp) ⟨_,rfl,rfl,hS,Below.refl _ _⟩
  case s13=>
   intro done a w hS h0 hd hn hO hN
   obtain⟨v11,g11,bP⟩:=aj hN 11 18
   obtain rfl:v11=.func (.func 78) #[] #[.pointer (some ⟨fb,0,none⟩),.pointer (some ⟨wb,0,none⟩)]:=bP
   obtain⟨v12,g12,bT⟩:=aj hN 12 19
   obtain rfl:v12=.func (.func 79) #[] #[.pointer (some ⟨wb,0,none⟩)]:=bT
   refine ah rfl (.agg #[.int .i64 4,.func (.func 78) #[] #[.pointer (some ⟨fb,0,none⟩),.pointer (some ⟨wb,0,none⟩)],.func (.func 79) #[] #[.pointer (some ⟨wb,0,none⟩)]]) w rfl (by simp[execOp,Act.eval,g11,g12,kg,Result.andThen]) ⟨_,rfl,⟨_,rfl,rfl⟩,hS,Below.refl _ _⟩
  case gG=>
   intro done a w hS h0 hd hn hO hN
   have o1:a.tmps[1]?=some (.pointer (some ⟨wb,0,none⟩)):=outs hO 1 rfl
   have hc:w.cell? ⟨wb,0,none⟩=some (.pointer (some ⟨k,0,none⟩)):=hS.2.cell 0
   refine ah rfl (.pointer (some ⟨k,0,none⟩)) w rfl (by go_simp) ⟨_,rfl,rfl,hS,Below.refl _ _⟩
  case s15=>
   intro done a w hS h0 hd hn hO hN
   obtain⟨v14,g14,bZ⟩:=aj hN 14 21
   obtain rfl:v14=.pointer (some ⟨k,0,none⟩):=bZ
   refine aR rfl rfl 69 [.tmp 21,.const (.int .i64 2)] #[84,52] rfl [.pointer (some ⟨k,0,none⟩),.int .i64 2] (by simp[Act.eval,g14]) (enters_of Tryz.func69 (by kernel_rfl) rfl) (Calls.mono (oV w k 2) ?_)
   rintro e w1 ⟨v,rfl,hv,hb⟩
   exact⟨_,rfl,_,rfl,hv,⟨hS.1.trans (hb.mono hS.1.size),hS.2.later hb⟩,hb⟩
  case s16=>
   intro done a w hS h0 hd hn hO hN
   have o1:a.tmps[1]?=some (.pointer (some ⟨wb,0,none⟩)):=outs hO 1 rfl
   refine ah rfl (.func (.func 80) #[] #[.pointer (some ⟨wb,0,none⟩)]) w rfl (by go_simp) ⟨_,rfl,rfl,hS,Below.refl _ _⟩
  case rW=>
   intro done a w hS h0 hd hn hO hN
   obtain⟨v15,g15,dI⟩:=aj hN 15 22
   obtain⟨v16,g16,r16⟩:=aj hN 16 23
   obtain rfl:v16=.func (.func 80) #[] #[.pointer (some ⟨wb,0,none⟩)]:=r16
   obtain⟨kb,gZ,rfl,hk1,hk2⟩:=dI
   refine ah rfl (.agg #[.int .i64 5,.func (.func 107) #[] #[.pointer (some ⟨kb,0,none⟩),.pointer (some ⟨gZ,0,none⟩)],.func (.func 80) #[] #[.pointer (some ⟨wb,0,none⟩)]]) w rfl (by simp[execOp,Act.eval,g15,g16,kg,Result.andThen]) ⟨_,rfl,⟨_,rfl,kb,gZ,rfl,hk1,hk2⟩,hS,Below.refl _ _⟩
  case uJ=>
   intro done a w hS h0 hd hn hO hN
   have o1:a.tmps[1]?=some (.pointer (some ⟨wb,0,none⟩)):=outs hO 1 rfl
   have hc:w.cell? ⟨wb,0,none⟩=some (.pointer (some ⟨k,0,none⟩)):=hS.2.cell 0
   refine ah rfl (.pointer (some ⟨k,0,none⟩)) w rfl (by go_simp) ⟨_,rfl,rfl,hS,Below.refl _ _⟩
  case Q7=>
   intro done a w hS h0 hd hn hO hN
   obtain⟨v18,g18,Ra⟩:=aj hN 18 25
   obtain rfl:v18=.pointer (some ⟨k,0,none⟩):=Ra
   refine aR rfl rfl 69 [.tmp 25,.const (.int .i64 3)] #[84,52] rfl [.pointer (some ⟨k,0,none⟩),.int .i64 3] (by simp[Act.eval,g18]) (enters_of Tryz.func69 (by kernel_rfl) rfl) (Calls.mono (oV w k 3) ?_)
   rintro e w1 ⟨v,rfl,hv,hb⟩
   exact⟨_,rfl,_,rfl,hv,⟨hS.1.trans (hb.mono hS.1.size),hS.2.later hb⟩,hb⟩
  case s20=>
   intro done a w hS h0 hd hn hO hN
   have o1:a.tmps[1]?=some (.pointer (some ⟨wb,0,none⟩)):=outs hO 1 rfl
   refine ah rfl (.func (.func 81) #[] #[.pointer (some ⟨wb,0,none⟩)]) w rfl (by go_simp) ⟨_,rfl,rfl,hS,Below.refl _ _⟩
  case Q8=>
   intro done a w hS h0 hd hn hO hN
   obtain⟨v19,g19,Rb⟩:=aj hN 19 26
   obtain⟨v20,g20,Rc⟩:=aj hN 20 27
   obtain rfl:v20=.func (.func 81) #[] #[.pointer (some ⟨wb,0,none⟩)]:=Rc
   obtain⟨kb,gZ,rfl,hk1,hk2⟩:=Rb
   refine ah rfl (.agg #[.int .i64 6,.func (.func 107) #[] #[.pointer (some ⟨kb,0,none⟩),.pointer (some ⟨gZ,0,none⟩)],.func (.func 81) #[] #[.pointer (some ⟨wb,0,none⟩)]]) w rfl (by simp[execOp,Act.eval,g19,g20,kg,Result.andThen]) ⟨_,rfl,⟨_,rfl,kb,gZ,rfl,hk1,hk2⟩,hS,Below.refl _ _⟩
  case Q9=>
   intro done a w hS h0 hd hn hO hN
   have o1:a.tmps[1]?=some (.pointer (some ⟨wb,0,none⟩)):=outs hO 1 rfl
   have hc:w.cell? ⟨wb,0,none⟩=some (.pointer (some ⟨k,0,none⟩)):=hS.2.cell 0
   refine ah rfl (.pointer (some ⟨k,0,none⟩)) w rfl (by go_simp) ⟨_,rfl,rfl,hS,Below.refl _ _⟩
  case WU=>
   intro done a w hS h0 hd hn hO hN
   obtain⟨v22,g22,Xu⟩:=aj hN 22 29
   obtain rfl:v22=.pointer (some ⟨k,0,none⟩):=Xu
   refine aR rfl rfl 69 [.tmp 29,.const (.int .i64 4)] #[84,52] rfl [.pointer (some ⟨k,0,none⟩),.int .i64 4] (by simp[Act.eval,g22]) (enters_of Tryz.func69 (by kernel_rfl) rfl) (Calls.mono (oV w k 4) ?_)
   rintro e w1 ⟨v,rfl,hv,hb⟩
   exact⟨_,rfl,_,rfl,hv,⟨hS.1.trans (hb.mono hS.1.size),hS.2.later hb⟩,hb⟩
  case s24=>
   intro done a w hS h0 hd hn hO hN
   have o1:a.tmps[1]?=some (.pointer (some ⟨wb,0,none⟩)):=outs hO 1 rfl
   refine ah rfl (.func (.func 83) #[] #[.pointer (some ⟨wb,0,none⟩)]) w rfl (by go_simp) ⟨_,rfl,rfl,hS,Below.refl _ _⟩
  case WV=>
   intro done a w hS h0 hd hn hO hN
   obtain⟨v23,g23,Xv⟩:=aj hN 23 30
   obtain⟨v24,g24,Xw⟩:=aj hN 24 31
   obtain rfl:v24=.func (.func 83) #[] #[.pointer (some ⟨wb,0,none⟩)]:=Xw
   obtain⟨kb,gZ,rfl,hk1,hk2⟩:=Xv
   refine ah rfl (.agg #[.int .i64 7,.func (.func 107) #[] #[.pointer (some ⟨kb,0,none⟩),.pointer (some ⟨gZ,0,none⟩)],.func (.func 83) #[] #[.pointer (some ⟨wb,0,none⟩)]]) w rfl (by simp[execOp,Act.eval,g23,g24,kg,Result.andThen]) ⟨_,rfl,⟨_,rfl,kb,gZ,rfl,hk1,hk2⟩,hS,Below.refl _ _⟩
  case WW=>
   intro done a w hS h0 hd hn hO hN
   have o1:a.tmps[1]?=some (.pointer (some ⟨wb,0,none⟩)):=outs hO 1 rfl
   have hc:w.cell? ⟨wb,0,none⟩=some (.pointer (some ⟨k,0,none⟩)):=hS.2.cell 0
   refine ah rfl (.pointer (some ⟨k,0,none⟩)) w rfl (by go_simp) ⟨_,rfl,rfl,hS,Below.refl _ _⟩
  case WX=>
   intro done a w hS h0 hd hn hO hN
   obtain⟨v26,Xx,Xy⟩:=aj hN 26 33
   obtain rfl:v26=.pointer (some ⟨k,0,none⟩):=Xy
   refine aR rfl rfl 84 [.tmp 33,.const (.int .i64 5)] #[84,52] rfl [.pointer (some ⟨k,0,none⟩),.int .i64 5] (by simp[Act.eval,Xx]) (enters_of Tryz.func84 (by kernel_rfl) rfl) (Calls.mono (sW w k 5) ?_)
   rintro e w1 ⟨v,rfl,hv,hb⟩
   exact⟨_,rfl,_,rfl,hv,⟨hS.1.trans (hb.mono hS.1.size),hS.2.later hb⟩,hb⟩
  case WY=>
   intro done a w hS h0 hd hn hO hN
   have o1:a.tmps[1]?=some (.pointer (some ⟨wb,0,none⟩)):=outs hO 1 rfl
   refine ah rfl (.func (.func 85) #[] #[.pointer (some ⟨wb,0,none⟩)]) w rfl (by go_simp) ⟨_,rfl,rfl,hS,Below.refl _ _⟩
  case WZ=>
   intro done a w hS h0 hd hn hO hN
   obtain⟨v27,Xz,XA⟩:=aj hN 27 34
   obtain⟨v28,XB,XC⟩:=aj hN 28 35
   obtain rfl:v28=.func (.func 85) #[] #[.pointer (some ⟨wb,0,none⟩)]:=XC
   obtain⟨kb,gZ,rfl,hk1,hk2⟩:=XA
   refine ah rfl (.agg #[.int .i64 8,.func (.func 112) #[] #[.pointer (some ⟨kb,0,none⟩),.pointer (some ⟨gZ,0,none⟩)],.func (.func 85) #[] #[.pointer (some ⟨wb,0,none⟩)]]) w rfl (by simp[execOp,Act.eval,Xz,XB,kg,Result.andThen]) ⟨_,rfl,⟨_,rfl,kb,gZ,rfl,hk1,hk2⟩,hS,Below.refl _ _⟩
  case Xa=>
   intro done a w hS h0 hd hn hO hN
   have o1:a.tmps[1]?=some (.pointer (some ⟨wb,0,none⟩)):=outs hO 1 rfl
   have hc:w.cell? ⟨wb,0,none⟩=some (.pointer (some ⟨k,0,none⟩)):=hS.2.cell 0
   refine ah rfl (.pointer (some ⟨k,0,none⟩)) w rfl (by go_simp) ⟨_,rfl,rfl,hS,Below.refl _ _⟩
  case Xb=>
   intro done a w hS h0 hd hn hO hN
   obtain⟨v30,XD,XE⟩:=aj hN 30 37
   obtain rfl:v30=.pointer (some ⟨k,0,none⟩):=XE
   refine aR rfl rfl 84 [.tmp 37,.const (.int .i64 3)] #[84,52] rfl [.pointer (some ⟨k,0,none⟩),.int .i64 3] (by simp[Act.eval,XD]) (enters_of Tryz.func84 (by kernel_rfl) rfl) (Calls.mono (sW w k 3) ?_)
   rintro e w1 ⟨v,rfl,hv,hb⟩
   exact⟨_,rfl,_,rfl,hv,⟨hS.1.trans (hb.mono hS.1.size),hS.2.later hb⟩,hb⟩
  case Xc=>
   intro done a w hS h0 hd hn hO hN
   have o1:a.tmps[1]?=some (.pointer (some ⟨wb,0,none⟩)):=outs hO 1 rfl
   refine ah rfl (.func (.func 87) #[] #[.pointer (some ⟨wb,0,none⟩)]) w rfl (by go_simp) ⟨_,rfl,rfl,hS,Below.refl _ _⟩
  case Xd=>
   intro done a w hS h0 hd hn hO hN
   obtain⟨v31,XF,XG⟩:=aj hN 31 38
   obtain⟨v32,XH,r32⟩:=aj hN 32 39
   obtain rfl:v32=.func (.func 87) #[] #[.pointer (some ⟨wb,0,none⟩)]:=r32
   obtain⟨kb,gZ,rfl,hk1,hk2⟩:=XG
   refine ah rfl (.agg #[.int .i64 9,.func (.func 112) #[] #[.pointer (some ⟨kb,0,none⟩),.pointer (some ⟨gZ,0,none⟩)],.func (.func 87) #[] #[.pointer (some ⟨wb,0,none⟩)]]) w rfl (by simp[execOp,Act.eval,XF,XH,kg,Result.andThen]) ⟨_,rfl,⟨_,rfl,kb,gZ,rfl,hk1,hk2⟩,hS,Below.refl _ _⟩
  case Xe=>
   intro done a w hS h0 hd hn hO hN
   have o1:a.tmps[1]?=some (.pointer (some ⟨wb,0,none⟩)):=outs hO 1 rfl
   have hc:w.cell? ⟨wb,0,none⟩=some (.pointer (some ⟨k,0,none⟩)):=hS.2.cell 0
   refine ah rfl (.pointer (some ⟨k,0,none⟩)) w rfl (by go_simp) ⟨_,rfl,rfl,hS,Below.refl _ _⟩
  case Xf=>
   intro done a w hS h0 hd hn hO hN
   obtain⟨v34,XI,XJ⟩:=aj hN 34 41
   obtain rfl:v34=.pointer (some ⟨k,0,none⟩):=XJ
   refine aR rfl rfl 71 [.tmp 41,.const (.int .i64 4)] #[84,52] rfl [.pointer (some ⟨k,0,none⟩),.int .i64 4] (by simp[Act.eval,XI]) (enters_of Tryz.func71 (by kernel_rfl) rfl) (Calls.mono (wU w k 4) ?_)
   rintro e w1 ⟨v,rfl,hv,hb⟩
   exact⟨_,rfl,_,rfl,hv,⟨hS.1.trans (hb.mono hS.1.size),hS.2.later hb⟩,hb⟩
  case Xg=>
   intro done a w hS h0 hd hn hO hN
   have o1:a.tmps[1]?=some (.pointer (some ⟨wb,0,none⟩)):=outs hO 1 rfl
   refine ah rfl (.func (.func 88) #[] #[.pointer (some ⟨wb,0,none⟩)]) w rfl (by go_simp) ⟨_,rfl,rfl,hS,Below.refl _ _⟩
  case Xh=>
   intro done a w hS h0 hd hn hO hN
   obtain⟨v35,XK,XL⟩:=aj hN 35 42
   obtain⟨v36,XM,XO⟩:=aj hN 36 43
   obtain rfl:v36=.func (.func 88) #[] #[.pointer (some ⟨wb,0,none⟩)]:=XO
   obtain⟨kb,gZ,rfl,hk1,hk2⟩:=XL
   refine ah rfl (.agg #[.int .i64 10,.func (.func 108) #[] #[.pointer (some ⟨kb,0,none⟩),.pointer (some ⟨gZ,0,none⟩)],.func (.func 88) #[] #[.pointer (some ⟨wb,0,none⟩)]]) w rfl (by simp[execOp,Act.eval,XK,XM,kg,Result.andThen]) ⟨_,rfl,⟨_,rfl,kb,gZ,rfl,hk1,hk2⟩,hS,Below.refl _ _⟩
  case Xi=>
   intro done a w hS h0 hd hn hO hN
   have o1:a.tmps[1]?=some (.pointer (some ⟨wb,0,none⟩)):=outs hO 1 rfl
   have hc:w.cell? ⟨wb,0,none⟩=some (.pointer (some ⟨k,0,none⟩)):=hS.2.cell 0
   refine ah rfl (.pointer (some ⟨k,0,none⟩)) w rfl (by go_simp) ⟨_,rfl,rfl,hS,Below.refl _ _⟩
  case Xj=>
   intro done a w hS h0 hd hn hO hN
   obtain⟨v38,XP,XQ⟩:=aj hN 38 45
   obtain rfl:v38=.pointer (some ⟨k,0,none⟩):=XQ
   refine aR rfl rfl 84 [.tmp 45,.const (.int .i64 4)] #[84,52] rfl [.pointer (some ⟨k,0,none⟩),.int .i64 4] (by simp[Act.eval,XP]) (enters_of Tryz.func84 (by kernel_rfl) rfl) (Calls.mono (sW w k 4) ?_)
   rintro e w1 ⟨v,rfl,hv,hb⟩
   exact⟨_,rfl,_,rfl,hv,⟨hS.1.trans (hb.mono hS.1.size),hS.2.later hb⟩,hb⟩
  case Xk=>
   intro done a w hS h0 hd hn hO hN
   have o1:a.tmps[1]?=some (.pointer (some ⟨wb,0,none⟩)):=outs hO 1 rfl
   refine ah rfl (.func (.func 89) #[] #[.pointer (some ⟨wb,0,none⟩)]) w rfl (by go_simp) ⟨_,rfl,rfl,hS,Below.refl _ _⟩
  case Xl=>
   intro done a w hS h0 hd hn hO hN
   obtain⟨v39,XR,XT⟩:=aj hN 39 46
   obtain⟨v40,XU,XV⟩:=aj hN 40 47
   obtain rfl:v40=.func (.func 89) #[] #[.pointer (some ⟨wb,0,none⟩)]:=XV
   obtain⟨kb,gZ,rfl,hk1,hk2⟩:=XT
   refine ah rfl (.agg #[.int .i64 11,.func (.func 112) #[] #[.pointer (some ⟨kb,0,none⟩),.pointer (some ⟨gZ,0,none⟩)],.func (.func 89) #[] #[.pointer (some ⟨wb,0,none⟩)]]) w rfl (by simp[execOp,Act.eval,XR,XU,kg,Result.andThen]) ⟨_,rfl,⟨_,rfl,kb,gZ,rfl,hk1,hk2⟩,hS,Below.refl _ _⟩
  case Xm=>
   intro done a w hS h0 hd hn hO hN
   have o1:a.tmps[1]?=some (.pointer (some ⟨wb,0,none⟩)):=outs hO 1 rfl
   have hc:w.cell? ⟨wb,0,none⟩=some (.pointer (some ⟨k,0,none⟩)):=hS.2.cell 0
   refine ah rfl (.pointer (some ⟨k,0,none⟩)) w rfl (by go_simp) ⟨_,rfl,rfl,hS,Below.refl _ _⟩
  case s43=>
   intro done a w hS h0 hd hn hO hN
   obtain⟨v42,XW,XY⟩:=aj hN 42 49
   obtain rfl:v42=.pointer (some ⟨k,0,none⟩):=XY
   refine aR rfl rfl 84 [.tmp 49,.const (.int .i64 4)] #[84,52] rfl [.pointer (some ⟨k,0,none⟩),.int .i64 4] (by simp[Act.eval,XW]) (enters_of Tryz.func84 (by kernel_rfl) rfl) (Calls.mono (sW w k 4) ?_)
   rintro e w1 ⟨v,rfl,hv,hb⟩
   exact⟨_,rfl,_,rfl,hv,⟨hS.1.trans (hb.mono hS.1.size),hS.2.later hb⟩,hb⟩
  case s44=>
   intro done a w hS h0 hd hn hO hN
   have o1:a.tmps[1]?=some (.pointer (some ⟨wb,0,none⟩)):=outs hO 1 rfl
   refine ah rfl (.func (.func 90) #[] #[.pointer (some ⟨wb,0,none⟩)]) w rfl (by go_simp) ⟨_,rfl,rfl,hS,Below.refl _ _⟩
  case Xn=>
   intro done a w hS h0 hd hn hO hN
   obtain⟨v43,XZ,X0⟩:=aj hN 43 50
   obtain⟨v44,X3,X4⟩:=aj hN 44 51
   obtain rfl:v44=.func (.func 90) #[] #[.pointer (some ⟨wb,0,none⟩)]:=X4
   obtain⟨kb,gZ,rfl,hk1,hk2⟩:=X0
   refine ah rfl (.agg #[.int .i64 12,.func (.func 112) #[] #[.pointer (some ⟨kb,0,none⟩),.pointer (some ⟨gZ,0,none⟩)],.func (.func 90) #[] #[.pointer (some ⟨wb,0,none⟩)]]) w rfl (by simp[execOp,Act.eval,XZ,X3,kg,Result.andThen]) ⟨_,rfl,⟨_,rfl,kb,gZ,rfl,hk1,hk2⟩,hS,Below.refl _ _⟩
  case Xo=>
   intro done a w hS h0 hd hn hO hN
   have o1:a.tmps[1]?=some (.pointer (some ⟨wb,0,none⟩)):=outs hO 1 rfl
   have hc:w.cell? ⟨wb,0,none⟩=some (.pointer (some ⟨k,0,none⟩)):=hS.2.cell 0
   refine ah rfl (.pointer (some ⟨k,0,none⟩)) w rfl (by go_simp) ⟨_,rfl,rfl,hS,Below.refl _ _⟩
  case Xp=>
   intro done a w hS h0 hd hn hO hN
   obtain⟨v46,X5,X6⟩:=aj hN 46 53
   obtain rfl:v46=.pointer (some ⟨k,0,none⟩):=X6
   refine aR rfl rfl 69 [.tmp 53,.const (.int .i64 5)] #[84,52] rfl [.pointer (some ⟨k,0,none⟩),.int .i64 5] (by simp[Act.eval,X5]) (enters_of Tryz.func69 (by kernel_rfl) rfl) (Calls.mono (oV w k 5) ?_)
   rintro e w1 ⟨v,rfl,hv,hb⟩
   exact⟨_,rfl,_,rfl,hv,⟨hS.1.trans (hb.mono hS.1.size),hS.2.later hb⟩,hb⟩
  case Xq=>
   intro done a w hS h0 hd hn hO hN
   have o1:a.tmps[1]?=some (.pointer (some ⟨wb,0,none⟩)):=outs hO 1 rfl
   refine ah rfl (.func (.func 91) #[] #[.pointer (some ⟨wb,0,none⟩)]) w rfl (by go_simp) ⟨_,rfl,rfl,hS,Below.refl _ _⟩
  case s49=>
   intro done a w hS h0 hd hn hO hN
   obtain⟨v47,g47,X7⟩:=aj hN 47 54
   obtain⟨v48,X8,X9⟩:=aj hN 48 55
   obtain rfl:v48=.func (.func 91) #[] #[.pointer (some ⟨wb,0,none⟩)]:=X9
   obtain⟨kb,gZ,rfl,hk1,hk2⟩:=X7
   refine ah rfl (.agg #[.int .i64 13,.func (.func 107) #[] #[.pointer (some ⟨kb,0,none⟩),.pointer (some ⟨gZ,0,none⟩)],.func (.func 91) #[] #[.pointer (some ⟨wb,0,none⟩)]]) w rfl (by simp[execOp,Act.eval,g47,X8,kg,Result.andThen]) ⟨_,rfl,⟨_,rfl,kb,gZ,rfl,hk1,hk2⟩,hS,Below.refl _ _⟩
  case Xr=>
   intro done a w hS h0 hd hn hO hN
   obtain⟨v3,g3,r3⟩:=aj hN 3 10
   obtain⟨v6,g6,r6⟩:=aj hN 6 13
   obtain⟨v10,g10,bM⟩:=aj hN 10 17
   obtain⟨v13,g13,bY⟩:=aj hN 13 20
   obtain⟨v17,g17,Jj⟩:=aj hN 17 24
   obtain⟨v21,g21,Rf⟩:=aj hN 21 28
   obtain⟨v25,Ya,Yb⟩:=aj hN 25 32
   obtain⟨v29,Yc,Yd⟩:=aj hN 29 36
   obtain⟨v33,Ye,Yf⟩:=aj hN 33 40
   obtain⟨v37,Yg,Yh⟩:=aj hN 37 44
   obtain⟨v41,Yi,Yj⟩:=aj hN 41 48
   obtain⟨v45,Yk,Yl⟩:=aj hN 45 52
   obtain⟨v49,Ym,Yn⟩:=aj hN 49 56
   obtain⟨F0,rfl,jA⟩:=r3
   obtain⟨F1,rfl,hF1⟩:=r6
   obtain⟨F2,rfl,hF2⟩:=bM
   obtain⟨F3,rfl,Yo⟩:=bY
   obtain⟨F4,rfl,Yp⟩:=Jj
   obtain⟨F5,rfl,Yq⟩:=Rf
   obtain⟨F6,rfl,Yr⟩:=Yb
   obtain⟨F7,rfl,Yt⟩:=Yd
   obtain⟨F8,rfl,Yu⟩:=Yf
   obtain⟨F9,rfl,Yv⟩:=Yh
   obtain⟨UN,rfl,VP⟩:=Yj
   obtain⟨UO,rfl,VQ⟩:=Yl
   obtain⟨UQ,rfl,VR⟩:=Yn
   have BG:∃ fa,Cl w fb #[fa] 124/\bA w 107 k 1 fa:=UM.out w hS.1
   refine ah rfl (.slice (some ⟨w.heap.size,0,none⟩) 13 13) (w.alloc (.cells (LH wb (fun i=>match i with | 0=>F0 | 1=>F1 | 2=>F2 | 3=>F3 | 4=>F4 | 5=>F5 | 6=>F6 | 7=>F7 | 8=>F8 | 9=>F9 | 10=>UN | 11=>UO | 12=>UQ | _=>undef)) 127)) rfl (by simp[execOp,Act.eval,g3,g6,g10,g13,g17,g21,Ya,Yc,Ye,Yg,Yi,Yk,Ym,O8,Result.andThen];rfl) ⟨_,rfl,?_,⟨hS.1.alloc hS.1.size _,hS.2.later (av w _)⟩,av w _⟩
   refine⟨w.heap.size,fun i=>match i with | 0=>F0 | 1=>F1 | 2=>F2 | 3=>F3 | 4=>F4 | 5=>F5 | 6=>F6 | 7=>F7 | 8=>F8 | 9=>F9 | 10=>UN | 11=>UO | 12=>UQ | _=>undef,rfl,(aZ w _ _).blk,hS.2.later (av w _),?_,bR 13 ⟨⟨⟨⟨⟨⟨⟨⟨⟨⟨⟨⟨⟨trivial,j6.later (i:=0) jA (av w _)⟩,j6.later (i:=1) hF1 (av w _)⟩,j6.later (i:=2) hF2 (av w _)⟩,j6.later (i:=3) Yo (av w _)⟩,j6.later (i:=4) Yp (av w _)⟩,j6.later (i:=5) Yq (av w _)⟩,j6.later (i:=6) Yr (av w _)⟩,j6.later (i:=7) Yt (av w _)⟩,j6.later (i:=8) Yu (av w _)⟩,j6.later (i:=9) Yv (av w _)⟩,j6.later (i:=10) VP (av w _)⟩,j6.later (i:=11) VQ (av w _)⟩,j6.later (i:=12) VR (av w _)⟩⟩
   obtain⟨fa,h1,h2⟩:=BG
   exact⟨fa,h1.later (av w _),h2.later (av w _)⟩
  case Xt=>
   intro done a w hS h0 hd hn hO hN
   obtain⟨v50,ZL,Yw⟩:=aj hN 50 57
   obtain⟨T,F,rfl,hT⟩:=Yw
   refine ah rfl (.slice (some ⟨T,0,none⟩) 13 13) w rfl (by go_simp) ⟨_,rfl,⟨T,F,rfl,hT⟩,hS,Below.refl _ _⟩
 case fin=>
  intro vs done w hdone hS hR
  simp only[bg,Act.put,List.setIfInBounds_toArray,List.set_cons_zero,List.set_cons_succ]
  obtain⟨T,F,hv,hT⟩:∃ T F,vs 51=.slice (some ⟨T,0,none⟩) 13 13/\nY w k T wb fb F:=hR 51 (by decide)
  rw[hv]
  have HZ:=show Hid _ from And.intro (H4.out.1.trans (hS.1.mono H4.out.1.size)) hT
  clear hS hR hdone hv hT H4 H3 UM xO zI c3 f3
  go_wp2_with fail
  go_ret
  exact⟨T,wb,fb,F,rfl,HZ.out.2,HZ.out.1⟩
end Go.Proofs.YtkejippimkjjaaaGreatDoor
