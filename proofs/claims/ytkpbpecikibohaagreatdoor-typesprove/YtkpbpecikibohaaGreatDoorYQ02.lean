import Derived.Test.YtkpbpecikibohaaGreatDoorYQ00
import Derived.Test.YtkpbpecikibohaaGreatDoorYQ01
import Derived.Test.YtkpbpecikibohaaGreatDoorFG2
import Derived.Defers
import Derived.Laws.EntriesVeiled
set_option linter.unusedSimpArgs false
set_option maxRecDepth 100000
set_option maxHeartbeats 1000000
namespace Go.Proofs.YtkpbpecikibohaaGreatDoor.Ya
open Go.RowKit Go.Maps
open Fm (Nd)
open Ty (Tm)
def dG (l:List Int):List Value:=l.map fun x=>.int .i64 x
structure Ck (w:World) (B C m n:Nat) (pt:Value) (g:Ty.Env) (wv:Value) (way:List Int):Prop where
 blk:Cl w C #[pt,.map (some m),wv] 108
 map:Mz w m n g
 row:w.ownsRow B 3 1 wv way.length (dG way)
 cB:B<=C
 mB:B<=m
def Fc (C m:Nat) (wv:Value) (k:Nat):Prop:=k=C\/k=m\/wv.ownBlock=some k
structure Af (w w':World) (B C m n:Nat) (pt:Value) (g:Ty.Env) (wv wv':Value) (way:List Int):Prop where
 ck:Ck w' B C m n pt g wv' way
 li:dh w.heap.size wv wv'
 kp:Kp (Fc C m wv) w w'
section
variable {w w' w'':World} {B C m n n':Nat} {pt:Value} {g g':Ty.Env} {wv wv' wv'':Value} {way xU:List Int}
theorem Ck.nQ (h:Ck w B C m n pt g wv way) {b:Nat} {cs:Array Value} {T:TypeId} (hb:Cl w b cs T):b≠m:=by
 rintro rfl
 obtain⟨D,⟨es,cl,hm,_⟩,_⟩:=h.map
 rw[show w.heap[b]?=_ from hb] at hm
 cases hm
theorem Ck.nf (h:Ck w B C m n pt g wv way) {b:Nat} {cs:Array Value} {T:TypeId} (hb:Cl w b cs T) (h1:T≠108) (h2:T≠3):¬ Fc C m wv b:=by
 rintro(rfl | e | e)
 ·have:=h.blk
  rw[Cl,show w.heap[b]?=_ from hb] at this
  injection this with this
  injection this with _ h3 _
  exact h1 h3
 ·exact h.nQ hb e
 ·obtain⟨_,_,cur,hh⟩:=aP h.row b e
  rw[show w.heap[b]?=_ from hb] at hh
  injection hh with hh
  injection hh with _ h3 _
  exact h2 h3
theorem Ck.wC (h:Ck w B C m n pt g wv way):wv.ownBlock≠some C:=fun e=>by
 obtain⟨_,_,cur,hh⟩:=aP h.row C e
 rw[show w.heap[C]?=_ from h.blk] at hh
 injection hh with hh
 injection hh with _ h3 _
 exact absurd h3 (by decide)
theorem Ck.wm (h:Ck w B C m n pt g wv way):wv.ownBlock≠some m:=fun e=>by
 obtain⟨_,_,cur,hh⟩:=aP h.row m e
 exact h.nQ (show Cl w m cur _ from hh) rfl
theorem Ck.Cm (h:Ck w B C m n pt g wv way):C≠m:=h.nQ h.blk
theorem Ck.below (h:Ck w B C m n pt g wv way) (hk:Kp (Fc C m wv) w w') (hB:B<=w.heap.size):Below B w w' :=
 ⟨hk.os,hk.tape,hk.output,hk.size,fun k hlt=>hk.block k (by omega) (by
  rintro(rfl | rfl | e)
  ·have:=h.cB;omega
  ·have:=h.mB;omega
  ·have:=(aP h.row k e).1;omega)⟩
theorem Ck.later (h:Ck w B C m n pt g wv way) (hb:Below w.heap.size w w'):Ck w' B C m n pt g wv way :=
 ⟨h.blk.later hb,h.map.later hb,bD h.row fun k e=>hb.block k (aP h.row k e).2.1,h.cB,h.mB⟩
theorem Af.refl (h:Ck w B C m n pt g wv way):Af w w B C m n pt g wv wv way:=⟨h,fun _ e=>Or.inl e,Kp.refl _ _⟩
theorem Af.new (h:Ck w B C m n pt g wv way) (hb:Below w.heap.size w w'):Af w w' B C m n pt g wv wv way:=⟨h.later hb,fun _ e=>Or.inl e,Kp.of_below hb⟩
theorem Af.trans (h:Af w w' B C m n pt g wv wv' way) (k:Af w' w'' B C m n' pt g' wv' wv'' xU):Af w w'' B C m n' pt g' wv wv'' xU:=by
 refine⟨k.ck,fun b e => ?_,h.kp.trans k.kp ?_⟩
 ·rcases k.li b e with e | e
  ·exact h.li b e
  ·exact Or.inr (Nat.le_trans h.kp.size e)
 ·rintro b (e | e | e)
  ·exact Or.inl (Or.inl e)
  ·exact Or.inl (Or.inr (Or.inl e))
  ·rcases h.li b e with e | e
   ·exact Or.inl (Or.inr (Or.inr e))
   ·exact Or.inr e
theorem Af.then (h:Af w w' B C m n pt g wv wv' way) (hb:Below w'.heap.size w' w''):Af w w'' B C m n pt g wv wv' way:=h.trans (Af.new h.ck hb)
theorem Af.pre (hb:Below w.heap.size w w') (h:Af w' w'' B C m n pt g wv wv' way) (hk:Ck w B C m n' pt g' wv xU):Af w w'' B C m n pt g wv wv' way :=
 (Af.new hk hb).trans h
theorem Cl.af {b:Nat} {cs:Array Value} {T:TypeId} (hb:Cl w b cs T) (h:Ck w B C m n pt g wv way) (hk:Kp (Fc C m wv) w w') (h1:T≠108) (h2:T≠3):Cl w' b cs T:=(hk.block b hb.lt (h.nf hb h1 h2)).trans hb
end
theorem J9 (l:List Int):(dG l).length=l.length:=by simp[dG]
theorem Ka (l:List Int):∀ u ∈ dG l,u.oneCell'=true:=by
 intro u hu
 obtain⟨x,_,rfl⟩:=List.mem_map.1 hu
 rfl
theorem CF (w:World) (a:Addr) (l c:Nat):(binOp .eql 37 (.slice (some a) l c) (.slice none 0 0)).run Tryz.prog w=.ok (.bool false) w:=by kernel_rfl
theorem Fe (w:World):(binOp .eql 37 (.slice none 0 0) (.slice none 0 0)).run Tryz.prog w=.ok (.bool true) w:=by kernel_rfl
theorem Z6 (w:World):(Instr.buildSlice 37 0 #[]).run Tryz.prog w=.ok (.slice (some ⟨w.heap.size,0,none⟩) 0 0) (w.alloc (.cells #[] 3)):=by kernel_rfl
theorem Q7 {w:World} {B:Nat} {g cap:Nat} {xs:List Value} {n:Nat} (h:w.ownsRow B 3 1 (.slice (some ⟨g,0,none⟩) n cap) n xs):∀ j u,xs[j]?=some u->w.cell? ((⟨g,0,none⟩:Addr).add j)=some u:=by
 rcases h.2 with ⟨h0,_⟩ | ⟨g',cap',cur,hv,hg,hh,h1,h2,h3,h4⟩
 ·cases h0
 ·intro j u hu
  obtain⟨h5,_,_⟩:=Value.slice.inj hv
  obtain rfl:g=g':=by injection h5 with h5;injection h5
  have hj:j<xs.length:=(List.getElem?_eq_some_iff.1 hu).1
  have hln:=h.1
  rw[<- h4,List.getElem?_take,if_pos (by omega)] at hu
  have e:(⟨g,0,none⟩:Addr).add j=⟨g,j,none⟩:=by simp[Addr.add];omega
  rw[e,cell_of_row w g j _ _ _ hh]
  simpa using hu
def NG (w w':World) (v:Value) (l:List Int):Prop:=w'.ownsRow w.heap.size 3 1 v l.length (dG l)/\Below w.heap.size w w'
theorem Im (w:World) {B:Nat} {v:Value} {l:List Int} (h:w.ownsRow B 3 1 v l.length (dG l)) (hl:l.length<=1000000) :
 Calls Tryz.prog 74 #[v] w fun e w'=>∃ v',e=.returned v'/\NG w w' v' l:=by
 have hq:=CF w
 have hq0:=Fe w
 rcases h.2 with ⟨rfl,h0⟩ | ⟨g,cap,cur,rfl,hg,hh,h1,h2,h3,h4⟩
 ·obtain rfl:l=[]:=List.eq_nil_of_length_eq_zero h0
  clear h h0
  go_enter Tryz.func74,Tryz.ntmps74
  go_wp2_with fail
  go_ret
  exact⟨_,rfl,⟨rfl,Or.inl ⟨rfl,rfl⟩⟩,Below.refl _ _⟩
 ·obtain⟨i0,hi,hz0,hz1,hz2⟩:=info_parts qW
  have uG:=show Hid (∀ j u,(dG l)[j]?=some u->(w.alloc (Obj.cells #[] 3)).cell? ((⟨g,0,none⟩:Addr).add j)=some u) from Q7 (bD h fun k e=>by
   obtain rfl:g=k:=Option.some.inj e
   exact(ak w (Obj.cells #[] 3)).block g (lt_of_block hh))
  have aB:=show Hid (∀ u ∈ dG l,u.oneCell'=true) from Ka l
  have yQ:=show Hid ((dG l).length=l.length * 1) from(by rw[J9];omega:(dG l).length=l.length * 1)
  obtain⟨xs,hxs⟩:∃ xs,xs=dG l:=⟨_,rfl⟩
  have Gh:=show Hid (xs=dG l) from hxs
  rw[<- hxs] at uG aB yQ
  clear hxs
  have hb0:=Z6 w
  clear h hh h4 h1 h2 h3
  go_enter Tryz.func74,Tryz.ntmps74
  go_wp2_with (at_builtin;refine wpList_append_own_at _ rfl (.tmp 5) (.tmp 6) 37 rfl w.heap.size 3 i0 _ 1 8 Tryz.underlying37 hi hz0 hz1 hz2 rfl (by decide) (.slice (some ⟨w.heap.size,0,none⟩) 0 0) 0 [] rfl (World.ownsRow_made w #[] 0 (Nat.le_refl _) (Nat.zero_le _) rfl) ⟨g,0,none⟩ l.length cap xs rfl yQ.out uG.out aB.out (by unfold maxLen;omega) (by omega) (by simp) ?_)
  intro v' w1 hown hgr hnil hat
  have HOW:=show Hid (w1.ownsRow w.heap.size 3 1 v' l.length xs) from(by simpa using hown:w1.ownsRow w.heap.size 3 1 v' l.length xs)
  have TA:=show Hid ((w.alloc (Obj.cells #[] 3)).grownBy w1 (some w.heap.size)) from hgr
  clear hown hgr hnil hat
  go_wp2_with fail
  go_ret
  have h1:=HOW.out
  rw[Gh.out] at h1
  exact⟨_,rfl,h1,(ak _ _).grown TA.out (by simp) (fun k hk=>by cases hk;exact Nat.le_refl _)⟩
structure Rf (w:World) (B q:Nat) (e:Int) (wy:List Int) (wv:Value):Prop where
 ex:∃ yv,Cl w q #[.int .i64 e,yv] 117/\w.ownsRow B 3 1 yv wy.length (dG wy)/\∀ k,yv.ownBlock=some k->wv.ownBlock≠some k
 qB:B<=q
theorem Rf.af {w w':World} {B q C m n:Nat} {e:Int} {wy:List Int} {pt:Value} {g:Ty.Env} {wv:Value} {way:List Int} (h:Rf w B q e wy wv) (hc:Ck w B C m n pt g wv way) (hk:Kp (Fc C m wv) w w'):Rf w' B q e wy wv:=by
 obtain⟨⟨yv,h1,h2,h3⟩,h4⟩:=h
 refine⟨⟨yv,Cl.af h1 hc hk (by decide) (by decide),bD h2 fun k e => ?_,h3⟩,h4⟩
 obtain⟨_,hlt,cur,hh⟩:=aP h2 k e
 refine hk.block k hlt ?_
 rintro(e2 | e2 | e2)
 ·subst e2
  rw[show w.heap[k]?=_ from hc.blk] at hh
  injection hh with hh
  injection hh with _ h5 _
  exact absurd h5 (by decide)
 ·exact hc.nQ (show Cl w k cur _ from hh) e2
 ·exact h3 k e e2
theorem Rf.other {w w':World} {B q b:Nat} {e:Int} {wy:List Int} {wv:Value} {cs:Array Value} {T:TypeId} (h:Rf w B q e wy wv) (hb:Cl w b cs T) (h1:T≠117) (h2:T≠3) (hk:dn b w w'):Rf w' B q e wy wv:=by
 obtain⟨⟨yv,h3,h4,h5⟩,h6⟩:=h
 refine⟨⟨yv,Cl.kp h3 hk fun e2 => ?_,bD h4 fun k e2 => ?_,h5⟩,h6⟩
 ·subst e2
  rw[Cl,show w.heap[q]?=_ from hb] at h3
  injection h3 with h3
  injection h3 with _ h7 _
  exact h1 h7
 ·obtain⟨_,hlt,cur,hh⟩:=aP h4 k e2
  refine hk.block k hlt fun e3 => ?_
  subst e3
  rw[show w.heap[k]?=_ from hb] at hh
  injection hh with hh
  injection hh with _ h7 _
  exact h2 h7
theorem Rf.later {w w':World} {B q:Nat} {e:Int} {wy:List Int} {wv:Value} (h:Rf w B q e wy wv) (hb:Below w.heap.size w w'):Rf w' B q e wy wv:=by
 obtain⟨⟨yv,h3,h4,h5⟩,h6⟩:=h
 exact⟨⟨yv,h3.later hb,bD h4 fun k e2=>hb.block k (aP h4 k e2).2.1,h5⟩,h6⟩
theorem Rf.wv {w:World} {B q:Nat} {e:Int} {wy:List Int} {wv wv':Value} (h:Rf w B q e wy wv) (hw:wv'.ownBlock=wv.ownBlock):Rf w B q e wy wv':=by
 obtain⟨⟨yv,h1,h2,h3⟩,h4⟩:=h
 exact⟨⟨yv,h1,h2,fun k e=>by rw[hw];exact h3 k e⟩,h4⟩
theorem gY {w:World} {B n size:Nat} {e:TypeId} {v:Value} {xs:List Value} (h:w.ownsRow B e size v n xs):∃ p c,v=.slice p n c:=by
 rcases h.2 with ⟨rfl,rfl⟩ | ⟨g,cap,cur,rfl,_⟩
 ·exact⟨_,_,rfl⟩
 ·exact⟨_,_,rfl⟩
theorem eY (w:World) {B C m n:Nat} {pt:Value} {g:Ty.Env} {wv:Value} {way:List Int} (h:Ck w B C m n pt g wv way) (hl:way.length<=1000000) (hB:B<=w.heap.size) (e:Int) :
 Calls Tryz.prog 39 #[.pointer (some ⟨C,0,none⟩),.int .i64 e] w fun r w'=>∃ q,r=.returned (.iface 113 (.pointer (some ⟨q,0,none⟩)))/\Rf w' B q e way wv/\Below w.heap.size w w':=by
 have KC:=show Hid (Calls Tryz.prog 74 #[wv] w fun e w'=>∃ v',e=.returned v'/\NG w w' v' way) from Im w h.row hl
 have c2:w.cell? ⟨C,2,none⟩=some wv:=h.blk.cell 2
 have HW:=show Hid (∀ k,wv.ownBlock=some k->k<w.heap.size) from fun k e=>(aP h.row k e).2.1
 have XI:∀ (w:World) (v:Value),(Instr.makeInterface 113 v).run Tryz.prog w=.ok (.iface 113 v) w:=fun w v=>by kernel_rfl
 obtain⟨p,c,rfl⟩:=gY h.row
 clear h
 go_enter Tryz.func39,Tryz.ntmps39
 go_wp2_with fail
 refine Calls.mono KC.out ?_
 rintro r w1 ⟨v',rfl,hn⟩
 have HN:=show Hid (NG w w1 v' way) from hn
 obtain⟨p',c',rfl⟩:=gY hn.1
 clear hn KC c2
 go_wp2_with (refine aC 117 _ rfl _ rfl rfl ?_)
 intro w2 q hn2
 have pK:=show Hid _ from hn2
 clear hn2
 go_wp2_with fail
 go_ret
 have hn2:=pK.out
 have h1:=HN.out
 refine⟨q,rfl,⟨⟨_,hn2.blk,?_,fun k e1 e2 => ?_⟩,?_⟩,cO h1.2 hn2⟩
 ·refine bD (base:=B) ?_ fun k e=>hn2.av.block k (aP h1.1 k e).2.1
  refine⟨h1.1.1,?_⟩
  rcases h1.1.2 with h2 | ⟨g,cap,cur,h2,h3,r⟩
  ·exact Or.inl h2
  ·exact Or.inr ⟨g,cap,cur,h2,by omega,r⟩
 ·have:=(aP h1.1 k e1).1
  have:=HW.out k e2
  omega
 ·have:=hn2.ge
  have:=h1.2.size
  omega
end Go.Proofs.YtkpbpecikibohaaGreatDoor.Ya
namespace Go.Proofs.YtkpbpecikibohaaGreatDoor.Ya
open Go.RowKit Go.Maps
open Fm (Nd)
open Ty (Tm An)
theorem dR (w:World):(zeroValue 67).run Tryz.prog w=.ok (.agg #[.int .i64 0,.string ⟨#[]⟩,.int .i64 0,.int .i64 0]) w:=by kernel_rfl
theorem dx:(Tryz.prog.info? 67).map (·.size)=some 4:=by kernel_rfl
theorem dH (n:Nd):(#[.int .i64 n.k,.string n.s,.int .i64 n.l,.int .i64 n.r]:Array Value).all (·.oneCell')=true:=by simp[Value.oneCell']
theorem A8 (w:World) {B C m n b mt:Nat} {v:Value} {t:List Nd} {g:Ty.Env} {wv:Value} {way:List Int} (h:Ck w B C m n (.pointer (some ⟨b,0,none⟩)) g wv way) (hT:Tb w b mt v t) (i:Int) :
 Calls Tryz.prog 41 #[.pointer (some ⟨C,0,none⟩),.int .i64 i] w fun r w'=>r=.returned (.bool (!Fm.has t i))/\Below w.heap.size w w':=by
 have KN:=show Hid (Calls Tryz.prog 76 #[.pointer (some ⟨b,0,none⟩),.int .i64 i] w fun e w'=>e=.returned (.tuple #[dY (ay t i),.bool (Fm.has t i)])/\Below w.heap.size w w') from uF w hT i
 have c0:w.cell? ⟨C,0,none⟩=some (.pointer (some ⟨b,0,none⟩)):=h.blk.cell 0
 generalize ay t i=nd at *
 generalize Fm.has t i=q at *
 clear h hT
 go_enter Tryz.func41,Tryz.ntmps41
 go_wp2_with fail
 refine Calls.mono KN.out ?_
 rintro e w1 ⟨rfl,hb1⟩
 have HB1:=show Hid _ from hb1
 clear hb1 KN c0
 unfold dY
 go_wp2_with (refine aN 67 rfl _ dR rfl ?_)
 intro w2 b2 hn2
 go_wp2_with (refine aQ 67 rfl rfl _ _ rfl b2 rfl _ rfl _ _ hn2.blk dx rfl (dH nd) ?_)
 intro w3 hc3 hk3
 have HB3:=show Hid (Below w.heap.size w w3) from bR (cO HB1.out hn2) hk3 (by have:=hn2.ge;have:=HB1.out.size;omega)
 clear hn2 hc3 hk3 HB1
 go_wp2_with fail
 go_ret
 exact⟨rfl,HB3.out⟩
def Qf (B:Nat) (w w':World) (r:Ending) (way:List Int) (wv:Value) (nd:Nd) (k:Int):Prop :=
 (nd.k=k->r=.returned (.tuple #[dY nd,.nilIface]))/\(nd.k≠k->∃ q,r=.returned (.tuple #[dY Fm.z,.iface 113 (.pointer (some ⟨q,0,none⟩))])/\Rf w' B q 130 way wv)/\Below w.heap.size w w'
theorem lM {fn:Func} {p q:Tmp} (h:fn.results=#[.cell p 67,.tmp q]) (tmps:Array Value) (w:World) (b:Nat) {nd:Nd} (hp:tmps.getD p undef=.pointer (some ⟨b,0,none⟩)) (hc:Cl w b #[.int .i64 nd.k,.string nd.s,.int .i64 nd.l,.int .i64 nd.r] 67) :
 (results fn tmps).run Tryz.prog w=.ok (.tuple #[dY nd,tmps.getD q undef]) w:=by
 rw[_root_.Go.results_cell_tmp h,hp]
 simp[asAddr,run_loadVar_row w b 67 67 _ (0,0) _ hc Tryz.underlying67 rfl dx,Result.andThen,dY]
theorem nR (w:World) {B C m n b mt:Nat} {v:Value} {t:List Nd} {g:Ty.Env} {wv:Value} {way:List Int} (h:Ck w B C m n (.pointer (some ⟨b,0,none⟩)) g wv way) (hT:Tb w b mt v t) (hl:way.length<=1000000) (hB:B<=w.heap.size) (i k:Int) :
 Calls Tryz.prog 86 #[.pointer (some ⟨C,0,none⟩),.int .i64 i,.int .i64 k] w fun r w'=>Qf B w w' r way wv (ay t i) k:=by
 have KN:=show Hid (∀ W,Below w.heap.size w W->Calls Tryz.prog 76 #[.pointer (some ⟨b,0,none⟩),.int .i64 i] W fun e w'=>e=.returned (.tuple #[dY (ay t i),.bool (Fm.has t i)])/\Below W.heap.size W w') from fun W hW=>uF W (hT.later hW) i
 have KR:=show Hid (∀ W,Below w.heap.size w W->Calls Tryz.prog 39 #[.pointer (some ⟨C,0,none⟩),.int .i64 130] W fun r w'=>∃ q,r=.returned (.iface 113 (.pointer (some ⟨q,0,none⟩)))/\Rf w' B q 130 way wv/\Below W.heap.size W w') from fun W hW=>eY W (h.later hW) hl (Nat.le_trans hB hW.size) 130
 have Z7:=show Hid (∀ W,Below w.heap.size w W->W.cell? ⟨C,0,none⟩=some (.pointer (some ⟨b,0,none⟩))) from fun W hW=>(h.later hW).blk.cell 0
 have kN:=show Hid (∀ W,Below w.heap.size w W->Ck W B C m n (.pointer (some ⟨b,0,none⟩)) g wv way) from fun W hW=>h.later hW
 generalize ay t i=nd at *
 generalize Fm.has t i=q at *
 clear h hT
 go_enter Tryz.func86,Tryz.ntmps86
 go_wp2_with (refine aN 67 rfl _ dR rfl ?_)
 intro w1 b1 hn1
 have bU:=show Hid _ from hn1
 have c0:=Z7.out w1 hn1.av
 clear hn1
 go_wp2_with fail
 refine Calls.mono (KN.out w1 bU.out.av) ?_
 rintro e w2 ⟨rfl,hb2⟩
 have HB2:=show Hid (Below w1.heap.size w1 w2) from hb2
 clear hb2 KN c0
 unfold dY
 go_wp2_with (refine aN 67 rfl _ dR rfl ?_)
 intro w3 b3 aL
 go_wp2_with (refine aQ 67 rfl rfl _ _ rfl b3 rfl _ rfl _ _ aL.blk dx rfl (dH nd) ?_)
 intro w4 hc4 hk4
 have NH:Below w1.heap.size w1 w4:=bR (cO HB2.out aL) hk4 (by have:=aL.ge;have:=HB2.out.size;omega)
 have jc:=show Hid (Below w.heap.size w w4) from bU.out.av.trans (NH.mono bU.out.av.size)
 have XJ:=show Hid (Cl w4 b1 #[.int .i64 0,.string ⟨#[]⟩,.int .i64 0,.int .i64 0] 67) from Cl.later (show Cl w1 b1 _ _ from bU.out.blk) NH
 have Z8:=show Hid (Cl w4 b3 #[.int .i64 nd.k,.string nd.s,.int .i64 nd.l,.int .i64 nd.r] 67) from hc4
 have d0:w4.cell? ⟨b3,0,none⟩=some (.int .i64 nd.k):=hc4.cell 0
 have xq:=show Hid (w.heap.size<=b1) from bU.out.ge
 clear aL hc4 hk4 NH HB2 bU
 by_cases hk:nd.k=k
 ·have hkb:(nd.k != k)=false:=by simpa using hk
  have HK:=show Hid (nd.k=k) from hk
  clear hk
  go_wp2_with (first|(refine fq 67 _ rfl b3 rfl _ _ Z8.out rfl Tryz.underlying67 dx rfl ?_)|(refine aQ 67 rfl rfl _ _ rfl b1 rfl _ rfl _ _ XJ.out dx rfl (dH nd) ?_))
  intro w5 jZ hk5
  go_wp2_with fail
  refine bodyPost_ret (lM rfl _ _ b1 rfl jZ) rfl ?_
  exact⟨fun _=>rfl,fun h=>absurd HK.out h,bR jc.out hk5 xq.out⟩
 ·have hkb:(nd.k != k)=true:=by simpa using hk
  go_wp2_with fail
  refine Calls.mono (KR.out w4 jc.out) ?_
  rintro e w5 ⟨qq,rfl,hrf,hb5⟩
  have Kc:=show Hid _ from Cl.later XJ.out hb5
  have jN:=show Hid (Below w.heap.size w w5) from jc.out.trans (hb5.mono jc.out.size)
  have bq:=show Hid (Rf w5 B qq 130 way wv) from hrf
  clear hrf hb5 KR
  go_wp2_with (refine aQ 67 rfl rfl _ _ rfl b1 rfl _ rfl _ _ Kc.out dx rfl (dH Fm.z) ?_)
  intro w6 hc6 pO
  go_wp2_with fail
  refine bodyPost_ret (lM (nd:=Fm.z) rfl _ _ b1 rfl hc6) rfl ?_
  refine⟨fun h=>absurd h hk,fun _=>⟨qq,rfl,?_⟩,bR jN.out pO xq.out⟩
  exact bq.out.other Kc.out (by decide) (by decide) pO
def gT (B:Nat) (w':World) (r:Ending) (wv:Value):An->Prop
 | .ok f=>r=.returned (.tuple #[.int .i64 f,.nilIface])
 | .no e wy=>∃ q,r=.returned (.tuple #[.int .i64 0,.iface 113 (.pointer (some ⟨q,0,none⟩))])/\Rf w' B q e wy wv
def fC (B:Nat) (w':World) (r:Ending) (wv:Value):An->Prop
 | .ok _=>r=.returned .nilIface
 | .no e wy=>∃ q,r=.returned (.iface 113 (.pointer (some ⟨q,0,none⟩)))/\Rf w' B q e wy wv
theorem CG (w:World) {B C m n:Nat} {pt:Value} {g:Ty.Env} {wv:Value} {way:List Int} (h:Ck w B C m n pt g wv way) (hl:way.length<=1000000) (hB:B<=w.heap.size) (s:ByteArray) (hs:s.size<=140737488351232) :
 Calls Tryz.prog 44 #[.pointer (some ⟨C,0,none⟩),.string s] w fun r w'=>gT B w' r wv (match g s with | some x=>.ok x | none=>.no 131 way)/\Below w.heap.size w w':=by
 have KR:=show Hid (Calls Tryz.prog 39 #[.pointer (some ⟨C,0,none⟩),.int .i64 131] w fun r w'=>∃ q,r=.returned (.iface 113 (.pointer (some ⟨q,0,none⟩)))/\Rf w' B q 131 way wv/\Below w.heap.size w w') from eY w h hl hB 131
 have c1:w.cell? ⟨C,1,none⟩=some (.map (some m)):=h.blk.cell 1
 have hlk:=h.map.look hs
 clear h
 go_enter Tryz.func44,Tryz.ntmps44
 cases hg:g s with
 | some x=>
  rw[hg] at hlk
  simp only[Option.getD_some,Option.isSome_some] at hlk
  go_wp2_with fail
  go_ret2
  exact⟨rfl,Below.refl _ _⟩
 | none=>
  rw[hg] at hlk
  simp only[Option.getD_none,Option.isSome_none] at hlk
  go_wp2_with fail
  refine Calls.mono KR.out ?_
  rintro e w1 ⟨q,rfl,hrf,hb1⟩
  have HF:=show Hid _ from And.intro hrf hb1
  clear hrf hb1 KR hlk c1
  go_wp2_with fail
  go_ret2
  exact⟨⟨q,rfl,HF.out.1⟩,HF.out.2⟩
structure Gv (w:World) (C b0 b1 b2 b3:Nat) (had:Bool) (was:Int) (s:ByteArray):Prop where
 c0:Cl w b0 #[.bool had] 4
 c1:Cl w b1 #[.int .i64 was] 3
 c2:Cl w b2 #[.pointer (some ⟨C,0,none⟩)] 69
 c3:Cl w b3 #[.string s] 9
theorem tH (w:World) (c1 c2:Array Value) (T1 T2:TypeId):Cl ((w.alloc (.cells c1 T1)).alloc (.cells c2 T2)).drew w.heap.size c1 T1/\Cl ((w.alloc (.cells c1 T1)).alloc (.cells c2 T2)).drew (w.heap.size+1) c2 T2:=by
 have h:=(bE (w.alloc (.cells c1 T1)) c2 T2).blk
 rw[show(w.alloc (.cells c1 T1)).heap.size=w.heap.size+1 by simp] at h
 exact⟨(Cl.later (show Cl _ _ _ _ from(bE w c1 T1).blk) (ak _ _)).drew,h⟩
theorem CJ (w:World) {B C m n:Nat} {pt:Value} {g:Ty.Env} {wv:Value} {way:List Int} (h:Ck w B C m n pt g wv way) (hn:n<100000000000000) (_hB:B<=w.heap.size) (s:ByteArray) (hs:s.size<=140737488351232) (f:Int) :
 Calls Tryz.prog 111 #[.pointer (some ⟨C,0,none⟩),.string s,.int .i64 f] w fun r w'=>∃ b0 b1 b2 b3,r=.returned (.func (.func 151) #[] #[.pointer (some ⟨b0,0,none⟩),.pointer (some ⟨b1,0,none⟩),.pointer (some ⟨b2,0,none⟩),.pointer (some ⟨b3,0,none⟩)])/\Gv w' C b0 b1 b2 b3 (g s).isSome ((g s).getD 0) s/\w.heap.size<=b1/\Ck w' B C m (n+1) pt (Ty.upd g s f) wv way/\Kp (fun k=>k=m) w w':=by
 have HL:=show Hid (∀ W,Below w.heap.size w W->(Instr.lookup 106 (.map (some m)) (.string s) true).run Tryz.prog W=.ok (.tuple #[.int .i64 ((g s).getD 0),.bool (g s).isSome]) W) from fun W hW=>(h.map.later hW).look hs
 have HC:=show Hid (∀ W,Below w.heap.size w W->W.cell? ⟨C,1,none⟩=some (.map (some m))) from fun W hW=>(h.later hW).blk.cell 1
 go_enter Tryz.func111,Tryz.ntmps111
 go_wp2_with (refine fD 69 _ rfl _ rfl rfl rfl ?_)
 intro w1 b2 hn1
 go_wp2_with (refine fD 9 _ rfl _ rfl rfl rfl ?_)
 intro w2 b3 hn2
 have HB2:=show Hid (Below w.heap.size w w2) from cO hn1.av hn2
 have HA1:=show Hid (∀ o,Below w.heap.size w (w2.alloc o)) from fun o=>HB2.out.trans ((ak w2 o).mono HB2.out.size)
 have HA2:=show Hid (∀ o o',Below w.heap.size w ((w2.alloc o).alloc o')) from fun o o'=>(HA1.out o).trans ((ak _ o').mono (HA1.out o).size)
 have hc2:Cl w2 b2 #[.pointer (some ⟨C,0,none⟩)] 69:=Cl.new hn1.blk hn2
 have hc3:Cl w2 b3 #[.string s] 9:=hn2.blk
 have d2:w2.cell? ⟨b2,0,none⟩=some (.pointer (some ⟨C,0,none⟩)):=hc2.cell 0
 have d3:w2.cell? ⟨b3,0,none⟩=some (.string s):=hc3.cell 0
 have e1:=HC.out w2 HB2.out
 have Z9:∀ o,(w2.alloc o).cell? ⟨b2,0,none⟩=some (.pointer (some ⟨C,0,none⟩)):=fun o=>(hc2.later (ak _ o)).cell 0
 have d3a:∀ o,(w2.alloc o).cell? ⟨b3,0,none⟩=some (.string s):=fun o=>(hc3.later (ak _ o)).cell 0
 have e1a:∀ o,(w2.alloc o).cell? ⟨C,1,none⟩=some (.map (some m)):=fun o=>HC.out _ (HA1.out o)
 have d2b:∀ o o',((w2.alloc o).alloc o').cell? ⟨b2,0,none⟩=some (.pointer (some ⟨C,0,none⟩)):=fun o o'=>((hc2.later (ak _ o)).later (ak _ o')).cell 0
 have d3b:∀ o o',((w2.alloc o).alloc o').cell? ⟨b3,0,none⟩=some (.string s):=fun o o'=>((hc3.later (ak _ o)).later (ak _ o')).cell 0
 have e1b:∀ o o',((w2.alloc o).alloc o').cell? ⟨C,1,none⟩=some (.map (some m)):=fun o o'=>HC.out _ (HA2.out o o')
 have hlk:=HL.out w2.drew (HB2.out.drew)
 have TB:=fun o=>HL.out (w2.alloc o).drew ((HA1.out o).drew)
 have TD:=fun o o'=>HL.out ((w2.alloc o).alloc o').drew ((HA2.out o o').drew)
 obtain⟨was,Io⟩:∃ was,was=(g s).getD 0:=⟨_,rfl⟩
 obtain⟨had,Ip⟩:∃ had,had=(g s).isSome:=⟨_,rfl⟩
 rw[<- Io,<- Ip] at hlk
 simp only[<- Io,<- Ip] at TB TD
 have XK:=show Hid _ from And.intro Io Ip
 have kN:=show Hid (∀ W,Below w.heap.size w W->Ck W B C m n pt g wv way) from fun W hW=>h.later hW
 have pK:=show Hid (w.heap.size<=w2.heap.size) from HB2.out.size
 clear Io Ip h HL HC
 have uX:=show Hid _ from And.intro hc2 hc3
 clear hn1 hn2 hc2 hc3
 go_wp2_with fail
 go_region
 all_goals clear d2 d3 e1 Z9 d3a e1a d2b d3b e1b hlk TB TD
 ·have hg0:Gv ((w2.alloc (Obj.cells #[Value.int IntKind.i64 was] 3)).alloc (Obj.cells #[Value.bool had] 4)).drew C (w2.heap.size+1) (w2.heap.size) b2 b3 had was s:=by
   have h:=tH w2 #[Value.int IntKind.i64 was] #[Value.bool had] 3 4
   exact⟨h.2,h.1,((uX.out.1.later (ak _ _)).later (ak _ _)).drew,((uX.out.2.later (ak _ _)).later (ak _ _)).drew⟩
  have hb0:Below w.heap.size w ((w2.alloc (Obj.cells #[Value.int IntKind.i64 was] 3)).alloc (Obj.cells #[Value.bool had] 4)).drew:=(HA2.out _ _).drew
  have hge:w.heap.size<=w2.heap.size:=by have:=pK.out;omega
  generalize w2.heap.size+1=q0 at *
  generalize w2.heap.size=q1 at *
  generalize ((w2.alloc (Obj.cells #[Value.int IntKind.i64 was] 3)).alloc (Obj.cells #[Value.bool had] 4)).drew=w3 at *
  have yR:=show Hid (Gv w3 C q0 q1 b2 b3 had was s) from hg0
  have HB3:=show Hid (Below w.heap.size w w3) from hb0
  have xq:=show Hid (w.heap.size<=q1) from hge
  have d2:w3.cell? ⟨b2,0,none⟩=some (.pointer (some ⟨C,0,none⟩)):=hg0.c2.cell 0
  have d3:w3.cell? ⟨b3,0,none⟩=some (.string s):=hg0.c3.cell 0
  have hck:=kN.out w3.drew hb0.drew
  have e1:w3.cell? ⟨C,1,none⟩=some (.map (some m)):=hck.blk.cell 1
  obtain⟨w4,hup,qX,hk4⟩:=hck.map.put (by unfold maxLen;omega) hs f
  have TF:=show Hid _ from And.intro qX hk4
  clear hck qX hk4 hg0 hb0 hge HA1 HA2 uX HB2 pK
  go_wp2_with fail
  go_region
  clear hup d2 d3 e1
  go_wp2_with fail
  go_ret
  obtain⟨qX,hk4⟩:=TF.out
  have hck:=kN.out w3.drew HB3.out.drew
  obtain⟨rfl,rfl⟩:=XK.out
  have tJ:Kp (fun k=>k=m) w w4:=(Kp.of_below HB3.out.drew).trans hk4 fun k e=>Or.inl e
  have nm:∀ {b:Nat} {cs:Array Value} {T:TypeId},Cl w3 b cs T->Cl w4 b cs T:=fun hb=>(hk4.block _ (show _<w3.drew.heap.size from hb.lt) (hck.nQ hb.drew)).trans hb
  refine⟨q0,q1,b2,b3,rfl,⟨nm yR.out.c0,nm yR.out.c1,nm yR.out.c2,nm yR.out.c3⟩,xq.out,⟨nm hck.blk,qX,bD hck.row fun k e=>hk4.block k (aP hck.row k e).2.1 fun e2=>hck.wm (e2 ▸ e),hck.cB,hck.mB⟩,tJ⟩
 ·have hg0:Gv ((w2.alloc (Obj.cells #[Value.bool had] 4)).alloc (Obj.cells #[Value.int IntKind.i64 was] 3)).drew C (w2.heap.size) (w2.heap.size+1) b2 b3 had was s:=by
   have h:=tH w2 #[Value.bool had] #[Value.int IntKind.i64 was] 4 3
   exact⟨h.1,h.2,((uX.out.1.later (ak _ _)).later (ak _ _)).drew,((uX.out.2.later (ak _ _)).later (ak _ _)).drew⟩
  have hb0:Below w.heap.size w ((w2.alloc (Obj.cells #[Value.bool had] 4)).alloc (Obj.cells #[Value.int IntKind.i64 was] 3)).drew:=(HA2.out _ _).drew
  have hge:w.heap.size<=w2.heap.size+1:=by have:=pK.out;omega
  generalize w2.heap.size+1=q1 at *
  generalize w2.heap.size=q0 at *
  generalize ((w2.alloc (Obj.cells #[Value.bool had] 4)).alloc (Obj.cells #[Value.int IntKind.i64 was] 3)).drew=w3 at *
  have yR:=show Hid (Gv w3 C q0 q1 b2 b3 had was s) from hg0
  have HB3:=show Hid (Below w.heap.size w w3) from hb0
  have xq:=show Hid (w.heap.size<=q1) from hge
  have d2:w3.cell? ⟨b2,0,none⟩=some (.pointer (some ⟨C,0,none⟩)):=hg0.c2.cell 0
  have d3:w3.cell? ⟨b3,0,none⟩=some (.string s):=hg0.c3.cell 0
  have hck:=kN.out w3.drew hb0.drew
  have e1:w3.cell? ⟨C,1,none⟩=some (.map (some m)):=hck.blk.cell 1
  obtain⟨w4,hup,qX,hk4⟩:=hck.map.put (by unfold maxLen;omega) hs f
  have TF:=show Hid _ from And.intro qX hk4
  clear hck qX hk4 hg0 hb0 hge HA1 HA2 uX HB2 pK
  go_wp2_with fail
  go_region
  clear hup d2 d3 e1
  go_wp2_with fail
  go_ret
  obtain⟨qX,hk4⟩:=TF.out
  have hck:=kN.out w3.drew HB3.out.drew
  obtain⟨rfl,rfl⟩:=XK.out
  have tJ:Kp (fun k=>k=m) w w4:=(Kp.of_below HB3.out.drew).trans hk4 fun k e=>Or.inl e
  have nm:∀ {b:Nat} {cs:Array Value} {T:TypeId},Cl w3 b cs T->Cl w4 b cs T:=fun hb=>(hk4.block _ (show _<w3.drew.heap.size from hb.lt) (hck.nQ hb.drew)).trans hb
  refine⟨q0,q1,b2,b3,rfl,⟨nm yR.out.c0,nm yR.out.c1,nm yR.out.c2,nm yR.out.c3⟩,xq.out,⟨nm hck.blk,qX,bD hck.row fun k e=>hk4.block k (aP hck.row k e).2.1 fun e2=>hck.wm (e2 ▸ e),hck.cB,hck.mB⟩,tJ⟩
theorem CO {g:Ty.Env} {s:ByteArray} {f:Int} (r:ByteArray):(if r=s then g s else Ty.upd g s f r)=g r:=by
 unfold Ty.upd
 by_cases e:r=s
 ·rw[if_pos e,e]
 ·rw[if_neg e,if_neg e]
theorem rW (w:World) (u:FrameMode) {B C m n b0 b1 b2 b3:Nat} {pt:Value} {g:Ty.Env} {f:Int} {wv:Value} {way:List Int} {s:ByteArray} (h:Ck w B C m n pt (Ty.upd g s f) wv way) (hn:n<100000000000000) (hs:s.size<=140737488351232) (hv:Gv w C b0 b1 b2 b3 (g s).isSome ((g s).getD 0) s) :
 CallsD Tryz.prog 151 #[.pointer (some ⟨b0,0,none⟩),.pointer (some ⟨b1,0,none⟩),.pointer (some ⟨b2,0,none⟩),.pointer (some ⟨b3,0,none⟩)] u w fun e u' w'=>u'=u/\(e=.returned (.tuple #[])/\Ck w' B C m (n+1) pt g wv way/\Kp (fun k=>k=m) w w'):=by
 have d0:w.cell? ⟨b0,0,none⟩=some (.bool (g s).isSome):=hv.c0.cell 0
 have d1:w.cell? ⟨b1,0,none⟩=some (.int .i64 ((g s).getD 0)):=hv.c1.cell 0
 have d2:w.cell? ⟨b2,0,none⟩=some (.pointer (some ⟨C,0,none⟩)):=hv.c2.cell 0
 have d3:w.cell? ⟨b3,0,none⟩=some (.string s):=hv.c3.cell 0
 have e1:w.cell? ⟨C,1,none⟩=some (.map (some m)):=h.blk.cell 1
 have hck:Ck w.drew B C m n pt (Ty.upd g s f) wv way:=h.later (Below.refl _ _).drew
 have qj:=show Hid (∀ w':World,∀ k,k<=n+1->∀ g',Mz w' m k g'->(∀ r,g' r=g r)->Kp (fun k=>k=m) w.drew w'->Ck w' B C m (n+1) pt g wv way/\Kp (fun k=>k=m) w w') from fun w' k hk g' hM hg hkp=>by
  have nm:∀ {b:Nat} {cs:Array Value} {T:TypeId},Cl w.drew b cs T->Cl w' b cs T:=fun hb=>(hkp.block _ hb.lt (hck.nQ hb)).trans hb
  exact⟨⟨nm hck.blk,(hM.mono hk).same fun r _=>hg r,bD hck.row fun k e=>hkp.block k (aP hck.row k e).2.1 fun e2=>hck.wm (e2 ▸ e),hck.cB,hck.mB⟩,(Kp.of_below (Below.refl _ _).drew).trans hkp fun k e=>Or.inl e⟩
 cases hg:g s with
 | some x=>
  rw[hg] at d0 d1
  simp only[Option.getD_some,Option.isSome_some] at d0 d1
  obtain⟨w4,hup,qX,hk4⟩:=hck.map.put (by unfold maxLen;omega) hs x
  have HF:=show Hid _ from qj.out w4 (n+1) (Nat.le_refl _) _ qX (fun r=>by
   show(if r=s then some x else _)=_
   rw[<- hg]
   exact CO r) hk4
  clear qX hk4 h hck hv qj hg
  go_enter_d Tryz.func151,Tryz.ntmps151
  go_wp2_with fail
  go_region
  clear hup d0 d1 d2 d3 e1
  go_wp2_with fail
  go_end0
  exact⟨rfl,HF.out⟩
 | none=>
  rw[hg] at d0 d1
  simp only[Option.getD_none,Option.isSome_none] at d0 d1
  obtain⟨w4,hup,qX,hk4⟩:=hck.map.del hs 0
  have HF:=show Hid _ from qj.out w4 n (Nat.le_succ _) _ qX (fun r=>by
   show(if r=s then none else _)=_
   rw[<- hg]
   exact CO r) hk4
  clear qX hk4 h hck hv qj hg
  go_enter_d Tryz.func151,Tryz.ntmps151
  go_wp2_with fail
  go_region
  clear hup d0 d1 d2 d3 e1
  go_wp2_with fail
  go_end0
  exact⟨rfl,HF.out⟩
end Go.Proofs.YtkpbpecikibohaaGreatDoor.Ya
