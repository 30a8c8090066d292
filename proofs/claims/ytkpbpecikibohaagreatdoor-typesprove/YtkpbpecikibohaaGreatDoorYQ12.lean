import Derived.Test.YtkpbpecikibohaaGreatDoorYQ10
set_option linter.unusedSimpArgs false
set_option maxRecDepth 100000
set_option maxHeartbeats 4000000
namespace Go.Proofs.YtkpbpecikibohaaGreatDoor.Ya
open Go.RowKit Go.Maps
open Fm (Nd)
open Ty (Tm An Hs env fK pR xB)
theorem bg.up {w w':World} {x:Tm} {sv:Value} (h:bg w w.heap.size x sv) (hb:Below w.heap.size w w'):bg w' w'.heap.size x sv:=(h.below hb).wide hb.size
theorem qC.up {w w':World} {v:Value} {l:Hs} (h:qC w w.heap.size v l) (hb:Below w.heap.size w w'):qC w' w'.heap.size v l:=by
 obtain⟨p,c,hv,h1,h2⟩:=h.below hb
 refine⟨p,c,hv,h1,fun k hk => ?_⟩
 obtain⟨b,o,hl,r⟩:=h2 k hk
 exact⟨b,o,Nat.lt_of_lt_of_le hl hb.size,r⟩
theorem vS (w:World) {b mt:Nat} {v:Value} {t:List Nd} {hv sv:Value} {hs:Hs} {x:Tm} (hT:Tb w b mt v t) (hH:qC w w.heap.size hv hs) (hG:uH hs) (hK:bg w w.heap.size x sv) (hX:Gt x) (hS:Std w) :
 Calls Tryz.prog 8 #[.pointer (some ⟨b,0,none⟩),hv,bL x sv] w fun r w'=>r=.returned (.tuple #[.int .i64 (xB t hs x).1,.int .i64 (xB t hs x).2])/\Below w.heap.size w w':=by
 have hlen:hs.length<=5864062014639:=hH.choose_spec.choose_spec.2.1
 have Dj:fA w w.heap.size b mt v t:=fun W hW=>hT.later hW
 have KB:=show Hid (∀ W fv,Below w.heap.size w W->W.ownsRow w.heap.size 3 1 fv ([]:List Int).length (dG [])->Calls Tryz.prog 19 #[.pointer (some ⟨b,0,none⟩),hv,bL x sv,fv] W fun r w'=>TU w' r w.heap.size hs.length (.pointer (some ⟨b,0,none⟩)) (env hs) (fK t [] hs x)/\Kp (fun k=>fv.ownBlock=some k) W w') from
  fun W fv hW hf=>Bc W (Dj.later hW) (hH.below hW) hG (hK.below hW) hX hW.size hf (by simp) (hS.bO.later hW hS.bO.lt) hS.bO.lt
 have KC:=show Hid (fK t [] hs x=0->∀ W C m,Below w.heap.size w W->Ck W w.heap.size C m hs.length (.pointer (some ⟨b,0,none⟩)) (env hs) (.slice none 0 0) []->Calls Tryz.prog 21 #[.pointer (some ⟨C,0,none⟩),bL x sv] W fun r w'=>∃ wv2,gT w.heap.size w' r wv2 (Ty.told t (Ty.jI x) (env hs) [])/\∃ n',Af W w' w.heap.size C m n' (.pointer (some ⟨b,0,none⟩)) (env hs) (.slice none 0 0) wv2 []) from fun h0 W C m hW hc=>by
  have hc0:Ty.kM x=0:=by
   unfold fK at h0
   split at h0
   ·cases h0
   ·exact h0
  obtain⟨hx,hsz⟩:=Ty.ze hc0
  have hkk:=hK.below hW
  have Lg:=hX
  rw[hx] at hkk Lg
  have:=(Gl (B:=w.heap.size) (C:=C) (m:=m) (tb:=b) (mt:=mt) (v:=v) (t:=t) (Ty.jI x)).1 W hs.length (env hs) (.slice none 0 0) sv [] (Dj.later hW) hc hW.size hkk Lg (by omega) (by simp;omega)
  rw[<- hx] at this
  refine this.mono ?_
  rintro r w' ⟨wv2,h1,h2⟩
  exact⟨wv2,h1,_,h2⟩
 have HS:=show Hid (∀ W,Below w.heap.size w W->sj W) from fun W hW=>hS.ety.later hW hS.ety.lt
 have zf:=show Hid (xB t hs x=if fK t [] hs x≠0 then (0,fK t [] hs x) else ((Ty.told t (Ty.jI x) (env hs) []).val,(Ty.told t (Ty.jI x) (env hs) []).err)) from rfl
 obtain⟨p,n,c,rfl⟩:=hK.form
 obtain⟨ph,ch,rfl,_⟩:=hH
 clear hT Dj hG hK hX hS
 generalize xB t hs x=ans at *
 generalize fK t [] hs x=ea at *
 generalize Ty.told t (Ty.jI x) (env hs) []=A at *
 unfold bL at KB KC |-
 generalize x.k=xk at *
 generalize x.n=xn at *
 generalize x.o=xo at *
 generalize x.f=xf at *
 have hq1:=cu
 have hq2:=cK
 go_enter Tryz.func8,Tryz.ntmps8
 go_wp2_with (refine aC 27 _ rfl _ rfl rfl ?_)
 intro w1 bx hn1
 have bU:=show Hid (New w w1 bx #[.int .i64 xk,.string xn,.string xo,.int .i64 xf,.slice p n c] 27) from hn1
 have x0:w1.cell? ⟨bx,0,none⟩=some (.int .i64 xk):=Cl.cell hn1.blk 0
 have x1:w1.cell? ⟨bx,1,none⟩=some (.string xn):=Cl.cell hn1.blk 1
 have x2:w1.cell? ⟨bx,2,none⟩=some (.string xo):=Cl.cell hn1.blk 2
 have x3:w1.cell? ⟨bx,3,none⟩=some (.int .i64 xf):=Cl.cell hn1.blk 3
 have x4:w1.cell? ⟨bx,4,none⟩=some (.slice p n c):=Cl.cell hn1.blk 4
 have K2:=show Hid _ from KB.out w1 (.slice none 0 0) hn1.av ⟨rfl,Or.inl ⟨rfl,rfl⟩⟩
 have HB1:=show Hid _ from hn1.av
 clear hn1 KB
 go_wp2_with fail
 refine Calls.mono K2.out ?_
 rintro e w3 ⟨⟨hP1,hP2⟩,hk3⟩
 have sP:Below w1.heap.size w1 w3:=⟨hk3.os,hk3.tape,hk3.output,hk3.size,fun k hk=>hk3.block k hk fun e=>by cases e⟩
 have hb3:Below w.heap.size w w3:=HB1.out.trans (sP.mono HB1.out.size)
 have ji:=show Hid (Cl w3 bx #[.int .i64 xk,.string xn,.string xo,.int .i64 xf,.slice p n c] 27) from Cl.later (show Cl w1 bx _ _ from bU.out.blk) sP
 clear sP x0 x1 x2 x3 x4 bU HB1
 have HB3:=show Hid _ from hb3
 by_cases he:ea=0
 ·obtain⟨C,m,rfl,hck⟩:=hP2 he
  have Bf:=show Hid _ from KC.out he w3 C m hb3 hck
  have iF:=zf.out
  rw[if_neg (by simpa using he)] at iF
  have aI:=show Hid _ from iF
  have x0:w3.cell? ⟨bx,0,none⟩=some (.int .i64 xk):=Cl.cell ji.out 0
  have x1:w3.cell? ⟨bx,1,none⟩=some (.string xn):=Cl.cell ji.out 1
  have x2:w3.cell? ⟨bx,2,none⟩=some (.string xo):=Cl.cell ji.out 2
  have x3:w3.cell? ⟨bx,3,none⟩=some (.int .i64 xf):=Cl.cell ji.out 3
  have x4:w3.cell? ⟨bx,4,none⟩=some (.slice p n c):=Cl.cell ji.out 4
  have kN:=show Hid _ from hck
  clear hP1 hP2 hck hk3 hb3 he KC K2 iF zf
  go_wp2_with fail
  refine Calls.mono Bf.out ?_
  rintro e w4 ⟨wv4,Lh,n4,oK⟩
  have hb4:Below w.heap.size w w4:=HB3.out.trans (kN.out.below oK.kp HB3.out.size)
  have jc:=show Hid _ from hb4
  have sw:=show Hid _ from Lh
  clear x0 x1 x2 x3 x4 Bf Lh oK hb4
  cases A with
  | ok f=>
   obtain rfl:=sw.out
   have KA:=show Hid _ from Gm w4
   clear sw
   go_wp2_with fail
   refine Calls.mono KA.out ?_
   rintro e w5 ⟨rfl,hb5⟩
   have jN:=show Hid (Below w.heap.size w w5) from jc.out.trans (hb5.mono jc.out.size)
   clear hb5 KA
   go_wp2_with fail
   go_ret2
   rw[aI.out]
   exact⟨rfl,jN.out⟩
  | no er wy=>
   obtain⟨q,rfl,hrf⟩:=sw.out
   have KA:=show Hid _ from wP w4 (HS.out w4 jc.out) hrf
   clear sw hrf
   go_wp2_with fail
   refine Calls.mono KA.out ?_
   rintro e w5 ⟨yv,rfl,vN,hb5⟩
   obtain⟨yp,yc,rfl⟩:=gY vN
   have jN:=show Hid (Below w.heap.size w w5) from jc.out.trans (hb5.mono jc.out.size)
   clear hb5 KA vN
   go_wp2_with fail
   go_ret2
   rw[aI.out]
   exact⟨rfl,jN.out⟩
 ·obtain⟨q,rfl,hrf⟩:=hP1 he
  have iF:=zf.out
  rw[if_pos he] at iF
  have aI:=show Hid _ from iF
  have KA:=show Hid _ from wP w3 (HS.out w3 hb3) hrf
  clear hP1 hP2 hk3 hb3 he KC K2 iF zf hrf
  go_wp2_with fail
  refine Calls.mono KA.out ?_
  rintro e w5 ⟨yv,rfl,vN,hb5⟩
  obtain⟨yp,yc,rfl⟩:=gY vN
  have jN:=show Hid (Below w.heap.size w w5) from HB3.out.trans (hb5.mono HB3.out.size)
  clear hb5 KA vN
  go_wp2_with fail
  go_ret2
  rw[aI.out]
  exact⟨rfl,jN.out⟩
theorem Oy (w:World) {pv hv sv:Value} {x:Tm} {id:Int} {a:List Int × Int} (hK:∃ p n c,sv=.slice p n c) (hW:∀ W,Below w.heap.size w W->Calls Tryz.prog 9 #[pv,hv,bL x sv,.int .i64 id] W fun r w'=>Yb W w' r a) :
 Calls Tryz.prog 7 #[pv,hv,bL x sv,.int .i64 id] w fun r w'=>r=.returned (.int .i64 a.2)/\Below w.heap.size w w':=by
 obtain⟨p,n,c,rfl⟩:=hK
 have KW:=show Hid _ from hW
 clear hW
 unfold bL at KW |-
 generalize x.k=xk at *
 generalize x.n=xn at *
 generalize x.o=xo at *
 generalize x.f=xf at *
 go_enter Tryz.func7,Tryz.ntmps7
 go_wp2_with (refine aC 27 _ rfl _ rfl rfl ?_)
 intro w1 bx hn1
 have x0:w1.cell? ⟨bx,0,none⟩=some (.int .i64 xk):=Cl.cell hn1.blk 0
 have x1:w1.cell? ⟨bx,1,none⟩=some (.string xn):=Cl.cell hn1.blk 1
 have x2:w1.cell? ⟨bx,2,none⟩=some (.string xo):=Cl.cell hn1.blk 2
 have x3:w1.cell? ⟨bx,3,none⟩=some (.int .i64 xf):=Cl.cell hn1.blk 3
 have x4:w1.cell? ⟨bx,4,none⟩=some (.slice p n c):=Cl.cell hn1.blk 4
 have K1:=show Hid _ from KW.out w1 hn1.av
 have HB1:=show Hid _ from hn1.av
 clear hn1 KW
 go_wp2_with fail
 refine Calls.mono K1.out ?_
 rintro e w2 ⟨yv,rfl,ho2,hb2⟩
 obtain⟨yp,yc,rfl⟩:=gY ho2
 have HB2:=show Hid (Below w.heap.size w w2) from HB1.out.trans (hb2.mono HB1.out.size)
 clear hb2 ho2 K1 x0 x1 x2 x3 x4
 go_wp2_with fail
 go_ret
 exact⟨rfl,HB2.out⟩
theorem pG (w:World) {b mt:Nat} {v:Value} {t:List Nd} {hv sv:Value} {hs:Hs} {x:Tm} (hT:Tb w b mt v t) (hH:qC w w.heap.size hv hs) (hG:uH hs) (hK:bg w w.heap.size x sv) (hX:Gt x) (hS:Std w) (id:Int) :
 Calls Tryz.prog 7 #[.pointer (some ⟨b,0,none⟩),hv,bL x sv,.int .i64 id] w fun r w'=>r=.returned (.int .i64 (pR t hs x id).2)/\Below w.heap.size w w' :=
 Oy w hK.form fun W hW=>Bd W (hT.later hW) (hH.up hW) hG (hK.up hW) hX (hS.later hW) id
end Go.Proofs.YtkpbpecikibohaaGreatDoor.Ya
