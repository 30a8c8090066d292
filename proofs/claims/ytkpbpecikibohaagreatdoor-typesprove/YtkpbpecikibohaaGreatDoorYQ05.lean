import Derived.Test.YtkpbpecikibohaaGreatDoorYQ04
set_option linter.unusedSimpArgs false
set_option maxRecDepth 100000
set_option maxHeartbeats 4000000
namespace Go.Proofs.YtkpbpecikibohaaGreatDoor.Ya
open Go.RowKit Go.Maps
open Fm (Nd)
open Ty (Tm An)
theorem Fg {B C m tb mt:Nat} {v:Value} {t:List Nd} {a:Ty.Tr} {b:Ty.Tr}  (eU:iJ B C m tb mt v t a) (jP:iX B C m tb mt v t b) (w:World) {N:Nat} {g:Ty.Env} {wv sv:Value} {way:List Int} (hT:fA w B tb mt v t) (h:Ck w B C m N (.pointer (some ⟨tb,0,none⟩)) g wv way) (hB:B<=w.heap.size) (hK:bg w B (Ty.Tr.app a b).tm sv) (hG:Gt (Ty.Tr.app a b).tm) (hn:N+4 * (Ty.Tr.app a b).size<=90000000000000) (hw:way.length+(Ty.Tr.app a b).size<=900000) :
 Calls Tryz.prog 45 #[.pointer (some ⟨C,0,none⟩),bL (Ty.Tr.app a b).tm sv] w fun r w'=>∃ wv2,gT B w' r wv2 (Ty.told t (Ty.Tr.app a b) g way)/\Af w w' B C m (N+4 * (Ty.Tr.app a b).size) (.pointer (some ⟨tb,0,none⟩)) g wv wv2 way:=by
 obtain⟨p,nk,kc,rfl⟩:=hK.form
 obtain⟨dz,hgn,hgo,hgf⟩:=hG.parts
 have hgs:=hG.sub
 have HB0:=show Hid (∀ W n' wv',Af w W B C m n' (.pointer (some ⟨tb,0,none⟩)) g wv wv' way->Below B w W) from fun W n' wv' ha=>h.below ha.kp hB
 have aV:=show Hid (∀ W n' wv',Af w W B C m n' (.pointer (some ⟨tb,0,none⟩)) g wv wv' way->B<=W.heap.size) from fun W n' wv' ha=>Nat.le_trans hB ha.kp.size
 have hsz:(Ty.Tr.app a b).size=a.size+b.size+1:=rfl
 have KJ:=show Hid (∀ (W:World) (n':Nat) (wv':Value),Af w W B C m n' (.pointer (some ⟨tb,0,none⟩)) g wv wv' way->n'+4 * a.size<=90000000000000->Calls Tryz.prog 46 #[.pointer (some ⟨C,0,none⟩),(.agg #[.int .i64 3,.string Ty.e0,.string Ty.e0,.int .i64 0,(.slice p nk kc)]),.int .i64 5] W fun r w'=>∃ wv2,uY B w' r wv2 (iK t way 5 (Ty.told t a g (way ++ [0])))/\Af W w' B C m (n'+4 * a.size) (.pointer (some ⟨tb,0,none⟩)) g wv' wv2 way) from fun W n' wv' ha hn'=>jq eU W (show 0<(Ty.Tr.app a b).tm.sub.length from by simp[Ty.Tr.tm,Tm.sub]) rfl (hT.later (HB0.out W n' wv' ha)) ha.ck (aV.out W n' wv' ha) (hK.below (HB0.out W n' wv' ha)) hG hn' (by omega) 5
 have KB:=show Hid (∀ (W:World) (n':Nat) (wv':Value) (id':Int),Af w W B C m n' (.pointer (some ⟨tb,0,none⟩)) g wv wv' way->n'+4 * b.size<=90000000000000->Calls Tryz.prog 84 #[.pointer (some ⟨C,0,none⟩),(.agg #[.int .i64 3,.string Ty.e0,.string Ty.e0,.int .i64 0,(.slice p nk kc)]),.int .i64 1,.int .i64 id'] W fun r w'=>∃ wv2,fC B w' r wv2 (Ty.aS t b g (way ++ [1]) id')/\Af W w' B C m (n'+4 * b.size) (.pointer (some ⟨tb,0,none⟩)) g wv' wv2 way) from fun W n' wv' id' ha hn'=>gZ W 1 (show 1<(Ty.Tr.app a b).tm.sub.length from by simp[Ty.Tr.tm,Tm.sub]) rfl ha.ck (by omega) (aV.out W n' wv' ha) (hK.below (HB0.out W n' wv' ha)) hgs.1 id' (fun W2 kv wv2 hW2 hk hc2=>jP W2 n' g wv2 kv (way ++ [((1:Nat):Int)]) id' ((hT.later (HB0.out W n' wv' ha)).later hW2) hc2 (Nat.le_trans (aV.out W n' wv' ha) hW2.size) hk (hgs.2 b.tm (by simp[Ty.Tr.tm,Tm.sub])) (by omega) (by simp;omega))
 have bA:=show Hid ((Ty.Tr.app a b).size=a.size+b.size+1/\N+4 * (Ty.Tr.app a b).size<=90000000000000) from⟨hsz,hn⟩
 have aI:=show Hid (Ty.told t (Ty.Tr.app a b) g way=match iK t way 5 (Ty.told t a g (way ++ [0])) with | .error e=>.no e.1 e.2 | .ok d=>(Ty.aS t b g (way ++ [1]) d.l).bind fun _=>.ok d.r) from pz t way 5 _ _
 generalize iK t way 5 (Ty.told t a g (way ++ [0]))=J at *
 generalize Ty.told t (Ty.Tr.app a b) g way=ANS at *
 clear hsz hn HB0 aV
 have aU:=show Hid (Af w w B C m N (.pointer (some ⟨tb,0,none⟩)) g wv wv way) from Af.refl h
 have hq1:=cu
 have hq2:=cK
 clear hK h hT hG hgs dz hgn hgo hgf hw hB eU jP
 show Calls _ _ #[.pointer (some ⟨C,0,none⟩),(.agg #[.int .i64 3,.string Ty.e0,.string Ty.e0,.int .i64 0,(.slice p nk kc)])] _ _
 go_enter Tryz.func45,Tryz.ntmps45
 go_wp2_with (refine aC 27 _ rfl _ rfl rfl ?_)
 intro w1 bx hn1
 have aB:=show Hid (Cl w1 bx #[.int .i64 3,.string Ty.e0,.string Ty.e0,.int .i64 0,.slice p nk kc] 27) from hn1.blk
 have aK:=show Hid _ from aU.out.then hn1.av
 have hgx:w.heap.size<=bx:=hn1.ge
 have iC:=show Hid (w.heap.size<=bx) from hgx
 clear hn1 aU hgx
 have x0:w1.cell? ⟨bx,0,none⟩=some (.int .i64 3):=Cl.cell aB.out 0
 have x1:w1.cell? ⟨bx,1,none⟩=some (.string Ty.e0):=Cl.cell aB.out 1
 have x2:w1.cell? ⟨bx,2,none⟩=some (.string Ty.e0):=Cl.cell aB.out 2
 have x3:w1.cell? ⟨bx,3,none⟩=some (.int .i64 0):=Cl.cell aB.out 3
 have x4:w1.cell? ⟨bx,4,none⟩=some (.slice p nk kc):=Cl.cell aB.out 4
 go_wp2_with fail
 clear x0 x1 x2 x3 x4
 refine Calls.mono (KJ.out w1 _ _ aK.out (by have:=bA.out;omega)) ?_
 rintro e w2 ⟨wv2,hP2,aT⟩
 have aA:=show Hid _ from Cl.af aB.out aK.out.ck aT.kp (by decide) (by decide)
 have aJ:=show Hid _ from aK.out.trans aT
 have aR:=show Hid _ from hP2
 clear hP2 aT aB aK KJ
 cases J with
 | error er=>
  obtain⟨q,rfl,hrf⟩:=aR.out
  have kG:=show Hid _ from hrf
  have hA:ANS=.no er.1 er.2:=aI.out
  have HA:=show Hid (ANS=.no er.1 er.2) from hA
  clear aR hrf hA aI
  unfold dY
  go_wp2_with (refine aN 67 rfl _ dR rfl ?_)
  intro w3 bC aL
  go_wp2_with (refine aQ 67 rfl rfl _ _ rfl bC rfl _ rfl _ _ aL.blk dx rfl (dH Fm.z) ?_)
  intro w4 hc4 hk4
  have hge4:w.heap.size<=bC:=Nat.le_trans aJ.out.kp.size aL.ge
  have bQ:=show Hid _ from(aJ.out.then aL.av).own aL.blk (by decide) (by decide) hk4 hge4
  have dA:=show Hid _ from Cl.kp (Cl.new aA.out aL) hk4 (by have:=Cl.lt aA.out;have:=aL.ge;omega)
  have dQ:=show Hid (Cl w4 bC #[.int .i64 (Fm.z).k,.string (Fm.z).s,.int .i64 (Fm.z).l,.int .i64 (Fm.z).r] 67) from hc4
  have bq:=show Hid _ from(kG.out.later aL.av).other aL.blk (by decide) (by decide) hk4
  clear aL hc4 hk4 hge4 aA aJ dQ
  go_wp2_with fail
  go_ret2
  exact⟨_,by rw[HA.out];exact⟨q,rfl,bq.out⟩,bQ.out.mono (by have:=bA.out;omega)⟩
 | ok d=>
  obtain rfl:=aR.out
  clear aR
  unfold dY
  go_wp2_with (refine aN 67 rfl _ dR rfl ?_)
  intro w3 bC aL
  go_wp2_with (refine aQ 67 rfl rfl _ _ rfl bC rfl _ rfl _ _ aL.blk dx rfl (dH d) ?_)
  intro w4 hc4 hk4
  have hge4:w.heap.size<=bC:=Nat.le_trans aJ.out.kp.size aL.ge
  have bQ:=show Hid _ from(aJ.out.then aL.av).own aL.blk (by decide) (by decide) hk4 hge4
  have dA:=show Hid _ from Cl.kp (Cl.new aA.out aL) hk4 (by have:=Cl.lt aA.out;have:=aL.ge;omega)
  have dQ:=show Hid (Cl w4 bC #[.int .i64 (d).k,.string (d).s,.int .i64 (d).l,.int .i64 (d).r] 67) from hc4
  clear aL hc4 hk4 hge4 aA aJ
  have x0:w4.cell? ⟨bx,0,none⟩=some (.int .i64 3):=Cl.cell dA.out 0
  have x1:w4.cell? ⟨bx,1,none⟩=some (.string Ty.e0):=Cl.cell dA.out 1
  have x2:w4.cell? ⟨bx,2,none⟩=some (.string Ty.e0):=Cl.cell dA.out 2
  have x3:w4.cell? ⟨bx,3,none⟩=some (.int .i64 0):=Cl.cell dA.out 3
  have x4:w4.cell? ⟨bx,4,none⟩=some (.slice p nk kc):=Cl.cell dA.out 4
  have y2:w4.cell? ⟨bC,2,none⟩=some (.int .i64 d.l):=Cl.cell dQ.out 2
  have y3:w4.cell? ⟨bC,3,none⟩=some (.int .i64 d.r):=Cl.cell dQ.out 3
  go_wp2_with fail
  clear x0 x1 x2 x3 x4 y2 y3
  refine Calls.mono (KB.out w4 _ _ d.l bQ.out (by have:=bA.out;omega)) ?_
  rintro e w5 ⟨xu,ku,dN⟩
  have jh:=show Hid _ from Cl.af dA.out bQ.out.ck dN.kp (by decide) (by decide)
  have nG:=show Hid _ from Cl.af dQ.out bQ.out.ck dN.kp (by decide) (by decide)
  have fG:=show Hid _ from bQ.out.trans dN
  have fU:=show Hid _ from ku
  clear ku dN dA bQ dQ KB
  generalize Ty.aS t b g (way ++ [1]) d.l=A5 at *
  cases A5 with
  | no tN tQ=>
   obtain⟨q,rfl,hrf⟩:=fU.out
   have bq:=show Hid _ from hrf
   have HA:=show Hid (ANS=.no tN tQ) from aI.out
   clear fU hrf aI
   go_wp2_with fail
   go_ret2
   exact⟨_,by rw[HA.out];exact⟨q,rfl,bq.out⟩,fG.out.mono (by have:=bA.out;omega)⟩
  | ok f5=>
   obtain rfl:=fU.out
   clear fU
   have HA:=show Hid (ANS=.ok d.r) from aI.out
   clear aI
   have x0:w5.cell? ⟨bx,0,none⟩=some (.int .i64 3):=Cl.cell jh.out 0
   have x1:w5.cell? ⟨bx,1,none⟩=some (.string Ty.e0):=Cl.cell jh.out 1
   have x2:w5.cell? ⟨bx,2,none⟩=some (.string Ty.e0):=Cl.cell jh.out 2
   have x3:w5.cell? ⟨bx,3,none⟩=some (.int .i64 0):=Cl.cell jh.out 3
   have x4:w5.cell? ⟨bx,4,none⟩=some (.slice p nk kc):=Cl.cell jh.out 4
   have y2:w5.cell? ⟨bC,2,none⟩=some (.int .i64 d.l):=Cl.cell nG.out 2
   have y3:w5.cell? ⟨bC,3,none⟩=some (.int .i64 d.r):=Cl.cell nG.out 3
   go_wp2_with fail
   go_ret2
   exact⟨_,by rw[HA.out];exact(show(_:Ending)=_ from rfl),fG.out.mono (by have:=bA.out;omega)⟩
theorem Fh {B C m tb mt:Nat} {v:Value} {t:List Nd} {a:Ty.Tr}  {fo:Int} (iO:iX B C m tb mt v t a) (w:World) {N:Nat} {g:Ty.Env} {wv sv:Value} {way:List Int} (hT:fA w B tb mt v t) (h:Ck w B C m N (.pointer (some ⟨tb,0,none⟩)) g wv way) (hB:B<=w.heap.size) (hK:bg w B (Ty.Tr.the fo a).tm sv) (hG:Gt (Ty.Tr.the fo a).tm) (hn:N+4 * (Ty.Tr.the fo a).size<=90000000000000) (hw:way.length+(Ty.Tr.the fo a).size<=900000) :
 Calls Tryz.prog 47 #[.pointer (some ⟨C,0,none⟩),bL (Ty.Tr.the fo a).tm sv] w fun r w'=>∃ wv2,gT B w' r wv2 (Ty.told t (Ty.Tr.the fo a) g way)/\Af w w' B C m (N+4 * (Ty.Tr.the fo a).size) (.pointer (some ⟨tb,0,none⟩)) g wv wv2 way:=by
 obtain⟨p,nk,kc,rfl⟩:=hK.form
 obtain⟨dz,hgn,hgo,hgf⟩:=hG.parts
 have hgs:=hG.sub
 have HB0:=show Hid (∀ W n' wv',Af w W B C m n' (.pointer (some ⟨tb,0,none⟩)) g wv wv' way->Below B w W) from fun W n' wv' ha=>h.below ha.kp hB
 have aV:=show Hid (∀ W n' wv',Af w W B C m n' (.pointer (some ⟨tb,0,none⟩)) g wv wv' way->B<=W.heap.size) from fun W n' wv' ha=>Nat.le_trans hB ha.kp.size
 have hsz:(Ty.Tr.the fo a).size=a.size+1:=rfl
 have KL:=show Hid (∀ (W:World) (n':Nat) (wv':Value) (f':Int),Af w W B C m n' (.pointer (some ⟨tb,0,none⟩)) g wv wv' way->Calls Tryz.prog 41 #[.pointer (some ⟨C,0,none⟩),.int .i64 f'] W fun r w'=>r=.returned (.bool (!Fm.has t f'))/\Below W.heap.size W w') from fun W n' wv' f' ha=>A8 W ha.ck (hT.later (HB0.out W n' wv' ha)).here f'
 have KB:=show Hid (∀ (W:World) (n':Nat) (wv':Value) (id':Int),Af w W B C m n' (.pointer (some ⟨tb,0,none⟩)) g wv wv' way->n'+4 * a.size<=90000000000000->Calls Tryz.prog 84 #[.pointer (some ⟨C,0,none⟩),(.agg #[.int .i64 11,.string Ty.e0,.string Ty.e0,.int .i64 fo,(.slice p nk kc)]),.int .i64 0,.int .i64 id'] W fun r w'=>∃ wv2,fC B w' r wv2 (Ty.aS t a g (way ++ [0]) id')/\Af W w' B C m (n'+4 * a.size) (.pointer (some ⟨tb,0,none⟩)) g wv' wv2 way) from fun W n' wv' id' ha hn'=>gZ W 0 (show 0<(Ty.Tr.the fo a).tm.sub.length from by simp[Ty.Tr.tm,Tm.sub]) rfl ha.ck (by omega) (aV.out W n' wv' ha) (hK.below (HB0.out W n' wv' ha)) hgs.1 id' (fun W2 kv wv2 hW2 hk hc2=>iO W2 n' g wv2 kv (way ++ [((0:Nat):Int)]) id' ((hT.later (HB0.out W n' wv' ha)).later hW2) hc2 (Nat.le_trans (aV.out W n' wv' ha) hW2.size) hk (hgs.2 a.tm (by simp[Ty.Tr.tm,Tm.sub])) (by omega) (by simp;omega))
 have KR:=show Hid (∀ (W:World) (n':Nat) (wv':Value),Af w W B C m n' (.pointer (some ⟨tb,0,none⟩)) g wv wv' way->Calls Tryz.prog 39 #[.pointer (some ⟨C,0,none⟩),.int .i64 31] W fun r w'=>∃ q,r=.returned (.iface 113 (.pointer (some ⟨q,0,none⟩)))/\Rf w' B q 31 way wv'/\Below W.heap.size W w') from fun W n' wv' ha=>eY W ha.ck (by omega) (aV.out W n' wv' ha) 31
 have bA:=show Hid ((Ty.Tr.the fo a).size=a.size+1/\N+4 * (Ty.Tr.the fo a).size<=90000000000000) from⟨hsz,hn⟩
 have aI:=show Hid (Ty.told t (Ty.Tr.the fo a) g way=if Fm.has t fo then (Ty.aS t a g (way ++ [0]) fo).bind fun _=>.ok fo else .no 31 way) from rfl
 generalize Ty.told t (Ty.Tr.the fo a) g way=ANS at *
 clear hsz hn HB0 aV
 have aU:=show Hid (Af w w B C m N (.pointer (some ⟨tb,0,none⟩)) g wv wv way) from Af.refl h
 have hq1:=cu
 have hq2:=cK
 clear hK h hT hG hgs dz hgn hgo hgf hw hB iO
 show Calls _ _ #[.pointer (some ⟨C,0,none⟩),(.agg #[.int .i64 11,.string Ty.e0,.string Ty.e0,.int .i64 fo,(.slice p nk kc)])] _ _
 go_enter Tryz.func47,Tryz.ntmps47
 go_wp2_with (refine aC 27 _ rfl _ rfl rfl ?_)
 intro w1 bx hn1
 have aB:=show Hid (Cl w1 bx #[.int .i64 11,.string Ty.e0,.string Ty.e0,.int .i64 fo,.slice p nk kc] 27) from hn1.blk
 have aK:=show Hid _ from aU.out.then hn1.av
 have hgx:w.heap.size<=bx:=hn1.ge
 have iC:=show Hid (w.heap.size<=bx) from hgx
 clear hn1 aU hgx
 have x0:w1.cell? ⟨bx,0,none⟩=some (.int .i64 11):=Cl.cell aB.out 0
 have x1:w1.cell? ⟨bx,1,none⟩=some (.string Ty.e0):=Cl.cell aB.out 1
 have x2:w1.cell? ⟨bx,2,none⟩=some (.string Ty.e0):=Cl.cell aB.out 2
 have x3:w1.cell? ⟨bx,3,none⟩=some (.int .i64 fo):=Cl.cell aB.out 3
 have x4:w1.cell? ⟨bx,4,none⟩=some (.slice p nk kc):=Cl.cell aB.out 4
 go_wp2_with fail
 clear x0 x1 x2 x3 x4
 refine Calls.mono (KL.out w1 _ _ fo aK.out) ?_
 rintro e w2 ⟨rfl,hb2⟩
 have aA:=show Hid _ from Cl.later aB.out hb2
 have aJ:=show Hid _ from aK.out.then hb2
 clear aB aK KL hb2
 cases hh:Fm.has t fo with
 | false=>
  have HA:=show Hid (ANS=.no 31 way) from by have:=aI.out;rw[hh,if_neg Bool.false_ne_true] at this;exact this
  clear aI hh
  have x0:w2.cell? ⟨bx,0,none⟩=some (.int .i64 11):=Cl.cell aA.out 0
  have x1:w2.cell? ⟨bx,1,none⟩=some (.string Ty.e0):=Cl.cell aA.out 1
  have x2:w2.cell? ⟨bx,2,none⟩=some (.string Ty.e0):=Cl.cell aA.out 2
  have x3:w2.cell? ⟨bx,3,none⟩=some (.int .i64 fo):=Cl.cell aA.out 3
  have x4:w2.cell? ⟨bx,4,none⟩=some (.slice p nk kc):=Cl.cell aA.out 4
  go_wp2_with fail
  clear x0 x1 x2 x3 x4
  refine Calls.mono (KR.out w2 _ _ aJ.out) ?_
  rintro e w3 ⟨q,rfl,hrf,hb3⟩
  have ji:=show Hid _ from Cl.later aA.out hb3
  have fQ:=show Hid _ from aJ.out.then hb3
  clear aA aJ KR hb3
  have bq:=show Hid _ from hrf
  clear hrf
  go_wp2_with fail
  go_ret2
  exact⟨_,by rw[HA.out];exact⟨q,rfl,bq.out⟩,fQ.out.mono (by have:=bA.out;omega)⟩
 | true=>
  have jQ:=show Hid (ANS=(Ty.aS t a g (way ++ [0]) fo).bind fun _=>.ok fo) from by have:=aI.out;rw[hh,if_pos rfl] at this;exact this
  clear aI hh
  have aI:=show Hid _ from jQ.out
  clear jQ
  have x0:w2.cell? ⟨bx,0,none⟩=some (.int .i64 11):=Cl.cell aA.out 0
  have x1:w2.cell? ⟨bx,1,none⟩=some (.string Ty.e0):=Cl.cell aA.out 1
  have x2:w2.cell? ⟨bx,2,none⟩=some (.string Ty.e0):=Cl.cell aA.out 2
  have x3:w2.cell? ⟨bx,3,none⟩=some (.int .i64 fo):=Cl.cell aA.out 3
  have x4:w2.cell? ⟨bx,4,none⟩=some (.slice p nk kc):=Cl.cell aA.out 4
  go_wp2_with fail
  clear x0 x1 x2 x3 x4
  refine Calls.mono (KB.out w2 _ _ fo aJ.out (by have:=bA.out;omega)) ?_
  rintro e w3 ⟨rY,hP3,gN⟩
  have ji:=show Hid _ from Cl.af aA.out aJ.out.ck gN.kp (by decide) (by decide)
  have fQ:=show Hid _ from aJ.out.trans gN
  have dS:=show Hid _ from hP3
  clear hP3 gN aA aJ KB
  generalize Ty.aS t a g (way ++ [0]) fo=A3 at *
  cases A3 with
  | no Ki Kj=>
   obtain⟨q,rfl,hrf⟩:=dS.out
   have bq:=show Hid _ from hrf
   have HA:=show Hid (ANS=.no Ki Kj) from aI.out
   clear dS hrf aI
   go_wp2_with fail
   go_ret2
   exact⟨_,by rw[HA.out];exact⟨q,rfl,bq.out⟩,fQ.out.mono (by have:=bA.out;omega)⟩
  | ok f3=>
   obtain rfl:=dS.out
   clear dS
   have HA:=show Hid (ANS=.ok fo) from aI.out
   clear aI
   have x0:w3.cell? ⟨bx,0,none⟩=some (.int .i64 11):=Cl.cell ji.out 0
   have x1:w3.cell? ⟨bx,1,none⟩=some (.string Ty.e0):=Cl.cell ji.out 1
   have x2:w3.cell? ⟨bx,2,none⟩=some (.string Ty.e0):=Cl.cell ji.out 2
   have x3:w3.cell? ⟨bx,3,none⟩=some (.int .i64 fo):=Cl.cell ji.out 3
   have x4:w3.cell? ⟨bx,4,none⟩=some (.slice p nk kc):=Cl.cell ji.out 4
   go_wp2_with fail
   go_ret2
   exact⟨_,by rw[HA.out];exact(show(_:Ending)=_ from rfl),fQ.out.mono (by have:=bA.out;omega)⟩
theorem Iu {B C m tb mt:Nat} {v:Value} {t:List Nd} {a:Ty.Tr} {b:Ty.Tr} {nn:ByteArray} (eU:iJ B C m tb mt v t a) (vL:iJ B C m tb mt v t b) (w:World) {N:Nat} {g:Ty.Env} {wv sv:Value} {way:List Int} (hT:fA w B tb mt v t) (h:Ck w B C m N (.pointer (some ⟨tb,0,none⟩)) g wv way) (hB:B<=w.heap.size) (hK:bg w B (Ty.Tr.lt nn a b).tm sv) (hG:Gt (Ty.Tr.lt nn a b).tm) (hn:N+4 * (Ty.Tr.lt nn a b).size<=90000000000000) (hw:way.length+(Ty.Tr.lt nn a b).size<=900000) :
 Calls Tryz.prog 48 #[.pointer (some ⟨C,0,none⟩),bL (Ty.Tr.lt nn a b).tm sv] w fun r w'=>∃ wv2,gT B w' r wv2 (Ty.told t (Ty.Tr.lt nn a b) g way)/\Af w w' B C m (N+4 * (Ty.Tr.lt nn a b).size) (.pointer (some ⟨tb,0,none⟩)) g wv wv2 way:=by
 obtain⟨p,nk,kc,rfl⟩:=hK.form
 obtain⟨dz,hgn,hgo,hgf⟩:=hG.parts
 have hgs:=hG.sub
 have HB0:=show Hid (∀ W n' wv',Af w W B C m n' (.pointer (some ⟨tb,0,none⟩)) g wv wv' way->Below B w W) from fun W n' wv' ha=>h.below ha.kp hB
 have aV:=show Hid (∀ W n' wv',Af w W B C m n' (.pointer (some ⟨tb,0,none⟩)) g wv wv' way->B<=W.heap.size) from fun W n' wv' ha=>Nat.le_trans hB ha.kp.size
 have hsz:(Ty.Tr.lt nn a b).size=a.size+b.size+1:=rfl
 have KP:=show Hid (∀ (W:World) (n':Nat) (wv':Value),Af w W B C m n' (.pointer (some ⟨tb,0,none⟩)) g wv wv' way->n'+4 * a.size<=90000000000000->Calls Tryz.prog 85 #[.pointer (some ⟨C,0,none⟩),(.agg #[.int .i64 12,.string nn,.string Ty.e0,.int .i64 0,(.slice p nk kc)]),.int .i64 0] W fun r w'=>∃ wv2,gT B w' r wv2 (Ty.told t a g (way ++ [0]))/\Af W w' B C m (n'+4 * a.size) (.pointer (some ⟨tb,0,none⟩)) g wv' wv2 way) from fun W n' wv' ha hn'=>nS W 0 (show 0<(Ty.Tr.lt nn a b).tm.sub.length from by simp[Ty.Tr.tm,Tm.sub]) rfl ha.ck (by omega) (aV.out W n' wv' ha) (hK.below (HB0.out W n' wv' ha)) hgs.1 (fun W2 kv wv2 hW2 hk hc2=>eU W2 n' g wv2 kv (way ++ [((0:Nat):Int)]) ((hT.later (HB0.out W n' wv' ha)).later hW2) hc2 (Nat.le_trans (aV.out W n' wv' ha) hW2.size) hk (hgs.2 a.tm (by simp[Ty.Tr.tm,Tm.sub])) (by omega) (by simp;omega))
 have KW:=show Hid (∀ (W:World) (n':Nat) (wv':Value) (f':Int),Af w W B C m n' (.pointer (some ⟨tb,0,none⟩)) g wv wv' way->n'+4 * b.size+2<=90000000000000->Calls Tryz.prog 87 #[.pointer (some ⟨C,0,none⟩),(.agg #[.int .i64 12,.string nn,.string Ty.e0,.int .i64 0,(.slice p nk kc)]),.int .i64 1,.string nn,.int .i64 f'] W fun r w'=>∃ wv2,gT B w' r wv2 (Ty.told t b (Ty.upd g nn f') (way ++ [1]))/\Af W w' B C m (n'+1+4 * b.size+1) (.pointer (some ⟨tb,0,none⟩)) g wv' wv2 way) from fun W n' wv' f' ha hn'=>qY W 1 (show 1<(Ty.Tr.lt nn a b).tm.sub.length from by simp[Ty.Tr.tm,Tm.sub]) rfl ha.ck (by omega) (aV.out W n' wv' ha) (hK.below (HB0.out W n' wv' ha)) hgs.1 (by omega) (by omega) nn hgn f' (fun W2 kv wv2 hW2 hk hc2=>vL W2 (n'+1) (Ty.upd g nn f') wv2 kv (way ++ [((1:Nat):Int)]) ((hT.later (HB0.out W n' wv' ha)).later hW2) hc2 (Nat.le_trans (aV.out W n' wv' ha) hW2.size) hk (hgs.2 b.tm (by simp[Ty.Tr.tm,Tm.sub])) (by omega) (by simp;omega))
 have bA:=show Hid ((Ty.Tr.lt nn a b).size=a.size+b.size+1/\N+4 * (Ty.Tr.lt nn a b).size<=90000000000000) from⟨hsz,hn⟩
 have aI:=show Hid (Ty.told t (Ty.Tr.lt nn a b) g way=(Ty.told t a g (way ++ [0])).bind fun f=>Ty.told t b (Ty.upd g nn f) (way ++ [1])) from rfl
 generalize Ty.told t (Ty.Tr.lt nn a b) g way=ANS at *
 clear hsz hn HB0 aV
 have aU:=show Hid (Af w w B C m N (.pointer (some ⟨tb,0,none⟩)) g wv wv way) from Af.refl h
 have hq1:=cu
 have hq2:=cK
 clear hK h hT hG hgs dz hgn hgo hgf hw hB eU vL
 show Calls _ _ #[.pointer (some ⟨C,0,none⟩),(.agg #[.int .i64 12,.string nn,.string Ty.e0,.int .i64 0,(.slice p nk kc)])] _ _
 go_enter Tryz.func48,Tryz.ntmps48
 go_wp2_with (refine aC 27 _ rfl _ rfl rfl ?_)
 intro w1 bx hn1
 have aB:=show Hid (Cl w1 bx #[.int .i64 12,.string nn,.string Ty.e0,.int .i64 0,.slice p nk kc] 27) from hn1.blk
 have aK:=show Hid _ from aU.out.then hn1.av
 have hgx:w.heap.size<=bx:=hn1.ge
 have iC:=show Hid (w.heap.size<=bx) from hgx
 clear hn1 aU hgx
 have x0:w1.cell? ⟨bx,0,none⟩=some (.int .i64 12):=Cl.cell aB.out 0
 have x1:w1.cell? ⟨bx,1,none⟩=some (.string nn):=Cl.cell aB.out 1
 have x2:w1.cell? ⟨bx,2,none⟩=some (.string Ty.e0):=Cl.cell aB.out 2
 have x3:w1.cell? ⟨bx,3,none⟩=some (.int .i64 0):=Cl.cell aB.out 3
 have x4:w1.cell? ⟨bx,4,none⟩=some (.slice p nk kc):=Cl.cell aB.out 4
 go_wp2_with fail
 clear x0 x1 x2 x3 x4
 refine Calls.mono (KP.out w1 _ _ aK.out (by have:=bA.out;omega)) ?_
 rintro e w2 ⟨wv2,hP2,aT⟩
 have aA:=show Hid _ from Cl.af aB.out aK.out.ck aT.kp (by decide) (by decide)
 have aJ:=show Hid _ from aK.out.trans aT
 have aR:=show Hid _ from hP2
 clear hP2 aT aB aK KP
 generalize Ty.told t a g (way ++ [0])=A2 at *
 cases A2 with
 | no tT tV=>
  obtain⟨q,rfl,hrf⟩:=aR.out
  have bq:=show Hid _ from hrf
  have HA:=show Hid (ANS=.no tT tV) from aI.out
  clear aR hrf aI
  go_wp2_with fail
  go_ret2
  exact⟨_,by rw[HA.out];exact⟨q,rfl,bq.out⟩,aJ.out.mono (by have:=bA.out;omega)⟩
 | ok f2=>
  obtain rfl:=aR.out
  clear aR
  have jQ:=show Hid (ANS=Ty.told t b (Ty.upd g nn f2) (way ++ [1])) from aI.out
  clear aI
  have aI:=show Hid _ from jQ.out
  clear jQ
  have x0:w2.cell? ⟨bx,0,none⟩=some (.int .i64 12):=Cl.cell aA.out 0
  have x1:w2.cell? ⟨bx,1,none⟩=some (.string nn):=Cl.cell aA.out 1
  have x2:w2.cell? ⟨bx,2,none⟩=some (.string Ty.e0):=Cl.cell aA.out 2
  have x3:w2.cell? ⟨bx,3,none⟩=some (.int .i64 0):=Cl.cell aA.out 3
  have x4:w2.cell? ⟨bx,4,none⟩=some (.slice p nk kc):=Cl.cell aA.out 4
  go_wp2_with fail
  clear x0 x1 x2 x3 x4
  refine Calls.mono (KW.out w2 _ _ f2 aJ.out (by have:=bA.out;omega)) ?_
  rintro e w3 ⟨rY,hP3,gN⟩
  have ji:=show Hid _ from Cl.af aA.out aJ.out.ck gN.kp (by decide) (by decide)
  have fQ:=show Hid _ from aJ.out.trans gN
  have dS:=show Hid _ from hP3
  clear hP3 gN aA aJ KW
  generalize Ty.told t b (Ty.upd g nn f2) (way ++ [1])=A3 at *
  cases A3 with
  | no Ki Kj=>
   obtain⟨q,rfl,hrf⟩:=dS.out
   have bq:=show Hid _ from hrf
   have HA:=show Hid (ANS=.no Ki Kj) from aI.out
   clear dS hrf aI
   go_wp2_with fail
   go_ret2
   exact⟨_,by rw[HA.out];exact⟨q,rfl,bq.out⟩,fQ.out.mono (by have:=bA.out;omega)⟩
  | ok f3=>
   obtain rfl:=dS.out
   clear dS
   have HA:=show Hid (ANS=.ok f3) from aI.out
   clear aI
   go_wp2_with fail
   go_ret2
   exact⟨_,by rw[HA.out];exact(show(_:Ending)=_ from rfl),fQ.out.mono (by have:=bA.out;omega)⟩
theorem CU {B C m tb mt:Nat} {v:Value} {t:List Nd} {a:Ty.Tr} {b:Ty.Tr} {c:Ty.Tr} {nn:ByteArray} {oo:ByteArray} (eU:iJ B C m tb mt v t a) (vL:iJ B C m tb mt v t b) (Kk:iJ B C m tb mt v t c) (w:World) {N:Nat} {g:Ty.Env} {wv sv:Value} {way:List Int} (hT:fA w B tb mt v t) (h:Ck w B C m N (.pointer (some ⟨tb,0,none⟩)) g wv way) (hB:B<=w.heap.size) (hK:bg w B (Ty.Tr.cas nn oo a b c).tm sv) (hG:Gt (Ty.Tr.cas nn oo a b c).tm) (hn:N+4 * (Ty.Tr.cas nn oo a b c).size<=90000000000000) (hw:way.length+(Ty.Tr.cas nn oo a b c).size<=900000) :
 Calls Tryz.prog 49 #[.pointer (some ⟨C,0,none⟩),bL (Ty.Tr.cas nn oo a b c).tm sv] w fun r w'=>∃ wv2,gT B w' r wv2 (Ty.told t (Ty.Tr.cas nn oo a b c) g way)/\Af w w' B C m (N+4 * (Ty.Tr.cas nn oo a b c).size) (.pointer (some ⟨tb,0,none⟩)) g wv wv2 way:=by
 obtain⟨p,nk,kc,rfl⟩:=hK.form
 obtain⟨dz,hgn,hgo,hgf⟩:=hG.parts
 have hgs:=hG.sub
 have HB0:=show Hid (∀ W n' wv',Af w W B C m n' (.pointer (some ⟨tb,0,none⟩)) g wv wv' way->Below B w W) from fun W n' wv' ha=>h.below ha.kp hB
 have aV:=show Hid (∀ W n' wv',Af w W B C m n' (.pointer (some ⟨tb,0,none⟩)) g wv wv' way->B<=W.heap.size) from fun W n' wv' ha=>Nat.le_trans hB ha.kp.size
 have hsz:(Ty.Tr.cas nn oo a b c).size=a.size+b.size+c.size+1:=rfl
 have KJ:=show Hid (∀ (W:World) (n':Nat) (wv':Value),Af w W B C m n' (.pointer (some ⟨tb,0,none⟩)) g wv wv' way->n'+4 * a.size<=90000000000000->Calls Tryz.prog 46 #[.pointer (some ⟨C,0,none⟩),(.agg #[.int .i64 9,.string nn,.string oo,.int .i64 0,(.slice p nk kc)]),.int .i64 4] W fun r w'=>∃ wv2,uY B w' r wv2 (iK t way 4 (Ty.told t a g (way ++ [0])))/\Af W w' B C m (n'+4 * a.size) (.pointer (some ⟨tb,0,none⟩)) g wv' wv2 way) from fun W n' wv' ha hn'=>jq eU W (show 0<(Ty.Tr.cas nn oo a b c).tm.sub.length from by simp[Ty.Tr.tm,Tm.sub]) rfl (hT.later (HB0.out W n' wv' ha)) ha.ck (aV.out W n' wv' ha) (hK.below (HB0.out W n' wv' ha)) hG hn' (by omega) 4
 have KW:=show Hid (∀ (W:World) (n':Nat) (wv':Value) (f':Int),Af w W B C m n' (.pointer (some ⟨tb,0,none⟩)) g wv wv' way->n'+4 * b.size+2<=90000000000000->Calls Tryz.prog 87 #[.pointer (some ⟨C,0,none⟩),(.agg #[.int .i64 9,.string nn,.string oo,.int .i64 0,(.slice p nk kc)]),.int .i64 1,.string nn,.int .i64 f'] W fun r w'=>∃ wv2,gT B w' r wv2 (Ty.told t b (Ty.upd g nn f') (way ++ [1]))/\Af W w' B C m (n'+1+4 * b.size+1) (.pointer (some ⟨tb,0,none⟩)) g wv' wv2 way) from fun W n' wv' f' ha hn'=>qY W 1 (show 1<(Ty.Tr.cas nn oo a b c).tm.sub.length from by simp[Ty.Tr.tm,Tm.sub]) rfl ha.ck (by omega) (aV.out W n' wv' ha) (hK.below (HB0.out W n' wv' ha)) hgs.1 (by omega) (by omega) nn hgn f' (fun W2 kv wv2 hW2 hk hc2=>vL W2 (n'+1) (Ty.upd g nn f') wv2 kv (way ++ [((1:Nat):Int)]) ((hT.later (HB0.out W n' wv' ha)).later hW2) hc2 (Nat.le_trans (aV.out W n' wv' ha) hW2.size) hk (hgs.2 b.tm (by simp[Ty.Tr.tm,Tm.sub])) (by omega) (by simp;omega))
 have KV:=show Hid (∀ (W:World) (n':Nat) (wv':Value) (f':Int),Af w W B C m n' (.pointer (some ⟨tb,0,none⟩)) g wv wv' way->n'+4 * c.size+2<=90000000000000->Calls Tryz.prog 87 #[.pointer (some ⟨C,0,none⟩),(.agg #[.int .i64 9,.string nn,.string oo,.int .i64 0,(.slice p nk kc)]),.int .i64 2,.string oo,.int .i64 f'] W fun r w'=>∃ wv2,gT B w' r wv2 (Ty.told t c (Ty.upd g oo f') (way ++ [2]))/\Af W w' B C m (n'+1+4 * c.size+1) (.pointer (some ⟨tb,0,none⟩)) g wv' wv2 way) from fun W n' wv' f' ha hn'=>qY W 2 (show 2<(Ty.Tr.cas nn oo a b c).tm.sub.length from by simp[Ty.Tr.tm,Tm.sub]) rfl ha.ck (by omega) (aV.out W n' wv' ha) (hK.below (HB0.out W n' wv' ha)) hgs.1 (by omega) (by omega) oo hgo f' (fun W2 kv wv2 hW2 hk hc2=>Kk W2 (n'+1) (Ty.upd g oo f') wv2 kv (way ++ [((2:Nat):Int)]) ((hT.later (HB0.out W n' wv' ha)).later hW2) hc2 (Nat.le_trans (aV.out W n' wv' ha) hW2.size) hk (hgs.2 c.tm (by simp[Ty.Tr.tm,Tm.sub])) (by omega) (by simp;omega))
 have KR:=show Hid (∀ (W:World) (n':Nat) (wv':Value),Af w W B C m n' (.pointer (some ⟨tb,0,none⟩)) g wv wv' way->Calls Tryz.prog 39 #[.pointer (some ⟨C,0,none⟩),.int .i64 130] W fun r w'=>∃ q,r=.returned (.iface 113 (.pointer (some ⟨q,0,none⟩)))/\Rf w' B q 130 way wv'/\Below W.heap.size W w') from fun W n' wv' ha=>eY W ha.ck (by omega) (aV.out W n' wv' ha) 130
 have bA:=show Hid ((Ty.Tr.cas nn oo a b c).size=a.size+b.size+c.size+1/\N+4 * (Ty.Tr.cas nn oo a b c).size<=90000000000000) from⟨hsz,hn⟩
 have aI:=show Hid (Ty.told t (Ty.Tr.cas nn oo a b c) g way=match iK t way 4 (Ty.told t a g (way ++ [0])) with | .error e=>.no e.1 e.2 | .ok d=>(Ty.told t b (Ty.upd g nn d.l) (way ++ [1])).bind fun x=>(Ty.told t c (Ty.upd g oo d.r) (way ++ [2])).bind fun y=>if x=y then .ok x else .no 130 way) from pz t way 4 _ _
 generalize iK t way 4 (Ty.told t a g (way ++ [0]))=J at *
 generalize Ty.told t (Ty.Tr.cas nn oo a b c) g way=ANS at *
 clear hsz hn HB0 aV
 have aU:=show Hid (Af w w B C m N (.pointer (some ⟨tb,0,none⟩)) g wv wv way) from Af.refl h
 have hq1:=cu
 have hq2:=cK
 clear hK h hT hG hgs dz hgn hgo hgf hw hB eU vL Kk
 show Calls _ _ #[.pointer (some ⟨C,0,none⟩),(.agg #[.int .i64 9,.string nn,.string oo,.int .i64 0,(.slice p nk kc)])] _ _
 go_enter Tryz.func49,Tryz.ntmps49
 go_wp2_with (refine aC 27 _ rfl _ rfl rfl ?_)
 intro w1 bx hn1
 have aB:=show Hid (Cl w1 bx #[.int .i64 9,.string nn,.string oo,.int .i64 0,.slice p nk kc] 27) from hn1.blk
 have aK:=show Hid _ from aU.out.then hn1.av
 have hgx:w.heap.size<=bx:=hn1.ge
 have iC:=show Hid (w.heap.size<=bx) from hgx
 clear hn1 aU hgx
 have x0:w1.cell? ⟨bx,0,none⟩=some (.int .i64 9):=Cl.cell aB.out 0
 have x1:w1.cell? ⟨bx,1,none⟩=some (.string nn):=Cl.cell aB.out 1
 have x2:w1.cell? ⟨bx,2,none⟩=some (.string oo):=Cl.cell aB.out 2
 have x3:w1.cell? ⟨bx,3,none⟩=some (.int .i64 0):=Cl.cell aB.out 3
 have x4:w1.cell? ⟨bx,4,none⟩=some (.slice p nk kc):=Cl.cell aB.out 4
 go_wp2_with fail
 clear x0 x1 x2 x3 x4
 refine Calls.mono (KJ.out w1 _ _ aK.out (by have:=bA.out;omega)) ?_
 rintro e w2 ⟨wv2,hP2,aT⟩
 have aA:=show Hid _ from Cl.af aB.out aK.out.ck aT.kp (by decide) (by decide)
 have aJ:=show Hid _ from aK.out.trans aT
 have aR:=show Hid _ from hP2
 clear hP2 aT aB aK KJ
 cases J with
 | error er=>
  obtain⟨q,rfl,hrf⟩:=aR.out
  have kG:=show Hid _ from hrf
  have hA:ANS=.no er.1 er.2:=aI.out
  have HA:=show Hid (ANS=.no er.1 er.2) from hA
  clear aR hrf hA aI
  unfold dY
  go_wp2_with (refine aN 67 rfl _ dR rfl ?_)
  intro w3 bC aL
  go_wp2_with (refine aQ 67 rfl rfl _ _ rfl bC rfl _ rfl _ _ aL.blk dx rfl (dH Fm.z) ?_)
  intro w4 hc4 hk4
  have hge4:w.heap.size<=bC:=Nat.le_trans aJ.out.kp.size aL.ge
  have bQ:=show Hid _ from(aJ.out.then aL.av).own aL.blk (by decide) (by decide) hk4 hge4
  have dA:=show Hid _ from Cl.kp (Cl.new aA.out aL) hk4 (by have:=Cl.lt aA.out;have:=aL.ge;omega)
  have dQ:=show Hid (Cl w4 bC #[.int .i64 (Fm.z).k,.string (Fm.z).s,.int .i64 (Fm.z).l,.int .i64 (Fm.z).r] 67) from hc4
  have bq:=show Hid _ from(kG.out.later aL.av).other aL.blk (by decide) (by decide) hk4
  clear aL hc4 hk4 hge4 aA aJ dQ
  go_wp2_with fail
  go_ret2
  exact⟨_,by rw[HA.out];exact⟨q,rfl,bq.out⟩,bQ.out.mono (by have:=bA.out;omega)⟩
 | ok d=>
  obtain rfl:=aR.out
  clear aR
  unfold dY
  go_wp2_with (refine aN 67 rfl _ dR rfl ?_)
  intro w3 bC aL
  go_wp2_with (refine aQ 67 rfl rfl _ _ rfl bC rfl _ rfl _ _ aL.blk dx rfl (dH d) ?_)
  intro w4 hc4 hk4
  have hge4:w.heap.size<=bC:=Nat.le_trans aJ.out.kp.size aL.ge
  have bQ:=show Hid _ from(aJ.out.then aL.av).own aL.blk (by decide) (by decide) hk4 hge4
  have dA:=show Hid _ from Cl.kp (Cl.new aA.out aL) hk4 (by have:=Cl.lt aA.out;have:=aL.ge;omega)
  have dQ:=show Hid (Cl w4 bC #[.int .i64 (d).k,.string (d).s,.int .i64 (d).l,.int .i64 (d).r] 67) from hc4
  clear aL hc4 hk4 hge4 aA aJ
  have x0:w4.cell? ⟨bx,0,none⟩=some (.int .i64 9):=Cl.cell dA.out 0
  have x1:w4.cell? ⟨bx,1,none⟩=some (.string nn):=Cl.cell dA.out 1
  have x2:w4.cell? ⟨bx,2,none⟩=some (.string oo):=Cl.cell dA.out 2
  have x3:w4.cell? ⟨bx,3,none⟩=some (.int .i64 0):=Cl.cell dA.out 3
  have x4:w4.cell? ⟨bx,4,none⟩=some (.slice p nk kc):=Cl.cell dA.out 4
  have y2:w4.cell? ⟨bC,2,none⟩=some (.int .i64 d.l):=Cl.cell dQ.out 2
  have y3:w4.cell? ⟨bC,3,none⟩=some (.int .i64 d.r):=Cl.cell dQ.out 3
  go_wp2_with fail
  clear x0 x1 x2 x3 x4 y2 y3
  refine Calls.mono (KW.out w4 _ _ d.l bQ.out (by have:=bA.out;omega)) ?_
  rintro e w5 ⟨xu,ku,dN⟩
  have jh:=show Hid _ from Cl.af dA.out bQ.out.ck dN.kp (by decide) (by decide)
  have nG:=show Hid _ from Cl.af dQ.out bQ.out.ck dN.kp (by decide) (by decide)
  have fG:=show Hid _ from bQ.out.trans dN
  have fU:=show Hid _ from ku
  clear ku dN dA bQ dQ KW
  generalize Ty.told t b (Ty.upd g nn d.l) (way ++ [1])=A5 at *
  cases A5 with
  | no tN tQ=>
   obtain⟨q,rfl,hrf⟩:=fU.out
   have bq:=show Hid _ from hrf
   have HA:=show Hid (ANS=.no tN tQ) from aI.out
   clear fU hrf aI
   go_wp2_with fail
   go_ret2
   exact⟨_,by rw[HA.out];exact⟨q,rfl,bq.out⟩,fG.out.mono (by have:=bA.out;omega)⟩
  | ok f5=>
   obtain rfl:=fU.out
   clear fU
   have jQ:=show Hid (ANS=(Ty.told t c (Ty.upd g oo d.r) (way ++ [2])).bind fun y=>if f5=y then .ok f5 else .no 130 way) from aI.out
   clear aI
   have aI:=show Hid _ from jQ.out
   clear jQ
   have x0:w5.cell? ⟨bx,0,none⟩=some (.int .i64 9):=Cl.cell jh.out 0
   have x1:w5.cell? ⟨bx,1,none⟩=some (.string nn):=Cl.cell jh.out 1
   have x2:w5.cell? ⟨bx,2,none⟩=some (.string oo):=Cl.cell jh.out 2
   have x3:w5.cell? ⟨bx,3,none⟩=some (.int .i64 0):=Cl.cell jh.out 3
   have x4:w5.cell? ⟨bx,4,none⟩=some (.slice p nk kc):=Cl.cell jh.out 4
   have y2:w5.cell? ⟨bC,2,none⟩=some (.int .i64 d.l):=Cl.cell nG.out 2
   have y3:w5.cell? ⟨bC,3,none⟩=some (.int .i64 d.r):=Cl.cell nG.out 3
   go_wp2_with fail
   clear x0 x1 x2 x3 x4 y2 y3
   refine Calls.mono (KV.out w5 _ _ d.r fG.out (by have:=bA.out;omega)) ?_
   rintro e w6 ⟨XM,A9,nV⟩
   have yU:=show Hid _ from Cl.af jh.out fG.out.ck nV.kp (by decide) (by decide)
   have Gj:=show Hid _ from Cl.af nG.out fG.out.ck nV.kp (by decide) (by decide)
   have qZ:=show Hid _ from fG.out.trans nV
   have rZ:=show Hid _ from A9
   clear A9 nV jh fG nG KV
   generalize Ty.told t c (Ty.upd g oo d.r) (way ++ [2])=A6 at *
   cases A6 with
   | no Kl Kn=>
    obtain⟨q,rfl,hrf⟩:=rZ.out
    have bq:=show Hid _ from hrf
    have HA:=show Hid (ANS=.no Kl Kn) from aI.out
    clear rZ hrf aI
    go_wp2_with fail
    go_ret2
    exact⟨_,by rw[HA.out];exact⟨q,rfl,bq.out⟩,qZ.out.mono (by have:=bA.out;omega)⟩
   | ok f6=>
    obtain rfl:=rZ.out
    clear rZ
    by_cases hxy:f5=f6
    ·have HA:=show Hid (ANS=.ok f5) from by have:=aI.out;exact this.trans (if_pos hxy)
     have hxb:(f5 != f6)=false:=by simpa using hxy
     clear aI hxy
     go_wp2_with fail
     go_ret2
     exact⟨_,by rw[HA.out];exact(show(_:Ending)=_ from rfl),qZ.out.mono (by have:=bA.out;omega)⟩
    ·have HA:=show Hid (ANS=.no 130 way) from by have:=aI.out;exact this.trans (if_neg hxy)
     have hxb:(f5 != f6)=true:=by simpa using hxy
     clear aI hxy
     have x0:w6.cell? ⟨bx,0,none⟩=some (.int .i64 9):=Cl.cell yU.out 0
     have x1:w6.cell? ⟨bx,1,none⟩=some (.string nn):=Cl.cell yU.out 1
     have x2:w6.cell? ⟨bx,2,none⟩=some (.string oo):=Cl.cell yU.out 2
     have x3:w6.cell? ⟨bx,3,none⟩=some (.int .i64 0):=Cl.cell yU.out 3
     have x4:w6.cell? ⟨bx,4,none⟩=some (.slice p nk kc):=Cl.cell yU.out 4
     have y2:w6.cell? ⟨bC,2,none⟩=some (.int .i64 d.l):=Cl.cell Gj.out 2
     have y3:w6.cell? ⟨bC,3,none⟩=some (.int .i64 d.r):=Cl.cell Gj.out 3
     go_wp2_with fail
     clear x0 x1 x2 x3 x4 y2 y3
     refine Calls.mono (KR.out w6 _ _ qZ.out) ?_
     rintro e w7 ⟨q,rfl,hrf,j4⟩
     have HX7:=show Hid _ from Cl.later yU.out j4
     have Ko:=show Hid _ from Cl.later Gj.out j4
     have Zc:=show Hid _ from qZ.out.then j4
     clear yU qZ Gj KR j4
     have bq:=show Hid _ from hrf
     clear hrf
     go_wp2_with fail
     go_ret2
     exact⟨_,by rw[HA.out];exact⟨q,rfl,bq.out⟩,Zc.out.mono (by have:=bA.out;omega)⟩
theorem CV {B C m tb mt:Nat} {v:Value} {t:List Nd}  {n:ByteArray}  (w:World) {N:Nat} {g:Ty.Env} {wv sv:Value} {way:List Int} (_hT:fA w B tb mt v t) (h:Ck w B C m N (.pointer (some ⟨tb,0,none⟩)) g wv way) (hB:B<=w.heap.size) (hK:bg w B (Ty.Tr.var n).tm sv) (hG:Gt (Ty.Tr.var n).tm) (hn:N+4 * (Ty.Tr.var n).size<=90000000000000) (hw:way.length+(Ty.Tr.var n).size<=900000) :
 Calls Tryz.prog 21 #[.pointer (some ⟨C,0,none⟩),bL (Ty.Tr.var n).tm sv] w fun r w'=>∃ wv2,gT B w' r wv2 (Ty.told t (Ty.Tr.var n) g way)/\Af w w' B C m (N+4 * (Ty.Tr.var n).size) (.pointer (some ⟨tb,0,none⟩)) g wv wv2 way:=by
 obtain⟨p,nk,kc,rfl⟩:=hK.form
 obtain⟨dz,hgn,hgo,hgf⟩:=hG.parts
 have hgs:=hG.sub
 have HB0:=show Hid (∀ W n' wv',Af w W B C m n' (.pointer (some ⟨tb,0,none⟩)) g wv wv' way->Below B w W) from fun W n' wv' ha=>h.below ha.kp hB
 have aV:=show Hid (∀ W n' wv',Af w W B C m n' (.pointer (some ⟨tb,0,none⟩)) g wv wv' way->B<=W.heap.size) from fun W n' wv' ha=>Nat.le_trans hB ha.kp.size
 have hsz:(Ty.Tr.var n).size=1:=rfl
 have KN:=show Hid (∀ (W:World) (n':Nat) (wv':Value),Af w W B C m n' (.pointer (some ⟨tb,0,none⟩)) g wv wv' way->Calls Tryz.prog 44 #[.pointer (some ⟨C,0,none⟩),.string n] W fun r w'=>gT B w' r wv' (match g n with | some x=>.ok x | none=>.no 131 way)/\Below W.heap.size W w') from fun W n' wv' ha=>CG W ha.ck (by omega) (aV.out W n' wv' ha) n hgn
 have bA:=show Hid ((Ty.Tr.var n).size=1/\N+4 * (Ty.Tr.var n).size<=90000000000000) from⟨hsz,hn⟩
 have aI:=show Hid (Ty.told t (Ty.Tr.var n) g way=match g n with | some x=>.ok x | none=>.no 131 way) from rfl
 generalize (match g n with | some x=>An.ok x | none=>An.no 131 way)=A0 at *
 generalize Ty.told t (Ty.Tr.var n) g way=ANS at *
 clear hsz hn HB0 aV
 have aU:=show Hid (Af w w B C m N (.pointer (some ⟨tb,0,none⟩)) g wv wv way) from Af.refl h
 have hq1:=cu
 have hq2:=cK
 clear hK h _hT hG hgs dz hgn hgo hgf hw hB
 show Calls _ _ #[.pointer (some ⟨C,0,none⟩),(.agg #[.int .i64 1,.string n,.string Ty.e0,.int .i64 0,(.slice p nk kc)])] _ _
 go_enter Tryz.func21,Tryz.ntmps21
 go_wp2_with (refine aC 27 _ rfl _ rfl rfl ?_)
 intro w1 bx hn1
 have aB:=show Hid (Cl w1 bx #[.int .i64 1,.string n,.string Ty.e0,.int .i64 0,.slice p nk kc] 27) from hn1.blk
 have aK:=show Hid _ from aU.out.then hn1.av
 have hgx:w.heap.size<=bx:=hn1.ge
 have iC:=show Hid (w.heap.size<=bx) from hgx
 clear hn1 aU hgx
 have x0:w1.cell? ⟨bx,0,none⟩=some (.int .i64 1):=Cl.cell aB.out 0
 have x1:w1.cell? ⟨bx,1,none⟩=some (.string n):=Cl.cell aB.out 1
 have x2:w1.cell? ⟨bx,2,none⟩=some (.string Ty.e0):=Cl.cell aB.out 2
 have x3:w1.cell? ⟨bx,3,none⟩=some (.int .i64 0):=Cl.cell aB.out 3
 have x4:w1.cell? ⟨bx,4,none⟩=some (.slice p nk kc):=Cl.cell aB.out 4
 go_wp2_with fail
 clear x0 x1 x2 x3 x4
 refine Calls.mono (KN.out w1 _ _ aK.out) ?_
 rintro e w2 ⟨hP2,hb2⟩
 have aA:=show Hid _ from Cl.later aB.out hb2
 have aJ:=show Hid _ from aK.out.then hb2
 clear aB aK KN hb2
 have aR:=show Hid _ from hP2
 clear hP2
 cases A0 with
 | no er wy=>
  obtain⟨q,rfl,hrf⟩:=aR.out
  have bq:=show Hid _ from hrf
  clear aR hrf
  have x0:w2.cell? ⟨bx,0,none⟩=some (.int .i64 1):=Cl.cell aA.out 0
  have x1:w2.cell? ⟨bx,1,none⟩=some (.string n):=Cl.cell aA.out 1
  have x2:w2.cell? ⟨bx,2,none⟩=some (.string Ty.e0):=Cl.cell aA.out 2
  have x3:w2.cell? ⟨bx,3,none⟩=some (.int .i64 0):=Cl.cell aA.out 3
  have x4:w2.cell? ⟨bx,4,none⟩=some (.slice p nk kc):=Cl.cell aA.out 4
  go_wp2_with fail
  go_ret2
  exact⟨_,by rw[aI.out];exact⟨q,rfl,bq.out⟩,aJ.out.mono (by have:=bA.out;omega)⟩
 | ok f=>
  obtain rfl:=aR.out
  clear aR
  have x0:w2.cell? ⟨bx,0,none⟩=some (.int .i64 1):=Cl.cell aA.out 0
  have x1:w2.cell? ⟨bx,1,none⟩=some (.string n):=Cl.cell aA.out 1
  have x2:w2.cell? ⟨bx,2,none⟩=some (.string Ty.e0):=Cl.cell aA.out 2
  have x3:w2.cell? ⟨bx,3,none⟩=some (.int .i64 0):=Cl.cell aA.out 3
  have x4:w2.cell? ⟨bx,4,none⟩=some (.slice p nk kc):=Cl.cell aA.out 4
  go_wp2_with fail
  go_ret2
  exact⟨_,by rw[aI.out];exact(show(_:Ending)=_ from rfl),aJ.out.mono (by have:=bA.out;omega)⟩
theorem NJ {B C m tb mt:Nat} {v:Value} {t:List Nd} {a:Ty.Tr} {n:ByteArray}  (w:World) {N:Nat} {g:Ty.Env} {wv sv:Value} {way:List Int} (_hT:fA w B tb mt v t) (h:Ck w B C m N (.pointer (some ⟨tb,0,none⟩)) g wv way) (hB:B<=w.heap.size) (hK:bg w B (Ty.Tr.lam n a).tm sv) (hG:Gt (Ty.Tr.lam n a).tm) (hn:N+4 * (Ty.Tr.lam n a).size<=90000000000000) (hw:way.length+(Ty.Tr.lam n a).size<=900000) :
 Calls Tryz.prog 21 #[.pointer (some ⟨C,0,none⟩),bL (Ty.Tr.lam n a).tm sv] w fun r w'=>∃ wv2,gT B w' r wv2 (Ty.told t (Ty.Tr.lam n a) g way)/\Af w w' B C m (N+4 * (Ty.Tr.lam n a).size) (.pointer (some ⟨tb,0,none⟩)) g wv wv2 way:=by
 obtain⟨p,nk,kc,rfl⟩:=hK.form
 obtain⟨dz,hgn,hgo,hgf⟩:=hG.parts
 have hgs:=hG.sub
 have HB0:=show Hid (∀ W n' wv',Af w W B C m n' (.pointer (some ⟨tb,0,none⟩)) g wv wv' way->Below B w W) from fun W n' wv' ha=>h.below ha.kp hB
 have aV:=show Hid (∀ W n' wv',Af w W B C m n' (.pointer (some ⟨tb,0,none⟩)) g wv wv' way->B<=W.heap.size) from fun W n' wv' ha=>Nat.le_trans hB ha.kp.size
 have hsz:(Ty.Tr.lam n a).size=a.size+1:=rfl
 have KR:=show Hid (∀ (W:World) (n':Nat) (wv':Value),Af w W B C m n' (.pointer (some ⟨tb,0,none⟩)) g wv wv' way->Calls Tryz.prog 39 #[.pointer (some ⟨C,0,none⟩),.int .i64 132] W fun r w'=>∃ q,r=.returned (.iface 113 (.pointer (some ⟨q,0,none⟩)))/\Rf w' B q 132 way wv'/\Below W.heap.size W w') from fun W n' wv' ha=>eY W ha.ck (by omega) (aV.out W n' wv' ha) 132
 have bA:=show Hid ((Ty.Tr.lam n a).size=a.size+1/\N+4 * (Ty.Tr.lam n a).size<=90000000000000) from⟨hsz,hn⟩
 have aI:=show Hid (Ty.told t (Ty.Tr.lam n a) g way=.no 132 way) from rfl
 generalize Ty.told t (Ty.Tr.lam n a) g way=ANS at *
 clear hsz hn HB0 aV
 have aU:=show Hid (Af w w B C m N (.pointer (some ⟨tb,0,none⟩)) g wv wv way) from Af.refl h
 have hq1:=cu
 have hq2:=cK
 clear hK h _hT hG hgs dz hgn hgo hgf hw hB
 show Calls _ _ #[.pointer (some ⟨C,0,none⟩),(.agg #[.int .i64 2,.string n,.string Ty.e0,.int .i64 0,(.slice p nk kc)])] _ _
 go_enter Tryz.func21,Tryz.ntmps21
 go_wp2_with (refine aC 27 _ rfl _ rfl rfl ?_)
 intro w1 bx hn1
 have aB:=show Hid (Cl w1 bx #[.int .i64 2,.string n,.string Ty.e0,.int .i64 0,.slice p nk kc] 27) from hn1.blk
 have aK:=show Hid _ from aU.out.then hn1.av
 have hgx:w.heap.size<=bx:=hn1.ge
 have iC:=show Hid (w.heap.size<=bx) from hgx
 clear hn1 aU hgx
 have x0:w1.cell? ⟨bx,0,none⟩=some (.int .i64 2):=Cl.cell aB.out 0
 have x1:w1.cell? ⟨bx,1,none⟩=some (.string n):=Cl.cell aB.out 1
 have x2:w1.cell? ⟨bx,2,none⟩=some (.string Ty.e0):=Cl.cell aB.out 2
 have x3:w1.cell? ⟨bx,3,none⟩=some (.int .i64 0):=Cl.cell aB.out 3
 have x4:w1.cell? ⟨bx,4,none⟩=some (.slice p nk kc):=Cl.cell aB.out 4
 go_wp2_with fail
 clear x0 x1 x2 x3 x4
 refine Calls.mono (KR.out w1 _ _ aK.out) ?_
 rintro e w2 ⟨q,rfl,hrf,hb2⟩
 have aA:=show Hid _ from Cl.later aB.out hb2
 have aJ:=show Hid _ from aK.out.then hb2
 clear aB aK KR hb2
 have bq:=show Hid _ from hrf
 clear hrf
 go_wp2_with fail
 go_ret2
 exact⟨_,by rw[aI.out];exact⟨q,rfl,bq.out⟩,aJ.out.mono (by have:=bA.out;omega)⟩
theorem Kq {B C m tb mt:Nat} {v:Value} {t:List Nd} {a:Ty.Tr} {b:Ty.Tr}   (w:World) {N:Nat} {g:Ty.Env} {wv sv:Value} {way:List Int} (_hT:fA w B tb mt v t) (h:Ck w B C m N (.pointer (some ⟨tb,0,none⟩)) g wv way) (hB:B<=w.heap.size) (hK:bg w B (Ty.Tr.pair a b).tm sv) (hG:Gt (Ty.Tr.pair a b).tm) (hn:N+4 * (Ty.Tr.pair a b).size<=90000000000000) (hw:way.length+(Ty.Tr.pair a b).size<=900000) :
 Calls Tryz.prog 21 #[.pointer (some ⟨C,0,none⟩),bL (Ty.Tr.pair a b).tm sv] w fun r w'=>∃ wv2,gT B w' r wv2 (Ty.told t (Ty.Tr.pair a b) g way)/\Af w w' B C m (N+4 * (Ty.Tr.pair a b).size) (.pointer (some ⟨tb,0,none⟩)) g wv wv2 way:=by
 obtain⟨p,nk,kc,rfl⟩:=hK.form
 obtain⟨dz,hgn,hgo,hgf⟩:=hG.parts
 have hgs:=hG.sub
 have HB0:=show Hid (∀ W n' wv',Af w W B C m n' (.pointer (some ⟨tb,0,none⟩)) g wv wv' way->Below B w W) from fun W n' wv' ha=>h.below ha.kp hB
 have aV:=show Hid (∀ W n' wv',Af w W B C m n' (.pointer (some ⟨tb,0,none⟩)) g wv wv' way->B<=W.heap.size) from fun W n' wv' ha=>Nat.le_trans hB ha.kp.size
 have hsz:(Ty.Tr.pair a b).size=a.size+b.size+1:=rfl
 have KR:=show Hid (∀ (W:World) (n':Nat) (wv':Value),Af w W B C m n' (.pointer (some ⟨tb,0,none⟩)) g wv wv' way->Calls Tryz.prog 39 #[.pointer (some ⟨C,0,none⟩),.int .i64 132] W fun r w'=>∃ q,r=.returned (.iface 113 (.pointer (some ⟨q,0,none⟩)))/\Rf w' B q 132 way wv'/\Below W.heap.size W w') from fun W n' wv' ha=>eY W ha.ck (by omega) (aV.out W n' wv' ha) 132
 have bA:=show Hid ((Ty.Tr.pair a b).size=a.size+b.size+1/\N+4 * (Ty.Tr.pair a b).size<=90000000000000) from⟨hsz,hn⟩
 have aI:=show Hid (Ty.told t (Ty.Tr.pair a b) g way=.no 132 way) from rfl
 generalize Ty.told t (Ty.Tr.pair a b) g way=ANS at *
 clear hsz hn HB0 aV
 have aU:=show Hid (Af w w B C m N (.pointer (some ⟨tb,0,none⟩)) g wv wv way) from Af.refl h
 have hq1:=cu
 have hq2:=cK
 clear hK h _hT hG hgs dz hgn hgo hgf hw hB
 show Calls _ _ #[.pointer (some ⟨C,0,none⟩),(.agg #[.int .i64 4,.string Ty.e0,.string Ty.e0,.int .i64 0,(.slice p nk kc)])] _ _
 go_enter Tryz.func21,Tryz.ntmps21
 go_wp2_with (refine aC 27 _ rfl _ rfl rfl ?_)
 intro w1 bx hn1
 have aB:=show Hid (Cl w1 bx #[.int .i64 4,.string Ty.e0,.string Ty.e0,.int .i64 0,.slice p nk kc] 27) from hn1.blk
 have aK:=show Hid _ from aU.out.then hn1.av
 have hgx:w.heap.size<=bx:=hn1.ge
 have iC:=show Hid (w.heap.size<=bx) from hgx
 clear hn1 aU hgx
 have x0:w1.cell? ⟨bx,0,none⟩=some (.int .i64 4):=Cl.cell aB.out 0
 have x1:w1.cell? ⟨bx,1,none⟩=some (.string Ty.e0):=Cl.cell aB.out 1
 have x2:w1.cell? ⟨bx,2,none⟩=some (.string Ty.e0):=Cl.cell aB.out 2
 have x3:w1.cell? ⟨bx,3,none⟩=some (.int .i64 0):=Cl.cell aB.out 3
 have x4:w1.cell? ⟨bx,4,none⟩=some (.slice p nk kc):=Cl.cell aB.out 4
 go_wp2_with fail
 clear x0 x1 x2 x3 x4
 refine Calls.mono (KR.out w1 _ _ aK.out) ?_
 rintro e w2 ⟨q,rfl,hrf,hb2⟩
 have aA:=show Hid _ from Cl.later aB.out hb2
 have aJ:=show Hid _ from aK.out.then hb2
 clear aB aK KR hb2
 have bq:=show Hid _ from hrf
 clear hrf
 go_wp2_with fail
 go_ret2
 exact⟨_,by rw[aI.out];exact⟨q,rfl,bq.out⟩,aJ.out.mono (by have:=bA.out;omega)⟩
theorem NK {B C m tb mt:Nat} {v:Value} {t:List Nd} {a:Ty.Tr}   (w:World) {N:Nat} {g:Ty.Env} {wv sv:Value} {way:List Int} (_hT:fA w B tb mt v t) (h:Ck w B C m N (.pointer (some ⟨tb,0,none⟩)) g wv way) (hB:B<=w.heap.size) (hK:bg w B (Ty.Tr.inl a).tm sv) (hG:Gt (Ty.Tr.inl a).tm) (hn:N+4 * (Ty.Tr.inl a).size<=90000000000000) (hw:way.length+(Ty.Tr.inl a).size<=900000) :
 Calls Tryz.prog 21 #[.pointer (some ⟨C,0,none⟩),bL (Ty.Tr.inl a).tm sv] w fun r w'=>∃ wv2,gT B w' r wv2 (Ty.told t (Ty.Tr.inl a) g way)/\Af w w' B C m (N+4 * (Ty.Tr.inl a).size) (.pointer (some ⟨tb,0,none⟩)) g wv wv2 way:=by
 obtain⟨p,nk,kc,rfl⟩:=hK.form
 obtain⟨dz,hgn,hgo,hgf⟩:=hG.parts
 have hgs:=hG.sub
 have HB0:=show Hid (∀ W n' wv',Af w W B C m n' (.pointer (some ⟨tb,0,none⟩)) g wv wv' way->Below B w W) from fun W n' wv' ha=>h.below ha.kp hB
 have aV:=show Hid (∀ W n' wv',Af w W B C m n' (.pointer (some ⟨tb,0,none⟩)) g wv wv' way->B<=W.heap.size) from fun W n' wv' ha=>Nat.le_trans hB ha.kp.size
 have hsz:(Ty.Tr.inl a).size=a.size+1:=rfl
 have KR:=show Hid (∀ (W:World) (n':Nat) (wv':Value),Af w W B C m n' (.pointer (some ⟨tb,0,none⟩)) g wv wv' way->Calls Tryz.prog 39 #[.pointer (some ⟨C,0,none⟩),.int .i64 132] W fun r w'=>∃ q,r=.returned (.iface 113 (.pointer (some ⟨q,0,none⟩)))/\Rf w' B q 132 way wv'/\Below W.heap.size W w') from fun W n' wv' ha=>eY W ha.ck (by omega) (aV.out W n' wv' ha) 132
 have bA:=show Hid ((Ty.Tr.inl a).size=a.size+1/\N+4 * (Ty.Tr.inl a).size<=90000000000000) from⟨hsz,hn⟩
 have aI:=show Hid (Ty.told t (Ty.Tr.inl a) g way=.no 132 way) from rfl
 generalize Ty.told t (Ty.Tr.inl a) g way=ANS at *
 clear hsz hn HB0 aV
 have aU:=show Hid (Af w w B C m N (.pointer (some ⟨tb,0,none⟩)) g wv wv way) from Af.refl h
 have hq1:=cu
 have hq2:=cK
 clear hK h _hT hG hgs dz hgn hgo hgf hw hB
 show Calls _ _ #[.pointer (some ⟨C,0,none⟩),(.agg #[.int .i64 7,.string Ty.e0,.string Ty.e0,.int .i64 0,(.slice p nk kc)])] _ _
 go_enter Tryz.func21,Tryz.ntmps21
 go_wp2_with (refine aC 27 _ rfl _ rfl rfl ?_)
 intro w1 bx hn1
 have aB:=show Hid (Cl w1 bx #[.int .i64 7,.string Ty.e0,.string Ty.e0,.int .i64 0,.slice p nk kc] 27) from hn1.blk
 have aK:=show Hid _ from aU.out.then hn1.av
 have hgx:w.heap.size<=bx:=hn1.ge
 have iC:=show Hid (w.heap.size<=bx) from hgx
 clear hn1 aU hgx
 have x0:w1.cell? ⟨bx,0,none⟩=some (.int .i64 7):=Cl.cell aB.out 0
 have x1:w1.cell? ⟨bx,1,none⟩=some (.string Ty.e0):=Cl.cell aB.out 1
 have x2:w1.cell? ⟨bx,2,none⟩=some (.string Ty.e0):=Cl.cell aB.out 2
 have x3:w1.cell? ⟨bx,3,none⟩=some (.int .i64 0):=Cl.cell aB.out 3
 have x4:w1.cell? ⟨bx,4,none⟩=some (.slice p nk kc):=Cl.cell aB.out 4
 go_wp2_with fail
 clear x0 x1 x2 x3 x4
 refine Calls.mono (KR.out w1 _ _ aK.out) ?_
 rintro e w2 ⟨q,rfl,hrf,hb2⟩
 have aA:=show Hid _ from Cl.later aB.out hb2
 have aJ:=show Hid _ from aK.out.then hb2
 clear aB aK KR hb2
 have bq:=show Hid _ from hrf
 clear hrf
 go_wp2_with fail
 go_ret2
 exact⟨_,by rw[aI.out];exact⟨q,rfl,bq.out⟩,aJ.out.mono (by have:=bA.out;omega)⟩
theorem NM {B C m tb mt:Nat} {v:Value} {t:List Nd} {a:Ty.Tr}   (w:World) {N:Nat} {g:Ty.Env} {wv sv:Value} {way:List Int} (_hT:fA w B tb mt v t) (h:Ck w B C m N (.pointer (some ⟨tb,0,none⟩)) g wv way) (hB:B<=w.heap.size) (hK:bg w B (Ty.Tr.inr a).tm sv) (hG:Gt (Ty.Tr.inr a).tm) (hn:N+4 * (Ty.Tr.inr a).size<=90000000000000) (hw:way.length+(Ty.Tr.inr a).size<=900000) :
 Calls Tryz.prog 21 #[.pointer (some ⟨C,0,none⟩),bL (Ty.Tr.inr a).tm sv] w fun r w'=>∃ wv2,gT B w' r wv2 (Ty.told t (Ty.Tr.inr a) g way)/\Af w w' B C m (N+4 * (Ty.Tr.inr a).size) (.pointer (some ⟨tb,0,none⟩)) g wv wv2 way:=by
 obtain⟨p,nk,kc,rfl⟩:=hK.form
 obtain⟨dz,hgn,hgo,hgf⟩:=hG.parts
 have hgs:=hG.sub
 have HB0:=show Hid (∀ W n' wv',Af w W B C m n' (.pointer (some ⟨tb,0,none⟩)) g wv wv' way->Below B w W) from fun W n' wv' ha=>h.below ha.kp hB
 have aV:=show Hid (∀ W n' wv',Af w W B C m n' (.pointer (some ⟨tb,0,none⟩)) g wv wv' way->B<=W.heap.size) from fun W n' wv' ha=>Nat.le_trans hB ha.kp.size
 have hsz:(Ty.Tr.inr a).size=a.size+1:=rfl
 have KR:=show Hid (∀ (W:World) (n':Nat) (wv':Value),Af w W B C m n' (.pointer (some ⟨tb,0,none⟩)) g wv wv' way->Calls Tryz.prog 39 #[.pointer (some ⟨C,0,none⟩),.int .i64 132] W fun r w'=>∃ q,r=.returned (.iface 113 (.pointer (some ⟨q,0,none⟩)))/\Rf w' B q 132 way wv'/\Below W.heap.size W w') from fun W n' wv' ha=>eY W ha.ck (by omega) (aV.out W n' wv' ha) 132
 have bA:=show Hid ((Ty.Tr.inr a).size=a.size+1/\N+4 * (Ty.Tr.inr a).size<=90000000000000) from⟨hsz,hn⟩
 have aI:=show Hid (Ty.told t (Ty.Tr.inr a) g way=.no 132 way) from rfl
 generalize Ty.told t (Ty.Tr.inr a) g way=ANS at *
 clear hsz hn HB0 aV
 have aU:=show Hid (Af w w B C m N (.pointer (some ⟨tb,0,none⟩)) g wv wv way) from Af.refl h
 have hq1:=cu
 have hq2:=cK
 clear hK h _hT hG hgs dz hgn hgo hgf hw hB
 show Calls _ _ #[.pointer (some ⟨C,0,none⟩),(.agg #[.int .i64 8,.string Ty.e0,.string Ty.e0,.int .i64 0,(.slice p nk kc)])] _ _
 go_enter Tryz.func21,Tryz.ntmps21
 go_wp2_with (refine aC 27 _ rfl _ rfl rfl ?_)
 intro w1 bx hn1
 have aB:=show Hid (Cl w1 bx #[.int .i64 8,.string Ty.e0,.string Ty.e0,.int .i64 0,.slice p nk kc] 27) from hn1.blk
 have aK:=show Hid _ from aU.out.then hn1.av
 have hgx:w.heap.size<=bx:=hn1.ge
 have iC:=show Hid (w.heap.size<=bx) from hgx
 clear hn1 aU hgx
 have x0:w1.cell? ⟨bx,0,none⟩=some (.int .i64 8):=Cl.cell aB.out 0
 have x1:w1.cell? ⟨bx,1,none⟩=some (.string Ty.e0):=Cl.cell aB.out 1
 have x2:w1.cell? ⟨bx,2,none⟩=some (.string Ty.e0):=Cl.cell aB.out 2
 have x3:w1.cell? ⟨bx,3,none⟩=some (.int .i64 0):=Cl.cell aB.out 3
 have x4:w1.cell? ⟨bx,4,none⟩=some (.slice p nk kc):=Cl.cell aB.out 4
 go_wp2_with fail
 clear x0 x1 x2 x3 x4
 refine Calls.mono (KR.out w1 _ _ aK.out) ?_
 rintro e w2 ⟨q,rfl,hrf,hb2⟩
 have aA:=show Hid _ from Cl.later aB.out hb2
 have aJ:=show Hid _ from aK.out.then hb2
 clear aB aK KR hb2
 have bq:=show Hid _ from hrf
 clear hrf
 go_wp2_with fail
 go_ret2
 exact⟨_,by rw[aI.out];exact⟨q,rfl,bq.out⟩,aJ.out.mono (by have:=bA.out;omega)⟩
theorem NP {B C m tb mt:Nat} {v:Value} {t:List Nd} {a:Ty.Tr}   (w:World) {N:Nat} {g:Ty.Env} {wv sv:Value} {way:List Int} (_hT:fA w B tb mt v t) (h:Ck w B C m N (.pointer (some ⟨tb,0,none⟩)) g wv way) (hB:B<=w.heap.size) (hK:bg w B (Ty.Tr.iN a).tm sv) (hG:Gt (Ty.Tr.iN a).tm) (hn:N+4 * (Ty.Tr.iN a).size<=90000000000000) (hw:way.length+(Ty.Tr.iN a).size<=900000) :
 Calls Tryz.prog 21 #[.pointer (some ⟨C,0,none⟩),bL (Ty.Tr.iN a).tm sv] w fun r w'=>∃ wv2,gT B w' r wv2 (Ty.told t (Ty.Tr.iN a) g way)/\Af w w' B C m (N+4 * (Ty.Tr.iN a).size) (.pointer (some ⟨tb,0,none⟩)) g wv wv2 way:=by
 obtain⟨p,nk,kc,rfl⟩:=hK.form
 obtain⟨dz,hgn,hgo,hgf⟩:=hG.parts
 have hgs:=hG.sub
 have HB0:=show Hid (∀ W n' wv',Af w W B C m n' (.pointer (some ⟨tb,0,none⟩)) g wv wv' way->Below B w W) from fun W n' wv' ha=>h.below ha.kp hB
 have aV:=show Hid (∀ W n' wv',Af w W B C m n' (.pointer (some ⟨tb,0,none⟩)) g wv wv' way->B<=W.heap.size) from fun W n' wv' ha=>Nat.le_trans hB ha.kp.size
 have hsz:(Ty.Tr.iN a).size=a.size+1:=rfl
 have KR:=show Hid (∀ (W:World) (n':Nat) (wv':Value),Af w W B C m n' (.pointer (some ⟨tb,0,none⟩)) g wv wv' way->Calls Tryz.prog 39 #[.pointer (some ⟨C,0,none⟩),.int .i64 132] W fun r w'=>∃ q,r=.returned (.iface 113 (.pointer (some ⟨q,0,none⟩)))/\Rf w' B q 132 way wv'/\Below W.heap.size W w') from fun W n' wv' ha=>eY W ha.ck (by omega) (aV.out W n' wv' ha) 132
 have bA:=show Hid ((Ty.Tr.iN a).size=a.size+1/\N+4 * (Ty.Tr.iN a).size<=90000000000000) from⟨hsz,hn⟩
 have aI:=show Hid (Ty.told t (Ty.Tr.iN a) g way=.no 132 way) from rfl
 generalize Ty.told t (Ty.Tr.iN a) g way=ANS at *
 clear hsz hn HB0 aV
 have aU:=show Hid (Af w w B C m N (.pointer (some ⟨tb,0,none⟩)) g wv wv way) from Af.refl h
 have hq1:=cu
 have hq2:=cK
 clear hK h _hT hG hgs dz hgn hgo hgf hw hB
 show Calls _ _ #[.pointer (some ⟨C,0,none⟩),(.agg #[.int .i64 10,.string Ty.e0,.string Ty.e0,.int .i64 0,(.slice p nk kc)])] _ _
 go_enter Tryz.func21,Tryz.ntmps21
 go_wp2_with (refine aC 27 _ rfl _ rfl rfl ?_)
 intro w1 bx hn1
 have aB:=show Hid (Cl w1 bx #[.int .i64 10,.string Ty.e0,.string Ty.e0,.int .i64 0,.slice p nk kc] 27) from hn1.blk
 have aK:=show Hid _ from aU.out.then hn1.av
 have hgx:w.heap.size<=bx:=hn1.ge
 have iC:=show Hid (w.heap.size<=bx) from hgx
 clear hn1 aU hgx
 have x0:w1.cell? ⟨bx,0,none⟩=some (.int .i64 10):=Cl.cell aB.out 0
 have x1:w1.cell? ⟨bx,1,none⟩=some (.string Ty.e0):=Cl.cell aB.out 1
 have x2:w1.cell? ⟨bx,2,none⟩=some (.string Ty.e0):=Cl.cell aB.out 2
 have x3:w1.cell? ⟨bx,3,none⟩=some (.int .i64 0):=Cl.cell aB.out 3
 have x4:w1.cell? ⟨bx,4,none⟩=some (.slice p nk kc):=Cl.cell aB.out 4
 go_wp2_with fail
 clear x0 x1 x2 x3 x4
 refine Calls.mono (KR.out w1 _ _ aK.out) ?_
 rintro e w2 ⟨q,rfl,hrf,hb2⟩
 have aA:=show Hid _ from Cl.later aB.out hb2
 have aJ:=show Hid _ from aK.out.then hb2
 clear aB aK KR hb2
 have bq:=show Hid _ from hrf
 clear hrf
 go_wp2_with fail
 go_ret2
 exact⟨_,by rw[aI.out];exact⟨q,rfl,bq.out⟩,aJ.out.mono (by have:=bA.out;omega)⟩
theorem CW {B C m tb mt:Nat} {v:Value} {t:List Nd} {a:Ty.Tr}  (eU:iJ B C m tb mt v t a) (w:World) {N:Nat} {g:Ty.Env} {wv sv:Value} {way:List Int} (hT:fA w B tb mt v t) (h:Ck w B C m N (.pointer (some ⟨tb,0,none⟩)) g wv way) (hB:B<=w.heap.size) (hK:bg w B (Ty.Tr.fst a).tm sv) (hG:Gt (Ty.Tr.fst a).tm) (hn:N+4 * (Ty.Tr.fst a).size<=90000000000000) (hw:way.length+(Ty.Tr.fst a).size<=900000) :
 Calls Tryz.prog 21 #[.pointer (some ⟨C,0,none⟩),bL (Ty.Tr.fst a).tm sv] w fun r w'=>∃ wv2,gT B w' r wv2 (Ty.told t (Ty.Tr.fst a) g way)/\Af w w' B C m (N+4 * (Ty.Tr.fst a).size) (.pointer (some ⟨tb,0,none⟩)) g wv wv2 way:=by
 obtain⟨p,nk,kc,rfl⟩:=hK.form
 obtain⟨dz,hgn,hgo,hgf⟩:=hG.parts
 have hgs:=hG.sub
 have HB0:=show Hid (∀ W n' wv',Af w W B C m n' (.pointer (some ⟨tb,0,none⟩)) g wv wv' way->Below B w W) from fun W n' wv' ha=>h.below ha.kp hB
 have aV:=show Hid (∀ W n' wv',Af w W B C m n' (.pointer (some ⟨tb,0,none⟩)) g wv wv' way->B<=W.heap.size) from fun W n' wv' ha=>Nat.le_trans hB ha.kp.size
 have hsz:(Ty.Tr.fst a).size=a.size+1:=rfl
 have KJ:=show Hid (∀ (W:World) (n':Nat) (wv':Value),Af w W B C m n' (.pointer (some ⟨tb,0,none⟩)) g wv wv' way->n'+4 * a.size<=90000000000000->Calls Tryz.prog 46 #[.pointer (some ⟨C,0,none⟩),(.agg #[.int .i64 5,.string Ty.e0,.string Ty.e0,.int .i64 0,(.slice p nk kc)]),.int .i64 3] W fun r w'=>∃ wv2,uY B w' r wv2 (iK t way 3 (Ty.told t a g (way ++ [0])))/\Af W w' B C m (n'+4 * a.size) (.pointer (some ⟨tb,0,none⟩)) g wv' wv2 way) from fun W n' wv' ha hn'=>jq eU W (show 0<(Ty.Tr.fst a).tm.sub.length from by simp[Ty.Tr.tm,Tm.sub]) rfl (hT.later (HB0.out W n' wv' ha)) ha.ck (aV.out W n' wv' ha) (hK.below (HB0.out W n' wv' ha)) hG hn' (by omega) 3
 have bA:=show Hid ((Ty.Tr.fst a).size=a.size+1/\N+4 * (Ty.Tr.fst a).size<=90000000000000) from⟨hsz,hn⟩
 have aI:=show Hid (Ty.told t (Ty.Tr.fst a) g way=match iK t way 3 (Ty.told t a g (way ++ [0])) with | .error e=>.no e.1 e.2 | .ok d=>.ok d.l) from pz t way 3 _ _
 generalize iK t way 3 (Ty.told t a g (way ++ [0]))=J at *
 generalize Ty.told t (Ty.Tr.fst a) g way=ANS at *
 clear hsz hn HB0 aV
 have aU:=show Hid (Af w w B C m N (.pointer (some ⟨tb,0,none⟩)) g wv wv way) from Af.refl h
 have hq1:=cu
 have hq2:=cK
 clear hK h hT hG hgs dz hgn hgo hgf hw hB eU
 show Calls _ _ #[.pointer (some ⟨C,0,none⟩),(.agg #[.int .i64 5,.string Ty.e0,.string Ty.e0,.int .i64 0,(.slice p nk kc)])] _ _
 go_enter Tryz.func21,Tryz.ntmps21
 go_wp2_with (refine aC 27 _ rfl _ rfl rfl ?_)
 intro w1 bx hn1
 have aB:=show Hid (Cl w1 bx #[.int .i64 5,.string Ty.e0,.string Ty.e0,.int .i64 0,.slice p nk kc] 27) from hn1.blk
 have aK:=show Hid _ from aU.out.then hn1.av
 have hgx:w.heap.size<=bx:=hn1.ge
 have iC:=show Hid (w.heap.size<=bx) from hgx
 clear hn1 aU hgx
 have x0:w1.cell? ⟨bx,0,none⟩=some (.int .i64 5):=Cl.cell aB.out 0
 have x1:w1.cell? ⟨bx,1,none⟩=some (.string Ty.e0):=Cl.cell aB.out 1
 have x2:w1.cell? ⟨bx,2,none⟩=some (.string Ty.e0):=Cl.cell aB.out 2
 have x3:w1.cell? ⟨bx,3,none⟩=some (.int .i64 0):=Cl.cell aB.out 3
 have x4:w1.cell? ⟨bx,4,none⟩=some (.slice p nk kc):=Cl.cell aB.out 4
 go_wp2_with fail
 clear x0 x1 x2 x3 x4
 refine Calls.mono (KJ.out w1 _ _ aK.out (by have:=bA.out;omega)) ?_
 rintro e w2 ⟨wv2,hP2,aT⟩
 have aA:=show Hid _ from Cl.af aB.out aK.out.ck aT.kp (by decide) (by decide)
 have aJ:=show Hid _ from aK.out.trans aT
 have aR:=show Hid _ from hP2
 clear hP2 aT aB aK KJ
 cases J with
 | error er=>
  obtain⟨q,rfl,hrf⟩:=aR.out
  have kG:=show Hid _ from hrf
  have HA:=show Hid (ANS=.no er.1 er.2) from aI.out
  clear aR hrf aI
  unfold dY
  go_wp2_with (refine aN 67 rfl _ dR rfl ?_)
  intro w3 bC aL
  go_wp2_with (refine aQ 67 rfl rfl _ _ rfl bC rfl _ rfl _ _ aL.blk dx rfl (dH Fm.z) ?_)
  intro w4 hc4 hk4
  have hge4:w.heap.size<=bC:=Nat.le_trans aJ.out.kp.size aL.ge
  have bQ:=show Hid _ from(aJ.out.then aL.av).own aL.blk (by decide) (by decide) hk4 hge4
  have dA:=show Hid _ from Cl.kp (Cl.new aA.out aL) hk4 (by have:=Cl.lt aA.out;have:=aL.ge;omega)
  have dQ:=show Hid (Cl w4 bC #[.int .i64 (Fm.z).k,.string (Fm.z).s,.int .i64 (Fm.z).l,.int .i64 (Fm.z).r] 67) from hc4
  have bq:=show Hid _ from(kG.out.later aL.av).other aL.blk (by decide) (by decide) hk4
  clear aL hc4 hk4 hge4 aA aJ
  have y2:w4.cell? ⟨bC,2,none⟩=some (.int .i64 0):=Cl.cell dQ.out 2
  have y3:w4.cell? ⟨bC,3,none⟩=some (.int .i64 0):=Cl.cell dQ.out 3
  go_wp2_with fail
  go_ret2
  exact⟨_,by rw[HA.out];exact⟨q,rfl,bq.out⟩,bQ.out.mono (by have:=bA.out;omega)⟩
 | ok d=>
  obtain rfl:=aR.out
  have HA:=show Hid (ANS=.ok d.l) from aI.out
  clear aR aI
  unfold dY
  go_wp2_with (refine aN 67 rfl _ dR rfl ?_)
  intro w3 bC aL
  go_wp2_with (refine aQ 67 rfl rfl _ _ rfl bC rfl _ rfl _ _ aL.blk dx rfl (dH d) ?_)
  intro w4 hc4 hk4
  have hge4:w.heap.size<=bC:=Nat.le_trans aJ.out.kp.size aL.ge
  have bQ:=show Hid _ from(aJ.out.then aL.av).own aL.blk (by decide) (by decide) hk4 hge4
  have dA:=show Hid _ from Cl.kp (Cl.new aA.out aL) hk4 (by have:=Cl.lt aA.out;have:=aL.ge;omega)
  have dQ:=show Hid (Cl w4 bC #[.int .i64 (d).k,.string (d).s,.int .i64 (d).l,.int .i64 (d).r] 67) from hc4
  clear aL hc4 hk4 hge4 aA aJ
  have x0:w4.cell? ⟨bx,0,none⟩=some (.int .i64 5):=Cl.cell dA.out 0
  have x1:w4.cell? ⟨bx,1,none⟩=some (.string Ty.e0):=Cl.cell dA.out 1
  have x2:w4.cell? ⟨bx,2,none⟩=some (.string Ty.e0):=Cl.cell dA.out 2
  have x3:w4.cell? ⟨bx,3,none⟩=some (.int .i64 0):=Cl.cell dA.out 3
  have x4:w4.cell? ⟨bx,4,none⟩=some (.slice p nk kc):=Cl.cell dA.out 4
  have y2:w4.cell? ⟨bC,2,none⟩=some (.int .i64 d.l):=Cl.cell dQ.out 2
  have y3:w4.cell? ⟨bC,3,none⟩=some (.int .i64 d.r):=Cl.cell dQ.out 3
  go_wp2_with fail
  go_ret2
  exact⟨_,by rw[HA.out];exact(show(_:Ending)=_ from rfl),bQ.out.mono (by have:=bA.out;omega)⟩
theorem CX {B C m tb mt:Nat} {v:Value} {t:List Nd} {a:Ty.Tr}  (eU:iJ B C m tb mt v t a) (w:World) {N:Nat} {g:Ty.Env} {wv sv:Value} {way:List Int} (hT:fA w B tb mt v t) (h:Ck w B C m N (.pointer (some ⟨tb,0,none⟩)) g wv way) (hB:B<=w.heap.size) (hK:bg w B (Ty.Tr.snd a).tm sv) (hG:Gt (Ty.Tr.snd a).tm) (hn:N+4 * (Ty.Tr.snd a).size<=90000000000000) (hw:way.length+(Ty.Tr.snd a).size<=900000) :
 Calls Tryz.prog 21 #[.pointer (some ⟨C,0,none⟩),bL (Ty.Tr.snd a).tm sv] w fun r w'=>∃ wv2,gT B w' r wv2 (Ty.told t (Ty.Tr.snd a) g way)/\Af w w' B C m (N+4 * (Ty.Tr.snd a).size) (.pointer (some ⟨tb,0,none⟩)) g wv wv2 way:=by
 obtain⟨p,nk,kc,rfl⟩:=hK.form
 obtain⟨dz,hgn,hgo,hgf⟩:=hG.parts
 have hgs:=hG.sub
 have HB0:=show Hid (∀ W n' wv',Af w W B C m n' (.pointer (some ⟨tb,0,none⟩)) g wv wv' way->Below B w W) from fun W n' wv' ha=>h.below ha.kp hB
 have aV:=show Hid (∀ W n' wv',Af w W B C m n' (.pointer (some ⟨tb,0,none⟩)) g wv wv' way->B<=W.heap.size) from fun W n' wv' ha=>Nat.le_trans hB ha.kp.size
 have hsz:(Ty.Tr.snd a).size=a.size+1:=rfl
 have KJ:=show Hid (∀ (W:World) (n':Nat) (wv':Value),Af w W B C m n' (.pointer (some ⟨tb,0,none⟩)) g wv wv' way->n'+4 * a.size<=90000000000000->Calls Tryz.prog 46 #[.pointer (some ⟨C,0,none⟩),(.agg #[.int .i64 6,.string Ty.e0,.string Ty.e0,.int .i64 0,(.slice p nk kc)]),.int .i64 3] W fun r w'=>∃ wv2,uY B w' r wv2 (iK t way 3 (Ty.told t a g (way ++ [0])))/\Af W w' B C m (n'+4 * a.size) (.pointer (some ⟨tb,0,none⟩)) g wv' wv2 way) from fun W n' wv' ha hn'=>jq eU W (show 0<(Ty.Tr.snd a).tm.sub.length from by simp[Ty.Tr.tm,Tm.sub]) rfl (hT.later (HB0.out W n' wv' ha)) ha.ck (aV.out W n' wv' ha) (hK.below (HB0.out W n' wv' ha)) hG hn' (by omega) 3
 have bA:=show Hid ((Ty.Tr.snd a).size=a.size+1/\N+4 * (Ty.Tr.snd a).size<=90000000000000) from⟨hsz,hn⟩
 have aI:=show Hid (Ty.told t (Ty.Tr.snd a) g way=match iK t way 3 (Ty.told t a g (way ++ [0])) with | .error e=>.no e.1 e.2 | .ok d=>.ok d.r) from pz t way 3 _ _
 generalize iK t way 3 (Ty.told t a g (way ++ [0]))=J at *
 generalize Ty.told t (Ty.Tr.snd a) g way=ANS at *
 clear hsz hn HB0 aV
 have aU:=show Hid (Af w w B C m N (.pointer (some ⟨tb,0,none⟩)) g wv wv way) from Af.refl h
 have hq1:=cu
 have hq2:=cK
 clear hK h hT hG hgs dz hgn hgo hgf hw hB eU
 show Calls _ _ #[.pointer (some ⟨C,0,none⟩),(.agg #[.int .i64 6,.string Ty.e0,.string Ty.e0,.int .i64 0,(.slice p nk kc)])] _ _
 go_enter Tryz.func21,Tryz.ntmps21
 go_wp2_with (refine aC 27 _ rfl _ rfl rfl ?_)
 intro w1 bx hn1
 have aB:=show Hid (Cl w1 bx #[.int .i64 6,.string Ty.e0,.string Ty.e0,.int .i64 0,.slice p nk kc] 27) from hn1.blk
 have aK:=show Hid _ from aU.out.then hn1.av
 have hgx:w.heap.size<=bx:=hn1.ge
 have iC:=show Hid (w.heap.size<=bx) from hgx
 clear hn1 aU hgx
 have x0:w1.cell? ⟨bx,0,none⟩=some (.int .i64 6):=Cl.cell aB.out 0
 have x1:w1.cell? ⟨bx,1,none⟩=some (.string Ty.e0):=Cl.cell aB.out 1
 have x2:w1.cell? ⟨bx,2,none⟩=some (.string Ty.e0):=Cl.cell aB.out 2
 have x3:w1.cell? ⟨bx,3,none⟩=some (.int .i64 0):=Cl.cell aB.out 3
 have x4:w1.cell? ⟨bx,4,none⟩=some (.slice p nk kc):=Cl.cell aB.out 4
 go_wp2_with fail
 clear x0 x1 x2 x3 x4
 refine Calls.mono (KJ.out w1 _ _ aK.out (by have:=bA.out;omega)) ?_
 rintro e w2 ⟨wv2,hP2,aT⟩
 have aA:=show Hid _ from Cl.af aB.out aK.out.ck aT.kp (by decide) (by decide)
 have aJ:=show Hid _ from aK.out.trans aT
 have aR:=show Hid _ from hP2
 clear hP2 aT aB aK KJ
 cases J with
 | error er=>
  obtain⟨q,rfl,hrf⟩:=aR.out
  have kG:=show Hid _ from hrf
  have HA:=show Hid (ANS=.no er.1 er.2) from aI.out
  clear aR hrf aI
  unfold dY
  go_wp2_with (refine aN 67 rfl _ dR rfl ?_)
  intro w3 bC aL
  go_wp2_with (refine aQ 67 rfl rfl _ _ rfl bC rfl _ rfl _ _ aL.blk dx rfl (dH Fm.z) ?_)
  intro w4 hc4 hk4
  have hge4:w.heap.size<=bC:=Nat.le_trans aJ.out.kp.size aL.ge
  have bQ:=show Hid _ from(aJ.out.then aL.av).own aL.blk (by decide) (by decide) hk4 hge4
  have dA:=show Hid _ from Cl.kp (Cl.new aA.out aL) hk4 (by have:=Cl.lt aA.out;have:=aL.ge;omega)
  have dQ:=show Hid (Cl w4 bC #[.int .i64 (Fm.z).k,.string (Fm.z).s,.int .i64 (Fm.z).l,.int .i64 (Fm.z).r] 67) from hc4
  have bq:=show Hid _ from(kG.out.later aL.av).other aL.blk (by decide) (by decide) hk4
  clear aL hc4 hk4 hge4 aA aJ
  have y2:w4.cell? ⟨bC,2,none⟩=some (.int .i64 0):=Cl.cell dQ.out 2
  have y3:w4.cell? ⟨bC,3,none⟩=some (.int .i64 0):=Cl.cell dQ.out 3
  go_wp2_with fail
  go_ret2
  exact⟨_,by rw[HA.out];exact⟨q,rfl,bq.out⟩,bQ.out.mono (by have:=bA.out;omega)⟩
 | ok d=>
  obtain rfl:=aR.out
  have HA:=show Hid (ANS=.ok d.r) from aI.out
  clear aR aI
  unfold dY
  go_wp2_with (refine aN 67 rfl _ dR rfl ?_)
  intro w3 bC aL
  go_wp2_with (refine aQ 67 rfl rfl _ _ rfl bC rfl _ rfl _ _ aL.blk dx rfl (dH d) ?_)
  intro w4 hc4 hk4
  have hge4:w.heap.size<=bC:=Nat.le_trans aJ.out.kp.size aL.ge
  have bQ:=show Hid _ from(aJ.out.then aL.av).own aL.blk (by decide) (by decide) hk4 hge4
  have dA:=show Hid _ from Cl.kp (Cl.new aA.out aL) hk4 (by have:=Cl.lt aA.out;have:=aL.ge;omega)
  have dQ:=show Hid (Cl w4 bC #[.int .i64 (d).k,.string (d).s,.int .i64 (d).l,.int .i64 (d).r] 67) from hc4
  clear aL hc4 hk4 hge4 aA aJ
  have x0:w4.cell? ⟨bx,0,none⟩=some (.int .i64 6):=Cl.cell dA.out 0
  have x1:w4.cell? ⟨bx,1,none⟩=some (.string Ty.e0):=Cl.cell dA.out 1
  have x2:w4.cell? ⟨bx,2,none⟩=some (.string Ty.e0):=Cl.cell dA.out 2
  have x3:w4.cell? ⟨bx,3,none⟩=some (.int .i64 0):=Cl.cell dA.out 3
  have x4:w4.cell? ⟨bx,4,none⟩=some (.slice p nk kc):=Cl.cell dA.out 4
  have y2:w4.cell? ⟨bC,2,none⟩=some (.int .i64 d.l):=Cl.cell dQ.out 2
  have y3:w4.cell? ⟨bC,3,none⟩=some (.int .i64 d.r):=Cl.cell dQ.out 3
  go_wp2_with fail
  go_ret2
  exact⟨_,by rw[HA.out];exact(show(_:Ending)=_ from rfl),bQ.out.mono (by have:=bA.out;omega)⟩
theorem CY {B C m tb mt:Nat} {v:Value} {t:List Nd} {a:Ty.Tr} {b:Ty.Tr}  (eU:iJ B C m tb mt v t a) (jP:iX B C m tb mt v t b) (w:World) {N:Nat} {g:Ty.Env} {wv sv:Value} {way:List Int} (hT:fA w B tb mt v t) (h:Ck w B C m N (.pointer (some ⟨tb,0,none⟩)) g wv way) (hB:B<=w.heap.size) (hK:bg w B (Ty.Tr.app a b).tm sv) (hG:Gt (Ty.Tr.app a b).tm) (hn:N+4 * (Ty.Tr.app a b).size<=90000000000000) (hw:way.length+(Ty.Tr.app a b).size<=900000) :
 Calls Tryz.prog 21 #[.pointer (some ⟨C,0,none⟩),bL (Ty.Tr.app a b).tm sv] w fun r w'=>∃ wv2,gT B w' r wv2 (Ty.told t (Ty.Tr.app a b) g way)/\Af w w' B C m (N+4 * (Ty.Tr.app a b).size) (.pointer (some ⟨tb,0,none⟩)) g wv wv2 way:=by
 obtain⟨p,nk,kc,rfl⟩:=hK.form
 obtain⟨dz,hgn,hgo,hgf⟩:=hG.parts
 have hgs:=hG.sub
 have HB0:=show Hid (∀ W n' wv',Af w W B C m n' (.pointer (some ⟨tb,0,none⟩)) g wv wv' way->Below B w W) from fun W n' wv' ha=>h.below ha.kp hB
 have aV:=show Hid (∀ W n' wv',Af w W B C m n' (.pointer (some ⟨tb,0,none⟩)) g wv wv' way->B<=W.heap.size) from fun W n' wv' ha=>Nat.le_trans hB ha.kp.size
 have hsz:(Ty.Tr.app a b).size=a.size+b.size+1:=rfl
 have KF:=show Hid (∀ (W:World) (n':Nat) (wv':Value),Af w W B C m n' (.pointer (some ⟨tb,0,none⟩)) g wv wv' way->n'<=N->Calls Tryz.prog 45 #[.pointer (some ⟨C,0,none⟩),(.agg #[.int .i64 3,.string Ty.e0,.string Ty.e0,.int .i64 0,(.slice p nk kc)])] W fun r w'=>∃ wv2,gT B w' r wv2 (Ty.told t (Ty.Tr.app a b) g way)/\Af W w' B C m (n'+4 * (Ty.Tr.app a b).size) (.pointer (some ⟨tb,0,none⟩)) g wv' wv2 way) from fun W n' wv' ha hn'=>Fg eU jP W (hT.later (HB0.out W n' wv' ha)) ha.ck (aV.out W n' wv' ha) (hK.below (HB0.out W n' wv' ha)) hG (by omega) hw
 have bA:=show Hid ((Ty.Tr.app a b).size=a.size+b.size+1/\N+4 * (Ty.Tr.app a b).size<=90000000000000) from⟨hsz,hn⟩
 generalize Ty.told t (Ty.Tr.app a b) g way=ANS at *
 clear hsz hn HB0 aV
 have aU:=show Hid (Af w w B C m N (.pointer (some ⟨tb,0,none⟩)) g wv wv way) from Af.refl h
 have hq1:=cu
 have hq2:=cK
 clear hK h hT hG hgs dz hgn hgo hgf hw hB eU jP
 show Calls _ _ #[.pointer (some ⟨C,0,none⟩),(.agg #[.int .i64 3,.string Ty.e0,.string Ty.e0,.int .i64 0,(.slice p nk kc)])] _ _
 go_enter Tryz.func21,Tryz.ntmps21
 go_wp2_with (refine aC 27 _ rfl _ rfl rfl ?_)
 intro w1 bx hn1
 have aB:=show Hid (Cl w1 bx #[.int .i64 3,.string Ty.e0,.string Ty.e0,.int .i64 0,.slice p nk kc] 27) from hn1.blk
 have aK:=show Hid _ from aU.out.then hn1.av
 have hgx:w.heap.size<=bx:=hn1.ge
 have iC:=show Hid (w.heap.size<=bx) from hgx
 clear hn1 aU hgx
 have x0:w1.cell? ⟨bx,0,none⟩=some (.int .i64 3):=Cl.cell aB.out 0
 have x1:w1.cell? ⟨bx,1,none⟩=some (.string Ty.e0):=Cl.cell aB.out 1
 have x2:w1.cell? ⟨bx,2,none⟩=some (.string Ty.e0):=Cl.cell aB.out 2
 have x3:w1.cell? ⟨bx,3,none⟩=some (.int .i64 0):=Cl.cell aB.out 3
 have x4:w1.cell? ⟨bx,4,none⟩=some (.slice p nk kc):=Cl.cell aB.out 4
 go_wp2_with fail
 clear x0 x1 x2 x3 x4
 refine Calls.mono (KF.out w1 _ _ aK.out (Nat.le_refl _)) ?_
 rintro e w2 ⟨wv2,hP2,aT⟩
 have aA:=show Hid _ from Cl.af aB.out aK.out.ck aT.kp (by decide) (by decide)
 have aJ:=show Hid _ from aK.out.trans aT
 have aR:=show Hid _ from hP2
 clear hP2 aT aB aK KF
 cases ANS with
 | no er wy=>
  obtain⟨q,rfl,hrf⟩:=aR.out
  have bq:=show Hid _ from hrf
  clear aR hrf
  have x0:w2.cell? ⟨bx,0,none⟩=some (.int .i64 3):=Cl.cell aA.out 0
  have x1:w2.cell? ⟨bx,1,none⟩=some (.string Ty.e0):=Cl.cell aA.out 1
  have x2:w2.cell? ⟨bx,2,none⟩=some (.string Ty.e0):=Cl.cell aA.out 2
  have x3:w2.cell? ⟨bx,3,none⟩=some (.int .i64 0):=Cl.cell aA.out 3
  have x4:w2.cell? ⟨bx,4,none⟩=some (.slice p nk kc):=Cl.cell aA.out 4
  go_wp2_with fail
  go_ret2
  exact⟨_,⟨q,rfl,bq.out⟩,aJ.out⟩
 | ok f=>
  obtain rfl:=aR.out
  clear aR
  have x0:w2.cell? ⟨bx,0,none⟩=some (.int .i64 3):=Cl.cell aA.out 0
  have x1:w2.cell? ⟨bx,1,none⟩=some (.string Ty.e0):=Cl.cell aA.out 1
  have x2:w2.cell? ⟨bx,2,none⟩=some (.string Ty.e0):=Cl.cell aA.out 2
  have x3:w2.cell? ⟨bx,3,none⟩=some (.int .i64 0):=Cl.cell aA.out 3
  have x4:w2.cell? ⟨bx,4,none⟩=some (.slice p nk kc):=Cl.cell aA.out 4
  go_wp2_with fail
  go_ret2
  exact⟨_,(show(_:Ending)=_ from rfl),aJ.out⟩
theorem CZ {B C m tb mt:Nat} {v:Value} {t:List Nd} {a:Ty.Tr}  {fo:Int} (iO:iX B C m tb mt v t a) (w:World) {N:Nat} {g:Ty.Env} {wv sv:Value} {way:List Int} (hT:fA w B tb mt v t) (h:Ck w B C m N (.pointer (some ⟨tb,0,none⟩)) g wv way) (hB:B<=w.heap.size) (hK:bg w B (Ty.Tr.the fo a).tm sv) (hG:Gt (Ty.Tr.the fo a).tm) (hn:N+4 * (Ty.Tr.the fo a).size<=90000000000000) (hw:way.length+(Ty.Tr.the fo a).size<=900000) :
 Calls Tryz.prog 21 #[.pointer (some ⟨C,0,none⟩),bL (Ty.Tr.the fo a).tm sv] w fun r w'=>∃ wv2,gT B w' r wv2 (Ty.told t (Ty.Tr.the fo a) g way)/\Af w w' B C m (N+4 * (Ty.Tr.the fo a).size) (.pointer (some ⟨tb,0,none⟩)) g wv wv2 way:=by
 obtain⟨p,nk,kc,rfl⟩:=hK.form
 obtain⟨dz,hgn,hgo,hgf⟩:=hG.parts
 have hgs:=hG.sub
 have HB0:=show Hid (∀ W n' wv',Af w W B C m n' (.pointer (some ⟨tb,0,none⟩)) g wv wv' way->Below B w W) from fun W n' wv' ha=>h.below ha.kp hB
 have aV:=show Hid (∀ W n' wv',Af w W B C m n' (.pointer (some ⟨tb,0,none⟩)) g wv wv' way->B<=W.heap.size) from fun W n' wv' ha=>Nat.le_trans hB ha.kp.size
 have hsz:(Ty.Tr.the fo a).size=a.size+1:=rfl
 have KF:=show Hid (∀ (W:World) (n':Nat) (wv':Value),Af w W B C m n' (.pointer (some ⟨tb,0,none⟩)) g wv wv' way->n'<=N->Calls Tryz.prog 47 #[.pointer (some ⟨C,0,none⟩),(.agg #[.int .i64 11,.string Ty.e0,.string Ty.e0,.int .i64 fo,(.slice p nk kc)])] W fun r w'=>∃ wv2,gT B w' r wv2 (Ty.told t (Ty.Tr.the fo a) g way)/\Af W w' B C m (n'+4 * (Ty.Tr.the fo a).size) (.pointer (some ⟨tb,0,none⟩)) g wv' wv2 way) from fun W n' wv' ha hn'=>Fh  iO W (hT.later (HB0.out W n' wv' ha)) ha.ck (aV.out W n' wv' ha) (hK.below (HB0.out W n' wv' ha)) hG (by omega) hw
 have bA:=show Hid ((Ty.Tr.the fo a).size=a.size+1/\N+4 * (Ty.Tr.the fo a).size<=90000000000000) from⟨hsz,hn⟩
 generalize Ty.told t (Ty.Tr.the fo a) g way=ANS at *
 clear hsz hn HB0 aV
 have aU:=show Hid (Af w w B C m N (.pointer (some ⟨tb,0,none⟩)) g wv wv way) from Af.refl h
 have hq1:=cu
 have hq2:=cK
 clear hK h hT hG hgs dz hgn hgo hgf hw hB iO
 show Calls _ _ #[.pointer (some ⟨C,0,none⟩),(.agg #[.int .i64 11,.string Ty.e0,.string Ty.e0,.int .i64 fo,(.slice p nk kc)])] _ _
 go_enter Tryz.func21,Tryz.ntmps21
 go_wp2_with (refine aC 27 _ rfl _ rfl rfl ?_)
 intro w1 bx hn1
 have aB:=show Hid (Cl w1 bx #[.int .i64 11,.string Ty.e0,.string Ty.e0,.int .i64 fo,.slice p nk kc] 27) from hn1.blk
 have aK:=show Hid _ from aU.out.then hn1.av
 have hgx:w.heap.size<=bx:=hn1.ge
 have iC:=show Hid (w.heap.size<=bx) from hgx
 clear hn1 aU hgx
 have x0:w1.cell? ⟨bx,0,none⟩=some (.int .i64 11):=Cl.cell aB.out 0
 have x1:w1.cell? ⟨bx,1,none⟩=some (.string Ty.e0):=Cl.cell aB.out 1
 have x2:w1.cell? ⟨bx,2,none⟩=some (.string Ty.e0):=Cl.cell aB.out 2
 have x3:w1.cell? ⟨bx,3,none⟩=some (.int .i64 fo):=Cl.cell aB.out 3
 have x4:w1.cell? ⟨bx,4,none⟩=some (.slice p nk kc):=Cl.cell aB.out 4
 go_wp2_with fail
 clear x0 x1 x2 x3 x4
 refine Calls.mono (KF.out w1 _ _ aK.out (Nat.le_refl _)) ?_
 rintro e w2 ⟨wv2,hP2,aT⟩
 have aA:=show Hid _ from Cl.af aB.out aK.out.ck aT.kp (by decide) (by decide)
 have aJ:=show Hid _ from aK.out.trans aT
 have aR:=show Hid _ from hP2
 clear hP2 aT aB aK KF
 cases ANS with
 | no er wy=>
  obtain⟨q,rfl,hrf⟩:=aR.out
  have bq:=show Hid _ from hrf
  clear aR hrf
  have x0:w2.cell? ⟨bx,0,none⟩=some (.int .i64 11):=Cl.cell aA.out 0
  have x1:w2.cell? ⟨bx,1,none⟩=some (.string Ty.e0):=Cl.cell aA.out 1
  have x2:w2.cell? ⟨bx,2,none⟩=some (.string Ty.e0):=Cl.cell aA.out 2
  have x3:w2.cell? ⟨bx,3,none⟩=some (.int .i64 fo):=Cl.cell aA.out 3
  have x4:w2.cell? ⟨bx,4,none⟩=some (.slice p nk kc):=Cl.cell aA.out 4
  go_wp2_with fail
  go_ret2
  exact⟨_,⟨q,rfl,bq.out⟩,aJ.out⟩
 | ok f=>
  obtain rfl:=aR.out
  clear aR
  have x0:w2.cell? ⟨bx,0,none⟩=some (.int .i64 11):=Cl.cell aA.out 0
  have x1:w2.cell? ⟨bx,1,none⟩=some (.string Ty.e0):=Cl.cell aA.out 1
  have x2:w2.cell? ⟨bx,2,none⟩=some (.string Ty.e0):=Cl.cell aA.out 2
  have x3:w2.cell? ⟨bx,3,none⟩=some (.int .i64 fo):=Cl.cell aA.out 3
  have x4:w2.cell? ⟨bx,4,none⟩=some (.slice p nk kc):=Cl.cell aA.out 4
  go_wp2_with fail
  go_ret2
  exact⟨_,(show(_:Ending)=_ from rfl),aJ.out⟩
theorem Q9 {B C m tb mt:Nat} {v:Value} {t:List Nd} {a:Ty.Tr} {b:Ty.Tr} {nn:ByteArray} (eU:iJ B C m tb mt v t a) (vL:iJ B C m tb mt v t b) (w:World) {N:Nat} {g:Ty.Env} {wv sv:Value} {way:List Int} (hT:fA w B tb mt v t) (h:Ck w B C m N (.pointer (some ⟨tb,0,none⟩)) g wv way) (hB:B<=w.heap.size) (hK:bg w B (Ty.Tr.lt nn a b).tm sv) (hG:Gt (Ty.Tr.lt nn a b).tm) (hn:N+4 * (Ty.Tr.lt nn a b).size<=90000000000000) (hw:way.length+(Ty.Tr.lt nn a b).size<=900000) :
 Calls Tryz.prog 21 #[.pointer (some ⟨C,0,none⟩),bL (Ty.Tr.lt nn a b).tm sv] w fun r w'=>∃ wv2,gT B w' r wv2 (Ty.told t (Ty.Tr.lt nn a b) g way)/\Af w w' B C m (N+4 * (Ty.Tr.lt nn a b).size) (.pointer (some ⟨tb,0,none⟩)) g wv wv2 way:=by
 obtain⟨p,nk,kc,rfl⟩:=hK.form
 obtain⟨dz,hgn,hgo,hgf⟩:=hG.parts
 have hgs:=hG.sub
 have HB0:=show Hid (∀ W n' wv',Af w W B C m n' (.pointer (some ⟨tb,0,none⟩)) g wv wv' way->Below B w W) from fun W n' wv' ha=>h.below ha.kp hB
 have aV:=show Hid (∀ W n' wv',Af w W B C m n' (.pointer (some ⟨tb,0,none⟩)) g wv wv' way->B<=W.heap.size) from fun W n' wv' ha=>Nat.le_trans hB ha.kp.size
 have hsz:(Ty.Tr.lt nn a b).size=a.size+b.size+1:=rfl
 have KF:=show Hid (∀ (W:World) (n':Nat) (wv':Value),Af w W B C m n' (.pointer (some ⟨tb,0,none⟩)) g wv wv' way->n'<=N->Calls Tryz.prog 48 #[.pointer (some ⟨C,0,none⟩),(.agg #[.int .i64 12,.string nn,.string Ty.e0,.int .i64 0,(.slice p nk kc)])] W fun r w'=>∃ wv2,gT B w' r wv2 (Ty.told t (Ty.Tr.lt nn a b) g way)/\Af W w' B C m (n'+4 * (Ty.Tr.lt nn a b).size) (.pointer (some ⟨tb,0,none⟩)) g wv' wv2 way) from fun W n' wv' ha hn'=>Iu eU vL  W (hT.later (HB0.out W n' wv' ha)) ha.ck (aV.out W n' wv' ha) (hK.below (HB0.out W n' wv' ha)) hG (by omega) hw
 have bA:=show Hid ((Ty.Tr.lt nn a b).size=a.size+b.size+1/\N+4 * (Ty.Tr.lt nn a b).size<=90000000000000) from⟨hsz,hn⟩
 generalize Ty.told t (Ty.Tr.lt nn a b) g way=ANS at *
 clear hsz hn HB0 aV
 have aU:=show Hid (Af w w B C m N (.pointer (some ⟨tb,0,none⟩)) g wv wv way) from Af.refl h
 have hq1:=cu
 have hq2:=cK
 clear hK h hT hG hgs dz hgn hgo hgf hw hB eU vL
 show Calls _ _ #[.pointer (some ⟨C,0,none⟩),(.agg #[.int .i64 12,.string nn,.string Ty.e0,.int .i64 0,(.slice p nk kc)])] _ _
 go_enter Tryz.func21,Tryz.ntmps21
 go_wp2_with (refine aC 27 _ rfl _ rfl rfl ?_)
 intro w1 bx hn1
 have aB:=show Hid (Cl w1 bx #[.int .i64 12,.string nn,.string Ty.e0,.int .i64 0,.slice p nk kc] 27) from hn1.blk
 have aK:=show Hid _ from aU.out.then hn1.av
 have hgx:w.heap.size<=bx:=hn1.ge
 have iC:=show Hid (w.heap.size<=bx) from hgx
 clear hn1 aU hgx
 have x0:w1.cell? ⟨bx,0,none⟩=some (.int .i64 12):=Cl.cell aB.out 0
 have x1:w1.cell? ⟨bx,1,none⟩=some (.string nn):=Cl.cell aB.out 1
 have x2:w1.cell? ⟨bx,2,none⟩=some (.string Ty.e0):=Cl.cell aB.out 2
 have x3:w1.cell? ⟨bx,3,none⟩=some (.int .i64 0):=Cl.cell aB.out 3
 have x4:w1.cell? ⟨bx,4,none⟩=some (.slice p nk kc):=Cl.cell aB.out 4
 go_wp2_with fail
 clear x0 x1 x2 x3 x4
 refine Calls.mono (KF.out w1 _ _ aK.out (Nat.le_refl _)) ?_
 rintro e w2 ⟨wv2,hP2,aT⟩
 have aA:=show Hid _ from Cl.af aB.out aK.out.ck aT.kp (by decide) (by decide)
 have aJ:=show Hid _ from aK.out.trans aT
 have aR:=show Hid _ from hP2
 clear hP2 aT aB aK KF
 cases ANS with
 | no er wy=>
  obtain⟨q,rfl,hrf⟩:=aR.out
  have bq:=show Hid _ from hrf
  clear aR hrf
  have x0:w2.cell? ⟨bx,0,none⟩=some (.int .i64 12):=Cl.cell aA.out 0
  have x1:w2.cell? ⟨bx,1,none⟩=some (.string nn):=Cl.cell aA.out 1
  have x2:w2.cell? ⟨bx,2,none⟩=some (.string Ty.e0):=Cl.cell aA.out 2
  have x3:w2.cell? ⟨bx,3,none⟩=some (.int .i64 0):=Cl.cell aA.out 3
  have x4:w2.cell? ⟨bx,4,none⟩=some (.slice p nk kc):=Cl.cell aA.out 4
  go_wp2_with fail
  go_ret2
  exact⟨_,⟨q,rfl,bq.out⟩,aJ.out⟩
 | ok f=>
  obtain rfl:=aR.out
  clear aR
  have x0:w2.cell? ⟨bx,0,none⟩=some (.int .i64 12):=Cl.cell aA.out 0
  have x1:w2.cell? ⟨bx,1,none⟩=some (.string nn):=Cl.cell aA.out 1
  have x2:w2.cell? ⟨bx,2,none⟩=some (.string Ty.e0):=Cl.cell aA.out 2
  have x3:w2.cell? ⟨bx,3,none⟩=some (.int .i64 0):=Cl.cell aA.out 3
  have x4:w2.cell? ⟨bx,4,none⟩=some (.slice p nk kc):=Cl.cell aA.out 4
  go_wp2_with fail
  go_ret2
  exact⟨_,(show(_:Ending)=_ from rfl),aJ.out⟩
theorem NQ {B C m tb mt:Nat} {v:Value} {t:List Nd} {a:Ty.Tr} {b:Ty.Tr} {c:Ty.Tr} {nn:ByteArray} {oo:ByteArray} (eU:iJ B C m tb mt v t a) (vL:iJ B C m tb mt v t b) (Kk:iJ B C m tb mt v t c) (w:World) {N:Nat} {g:Ty.Env} {wv sv:Value} {way:List Int} (hT:fA w B tb mt v t) (h:Ck w B C m N (.pointer (some ⟨tb,0,none⟩)) g wv way) (hB:B<=w.heap.size) (hK:bg w B (Ty.Tr.cas nn oo a b c).tm sv) (hG:Gt (Ty.Tr.cas nn oo a b c).tm) (hn:N+4 * (Ty.Tr.cas nn oo a b c).size<=90000000000000) (hw:way.length+(Ty.Tr.cas nn oo a b c).size<=900000) :
 Calls Tryz.prog 21 #[.pointer (some ⟨C,0,none⟩),bL (Ty.Tr.cas nn oo a b c).tm sv] w fun r w'=>∃ wv2,gT B w' r wv2 (Ty.told t (Ty.Tr.cas nn oo a b c) g way)/\Af w w' B C m (N+4 * (Ty.Tr.cas nn oo a b c).size) (.pointer (some ⟨tb,0,none⟩)) g wv wv2 way:=by
 obtain⟨p,nk,kc,rfl⟩:=hK.form
 obtain⟨dz,hgn,hgo,hgf⟩:=hG.parts
 have hgs:=hG.sub
 have HB0:=show Hid (∀ W n' wv',Af w W B C m n' (.pointer (some ⟨tb,0,none⟩)) g wv wv' way->Below B w W) from fun W n' wv' ha=>h.below ha.kp hB
 have aV:=show Hid (∀ W n' wv',Af w W B C m n' (.pointer (some ⟨tb,0,none⟩)) g wv wv' way->B<=W.heap.size) from fun W n' wv' ha=>Nat.le_trans hB ha.kp.size
 have hsz:(Ty.Tr.cas nn oo a b c).size=a.size+b.size+c.size+1:=rfl
 have KF:=show Hid (∀ (W:World) (n':Nat) (wv':Value),Af w W B C m n' (.pointer (some ⟨tb,0,none⟩)) g wv wv' way->n'<=N->Calls Tryz.prog 49 #[.pointer (some ⟨C,0,none⟩),(.agg #[.int .i64 9,.string nn,.string oo,.int .i64 0,(.slice p nk kc)])] W fun r w'=>∃ wv2,gT B w' r wv2 (Ty.told t (Ty.Tr.cas nn oo a b c) g way)/\Af W w' B C m (n'+4 * (Ty.Tr.cas nn oo a b c).size) (.pointer (some ⟨tb,0,none⟩)) g wv' wv2 way) from fun W n' wv' ha hn'=>CU eU vL Kk  W (hT.later (HB0.out W n' wv' ha)) ha.ck (aV.out W n' wv' ha) (hK.below (HB0.out W n' wv' ha)) hG (by omega) hw
 have bA:=show Hid ((Ty.Tr.cas nn oo a b c).size=a.size+b.size+c.size+1/\N+4 * (Ty.Tr.cas nn oo a b c).size<=90000000000000) from⟨hsz,hn⟩
 generalize Ty.told t (Ty.Tr.cas nn oo a b c) g way=ANS at *
 clear hsz hn HB0 aV
 have aU:=show Hid (Af w w B C m N (.pointer (some ⟨tb,0,none⟩)) g wv wv way) from Af.refl h
 have hq1:=cu
 have hq2:=cK
 clear hK h hT hG hgs dz hgn hgo hgf hw hB eU vL Kk
 show Calls _ _ #[.pointer (some ⟨C,0,none⟩),(.agg #[.int .i64 9,.string nn,.string oo,.int .i64 0,(.slice p nk kc)])] _ _
 go_enter Tryz.func21,Tryz.ntmps21
 go_wp2_with (refine aC 27 _ rfl _ rfl rfl ?_)
 intro w1 bx hn1
 have aB:=show Hid (Cl w1 bx #[.int .i64 9,.string nn,.string oo,.int .i64 0,.slice p nk kc] 27) from hn1.blk
 have aK:=show Hid _ from aU.out.then hn1.av
 have hgx:w.heap.size<=bx:=hn1.ge
 have iC:=show Hid (w.heap.size<=bx) from hgx
 clear hn1 aU hgx
 have x0:w1.cell? ⟨bx,0,none⟩=some (.int .i64 9):=Cl.cell aB.out 0
 have x1:w1.cell? ⟨bx,1,none⟩=some (.string nn):=Cl.cell aB.out 1
 have x2:w1.cell? ⟨bx,2,none⟩=some (.string oo):=Cl.cell aB.out 2
 have x3:w1.cell? ⟨bx,3,none⟩=some (.int .i64 0):=Cl.cell aB.out 3
 have x4:w1.cell? ⟨bx,4,none⟩=some (.slice p nk kc):=Cl.cell aB.out 4
 go_wp2_with fail
 clear x0 x1 x2 x3 x4
 refine Calls.mono (KF.out w1 _ _ aK.out (Nat.le_refl _)) ?_
 rintro e w2 ⟨wv2,hP2,aT⟩
 have aA:=show Hid _ from Cl.af aB.out aK.out.ck aT.kp (by decide) (by decide)
 have aJ:=show Hid _ from aK.out.trans aT
 have aR:=show Hid _ from hP2
 clear hP2 aT aB aK KF
 cases ANS with
 | no er wy=>
  obtain⟨q,rfl,hrf⟩:=aR.out
  have bq:=show Hid _ from hrf
  clear aR hrf
  have x0:w2.cell? ⟨bx,0,none⟩=some (.int .i64 9):=Cl.cell aA.out 0
  have x1:w2.cell? ⟨bx,1,none⟩=some (.string nn):=Cl.cell aA.out 1
  have x2:w2.cell? ⟨bx,2,none⟩=some (.string oo):=Cl.cell aA.out 2
  have x3:w2.cell? ⟨bx,3,none⟩=some (.int .i64 0):=Cl.cell aA.out 3
  have x4:w2.cell? ⟨bx,4,none⟩=some (.slice p nk kc):=Cl.cell aA.out 4
  go_wp2_with fail
  go_ret2
  exact⟨_,⟨q,rfl,bq.out⟩,aJ.out⟩
 | ok f=>
  obtain rfl:=aR.out
  clear aR
  have x0:w2.cell? ⟨bx,0,none⟩=some (.int .i64 9):=Cl.cell aA.out 0
  have x1:w2.cell? ⟨bx,1,none⟩=some (.string nn):=Cl.cell aA.out 1
  have x2:w2.cell? ⟨bx,2,none⟩=some (.string oo):=Cl.cell aA.out 2
  have x3:w2.cell? ⟨bx,3,none⟩=some (.int .i64 0):=Cl.cell aA.out 3
  have x4:w2.cell? ⟨bx,4,none⟩=some (.slice p nk kc):=Cl.cell aA.out 4
  go_wp2_with fail
  go_ret2
  exact⟨_,(show(_:Ending)=_ from rfl),aJ.out⟩
end Go.Proofs.YtkpbpecikibohaaGreatDoor.Ya
