/-
  MorphGlued, walked. No condition.
-/
import Derived.Test.YtoedidbbjnnpnaaTH24
import Derived.Test.YtoedidbbjnnpnaaTH23
namespace Go.Proofs.Ytoedidbbjnnpnaa.Wm
open Go.RowKit Go.Maps
open Wd (Md Rc Ed upd vl allW inW)
open Fm (Nd)
set_option linter.unusedSimpArgs false
set_option linter.unusedVariables false
theorem glu_form {W:World} {B:Nat} {ml:List Md} {atoms:List ByteArray} {u v l:Value} {er:Int} (h:GluR W B ml atoms u v l er):(∃ p n c,u=.slice p n c)∧(∃ p n c,v=.slice p n c):=by
 rcases h with ⟨_,_,rfl,rfl,_⟩ | ⟨_,_,_,rfl,rfl,_⟩ | ⟨_,rs,_,⟨_,_,rfl,rfl,_⟩ | ⟨_,_,M',_,_,⟨xs,h1,_⟩,⟨ys,h2,_⟩⟩⟩
 ·exact ⟨⟨_,_,_,rfl⟩,⟨_,_,_,rfl⟩⟩
 ·exact ⟨⟨_,_,_,rfl⟩,⟨_,_,_,rfl⟩⟩
 ·exact ⟨⟨_,_,_,rfl⟩,⟨_,_,_,rfl⟩⟩
 ·obtain ⟨p,c,e⟩:=own_form h1
  obtain ⟨p',c',e'⟩:=own_form h2
  exact ⟨⟨_,_,_,e⟩,⟨_,_,_,e'⟩⟩
def fL (ml:List Md) (i k:Nat):List Nat:=(List.range k).map fun w=>gN ml i+w
theorem fL_len (ml:List Md) (i k:Nat):(fL ml i k).length=k:=by unfold fL;simp
theorem fL_next (ml:List Md) (i k:Nat):fL ml i (k+1)=fL ml i k ++ [gN ml i+k]:=by unfold fL;rw [List.range_succ,List.map_append];rfl
theorem lat_isN {w:World} {L:Nat} {u:Value} {l:List ByteArray} (h:IsN w L u l) (hL:L≤w.heap.size):Lat w fun W=>IsN W W.heap.size u l:=fun W hW =>
 IsS.wide (IsN.keep h fun k hk=>hW.block k (Nat.lt_of_lt_of_le hk hL)) (Nat.le_trans hL hW.size)
set_option maxRecDepth 100000 in
set_option maxHeartbeats 16000000 in
theorem morphGlued_any (w:World) {L:Nat} {lv av rv:Value} {ml:List Md} {atoms:List ByteArray} {rs:List Nd} (hl:IsL w L lv ml) (ha:IsN w L av atoms) (hf:∀ m ∈ ml,Fit m) (hL:L≤w.heap.size) (hfv:∀ m ∈ ml,∀ r ∈ m.val,r.length * 16≤140737488355328) (hfu:∀ m ∈ ml,∀ r ∈ m.up,r.length * 8≤140737488355328) (hfa:atoms.length * 16≤140737488355328) (hfs:∀ s ∈ atoms,s.size≤140737488351232) (hfl:(1+ml.length * 512) * 24≤140737488355328)
 (hR:IsR w rv rs) (hgd:∀ n ∈ rs,Fm.good n) (hrl:rs.length≤140737488351232) :
 Calls Try.prog 7 #[lv,av,rv] w fun e w'=>e=.returned (.bool true)∧Below w.heap.size w w':=by
 obtain ⟨i0,hi,hz0,hz1,hz2⟩:=info_parts infoI
 obtain ⟨pa,ca,rfl⟩:=IsS.form ha
 have K:=show Hid _ from glue_any w hl ha hf hL hfv hfu hfa hfs hfl
 have HF:=show Hid ((∀ m ∈ ml,Fit m)∧atoms.length≤140737488351232∧(∀ s ∈ atoms,s.size≤140737488351232)∧(1+ml.length * 512) * 24≤140737488355328) from ⟨hf,by omega,hfs,hfl⟩
 have HLS:=show Hid (∀ W,Below w.heap.size w W→IsL W L lv ml) from fun W hW=>hl.later (hW.mono hL)
 have HL:=show Hid (L≤w.heap.size) from hL
 obtain ⟨pl,cl,rfl,hlat⟩:=hl
 have K0:=show Hid (∀ W,Below w.heap.size w W→Calls Try.prog 27 #[rv] W fun e w'=>(∃ u t,e=.returned u∧IsT w' u t)∧Below W.heap.size W w') from fun W hW=>by
  refine rowsOf_any W (rs:=rs) ?_ hgd hrl
  obtain ⟨p,c,e,h1,h2,h3⟩:=hR.at
  refine ⟨p,c,e,h1,h2,fun hp => ?_⟩
  obtain ⟨b,o,e2,h4⟩:=h3 hp
  exact ⟨b,o,e2,fun k hk=>h4 W hW k hk⟩
 have H0:=hidL ((lat_bel (Below.refl w.heap.size w) (Nat.le_refl _)).and (lat_isN ha hL))
 clear ha hf hL hfv hfu hfa hfs hfl hR hgd hrl hlat
 go_enter Try.func7,Try.ntmps7
 go_wp2_with fail
 refine Calls.mono K.out ?_
 rintro e w1 ⟨u',v',pv,er,rfl,hR,hb⟩
 have HR:=show Hid _ from hR
 obtain ⟨⟨px,nx,cx,rfl⟩,pz,nz,cz,rfl⟩:=glu_form hR
 have H1:=hidL (H0.out.next (hb))
 clear H0 hb K hR
 rcases HR.out with ⟨_,rfl,_⟩ | ⟨_,_,rfl,_⟩ | ⟨hg,rz,hr,⟨_,rfl,_⟩ | ⟨hX,rfl,M',hO,h2,h3,h4⟩⟩
 ·skip
  clear HR
  go_wp2_with (refine wpList_alloc 25 rfl _ zero_md rfl ?_)
  intro w2a bX hn
  go_wp2_with (refine wpList_st 25 rfl rfl _ _ rfl bX rfl _ rfl _ _ hn.blk sizeM rfl (by simp [Value.oneCell']) ?_)
  intro w2 hc hk
  have H2:=hidL ((H1.out.next (below_box hn hk)).and (lat_box hc))
  clear H1 hn hc hk
  have KH:=show Hid _ from heads19_any w2
  go_wp2_with fail
  refine Calls.mono KH.out ?_
  rintro e w3 ⟨rfl,hb⟩
  have H3:=hidL (H2.out.next (hb))
  clear H2 hb KH
  have HB:=show Hid _ from (H3.out.now.1.1)
  clear H3
  go_wp2_with fail
  go_ret
  exact ⟨rfl,HB.out⟩
 ·skip
  clear HR
  go_wp2_with (refine wpList_alloc 25 rfl _ zero_md rfl ?_)
  intro w2a bX hn
  go_wp2_with (refine wpList_st 25 rfl rfl _ _ rfl bX rfl _ rfl _ _ hn.blk sizeM rfl (by simp [Value.oneCell']) ?_)
  intro w2 hc hk
  have H2:=hidL ((H1.out.next (below_box hn hk)).and (lat_box hc))
  clear H1 hn hc hk
  have KH:=show Hid _ from heads19_any w2
  go_wp2_with fail
  refine Calls.mono KH.out ?_
  rintro e w3 ⟨rfl,hb⟩
  have H3:=hidL (H2.out.next (hb))
  clear H2 hb KH
  have HB:=show Hid _ from (H3.out.now.1.1)
  clear H3
  go_wp2_with fail
  go_ret
  exact ⟨rfl,HB.out⟩
 ·skip
  clear HR
  go_wp2_with (refine wpList_alloc 25 rfl _ zero_md rfl ?_)
  intro w2a bX hn
  go_wp2_with (refine wpList_st 25 rfl rfl _ _ rfl bX rfl _ rfl _ _ hn.blk sizeM rfl (by simp [Value.oneCell']) ?_)
  intro w2 hc hk
  have H2:=hidL ((H1.out.next (below_box hn hk)).and (lat_box hc))
  clear H1 hn hc hk
  have KH:=show Hid _ from heads19_any w2
  go_wp2_with fail
  refine Calls.mono KH.out ?_
  rintro e w3 ⟨rfl,hb⟩
  have H3:=hidL (H2.out.next (hb))
  clear H2 hb KH
  have HB:=show Hid _ from (H3.out.now.1.1)
  clear H3
  go_wp2_with fail
  go_ret
  exact ⟨rfl,HB.out⟩
 ·skip
  have hgk:∀ k,k<ml.length→Wd.Good (gM ml k):=fun k hk=>by rw [gM_at hk];exact hg _ (List.getElem_mem hk)
  have hvk:∀ k,(gM ml k).val.length=(gM ml k).up.length:=fun k=>by
   rcases Nat.lt_or_ge k ml.length with h | h
   ·exact (Wd.shaped_and (hgk k h).shape).2.2.1
   ·have e:gM ml k=md0:=by unfold gM;rw [List.getD_eq_getElem?_getD,List.getElem?_eq_none h];rfl
    rw [e];rfl
  have hrk:∀ k,k<ml.length→rz k<(gM ml k).up.length:=fun k hk=>by
   obtain ⟨M,_,h⟩:=hr k hk
   rcases h with ⟨_,_,h⟩ | ⟨_,_,h,_⟩ | ⟨q,_,k1,k2,_⟩
   ·cases h
   ·cases h
   ·omega
  have hFX:=gFit (atoms:=atoms) HF.out.1 hg HF.out.2.2.2 hrk HF.out.2.1 HF.out.2.2.1
  have hGX:Wd.Good (tdM (glX ml rz atoms ml.length) M'):=good_td hO hX
  have hlen:(tdM (glX ml rz atoms ml.length) M').up.length=gN ml ml.length:=by rw [tdM_len,glX_len]
  have HX:=show Hid (Wd.Good (tdM (glX ml rz atoms ml.length) M')∧Fit (tdM (glX ml rz atoms ml.length) M')∧IsO (tdM (glX ml rz atoms ml.length) M').up M'∧(∀ c,c<(tdM (glX ml rz atoms ml.length) M').up.length→Rc (tdM (glX ml rz atoms ml.length) M').up 0 c)∧vl (tdM (glX ml rz atoms ml.length) M') 0=atoms∧(tdM (glX ml rz atoms ml.length) M').up.length≤512) from
   ⟨hGX,fit_td hFX (Wd.shaped_and hX.shape).2.1,isO_td hO hX,fun c hc=>(tdM_rc hO hX 0 c).2 (gl_root hgk hr (by omega)),rfl,(Wd.shaped_and hGX.shape).2.1⟩
  have HMP:=show Hid (∀ i,i<ml.length→BndP (gM ml i) (tdM (glX ml rz atoms ml.length) M') ((fL ml i (gM ml i).up.length).map fun n:Nat=>(n:Int))∧mapOk (gM ml i) (tdM (glX ml rz atoms ml.length) M') ((fL ml i (gM ml i).up.length).map fun n:Nat=>(n:Int))=true∧Wd.Good (gM ml i)∧Fit (gM ml i)∧gN ml i+(gM ml i).up.length≤(tdM (glX ml rz atoms ml.length) M').up.length) from fun i hi=>by
   obtain ⟨h1,h2⟩:=gl_bnd hgk hvk hX hO hi
   refine ⟨h1,h2,hgk i hi,by rw [gM_at hi];exact HF.out.1 _ (List.getElem_mem hi),?_⟩
   rw [hlen]
   exact gN_mono (ml:=ml) (show i+1≤ml.length from hi)
  obtain ⟨pp,cp,rfl⟩:=h2.slice
  have HPL:=show Hid (∀ i,i<ml.length→((List.range ml.length).map (gN ml)).length=ml.length∧((List.range ml.length).map (gN ml))[i]?=some (gN ml i)) from fun i hi=>⟨by simp,by rw [List.getElem?_map,List.getElem?_range hi];rfl⟩
  have hpl:((List.range ml.length).map (gN ml)).length=ml.length:=by simp
  have HMB:=show Hid (ml.length≤11453246122) from by have:=HF.out.2.2.2;show ml.length≤11453246122;omega
  have HFA:=show Hid (atoms.length≤140737488351232) from HF.out.2.1
  have HH:=hidL (((H1.out.and (lat_isM (show IsM w1 w1.heap.size _ _ (tdM (glX ml rz atoms ml.length) M') from ⟨h3.isU,h4.isV⟩) (Nat.le_refl _))).and (lat_own h2)).and (lat_bel (Below.refl w1.heap.size w1) (Nat.le_refl _)))
  clear H1 h2 h3 h4 hg hr hX hO hgk hvk hrk hFX hGX hlen HR HF
  have H1:=HH
  clear HH
  generalize tdM (glX ml rz atoms ml.length) M'=X at *
  have hxm:=(H1.out.now.1.1.2)
  obtain ⟨px2,cx2,ex⟩:=IsS.form hxm.up
  obtain ⟨rfl,rfl,rfl⟩:=Value.slice.inj ex
  obtain ⟨pz2,cz2,hz,hzr⟩:=hxm.val.row
  obtain ⟨rfl,rfl,rfl⟩:=Value.slice.inj hz
  have hxv:X.val.length=X.up.length:=(Wd.shaped_and HX.out.1.shape).2.2.1
  have hx1:1≤X.up.length:=(Wd.shaped_and HX.out.1.shape).1
  obtain ⟨bz,oz,qz,nz,rfl,hbz,hcz,hiz⟩:=hzr 0 (by omega)
  have HZ:=show Hid (∀ W,Below w1.heap.size w1 W→W.cell? ⟨bz,oz,none⟩=some (.slice qz atoms.length nz)∧IsN W W.heap.size (.slice qz atoms.length nz) atoms) from fun W hW=>by
   have e:X.val[0]'(by omega)=atoms:=by rw [← vl_in (show 0<X.val.length by omega)];exact HX.out.2.2.2.2.1
   rw [e] at hcz hiz
   exact ⟨(World.cell?_of_block (a:=⟨bz,oz+0,none⟩) (hW.block bz (by omega))).trans hcz,IsS.wide (IsN.keep hiz fun k hk=>hW.block k hk) hW.size⟩
  have HX1:=show Hid ((0:Int)<(X.val.length:Int)) from by show (0:Int)<(X.val.length:Int);omega
  clear hxm ex hz hzr hbz hcz hiz hxv hx1
  rw [hpl] at H1
  generalize hpls:(List.range ml.length).map (gN ml)=plist at *
  have HPO:=show Hid (plist.length=ml.length) from hpl
  clear hpls hpl
  go_wp2_with (refine wpList_alloc 25 rfl _ zero_md rfl ?_)
  intro w2a bX hn
  go_wp2_with (refine wpList_st 25 rfl rfl _ _ rfl bX rfl _ rfl _ _ hn.blk sizeM rfl (by simp [Value.oneCell']) ?_)
  intro w2 hc hk
  have H2:=hidL ((H1.out.next (below_box hn hk)).and (lat_box hc))
  clear H1 hn hc hk
  have K:=show Hid _ from rroot_any w2 HX.out.2.2.1 (H2.out.now.1.1.1.2) HX.out.2.1 (Nat.le_refl _)
  have hx0:=show Hid _ from (H2.out.now.2)
  go_wp2_with (first | refine wpList_ldw 25 _ rfl bX rfl _ _ hx0.out rfl Try.underlying25 sizeM rfl ?_)
  clear hx0
  refine Calls.mono K.out ?_
  rintro e w3 ⟨r,ok,rfl,hR,hb⟩
  obtain ⟨rfl,rfl⟩:=root_zero HX.out.1 HX.out.2.2.1 HX.out.2.2.2.1 hR
  have H3:=hidL (H2.out.next (hb))
  clear H2 hb K hR
  have hNN:((plist.length:Int) != (ml.length:Int))=false:=by have:=HPO.out;simp [this]
  have hx1i:(0:Int)<(X.val.length:Int):=HX1.out
  have HZB:=show Hid (Below w1.heap.size w1 w3) from (H3.out.now).1.2
  have hcX:w3.cell? ⟨bX,1,none⟩=some (.slice (some ⟨bz,oz,none⟩) X.val.length cz):=((H3.out.now.2).cell 1).trans rfl
  have hcz:=(HZ.out w3 HZB.out).1
  have K:=show Hid (Calls Try.prog 24 #[.slice qz atoms.length nz,.slice pa atoms.length ca] w3 fun e w'=>e=.returned (.bool true)∧Below w3.heap.size w3 w') from
   (rnames_any w3 (HZ.out w3 HZB.out).2 (H3.out.now.1.1.1.1.2) HFA.out HFA.out).mono fun e w' ⟨⟨r,h1,h2⟩,h3⟩=>⟨by rw [h1,h2.2 rfl],h3⟩
  clear HZB
  go_wp2_with fail
  refine Calls.mono K.out ?_
  rintro e w4 ⟨rfl,hb⟩
  have H4:=hidL (H3.out.next (hb))
  clear H3 hb K hcX hcz hx1i
  have K:=show Hid _ from K0.out w4 (H4.out.now.1.1.1.1.1)
  clear K0
  go_wp2_with fail
  refine Calls.mono K.out ?_
  rintro e w5 ⟨⟨ut,t,rfl,ht⟩,hb⟩
  obtain ⟨pt,ct,rfl,_⟩:=ht.nd
  have H5:=hidL ((H4.out.next (hb)).and (lat_isT ht))
  clear H4 hb ht K
  have HML:=show Hid (∀ i (hi:i<ml.length),∃ bl ol pu cu pv nv cv,pl=some ⟨bl,ol,none⟩∧∀ W,Below w5.heap.size w5 W→W.cell? ⟨bl,ol+i * 2,none⟩=some (.slice pu (gM ml i).up.length cu)∧W.cell? ⟨bl,ol+i * 2+1,none⟩=some (.slice pv nv cv)∧IsM W W.heap.size (.slice pu (gM ml i).up.length cu) (.slice pv nv cv) (gM ml i)) from fun i hi=>by
   obtain ⟨p',c',e,h⟩:=HLS.out w5 ((H5.out.now).1.1.1.1.1.1)
   obtain ⟨rfl,_,rfl⟩:=Value.slice.inj e
   obtain ⟨bl,ol,hbl,e2,h1⟩:=h (by omega)
   obtain ⟨x,y,c1,c2,hm⟩:=h1 i hi
   rw [← gM_at hi] at hm
   obtain ⟨pu,cu,rfl⟩:=IsS.form hm.up
   obtain ⟨pv,cv,rfl⟩:=IsS.form hm.val
   have hbw:L≤w5.heap.size:=Nat.le_trans HL.out ((H5.out.now).1.1.1.1.1.1).size
   exact ⟨bl,ol,pu,cu,pv,_,cv,e2,fun W hW=>⟨(World.cell?_of_block (a:=⟨bl,ol+i * 2,none⟩) (hW.block bl (by omega))).trans c1,(World.cell?_of_block (a:=⟨bl,ol+i * 2+1,none⟩) (hW.block bl (by omega))).trans c2,lat_isM hm hbw W hW⟩⟩
  have HPA:=show Hid (∀ i,i<ml.length→∃ gp,pp=some ⟨gp,0,none⟩∧∀ W,Below w5.heap.size w5 W→W.cell? ⟨gp,i,none⟩=some (.int .i64 ((gN ml i:Nat):Int))) from fun i hi=>by
   have ho:OwnI w.heap.size w5 (.slice pp plist.length cp) plist:=by rw [HPO.out];exact (H5.out.now).1.1.1.2
   obtain ⟨gp,e,hc⟩:=ho.at (i:=i) (by rw [HPO.out];exact hi)
   have h2:=(HPL.out i hi).2
   rw [List.getElem?_eq_getElem (by rw [HPO.out];exact hi)] at h2
   rw [Option.some.inj h2] at hc
   have hgl:=World.block_lt_of_cell? _ _ hc
   exact ⟨gp,e,fun W hW=>(World.cell?_of_block (a:=⟨gp,i,none⟩) (hW.block gp hgl)).trans hc⟩
  have HW:=show Hid (∀ W,Below w5.heap.size w5 W→Below w.heap.size w W∧Cl W bX #[.slice px X.up.length cx,.slice (some ⟨bz,oz,none⟩) X.val.length cz] 25∧IsM W W.heap.size (.slice px X.up.length cx) (.slice (some ⟨bz,oz,none⟩) X.val.length cz) X∧IsT W (.slice pt t.length ct) t) from fun W hW=>by
   have h:=H5.out W hW
   exact ⟨h.1.1.1.1.1.1,h.1.2,h.1.1.1.1.2,h.2⟩
  clear H5 HZ HPL HLS HL
  go_wp2_with fail
  go_loopw [13] (fun iv wr=>∃ i:Nat,i≤ml.length∧iv=.int .i64 (i:Int)∧Hid (Below w5.heap.size w5 wr)) (fun iv _=>ml.length - (intOf iv).toNat)
  case atStart=>exact ⟨0,Nat.zero_le _,rfl,Below.refl _ _⟩
  case round =>
   obtain ⟨zi,hi2,rfl,HB1⟩:=hrel
   by_cases hlt:zi<ml.length
   ·skip
    obtain ⟨hbd,hok,hgi,hfi,hgn⟩:=HMP.out zi hlt
    obtain ⟨bl,ol,pu,cu,pv,nv,cv,rfl,hml⟩:=HML.out zi hlt
    obtain ⟨gp,rfl,hpc⟩:=HPA.out zi hlt
    have HC:=show Hid (BndP (gM ml zi) X ((fL ml zi (gM ml zi).up.length).map fun n:Nat=>(n:Int))∧mapOk (gM ml zi) X ((fL ml zi (gM ml zi).up.length).map fun n:Nat=>(n:Int))=true∧Wd.Good (gM ml zi)∧Fit (gM ml zi)) from ⟨hbd,hok,hgi,hfi⟩
    have HMC:=show Hid (∀ W,Below w5.heap.size w5 W→W.cell? ⟨bl,ol+zi * 2,none⟩=some (.slice pu (gM ml zi).up.length cu)∧W.cell? ⟨bl,ol+zi * 2+1,none⟩=some (.slice pv nv cv)∧IsM W W.heap.size (.slice pu (gM ml zi).up.length cu) (.slice pv nv cv) (gM ml zi)) from hml
    have HPC:=show Hid (∀ W,Below w5.heap.size w5 W→W.cell? ⟨gp,zi,none⟩=some (.int .i64 ((gN ml zi:Nat):Int))) from hpc
    have hx5:=HX.out.2.2.2.2.2
    have hmlb:=HMB.out
    have hzi:(zi:Int)<(ml.length:Int):=by omega
    have hm5:(gM ml zi).up.length≤512:=(Wd.shaped_and hgi.shape).2.1
    clear hbd hok hgi hfi hml hpc
    go_wp2_with fail
    go_loopw [14,15] (fun fv kv wr=>∃ k:Nat,k≤(gM ml zi).up.length∧kv=.int .i64 (k:Int)∧Hid (OwnI w5.heap.size wr fv (fL ml zi k)∧Below w5.heap.size w5 wr)) (fun _ kv _=>(gM ml zi).up.length - (intOf kv).toNat)
    case atStart=>exact ⟨0,Nat.zero_le _,rfl,World.ownsRow_nil _ _ _ _,HB1.out⟩
    case round =>
     clear HB1
     obtain ⟨k,hk,rfl,HQ⟩:=hrel
     have hm0:=(HMC.out wr HQ.out.2).1
     by_cases hlk:k<(gM ml zi).up.length
     ·skip
      have hki:(k:Int)<((gM ml zi).up.length:Int):=by omega
      have hpc:=HPC.out wr HQ.out.2
      have HNX:=show Hid (fL ml zi (k+1)=fL ml zi k ++ [gN ml zi+k]) from fL_next ml zi k
      have hll:(fL ml zi k).length≤512:=by rw [fL_len];omega
      have hgb:gN ml zi≤512:=by omega
      have hzp:(zi:Int)<(plist.length:Int):=by have:=HPO.out;omega
      generalize fL ml zi k=l at *
      generalize gN ml zi=g0 at *
      obtain ⟨pf,cf,rfl⟩:=HQ.out.1.slice
      go_wp2_with (at_builtin;first | refine wpList_append_own _ rfl (.tmp 73) (.tmp 80) 27 rfl w5.heap.size 3 i0 (.int .i64 0) 1 8 Try.underlying27 hi hz0 hz1 hz2 rfl (by decide) _ l.length (intsV l) rfl (HQ.out.1.later (below_alloc wr _)) ⟨wr.heap.size,0,none⟩ 1 1 [.int .i64 ((g0:Int)+(k:Int))] rfl rfl (cell_one_new _ _ _) (by simp [Value.oneCell']) (by unfold maxLen;omega) (by omega) (by have:=HQ.out.2.size;simp;omega) ?_ | refine wpList_append_own _ rfl (.tmp 73) (.tmp 80) 27 rfl w5.heap.size 3 i0 (.int .i64 0) 1 8 Try.underlying27 hi hz0 hz1 hz2 rfl (by decide) _ l.length (intsV l) rfl (HQ.out.1.later (below_alloc wr _)) ⟨wr.heap.size,0,none⟩ 1 1 [.int .i64 (IntKind.i64.wrap ((g0:Int)+(k:Int)))] rfl rfl (cell_one_new _ _ _) (by simp [Value.oneCell']) (by unfold maxLen;omega) (by omega) (by have:=HQ.out.2.size;simp;omega) ?_ | refine wpList_append_own _ rfl (.tmp 73) (.tmp 80) 27 rfl w5.heap.size 3 i0 (.int .i64 0) 1 8 Try.underlying27 hi hz0 hz1 hz2 rfl (by decide) _ l.length (intsV l) rfl (HQ.out.1.later (below_alloc wr _)) ⟨wr.heap.size,0,none⟩ 1 1 [_] rfl rfl (cell_one_new _ _ _) (by simp [Value.oneCell']) (by unfold maxLen;omega) (by omega) (by have:=HQ.out.2.size;simp;omega) ?_)
      intro v' w3 ho3 hg3 _
      first | rw [show (g0:Int)+(k:Int)=((g0+k:Nat):Int) by omega] at ho3 | rw [i64_in _ ⟨by omega,by omega⟩,show (g0:Int)+(k:Int)=((g0+k:Nat):Int) by omega] at ho3
      have HQ3:=show Hid (OwnI w5.heap.size w3 v' (l ++ [g0+k])∧Below w5.heap.size w5 w3) from by
       have:=HQ.out.1.grow ho3 hg3 HQ.out.2.size
       exact ⟨this.1,HQ.out.2.trans this.2⟩
      clear ho3 hg3 HQ
      go_wp2_with fail
      go_roundw
      case rel=>exact ⟨k+1,by omega,val_int (by omega),by rw [HNX.out];exact HQ3.out.1,HQ3.out.2⟩
      case measure=>(simp only [intOf];omega)
     ·skip
      obtain rfl:k=(gM ml zi).up.length:=by omega
      have hki:¬ ((gM ml zi).up.length:Int)<((gM ml zi).up.length:Int):=by omega
      have hll:(fL ml zi (gM ml zi).up.length).length≤512:=by rw [fL_len];omega
      have HLT:=show Hid (∀ v ∈ fL ml zi (gM ml zi).up.length,v<1024) from fun v hv=>by
       unfold fL at hv
       obtain ⟨x,hx,rfl⟩:=List.mem_map.1 hv
       have:=List.mem_range.1 hx
       omega
      generalize fL ml zi (gM ml zi).up.length=l at *
      obtain ⟨pf,cf,rfl⟩:=HQ.out.1.slice
      have HY:=show Hid (∀ W,Below wr.heap.size wr W→W.cell? ⟨bl,ol+zi * 2,none⟩=some (.slice pu (gM ml zi).up.length cu)∧W.cell? ⟨bl,ol+zi * 2+1,none⟩=some (.slice pv nv cv)∧IsM W W.heap.size (.slice pu (gM ml zi).up.length cu) (.slice pv nv cv) (gM ml zi)∧OwnI w5.heap.size W (.slice pf l.length cf) l∧Below w.heap.size w W∧Cl W bX #[.slice px X.up.length cx,.slice (some ⟨bz,oz,none⟩) X.val.length cz] 25∧IsM W W.heap.size (.slice px X.up.length cx) (.slice (some ⟨bz,oz,none⟩) X.val.length cz) X∧IsT W (.slice pt t.length ct) t) from fun W hW=>by
       have hb:=HQ.out.2.trans (hW.mono HQ.out.2.size)
       obtain ⟨a1,a2,a3⟩:=HMC.out W hb
       exact ⟨a1,a2,a3,HQ.out.1.later hW,HW.out W hb⟩
      have HBD:=show Hid (Below w5.heap.size w5 wr) from HQ.out.2
      have KB:=show Hid (∀ W,Below wr.heap.size wr W→Calls Try.prog 25 #[.agg #[.slice pu (gM ml zi).up.length cu,.slice pv nv cv],.agg #[.slice px X.up.length cx,.slice (some ⟨bz,oz,none⟩) X.val.length cz],.slice pf l.length cf] W fun e w'=>e=.returned (.tuple #[.bool true,.int .i64 0])∧Below W.heap.size W w') from fun W hW=>by
       have h:=HY.out W hW
       exact (bounded_any W h.2.2.1 HC.out.2.2.2 h.2.2.2.2.2.2.1 HX.out.2.1 (OwnI.isI h.2.2.2.1) (Nat.le_refl _) (by rw [List.length_map];omega) (fun x hx=>by obtain ⟨v,hv,rfl⟩:=List.mem_map.1 hx;have:=HLT.out v hv;omega)).mono fun e w' ⟨r,er,h1,h2,h3⟩=>by
        obtain ⟨rfl,rfl⟩:=bd_yes HC.out.2.2.1 HX.out.1 HC.out.2.1 HC.out.1 h2
        exact ⟨h1,h3⟩
      have KK:=show Hid (∀ W,Below wr.heap.size wr W→Calls Try.prog 28 #[.agg #[.slice pu (gM ml zi).up.length cu,.slice pv nv cv],.agg #[.slice px X.up.length cx,.slice (some ⟨bz,oz,none⟩) X.val.length cz],.slice pf l.length cf,.slice pt t.length ct] W fun e w'=>e=.returned (.bool true)∧Below W.heap.size W w') from fun W hW=>by
       have h:=HY.out W hW
       exact keeps_any W h.2.2.1 HC.out.2.2.2 h.2.2.2.2.2.2.1 HX.out.2.1 (OwnI.isI h.2.2.2.1) h.2.2.2.2.2.2.2 (Nat.le_refl _) HC.out.2.2.1 HX.out.1 HC.out.2.1 HC.out.1
      clear HQ
      go_wp2_with fail
      clear hm0
      refine wp_region_dep (by kernel_rfl) [some 83,some 84,some 85,some 86,some 87,some 88,some 89,some 82,some 90,some 91,some 16,some 17] [[],[],[0,1],[2],[],[],[3,4,5],[6],[7],[7],[8],[9]] [[],[],[0,1],[2,0,1],[],[],[3,2,0,1,4,5],[6,3,2,0,1,4,5],[7,6,3,2,0,1,4,5],[7,6,3,2,0,1,4,5],[8,7,6,3,2,0,1,4,5],[9,7,6,3,2,0,1,4,5]] (by kernel_rfl) (by decide) (fun i v W=>match i with | 0=>v=.slice (some ⟨bl,ol,none⟩) ml.length cl | 1=>v=.int .i64 (zi:Int) | 2=>v=.pointer (some ⟨bl,ol+zi * 2,none⟩) | 3=>v=.agg #[.slice pu (gM ml zi).up.length cu,.slice pv nv cv] | 4=>v=.agg #[.slice px X.up.length cx,.slice (some ⟨bz,oz,none⟩) X.val.length cz] | 5=>v=.slice pf l.length cf | 6=>v=.tuple #[.bool true,.int .i64 0] | 7=>v=.tuple #[.bool true,.int .i64 0] | 8=>v=.bool true | 9=>v=.int .i64 0 | 10=>v=.bool true | 11=>v=.int .i64 0 | _=>True) (fun _ W=>Below wr.heap.size wr W) (fun _ W W'=>Below W.heap.size W W') ?hle ((Below.refl _ _).drew) (allLt 12 ?steps) ?fin
      case hle =>
       intro i j v W W' hij hn hl h
       match j,h with
       | 0,h=>exact h
       | 1,h=>exact h
       | 2,h=>exact h
       | 3,h=>exact h
       | 4,h=>exact h
       | 5,h=>exact h
       | 6,h=>exact h
       | 7,h=>exact h
       | 8,h=>exact h
       | 9,h=>exact h
       | 10,h=>exact h
       | 11,h=>exact h
       | _+12,_=>trivial
      case steps =>
       refine ⟨⟨⟨⟨⟨⟨⟨⟨⟨⟨⟨⟨trivial,?s0⟩,?s1⟩,?s2⟩,?s3⟩,?s4⟩,?s5⟩,?s6⟩,?s7⟩,?s8⟩,?s9⟩,?s10⟩,?s11⟩
       case s0 =>
        intro done a W hW hd hnd hno hO hN
        have o0:a.tmps[0]?=some (.slice (some ⟨bl,ol,none⟩) ml.length cl):=(hO.out 0 (by decide)).trans rfl
        exact relVal rfl (.slice (some ⟨bl,ol,none⟩) ml.length cl) _ rfl (by go_simp) ⟨_,rfl,rfl,hW,Below.refl _ _⟩
       case s1 =>
        intro done a W hW hd hnd hno hO hN
        have o13:a.tmps[13]?=some (.int .i64 (zi:Int)):=(hO.out 13 (by decide)).trans rfl
        exact relVal rfl (.int .i64 (zi:Int)) _ rfl (by go_simp) ⟨_,rfl,rfl,hW,Below.refl _ _⟩
       case s2 =>
        intro done a W hW hd hnd hno hO hN
        obtain ⟨v0,g0,r0⟩:=hN 0 (by decide)
        have g0:a.tmps[83]?=some v0:=g0
        have e0:v0=.slice (some ⟨bl,ol,none⟩) ml.length cl:=r0
        rw [e0] at g0
        obtain ⟨v1,g1,r1⟩:=hN 1 (by decide)
        have g1:a.tmps[84]?=some v1:=g1
        have e1:v1=.int .i64 (zi:Int):=r1
        rw [e1] at g1
        exact relVal rfl (.pointer (some ⟨bl,ol+zi * 2,none⟩)) _ rfl (by go_simp) ⟨_,rfl,rfl,hW,Below.refl _ _⟩
       case s3 =>
        intro done a W hW hd hnd hno hO hN
        obtain ⟨v2,g2,r2⟩:=hN 2 (by decide)
        have g2:a.tmps[85]?=some v2:=g2
        have e2:v2=.pointer (some ⟨bl,ol+zi * 2,none⟩):=r2
        rw [e2] at g2
        have hl:=ldM (HY.out W hW).1 (HY.out W hW).2.1
        exact relVal rfl (.agg #[.slice pu (gM ml zi).up.length cu,.slice pv nv cv]) _ rfl (by simp [execOp,Act.eval,g2,hl,Result.andThen]) ⟨_,rfl,rfl,hW,Below.refl _ _⟩
       case s4 =>
        intro done a W hW hd hnd hno hO hN
        have o7:a.tmps[7]?=some (.pointer (some ⟨bX,0,none⟩)):=(hO.out 7 (by decide)).trans rfl
        have hl:=run_ldM (HY.out W hW).2.2.2.2.2.1
        exact relVal rfl (.agg #[.slice px X.up.length cx,.slice (some ⟨bz,oz,none⟩) X.val.length cz]) _ rfl (by simp [execOp,Act.eval,o7,hl,Result.andThen]) ⟨_,rfl,rfl,hW,Below.refl _ _⟩
       case s5 =>
        intro done a W hW hd hnd hno hO hN
        have o14:a.tmps[14]?=some (.slice pf l.length cf):=(hO.out 14 (by decide)).trans rfl
        exact relVal rfl (.slice pf l.length cf) _ rfl (by go_simp) ⟨_,rfl,rfl,hW,Below.refl _ _⟩
       case s6 =>
        intro done a W hW hd hnd hno hO hN
        obtain ⟨v3,g3,r3⟩:=hN 3 (by decide)
        have g3:a.tmps[86]?=some v3:=g3
        have e3:v3=.agg #[.slice pu (gM ml zi).up.length cu,.slice pv nv cv]:=r3
        rw [e3] at g3
        obtain ⟨v4,g4,r4⟩:=hN 4 (by decide)
        have g4:a.tmps[87]?=some v4:=g4
        have e4:v4=.agg #[.slice px X.up.length cx,.slice (some ⟨bz,oz,none⟩) X.val.length cz]:=r4
        rw [e4] at g4
        obtain ⟨v5,g5,r5⟩:=hN 5 (by decide)
        have g5:a.tmps[88]?=some v5:=g5
        have e5:v5=.slice pf l.length cf:=r5
        rw [e5] at g5
        refine relCallF rfl rfl 25 [.tmp 86,.tmp 87,.tmp 88] #[25,25,27] rfl [.agg #[.slice pu (gM ml zi).up.length cu,.slice pv nv cv],.agg #[.slice px X.up.length cx,.slice (some ⟨bz,oz,none⟩) X.val.length cz],.slice pf l.length cf] (by simp [Act.eval,g3,g4,g5]) (fun _ _=>by kernel_rfl) (Calls.mono (KB.out W hW) ?_)
        rintro e W2 ⟨rfl,h2⟩
        exact ⟨_,rfl,_,rfl,rfl,hW.trans (h2.mono hW.size),h2⟩
       case s7 =>
        intro done a W hW hd hnd hno hO hN
        obtain ⟨v6,g6,r6⟩:=hN 6 (by decide)
        have g6:a.tmps[89]?=some v6:=g6
        have e6:v6=.tuple #[.bool true,.int .i64 0]:=r6
        rw [e6] at g6
        exact relVal rfl (.tuple #[.bool true,.int .i64 0]) _ rfl (by go_simp) ⟨_,rfl,rfl,hW,Below.refl _ _⟩
       case s8 =>
        intro done a W hW hd hnd hno hO hN
        obtain ⟨v7,g7,r7⟩:=hN 7 (by decide)
        have g7:a.tmps[82]?=some v7:=g7
        have e7:v7=.tuple #[.bool true,.int .i64 0]:=r7
        rw [e7] at g7
        exact relVal rfl (.bool true) _ rfl (by go_simp) ⟨_,rfl,rfl,hW,Below.refl _ _⟩
       case s9 =>
        intro done a W hW hd hnd hno hO hN
        obtain ⟨v7,g7,r7⟩:=hN 7 (by decide)
        have g7:a.tmps[82]?=some v7:=g7
        have e7:v7=.tuple #[.bool true,.int .i64 0]:=r7
        rw [e7] at g7
        exact relVal rfl (.int .i64 0) _ rfl (by go_simp) ⟨_,rfl,rfl,hW,Below.refl _ _⟩
       case s10 =>
        intro done a W hW hd hnd hno hO hN
        obtain ⟨v8,g8,r8⟩:=hN 8 (by decide)
        have g8:a.tmps[90]?=some v8:=g8
        have e8:v8=.bool true:=r8
        rw [e8] at g8
        exact relVal rfl (.bool true) _ rfl (by go_simp) ⟨_,rfl,rfl,hW,Below.refl _ _⟩
       case s11 =>
        intro done a W hW hd hnd hno hO hN
        obtain ⟨v9,g9,r9⟩:=hN 9 (by decide)
        have g9:a.tmps[91]?=some v9:=g9
        have e9:v9=.int .i64 0:=r9
        rw [e9] at g9
        exact relVal rfl (.int .i64 0) _ rfl (by go_simp) ⟨_,rfl,rfl,hW,Below.refl _ _⟩
      case fin =>
       intro vs done w8 hdone hS hV
       have e10:vs 10=.bool true:=hV 10 (by decide)
       have e11:vs 11=.int .i64 0:=hV 11 (by decide)
       have HS1:=show Hid (Below wr.heap.size wr w8) from hS
       simp only [putAll,Act.put,List.setIfInBounds_toArray,List.set_cons_zero,List.set_cons_succ,Nat.reduceAdd,e10,e11]
       clear hV hS e10 e11 KB
       have HY2:=show Hid (∀ W,Below w8.heap.size w8 W→_) from fun W hW=>HY.out W (HS1.out.trans (hW.mono HS1.out.size))
       have KK2:=show Hid (∀ W,Below w8.heap.size w8 W→_) from fun W hW=>KK.out W (HS1.out.trans (hW.mono HS1.out.size))
       have HB8:=show Hid (Below w5.heap.size w5 w8) from HBD.out.trans (HS1.out.mono HBD.out.size)
       clear HY KK HS1 HBD
       go_wp2_with fail
       refine wp_region_dep (by kernel_rfl) [some 92,some 93,some 94,some 95,some 96,some 97,some 98,some 99,some 100,some 101,some 102,some 103,some 104,some 105,some 106,some 107,some 108] [[],[0],[1],[2],[3,2],[2,4],[5],[6],[6],[7,8,6],[9,6],[6],[6],[6],[10,11,12,13,6],[14,6],[6,15]] [[],[0],[1,0],[2,1,0],[3,2,1,0],[2,1,0,4,3],[5,2,1,0,4,3],[6,5,2,1,0,4,3],[6,5,2,1,0,4,3],[7,6,5,2,1,0,4,3,8],[9,7,6,5,2,1,0,4,3,8],[6,5,2,1,0,4,3],[6,5,2,1,0,4,3],[6,5,2,1,0,4,3],[10,9,7,6,5,2,1,0,4,3,8,11,12,13],[14,10,9,7,6,5,2,1,0,4,3,8,11,12,13],[6,5,2,1,0,4,3,15,14,10,9,7,8,11,12,13]] (by kernel_rfl) (by decide) (fun i v W=>match i with | 0=>v=.bool true | 1=>v=.bool false | 2=>v=.bool false | 3=>v=.int .i64 0 | 4=>v=.bool false | 5=>v=.bool false | 6=>v=.bool false | 7=>v=.slice (some ⟨bl,ol,none⟩) ml.length cl | 8=>v=.int .i64 (zi:Int) | 9=>v=.pointer (some ⟨bl,ol+zi * 2,none⟩) | 10=>v=.agg #[.slice pu (gM ml zi).up.length cu,.slice pv nv cv] | 11=>v=.agg #[.slice px X.up.length cx,.slice (some ⟨bz,oz,none⟩) X.val.length cz] | 12=>v=.slice pf l.length cf | 13=>v=.slice pt t.length ct | 14=>v=.bool true | 15=>v=.bool false | 16=>v=.bool false | _=>True) (fun _ W=>Below w8.heap.size w8 W) (fun _ W W'=>Below W.heap.size W W') ?hle ((Below.refl _ _).drew) (allLt 17 ?steps) ?fin
       case hle =>
        intro i j v W W' hij hn hl h
        match j,h with
        | 0,h=>exact h
        | 1,h=>exact h
        | 2,h=>exact h
        | 3,h=>exact h
        | 4,h=>exact h
        | 5,h=>exact h
        | 6,h=>exact h
        | 7,h=>exact h
        | 8,h=>exact h
        | 9,h=>exact h
        | 10,h=>exact h
        | 11,h=>exact h
        | 12,h=>exact h
        | 13,h=>exact h
        | 14,h=>exact h
        | 15,h=>exact h
        | 16,h=>exact h
        | _+17,_=>trivial
       case steps =>
        refine ⟨⟨⟨⟨⟨⟨⟨⟨⟨⟨⟨⟨⟨⟨⟨⟨⟨trivial,?s0⟩,?s1⟩,?s2⟩,?s3⟩,?s4⟩,?s5⟩,?s6⟩,?s7⟩,?s8⟩,?s9⟩,?s10⟩,?s11⟩,?s12⟩,?s13⟩,?s14⟩,?s15⟩,?s16⟩
        case s0 =>
         intro done a W hW hd hnd hno hO hN
         have o16:a.tmps[16]?=some (.bool true):=(hO.out 16 (by decide)).trans rfl
         exact relVal rfl (.bool true) _ rfl (by go_simp) ⟨_,rfl,rfl,hW,Below.refl _ _⟩
        case s1 =>
         intro done a W hW hd hnd hno hO hN
         obtain ⟨v0,g0,r0⟩:=hN 0 (by decide)
         have g0:a.tmps[92]?=some v0:=g0
         have e0:v0=.bool true:=r0
         rw [e0] at g0
         exact relVal rfl (.bool false) _ rfl (by go_simp) ⟨_,rfl,rfl,hW,Below.refl _ _⟩
        case s2 =>
         intro done a W hW hd hnd hno hO hN
         obtain ⟨v1,g1,r1⟩:=hN 1 (by decide)
         have g1:a.tmps[93]?=some v1:=g1
         have e1:v1=.bool false:=r1
         rw [e1] at g1
         exact relVal rfl (.bool false) _ rfl (by go_simp) ⟨_,rfl,rfl,hW,Below.refl _ _⟩
        case s3 =>
         intro done a W hW hd hnd hno hO hN
         obtain ⟨v2,g2,r2⟩:=hN 2 (by decide)
         have g2:a.tmps[94]?=some v2:=g2
         have e2:v2=.bool false:=r2
         rw [e2] at g2
         have o17:a.tmps[17]?=some (.int .i64 0):=(hO.out 17 (by decide)).trans rfl
         exact relValW rfl (.int .i64 0) _ ((wanted_is rfl rfl g2).trans rfl) (by go_simp) ⟨_,rfl,rfl,hW,Below.refl _ _⟩
        case s4 =>
         intro done a W hW hd hnd hno hO hN
         obtain ⟨v3,g3,r3⟩:=hN 3 (by decide)
         have g3:a.tmps[95]?=some v3:=g3
         have e3:v3=.int .i64 0:=r3
         rw [e3] at g3
         obtain ⟨v2,g2,r2⟩:=hN 2 (by decide)
         have g2:a.tmps[94]?=some v2:=g2
         have e2:v2=.bool false:=r2
         rw [e2] at g2
         exact relValW rfl (.bool false) _ ((wanted_is rfl rfl g2).trans rfl) (by go_simp) ⟨_,rfl,rfl,hW,Below.refl _ _⟩
        case s5 =>
         intro done a W hW hd hnd hno hO hN
         obtain ⟨v2,g2,r2⟩:=hN 2 (by decide)
         have g2:a.tmps[94]?=some v2:=g2
         have e2:v2=.bool false:=r2
         rw [e2] at g2
         obtain ⟨v4,g4,r4⟩:=hN 4 (by decide)
         have g4:a.tmps[96]?=some v4:=g4
         have e4:v4=.bool false:=r4
         rw [e4] at g4
         exact relVal rfl (.bool false) _ rfl (by go_simp) ⟨_,rfl,rfl,hW,Below.refl _ _⟩
        case s6 =>
         intro done a W hW hd hnd hno hO hN
         obtain ⟨v5,g5,r5⟩:=hN 5 (by decide)
         have g5:a.tmps[97]?=some v5:=g5
         have e5:v5=.bool false:=r5
         rw [e5] at g5
         exact relVal rfl (.bool false) _ rfl (by go_simp) ⟨_,rfl,rfl,hW,Below.refl _ _⟩
        case s7 =>
         intro done a W hW hd hnd hno hO hN
         obtain ⟨v6,g6,r6⟩:=hN 6 (by decide)
         have g6:a.tmps[98]?=some v6:=g6
         have e6:v6=.bool false:=r6
         rw [e6] at g6
         have o0:a.tmps[0]?=some (.slice (some ⟨bl,ol,none⟩) ml.length cl):=(hO.out 0 (by decide)).trans rfl
         exact relValW rfl (.slice (some ⟨bl,ol,none⟩) ml.length cl) _ ((wanted_is rfl rfl g6).trans rfl) (by go_simp) ⟨_,rfl,rfl,hW,Below.refl _ _⟩
        case s8 =>
         intro done a W hW hd hnd hno hO hN
         obtain ⟨v6,g6,r6⟩:=hN 6 (by decide)
         have g6:a.tmps[98]?=some v6:=g6
         have e6:v6=.bool false:=r6
         rw [e6] at g6
         have o13:a.tmps[13]?=some (.int .i64 (zi:Int)):=(hO.out 13 (by decide)).trans rfl
         exact relValW rfl (.int .i64 (zi:Int)) _ ((wanted_is rfl rfl g6).trans rfl) (by go_simp) ⟨_,rfl,rfl,hW,Below.refl _ _⟩
        case s9 =>
         intro done a W hW hd hnd hno hO hN
         obtain ⟨v7,g7,r7⟩:=hN 7 (by decide)
         have g7:a.tmps[99]?=some v7:=g7
         have e7:v7=.slice (some ⟨bl,ol,none⟩) ml.length cl:=r7
         rw [e7] at g7
         obtain ⟨v8,g8,r8⟩:=hN 8 (by decide)
         have g8:a.tmps[100]?=some v8:=g8
         have e8:v8=.int .i64 (zi:Int):=r8
         rw [e8] at g8
         obtain ⟨v6,g6,r6⟩:=hN 6 (by decide)
         have g6:a.tmps[98]?=some v6:=g6
         have e6:v6=.bool false:=r6
         rw [e6] at g6
         exact relValW rfl (.pointer (some ⟨bl,ol+zi * 2,none⟩)) _ ((wanted_is rfl rfl g6).trans rfl) (by go_simp) ⟨_,rfl,rfl,hW,Below.refl _ _⟩
        case s10 =>
         intro done a W hW hd hnd hno hO hN
         obtain ⟨v9,g9,r9⟩:=hN 9 (by decide)
         have g9:a.tmps[101]?=some v9:=g9
         have e9:v9=.pointer (some ⟨bl,ol+zi * 2,none⟩):=r9
         rw [e9] at g9
         obtain ⟨v6,g6,r6⟩:=hN 6 (by decide)
         have g6:a.tmps[98]?=some v6:=g6
         have e6:v6=.bool false:=r6
         rw [e6] at g6
         have hl:=ldM (HY2.out W hW).1 (HY2.out W hW).2.1
         exact relValW rfl (.agg #[.slice pu (gM ml zi).up.length cu,.slice pv nv cv]) _ ((wanted_is rfl rfl g6).trans rfl) (by simp [execOp,Act.eval,g9,hl,Result.andThen]) ⟨_,rfl,rfl,hW,Below.refl _ _⟩
        case s11 =>
         intro done a W hW hd hnd hno hO hN
         obtain ⟨v6,g6,r6⟩:=hN 6 (by decide)
         have g6:a.tmps[98]?=some v6:=g6
         have e6:v6=.bool false:=r6
         rw [e6] at g6
         have o7:a.tmps[7]?=some (.pointer (some ⟨bX,0,none⟩)):=(hO.out 7 (by decide)).trans rfl
         have hl:=run_ldM (HY2.out W hW).2.2.2.2.2.1
         exact relValW rfl (.agg #[.slice px X.up.length cx,.slice (some ⟨bz,oz,none⟩) X.val.length cz]) _ ((wanted_is rfl rfl g6).trans rfl) (by simp [execOp,Act.eval,o7,hl,Result.andThen]) ⟨_,rfl,rfl,hW,Below.refl _ _⟩
        case s12 =>
         intro done a W hW hd hnd hno hO hN
         obtain ⟨v6,g6,r6⟩:=hN 6 (by decide)
         have g6:a.tmps[98]?=some v6:=g6
         have e6:v6=.bool false:=r6
         rw [e6] at g6
         have o14:a.tmps[14]?=some (.slice pf l.length cf):=(hO.out 14 (by decide)).trans rfl
         exact relValW rfl (.slice pf l.length cf) _ ((wanted_is rfl rfl g6).trans rfl) (by go_simp) ⟨_,rfl,rfl,hW,Below.refl _ _⟩
        case s13 =>
         intro done a W hW hd hnd hno hO hN
         obtain ⟨v6,g6,r6⟩:=hN 6 (by decide)
         have g6:a.tmps[98]?=some v6:=g6
         have e6:v6=.bool false:=r6
         rw [e6] at g6
         have o12:a.tmps[12]?=some (.slice pt t.length ct):=(hO.out 12 (by decide)).trans rfl
         exact relValW rfl (.slice pt t.length ct) _ ((wanted_is rfl rfl g6).trans rfl) (by go_simp) ⟨_,rfl,rfl,hW,Below.refl _ _⟩
        case s14 =>
         intro done a W hW hd hnd hno hO hN
         obtain ⟨v10,g10,r10⟩:=hN 10 (by decide)
         have g10:a.tmps[102]?=some v10:=g10
         have e10:v10=.agg #[.slice pu (gM ml zi).up.length cu,.slice pv nv cv]:=r10
         rw [e10] at g10
         obtain ⟨v11,g11,r11⟩:=hN 11 (by decide)
         have g11:a.tmps[103]?=some v11:=g11
         have e11:v11=.agg #[.slice px X.up.length cx,.slice (some ⟨bz,oz,none⟩) X.val.length cz]:=r11
         rw [e11] at g11
         obtain ⟨v12,g12,r12⟩:=hN 12 (by decide)
         have g12:a.tmps[104]?=some v12:=g12
         have e12:v12=.slice pf l.length cf:=r12
         rw [e12] at g12
         obtain ⟨v13,g13,r13⟩:=hN 13 (by decide)
         have g13:a.tmps[105]?=some v13:=g13
         have e13:v13=.slice pt t.length ct:=r13
         rw [e13] at g13
         obtain ⟨v6,g6,r6⟩:=hN 6 (by decide)
         have g6:a.tmps[98]?=some v6:=g6
         have e6:v6=.bool false:=r6
         rw [e6] at g6
         refine relCallWF rfl ((wanted_is rfl rfl g6).trans rfl) 28 [.tmp 102,.tmp 103,.tmp 104,.tmp 105] #[25,25,27,55] rfl [.agg #[.slice pu (gM ml zi).up.length cu,.slice pv nv cv],.agg #[.slice px X.up.length cx,.slice (some ⟨bz,oz,none⟩) X.val.length cz],.slice pf l.length cf,.slice pt t.length ct] (by simp [Act.eval,g10,g11,g12,g13]) (fun _ _=>by kernel_rfl) (Calls.mono (KK2.out W hW) ?_)
         rintro e W2 ⟨rfl,h2⟩
         exact ⟨_,rfl,_,rfl,rfl,hW.trans (h2.mono hW.size),h2⟩
        case s15 =>
         intro done a W hW hd hnd hno hO hN
         obtain ⟨v14,g14,r14⟩:=hN 14 (by decide)
         have g14:a.tmps[106]?=some v14:=g14
         have e14:v14=.bool true:=r14
         rw [e14] at g14
         obtain ⟨v6,g6,r6⟩:=hN 6 (by decide)
         have g6:a.tmps[98]?=some v6:=g6
         have e6:v6=.bool false:=r6
         rw [e6] at g6
         exact relValW rfl (.bool false) _ ((wanted_is rfl rfl g6).trans rfl) (by go_simp) ⟨_,rfl,rfl,hW,Below.refl _ _⟩
        case s16 =>
         intro done a W hW hd hnd hno hO hN
         obtain ⟨v6,g6,r6⟩:=hN 6 (by decide)
         have g6:a.tmps[98]?=some v6:=g6
         have e6:v6=.bool false:=r6
         rw [e6] at g6
         obtain ⟨v15,g15,r15⟩:=hN 15 (by decide)
         have g15:a.tmps[107]?=some v15:=g15
         have e15:v15=.bool false:=r15
         rw [e15] at g15
         exact relVal rfl (.bool false) _ rfl (by go_simp) ⟨_,rfl,rfl,hW,Below.refl _ _⟩
       case fin =>
        intro vs done w9 hdone hS hV
        have e16:vs 16=.bool false:=hV 16 (by decide)
        have HB9:=show Hid (Below w5.heap.size w5 w9) from HB8.out.trans (hS.mono HB8.out.size)
        simp only [putAll,Act.put,List.setIfInBounds_toArray,List.set_cons_zero,List.set_cons_succ,Nat.reduceAdd,e16]
        clear hV hS e16 KK2 HB8
        go_wp2_with fail
        go_roundw
        case rel=>exact ⟨zi+1,by omega,val_int (by omega),HB9.out⟩
        case measure=>(simp only [intOf];omega)
   ·skip
    obtain rfl:zi=ml.length:=by omega
    have hzi:¬ (ml.length:Int)<(ml.length:Int):=by omega
    have HB:=show Hid (Below w.heap.size w wr) from (HW.out wr HB1.out).1
    have KH:=show Hid _ from heads19_any wr
    clear HW HB1
    go_wp2_with fail
    refine Calls.mono KH.out ?_
    rintro e w9 ⟨rfl,hb⟩
    have HB2:=show Hid (Below w.heap.size w w9) from HB.out.trans (hb.mono HB.out.size)
    clear hb HB KH
    go_wp2_with fail
    go_ret
    exact ⟨rfl,HB2.out⟩
end Go.Proofs.Ytoedidbbjnnpnaa.Wm
