/-
  MorphKeeps, walked. No condition.
-/
import Derived.Test.YtoedidbbjnnpnaaTH24
namespace Go.Proofs.Ytoedidbbjnnpnaa.Wm
open Go.RowKit Go.Maps
open Wd (Md Rc Ed upd vl allW inW)
open Fm (Nd)
set_option linter.unusedSimpArgs false
set_option linter.unusedVariables false
set_option maxRecDepth 100000 in
set_option maxHeartbeats 16000000 in
theorem morphKeeps_any (w:World) {L:Nat} {um vm un vn fv rv:Value} {m n:Md} {fl:List Int} {rs:List Nd} (hm:IsM w L um vm m) (hmf:Fit m) (hn:IsM w L un vn n) (hnf:Fit n) (hf:IsI w L fv fl) (hL:L≤w.heap.size) (hfl:fl.length≤140737488351232) (hfx:∀ x ∈ fl,-9223372036854775808≤x∧x≤9223372036854775807)
 (hmv:∀ r ∈ m.val,r.length * 16≤140737488355328) (hmu:∀ r ∈ m.up,r.length * 8≤140737488355328) (a:Int) (ha : -9223372036854775808≤a∧a≤9223372036854775807) (hR:IsR w rv rs) (hgd:∀ n ∈ rs,Fm.good n) (hrl:rs.length≤140737488351232) :
 Calls Try.prog 6 #[.agg #[um,vm],.agg #[un,vn],fv,.int .i64 a,rv] w fun e w'=>e=.returned (.bool true)∧Below w.heap.size w w':=by
 obtain ⟨M,hO⟩:=isO_ex m.up
 obtain ⟨pm,cm,rfl⟩:=IsS.form hm.up
 obtain ⟨pvm,cvm,rfl⟩:=IsS.form hm.val
 obtain ⟨pn,cn,rfl⟩:=IsS.form hn.up
 obtain ⟨pvn,cvn,rfl⟩:=IsS.form hn.val
 obtain ⟨pf,cf,rfl⟩:=IsS.form hf
 have HF:=show Hid (Fit m∧Fit n∧fl.length≤140737488351232∧(∀ x ∈ fl,-9223372036854775808≤x∧x≤9223372036854775807)∧IsO m.up M∧(∀ r ∈ m.val,r.length * 16≤140737488355328)∧(∀ r ∈ m.up,r.length * 8≤140737488355328)) from ⟨hmf,hnf,hfl,hfx,hO,hmv,hmu⟩
 have HA:=show Hid (-9223372036854775808≤a∧a≤9223372036854775807) from ha
 have K0:=show Hid (∀ W,Below w.heap.size w W→Calls Try.prog 27 #[rv] W fun e w'=>(∃ u t,e=.returned u∧IsT w' u t)∧Below W.heap.size W w') from fun W hW=>by
  refine rowsOf_any W (rs:=rs) ?_ hgd hrl
  obtain ⟨p,c,e,h1,h2,h3⟩:=hR.at
  refine ⟨p,c,e,h1,h2,fun hp => ?_⟩
  obtain ⟨b,o,e2,h4⟩:=h3 hp
  exact ⟨b,o,e2,fun k hk=>h4 W hW k hk⟩
 have H0:=hidL ((((lat_bel (Below.refl w.heap.size w) (Nat.le_refl _)).and (lat_isM hm hL)).and (lat_isM hn hL)).and (lat_isI hf hL))
 clear hm hmf hn hnf hf hL hfl hfx hmv hmu hR hgd hrl hO ha
 go_enter Try.func6,Try.ntmps6
 go_wp2_with (refine wpList_box 25 _ rfl _ rfl rfl ?_)
 intro w1 bM hn
 have H1:=hidL ((H0.out.next (hn.bel)).and (lat_box hn.blk))
 clear H0 hn
 go_wp2_with (refine wpList_box 25 _ rfl _ rfl rfl ?_)
 intro w2 bN hn
 have H2:=hidL ((H1.out.next (hn.bel)).and (lat_box hn.blk))
 clear H1 hn
 have K:=show Hid _ from K0.out w2 (H2.out.now.1.1.1.1.1)
 clear K0
 go_wp2_with fail
 refine Calls.mono K.out ?_
 rintro e w3 ⟨⟨ut,t,rfl,ht⟩,hb⟩
 obtain ⟨pt,ct,rfl,_⟩:=ht.nd
 have H3:=hidL ((H2.out.next (hb)).and (lat_isT ht))
 clear H2 hb ht K
 have K:=show Hid _ from bounded_any w3 (H3.out.now.1.1.1.1.1.2) HF.out.1 (H3.out.now.1.1.1.1.2) HF.out.2.1 (H3.out.now.1.1.1.2) (Nat.le_refl _) HF.out.2.2.1 HF.out.2.2.2.1
 have hx0:=show Hid _ from (H3.out.now.1.1.2)
 have hx1:=show Hid _ from (H3.out.now.1.2)
 go_wp2_with (first | refine wpList_ldw 25 _ rfl bM rfl _ _ hx0.out rfl Try.underlying25 sizeM rfl ?_ | refine wpList_ldw 25 _ rfl bN rfl _ _ hx1.out rfl Try.underlying25 sizeM rfl ?_)
 clear hx0 hx1
 refine Calls.mono K.out ?_
 rintro e w4 ⟨r,er,rfl,hR,hb⟩
 have HR:=show Hid _ from hR
 have H4:=hidL (H3.out.next (hb))
 clear H3 hb K hR
 rcases show (er≠0∧r=false)∨(er=0∧r=false)∨(er=0∧r=true∧Wd.Good m∧Wd.Good n∧mapOk m n fl=true∧BndP m n fl) from by
  rcases HR.out with ⟨_,h1,h2⟩ | ⟨_,_,h1,h2⟩ | ⟨h0,h1,h2,h3⟩
  ·exact Or.inl ⟨by omega,h1⟩
  ·exact Or.inl ⟨by omega,h1⟩
  ·cases r
   ·exact Or.inr (Or.inl ⟨h3,rfl⟩)
   ·exact Or.inr (Or.inr ⟨h3,rfl,h0.1,h0.2,h1,h2.1 rfl⟩) with ⟨h0,rfl⟩ | ⟨rfl,rfl⟩ | ⟨rfl,rfl,hgm,hgn,hok,hbd⟩
 ·skip
  have her:(er == 0)=false:=by simpa using h0
  clear h0 HR
  have K:=show Hid _ from topQuotient_any w4 HF.out.2.2.2.2.1 (H4.out.now.1.1.1.1.1.2) HF.out.1 (Nat.le_refl _) HF.out.2.2.2.2.2.1
  have hx0:=show Hid _ from (H4.out.now.1.1.2)
  go_wp2_with (first | refine wpList_ldw 25 _ rfl bM rfl _ _ hx0.out rfl Try.underlying25 sizeM rfl ?_)
  clear hx0
  refine Calls.mono K.out ?_
  rintro e w5 ⟨u',v',lv,er2,rfl,hR,hb⟩
  have HR:=show Hid _ from hR
  obtain ⟨⟨pa,na,ca,rfl⟩,pz,nz,cz,rfl⟩:=quo_form hR
  have H5:=hidL (H4.out.next (hb))
  clear H4 hb K hR
  rcases HR.out with ⟨hg,rfl,_⟩ | ⟨hg,rfl,E,q,M',h2,h3,h4,h5,h6,h7,h8,h9,h10⟩
  ·skip
   clear hg HR
   go_wp2_with (refine wpList_alloc 25 rfl _ zero_md rfl ?_)
   intro w6a bQ hn
   go_wp2_with (refine wpList_st 25 rfl rfl _ _ rfl bQ rfl _ rfl _ _ hn.blk sizeM rfl (by simp [Value.oneCell']) ?_)
   intro w6 hc hk
   have H6:=hidL ((H5.out.next (below_box hn hk)).and (lat_box hc))
   clear H5 hn hc hk
   have KH:=show Hid _ from heads19_any w6
   go_wp2_with fail
   refine Calls.mono KH.out ?_
   rintro e w7 ⟨rfl,hb⟩
   have H7:=hidL (H6.out.next (hb))
   clear H6 hb KH
   have HB:=show Hid _ from (H7.out.now.1.1.1.1.1.1.1)
   clear H7
   go_wp2_with fail
   go_ret
   exact ⟨rfl,HB.out⟩
  ·skip
   have HG:=show Hid (Wd.Good m) from hg
   have HQ:=show Hid (Wd.Good (tdM q M')∧Fit (tdM q M')∧mapOk m (tdM q M') (((List.range m.up.length).map (cnF E)).map fun n:Nat=>(n:Int))=true∧BndP m (tdM q M') (((List.range m.up.length).map (cnF E)).map fun n:Nat=>(n:Int))) from ⟨good_td h7 h6,fit_td h8 (Wd.shaped_and h6.shape).2.1,quo_map hg h4 h5 h6 h7⟩
   have HLC:=show Hid (((List.range m.up.length).map (cnF E)).length≤512∧∀ v ∈ (List.range m.up.length).map (cnF E),v<(tdM q M').up.length) from ⟨by rw [List.length_map,List.length_range];exact (Wd.shaped_and hg.shape).2.1,fun v hv=>by
    obtain ⟨x,hx,rfl⟩:=List.mem_map.1 hv
    rw [tdM_len]
    exact (h5.ex _).2 ⟨x,List.mem_range.1 hx,rfl⟩⟩
   obtain ⟨pc,cc,rfl⟩:=h2.slice
   have HH:=hidL ((H5.out.and (lat_isM (show IsM w5 w5.heap.size _ _ (tdM q M') from ⟨h9.isU,h10.isV⟩) (Nat.le_refl _))).and (lat_own h2))
   clear H5 h2 h3 h4 h5 h6 h7 h8 h9 h10 hg HR
   have H5:=HH
   clear HH
   generalize (List.range m.up.length).map (cnF E)=cl at *
   generalize tdM q M'=Q at *
   go_wp2_with (refine wpList_alloc 25 rfl _ zero_md rfl ?_)
   intro w6a bQ hn
   go_wp2_with (refine wpList_st 25 rfl rfl _ _ rfl bQ rfl _ rfl _ _ hn.blk sizeM rfl (by simp [Value.oneCell']) ?_)
   intro w6 hc hk
   have H6:=hidL ((H5.out.next (below_box hn hk)).and (lat_box hc))
   clear H5 hn hc hk
   have K:=show Hid _ from bounded_any w6 (H6.out.now.1.1.1.1.1.1.1.1.2) HF.out.1 (H6.out.now.1.1.2) HQ.out.2.1 (OwnI.isI (H6.out.now.1.2)) (Nat.le_refl _) (by rw [List.length_map];exact Nat.le_trans HLC.out.1 (by decide)) (fun x hx=>by obtain ⟨v,hv,rfl⟩:=List.mem_map.1 hx;have:=HLC.out.2 v hv;have:=(Wd.shaped_and (HQ.out.1).shape).2.1;omega)
   have hx0:=show Hid _ from (H6.out.now.1.1.1.1.1.2)
   have hx1:=show Hid _ from (H6.out.now.2)
   go_wp2_with (first | refine wpList_ldw 25 _ rfl bM rfl _ _ hx0.out rfl Try.underlying25 sizeM rfl ?_ | refine wpList_ldw 25 _ rfl bQ rfl _ _ hx1.out rfl Try.underlying25 sizeM rfl ?_)
   clear hx0 hx1
   refine Calls.mono K.out ?_
   rintro e w7 ⟨r3,er3,rfl,hR,hb⟩
   obtain ⟨rfl,rfl⟩:=bd_yes HG.out HQ.out.1 HQ.out.2.2.1 HQ.out.2.2.2 hR
   have H7:=hidL (H6.out.next (hb))
   clear H6 hb K hR
   have K:=show Hid _ from keeps_any w7 (H7.out.now.1.1.1.1.1.1.1.1.2) HF.out.1 (H7.out.now.1.1.2) HQ.out.2.1 (OwnI.isI (H7.out.now.1.2)) (H7.out.now.1.1.1.2) (Nat.le_refl _) HG.out HQ.out.1 HQ.out.2.2.1 HQ.out.2.2.2
   have hx0:=show Hid _ from (H7.out.now.1.1.1.1.1.2)
   have hx1:=show Hid _ from (H7.out.now.2)
   go_wp2_with (first | refine wpList_ldw 25 _ rfl bM rfl _ _ hx0.out rfl Try.underlying25 sizeM rfl ?_ | refine wpList_ldw 25 _ rfl bQ rfl _ _ hx1.out rfl Try.underlying25 sizeM rfl ?_)
   clear hx0 hx1
   refine Calls.mono K.out ?_
   rintro e w8 ⟨rfl,hb⟩
   have H8:=hidL (H7.out.next (hb))
   clear H7 hb K
   have K:=show Hid _ from topAbove_any w8 HF.out.2.2.2.2.1 (H8.out.now.1.1.1.1.1.1.1.1.2) HF.out.1 (Nat.le_refl _) HF.out.2.2.2.2.2.1 HF.out.2.2.2.2.2.2 a HA.out
   have hx0:=show Hid _ from (H8.out.now.1.1.1.1.1.2)
   go_wp2_with (first | refine wpList_ldw 25 _ rfl bM rfl _ _ hx0.out rfl Try.underlying25 sizeM rfl ?_)
   clear hx0
   refine Calls.mono K.out ?_
   rintro e w9 ⟨u',v',lv,er4,rfl,hR,hb⟩
   have HR:=show Hid _ from hR
   obtain ⟨⟨px,nx,cx,rfl⟩,py,ny,cy,rfl⟩:=abm_form hR
   have H9:=hidL (H8.out.next (hb))
   clear H8 hb K hR HQ HLC
   rcases HR.out with ⟨hg,_⟩ | ⟨_,hin,rfl,_⟩ | ⟨_,hin,rfl,l,hl,h2,h3,h4⟩
   ·skip
    exact absurd HG.out hg
   ·skip
    clear hin HR
    go_wp2_with (refine wpList_alloc 25 rfl _ zero_md rfl ?_)
    intro w10a bX hn
    go_wp2_with (refine wpList_st 25 rfl rfl _ _ rfl bX rfl _ rfl _ _ hn.blk sizeM rfl (by simp [Value.oneCell']) ?_)
    intro w10 hc hk
    have H10:=hidL ((H9.out.next (below_box hn hk)).and (lat_box hc))
    clear H9 hn hc hk
    have KH:=show Hid _ from heads19_any w10
    go_wp2_with fail
    refine Calls.mono KH.out ?_
    rintro e w11 ⟨rfl,hb⟩
    have H11:=hidL (H10.out.next (hb))
    clear H10 hb KH
    have HB:=show Hid _ from (H11.out.now.1.1.1.1.1.1.1.1.1.1)
    clear H11
    go_wp2_with fail
    go_ret
    exact ⟨rfl,HB.out⟩
   ·skip
    have hal:=inW_ok.1 hin
    have hax:a.toNat<m.up.length:=by omega
    have HX:=show Hid (mapOk (abT m M l) m (l.map fun n:Nat=>(n:Int))=true∧BndP (abT m M l) m (l.map fun n:Nat=>(n:Int))∧Wd.Good (abT m M l)∧Fit (abT m M l)) from abv_map HF.out.2.2.2.2.1 HG.out HF.out.1 hax hl
    have HAX:=show Hid (a.toNat<m.up.length∧inW m.up.length a=true) from ⟨hax,hin⟩
    have HLC:=show Hid (l.length≤512∧∀ v ∈ l,v<m.up.length) from ⟨by have h5:=(Wd.shaped_and HX.out.2.2.1.shape).2.1;have h6:(abT m M l).up.length=l.length:=tdU_len _ _ _;omega,fun v hv=>((ab_mem hl).1 hv).1⟩
    obtain ⟨pl,cl2,rfl⟩:=h2.slice
    have HH:=hidL ((H9.out.and (lat_isM (show IsM w9 w9.heap.size _ _ (abT m M l) from ⟨h3.isU,h4.isV⟩) (Nat.le_refl _))).and (lat_own h2))
    clear H9 hl h2 h3 h4 hin hal hax HR
    have H9:=HH
    clear HH
    generalize abT m M l=X at *
    go_wp2_with (refine wpList_alloc 25 rfl _ zero_md rfl ?_)
    intro w10a bX hn
    go_wp2_with (refine wpList_st 25 rfl rfl _ _ rfl bX rfl _ rfl _ _ hn.blk sizeM rfl (by simp [Value.oneCell']) ?_)
    intro w10 hc hk
    have H10:=hidL ((H9.out.next (below_box hn hk)).and (lat_box hc))
    clear H9 hn hc hk
    have K:=show Hid _ from bounded_any w10 (H10.out.now.1.1.2) HX.out.2.2.2 (H10.out.now.1.1.1.1.1.1.1.1.1.1.1.2) HF.out.1 (OwnI.isI (H10.out.now.1.2)) (Nat.le_refl _) (by rw [List.length_map];exact Nat.le_trans HLC.out.1 (by decide)) (fun x hx=>by obtain ⟨v,hv,rfl⟩:=List.mem_map.1 hx;have:=HLC.out.2 v hv;have:=(Wd.shaped_and (HG.out).shape).2.1;omega)
    have hx0:=show Hid _ from (H10.out.now.2)
    have hx1:=show Hid _ from (H10.out.now.1.1.1.1.1.1.1.1.2)
    go_wp2_with (first | refine wpList_ldw 25 _ rfl bX rfl _ _ hx0.out rfl Try.underlying25 sizeM rfl ?_ | refine wpList_ldw 25 _ rfl bM rfl _ _ hx1.out rfl Try.underlying25 sizeM rfl ?_)
    clear hx0 hx1
    refine Calls.mono K.out ?_
    rintro e w11 ⟨r3,er3,rfl,hR,hb⟩
    obtain ⟨rfl,rfl⟩:=bd_yes HX.out.2.2.1 HG.out HX.out.1 HX.out.2.1 hR
    have H11:=hidL (H10.out.next (hb))
    clear H10 hb K hR
    have K:=show Hid _ from keeps_any w11 (H11.out.now.1.1.2) HX.out.2.2.2 (H11.out.now.1.1.1.1.1.1.1.1.1.1.1.2) HF.out.1 (OwnI.isI (H11.out.now.1.2)) (H11.out.now.1.1.1.1.1.1.2) (Nat.le_refl _) HX.out.2.2.1 HG.out HX.out.1 HX.out.2.1
    have hx0:=show Hid _ from (H11.out.now.2)
    have hx1:=show Hid _ from (H11.out.now.1.1.1.1.1.1.1.1.2)
    go_wp2_with (first | refine wpList_ldw 25 _ rfl bX rfl _ _ hx0.out rfl Try.underlying25 sizeM rfl ?_ | refine wpList_ldw 25 _ rfl bM rfl _ _ hx1.out rfl Try.underlying25 sizeM rfl ?_)
    clear hx0 hx1
    refine Calls.mono K.out ?_
    rintro e w12 ⟨rfl,hb⟩
    have H12:=hidL (H11.out.next (hb))
    clear H11 hb K
    have K:=show Hid _ from topUnravel_any w12 HF.out.2.2.2.2.1 (H12.out.now.1.1.1.1.1.1.1.1.1.1.1.2) HF.out.1 (Nat.le_refl _) HF.out.2.2.2.2.2.1 a HA.out
    have hx0:=show Hid _ from (H12.out.now.1.1.1.1.1.1.1.1.2)
    go_wp2_with (first | refine wpList_ldw 25 _ rfl bM rfl _ _ hx0.out rfl Try.underlying25 sizeM rfl ?_)
    clear hx0
    refine Calls.mono K.out ?_
    rintro e w13 ⟨u',v',lv,er5,rfl,hR,hb⟩
    have HR:=show Hid _ from hR
    obtain ⟨⟨pu,nu,cu,rfl⟩,pw,nw,cw,rfl⟩:=unr_form hR
    have H13:=hidL (H12.out.next (hb))
    clear H12 hb K hR HX HLC
    rcases HR.out with ⟨hg,_⟩ | ⟨_,hin,_⟩ | ⟨_,hin,k,tt,rfl,hj,hk5,⟨_,_,rfl,_⟩ | ⟨hkk,rfl,h2,h3,h4⟩⟩
    ·skip
     exact absurd HG.out hg
    ·skip
     have:=HAX.out.2
     rw [this] at hin;cases hin
    ·skip
     clear hin hj hk5 HR
     go_wp2_with (refine wpList_alloc 25 rfl _ zero_md rfl ?_)
     intro w14a bU hn
     go_wp2_with (refine wpList_st 25 rfl rfl _ _ rfl bU rfl _ rfl _ _ hn.blk sizeM rfl (by simp [Value.oneCell']) ?_)
     intro w14 hc hk
     have H14:=hidL ((H13.out.next (below_box hn hk)).and (lat_box hc))
     clear H13 hn hc hk
     have KH:=show Hid _ from heads19_any w14
     go_wp2_with fail
     refine Calls.mono KH.out ?_
     rintro e w15 ⟨rfl,hb⟩
     have H15:=hidL (H14.out.next (hb))
     clear H14 hb KH
     have HB:=show Hid _ from (H15.out.now.1.1.1.1.1.1.1.1.1.1.1.1.1)
     clear H15
     go_wp2_with fail
     go_ret
     exact ⟨rfl,HB.out⟩
    ·skip
     have HX:=show Hid (mapOk (unM m M a.toNat k) m ((uEnds (tdU M m.up.length m.up.length) a.toNat k).map fun n:Nat=>(n:Int))=true∧BndP (unM m M a.toNat k) m ((uEnds (tdU M m.up.length m.up.length) a.toNat k).map fun n:Nat=>(n:Int))∧Wd.Good (unM m M a.toNat k)∧Fit (unM m M a.toNat k)) from un_map HF.out.2.2.2.2.1 HG.out HF.out.1 HAX.out.1 hj hkk (by omega)
     have HLC:=show Hid ((uEnds (tdU M m.up.length m.up.length) a.toNat k).length≤512∧∀ v ∈ uEnds (tdU M m.up.length m.up.length) a.toNat k,v<m.up.length) from ⟨hk5,un_lt HG.out HF.out.2.2.2.2.1 HAX.out.1 k⟩
     obtain ⟨pe,ce,rfl⟩:=h2.slice
     have HH:=hidL ((H13.out.and (lat_isM (show IsM w13 w13.heap.size _ _ (unM m M a.toNat k) from ⟨h3.isU,h4.isV⟩) (Nat.le_refl _))).and (lat_own h2))
     clear H13 hj hk5 hkk h2 h3 h4 hin HR
     have H13:=HH
     clear HH
     generalize unM m M a.toNat k=U at *
     generalize uEnds (tdU M m.up.length m.up.length) a.toNat k=el at *
     go_wp2_with (refine wpList_alloc 25 rfl _ zero_md rfl ?_)
     intro w14a bU hn
     go_wp2_with (refine wpList_st 25 rfl rfl _ _ rfl bU rfl _ rfl _ _ hn.blk sizeM rfl (by simp [Value.oneCell']) ?_)
     intro w14 hc hk
     have H14:=hidL ((H13.out.next (below_box hn hk)).and (lat_box hc))
     clear H13 hn hc hk
     have K:=show Hid _ from bounded_any w14 (H14.out.now.1.1.2) HX.out.2.2.2 (H14.out.now.1.1.1.1.1.1.1.1.1.1.1.1.1.1.2) HF.out.1 (OwnI.isI (H14.out.now.1.2)) (Nat.le_refl _) (by rw [List.length_map];exact Nat.le_trans HLC.out.1 (by decide)) (fun x hx=>by obtain ⟨v,hv,rfl⟩:=List.mem_map.1 hx;have:=HLC.out.2 v hv;have:=(Wd.shaped_and (HG.out).shape).2.1;omega)
     have hx0:=show Hid _ from (H14.out.now.2)
     have hx1:=show Hid _ from (H14.out.now.1.1.1.1.1.1.1.1.1.1.1.2)
     go_wp2_with (first | refine wpList_ldw 25 _ rfl bU rfl _ _ hx0.out rfl Try.underlying25 sizeM rfl ?_ | refine wpList_ldw 25 _ rfl bM rfl _ _ hx1.out rfl Try.underlying25 sizeM rfl ?_)
     clear hx0 hx1
     refine Calls.mono K.out ?_
     rintro e w15 ⟨r3,er3,rfl,hR,hb⟩
     obtain ⟨rfl,rfl⟩:=bd_yes HX.out.2.2.1 HG.out HX.out.1 HX.out.2.1 hR
     have H15:=hidL (H14.out.next (hb))
     clear H14 hb K hR
     have K:=show Hid _ from keeps_any w15 (H15.out.now.1.1.2) HX.out.2.2.2 (H15.out.now.1.1.1.1.1.1.1.1.1.1.1.1.1.1.2) HF.out.1 (OwnI.isI (H15.out.now.1.2)) (H15.out.now.1.1.1.1.1.1.1.1.1.2) (Nat.le_refl _) HX.out.2.2.1 HG.out HX.out.1 HX.out.2.1
     have hx0:=show Hid _ from (H15.out.now.2)
     have hx1:=show Hid _ from (H15.out.now.1.1.1.1.1.1.1.1.1.1.1.2)
     go_wp2_with (first | refine wpList_ldw 25 _ rfl bU rfl _ _ hx0.out rfl Try.underlying25 sizeM rfl ?_ | refine wpList_ldw 25 _ rfl bM rfl _ _ hx1.out rfl Try.underlying25 sizeM rfl ?_)
     clear hx0 hx1
     refine Calls.mono K.out ?_
     rintro e w16 ⟨rfl,hb⟩
     have H16:=hidL (H15.out.next (hb))
     clear H15 hb K
     have KH:=show Hid _ from heads19_any w16
     go_wp2_with fail
     refine Calls.mono KH.out ?_
     rintro e w17 ⟨rfl,hb⟩
     have H17:=hidL (H16.out.next (hb))
     clear H16 hb KH
     have HB:=show Hid _ from (H17.out.now.1.1.1.1.1.1.1.1.1.1.1.1.1.1.1)
     clear H17
     go_wp2_with fail
     go_ret
     exact ⟨rfl,HB.out⟩
 ·skip
  clear HR
  have K:=show Hid _ from topQuotient_any w4 HF.out.2.2.2.2.1 (H4.out.now.1.1.1.1.1.2) HF.out.1 (Nat.le_refl _) HF.out.2.2.2.2.2.1
  have hx0:=show Hid _ from (H4.out.now.1.1.2)
  go_wp2_with (first | refine wpList_ldw 25 _ rfl bM rfl _ _ hx0.out rfl Try.underlying25 sizeM rfl ?_)
  clear hx0
  refine Calls.mono K.out ?_
  rintro e w5 ⟨u',v',lv,er2,rfl,hR,hb⟩
  have HR:=show Hid _ from hR
  obtain ⟨⟨pa,na,ca,rfl⟩,pz,nz,cz,rfl⟩:=quo_form hR
  have H5:=hidL (H4.out.next (hb))
  clear H4 hb K hR
  rcases HR.out with ⟨hg,rfl,_⟩ | ⟨hg,rfl,E,q,M',h2,h3,h4,h5,h6,h7,h8,h9,h10⟩
  ·skip
   clear hg HR
   go_wp2_with (refine wpList_alloc 25 rfl _ zero_md rfl ?_)
   intro w6a bQ hn
   go_wp2_with (refine wpList_st 25 rfl rfl _ _ rfl bQ rfl _ rfl _ _ hn.blk sizeM rfl (by simp [Value.oneCell']) ?_)
   intro w6 hc hk
   have H6:=hidL ((H5.out.next (below_box hn hk)).and (lat_box hc))
   clear H5 hn hc hk
   have KH:=show Hid _ from heads19_any w6
   go_wp2_with fail
   refine Calls.mono KH.out ?_
   rintro e w7 ⟨rfl,hb⟩
   have H7:=hidL (H6.out.next (hb))
   clear H6 hb KH
   have HB:=show Hid _ from (H7.out.now.1.1.1.1.1.1.1)
   clear H7
   go_wp2_with fail
   go_ret
   exact ⟨rfl,HB.out⟩
  ·skip
   have HG:=show Hid (Wd.Good m) from hg
   have HQ:=show Hid (Wd.Good (tdM q M')∧Fit (tdM q M')∧mapOk m (tdM q M') (((List.range m.up.length).map (cnF E)).map fun n:Nat=>(n:Int))=true∧BndP m (tdM q M') (((List.range m.up.length).map (cnF E)).map fun n:Nat=>(n:Int))) from ⟨good_td h7 h6,fit_td h8 (Wd.shaped_and h6.shape).2.1,quo_map hg h4 h5 h6 h7⟩
   have HLC:=show Hid (((List.range m.up.length).map (cnF E)).length≤512∧∀ v ∈ (List.range m.up.length).map (cnF E),v<(tdM q M').up.length) from ⟨by rw [List.length_map,List.length_range];exact (Wd.shaped_and hg.shape).2.1,fun v hv=>by
    obtain ⟨x,hx,rfl⟩:=List.mem_map.1 hv
    rw [tdM_len]
    exact (h5.ex _).2 ⟨x,List.mem_range.1 hx,rfl⟩⟩
   obtain ⟨pc,cc,rfl⟩:=h2.slice
   have HH:=hidL ((H5.out.and (lat_isM (show IsM w5 w5.heap.size _ _ (tdM q M') from ⟨h9.isU,h10.isV⟩) (Nat.le_refl _))).and (lat_own h2))
   clear H5 h2 h3 h4 h5 h6 h7 h8 h9 h10 hg HR
   have H5:=HH
   clear HH
   generalize (List.range m.up.length).map (cnF E)=cl at *
   generalize tdM q M'=Q at *
   go_wp2_with (refine wpList_alloc 25 rfl _ zero_md rfl ?_)
   intro w6a bQ hn
   go_wp2_with (refine wpList_st 25 rfl rfl _ _ rfl bQ rfl _ rfl _ _ hn.blk sizeM rfl (by simp [Value.oneCell']) ?_)
   intro w6 hc hk
   have H6:=hidL ((H5.out.next (below_box hn hk)).and (lat_box hc))
   clear H5 hn hc hk
   have K:=show Hid _ from bounded_any w6 (H6.out.now.1.1.1.1.1.1.1.1.2) HF.out.1 (H6.out.now.1.1.2) HQ.out.2.1 (OwnI.isI (H6.out.now.1.2)) (Nat.le_refl _) (by rw [List.length_map];exact Nat.le_trans HLC.out.1 (by decide)) (fun x hx=>by obtain ⟨v,hv,rfl⟩:=List.mem_map.1 hx;have:=HLC.out.2 v hv;have:=(Wd.shaped_and (HQ.out.1).shape).2.1;omega)
   have hx0:=show Hid _ from (H6.out.now.1.1.1.1.1.2)
   have hx1:=show Hid _ from (H6.out.now.2)
   go_wp2_with (first | refine wpList_ldw 25 _ rfl bM rfl _ _ hx0.out rfl Try.underlying25 sizeM rfl ?_ | refine wpList_ldw 25 _ rfl bQ rfl _ _ hx1.out rfl Try.underlying25 sizeM rfl ?_)
   clear hx0 hx1
   refine Calls.mono K.out ?_
   rintro e w7 ⟨r3,er3,rfl,hR,hb⟩
   obtain ⟨rfl,rfl⟩:=bd_yes HG.out HQ.out.1 HQ.out.2.2.1 HQ.out.2.2.2 hR
   have H7:=hidL (H6.out.next (hb))
   clear H6 hb K hR
   have K:=show Hid _ from keeps_any w7 (H7.out.now.1.1.1.1.1.1.1.1.2) HF.out.1 (H7.out.now.1.1.2) HQ.out.2.1 (OwnI.isI (H7.out.now.1.2)) (H7.out.now.1.1.1.2) (Nat.le_refl _) HG.out HQ.out.1 HQ.out.2.2.1 HQ.out.2.2.2
   have hx0:=show Hid _ from (H7.out.now.1.1.1.1.1.2)
   have hx1:=show Hid _ from (H7.out.now.2)
   go_wp2_with (first | refine wpList_ldw 25 _ rfl bM rfl _ _ hx0.out rfl Try.underlying25 sizeM rfl ?_ | refine wpList_ldw 25 _ rfl bQ rfl _ _ hx1.out rfl Try.underlying25 sizeM rfl ?_)
   clear hx0 hx1
   refine Calls.mono K.out ?_
   rintro e w8 ⟨rfl,hb⟩
   have H8:=hidL (H7.out.next (hb))
   clear H7 hb K
   have K:=show Hid _ from topAbove_any w8 HF.out.2.2.2.2.1 (H8.out.now.1.1.1.1.1.1.1.1.2) HF.out.1 (Nat.le_refl _) HF.out.2.2.2.2.2.1 HF.out.2.2.2.2.2.2 a HA.out
   have hx0:=show Hid _ from (H8.out.now.1.1.1.1.1.2)
   go_wp2_with (first | refine wpList_ldw 25 _ rfl bM rfl _ _ hx0.out rfl Try.underlying25 sizeM rfl ?_)
   clear hx0
   refine Calls.mono K.out ?_
   rintro e w9 ⟨u',v',lv,er4,rfl,hR,hb⟩
   have HR:=show Hid _ from hR
   obtain ⟨⟨px,nx,cx,rfl⟩,py,ny,cy,rfl⟩:=abm_form hR
   have H9:=hidL (H8.out.next (hb))
   clear H8 hb K hR HQ HLC
   rcases HR.out with ⟨hg,_⟩ | ⟨_,hin,rfl,_⟩ | ⟨_,hin,rfl,l,hl,h2,h3,h4⟩
   ·skip
    exact absurd HG.out hg
   ·skip
    clear hin HR
    go_wp2_with (refine wpList_alloc 25 rfl _ zero_md rfl ?_)
    intro w10a bX hn
    go_wp2_with (refine wpList_st 25 rfl rfl _ _ rfl bX rfl _ rfl _ _ hn.blk sizeM rfl (by simp [Value.oneCell']) ?_)
    intro w10 hc hk
    have H10:=hidL ((H9.out.next (below_box hn hk)).and (lat_box hc))
    clear H9 hn hc hk
    have KH:=show Hid _ from heads19_any w10
    go_wp2_with fail
    refine Calls.mono KH.out ?_
    rintro e w11 ⟨rfl,hb⟩
    have H11:=hidL (H10.out.next (hb))
    clear H10 hb KH
    have HB:=show Hid _ from (H11.out.now.1.1.1.1.1.1.1.1.1.1)
    clear H11
    go_wp2_with fail
    go_ret
    exact ⟨rfl,HB.out⟩
   ·skip
    have hal:=inW_ok.1 hin
    have hax:a.toNat<m.up.length:=by omega
    have HX:=show Hid (mapOk (abT m M l) m (l.map fun n:Nat=>(n:Int))=true∧BndP (abT m M l) m (l.map fun n:Nat=>(n:Int))∧Wd.Good (abT m M l)∧Fit (abT m M l)) from abv_map HF.out.2.2.2.2.1 HG.out HF.out.1 hax hl
    have HAX:=show Hid (a.toNat<m.up.length∧inW m.up.length a=true) from ⟨hax,hin⟩
    have HLC:=show Hid (l.length≤512∧∀ v ∈ l,v<m.up.length) from ⟨by have h5:=(Wd.shaped_and HX.out.2.2.1.shape).2.1;have h6:(abT m M l).up.length=l.length:=tdU_len _ _ _;omega,fun v hv=>((ab_mem hl).1 hv).1⟩
    obtain ⟨pl,cl2,rfl⟩:=h2.slice
    have HH:=hidL ((H9.out.and (lat_isM (show IsM w9 w9.heap.size _ _ (abT m M l) from ⟨h3.isU,h4.isV⟩) (Nat.le_refl _))).and (lat_own h2))
    clear H9 hl h2 h3 h4 hin hal hax HR
    have H9:=HH
    clear HH
    generalize abT m M l=X at *
    go_wp2_with (refine wpList_alloc 25 rfl _ zero_md rfl ?_)
    intro w10a bX hn
    go_wp2_with (refine wpList_st 25 rfl rfl _ _ rfl bX rfl _ rfl _ _ hn.blk sizeM rfl (by simp [Value.oneCell']) ?_)
    intro w10 hc hk
    have H10:=hidL ((H9.out.next (below_box hn hk)).and (lat_box hc))
    clear H9 hn hc hk
    have K:=show Hid _ from bounded_any w10 (H10.out.now.1.1.2) HX.out.2.2.2 (H10.out.now.1.1.1.1.1.1.1.1.1.1.1.2) HF.out.1 (OwnI.isI (H10.out.now.1.2)) (Nat.le_refl _) (by rw [List.length_map];exact Nat.le_trans HLC.out.1 (by decide)) (fun x hx=>by obtain ⟨v,hv,rfl⟩:=List.mem_map.1 hx;have:=HLC.out.2 v hv;have:=(Wd.shaped_and (HG.out).shape).2.1;omega)
    have hx0:=show Hid _ from (H10.out.now.2)
    have hx1:=show Hid _ from (H10.out.now.1.1.1.1.1.1.1.1.2)
    go_wp2_with (first | refine wpList_ldw 25 _ rfl bX rfl _ _ hx0.out rfl Try.underlying25 sizeM rfl ?_ | refine wpList_ldw 25 _ rfl bM rfl _ _ hx1.out rfl Try.underlying25 sizeM rfl ?_)
    clear hx0 hx1
    refine Calls.mono K.out ?_
    rintro e w11 ⟨r3,er3,rfl,hR,hb⟩
    obtain ⟨rfl,rfl⟩:=bd_yes HX.out.2.2.1 HG.out HX.out.1 HX.out.2.1 hR
    have H11:=hidL (H10.out.next (hb))
    clear H10 hb K hR
    have K:=show Hid _ from keeps_any w11 (H11.out.now.1.1.2) HX.out.2.2.2 (H11.out.now.1.1.1.1.1.1.1.1.1.1.1.2) HF.out.1 (OwnI.isI (H11.out.now.1.2)) (H11.out.now.1.1.1.1.1.1.2) (Nat.le_refl _) HX.out.2.2.1 HG.out HX.out.1 HX.out.2.1
    have hx0:=show Hid _ from (H11.out.now.2)
    have hx1:=show Hid _ from (H11.out.now.1.1.1.1.1.1.1.1.2)
    go_wp2_with (first | refine wpList_ldw 25 _ rfl bX rfl _ _ hx0.out rfl Try.underlying25 sizeM rfl ?_ | refine wpList_ldw 25 _ rfl bM rfl _ _ hx1.out rfl Try.underlying25 sizeM rfl ?_)
    clear hx0 hx1
    refine Calls.mono K.out ?_
    rintro e w12 ⟨rfl,hb⟩
    have H12:=hidL (H11.out.next (hb))
    clear H11 hb K
    have K:=show Hid _ from topUnravel_any w12 HF.out.2.2.2.2.1 (H12.out.now.1.1.1.1.1.1.1.1.1.1.1.2) HF.out.1 (Nat.le_refl _) HF.out.2.2.2.2.2.1 a HA.out
    have hx0:=show Hid _ from (H12.out.now.1.1.1.1.1.1.1.1.2)
    go_wp2_with (first | refine wpList_ldw 25 _ rfl bM rfl _ _ hx0.out rfl Try.underlying25 sizeM rfl ?_)
    clear hx0
    refine Calls.mono K.out ?_
    rintro e w13 ⟨u',v',lv,er5,rfl,hR,hb⟩
    have HR:=show Hid _ from hR
    obtain ⟨⟨pu,nu,cu,rfl⟩,pw,nw,cw,rfl⟩:=unr_form hR
    have H13:=hidL (H12.out.next (hb))
    clear H12 hb K hR HX HLC
    rcases HR.out with ⟨hg,_⟩ | ⟨_,hin,_⟩ | ⟨_,hin,k,tt,rfl,hj,hk5,⟨_,_,rfl,_⟩ | ⟨hkk,rfl,h2,h3,h4⟩⟩
    ·skip
     exact absurd HG.out hg
    ·skip
     have:=HAX.out.2
     rw [this] at hin;cases hin
    ·skip
     clear hin hj hk5 HR
     go_wp2_with (refine wpList_alloc 25 rfl _ zero_md rfl ?_)
     intro w14a bU hn
     go_wp2_with (refine wpList_st 25 rfl rfl _ _ rfl bU rfl _ rfl _ _ hn.blk sizeM rfl (by simp [Value.oneCell']) ?_)
     intro w14 hc hk
     have H14:=hidL ((H13.out.next (below_box hn hk)).and (lat_box hc))
     clear H13 hn hc hk
     have KH:=show Hid _ from heads19_any w14
     go_wp2_with fail
     refine Calls.mono KH.out ?_
     rintro e w15 ⟨rfl,hb⟩
     have H15:=hidL (H14.out.next (hb))
     clear H14 hb KH
     have HB:=show Hid _ from (H15.out.now.1.1.1.1.1.1.1.1.1.1.1.1.1)
     clear H15
     go_wp2_with fail
     go_ret
     exact ⟨rfl,HB.out⟩
    ·skip
     have HX:=show Hid (mapOk (unM m M a.toNat k) m ((uEnds (tdU M m.up.length m.up.length) a.toNat k).map fun n:Nat=>(n:Int))=true∧BndP (unM m M a.toNat k) m ((uEnds (tdU M m.up.length m.up.length) a.toNat k).map fun n:Nat=>(n:Int))∧Wd.Good (unM m M a.toNat k)∧Fit (unM m M a.toNat k)) from un_map HF.out.2.2.2.2.1 HG.out HF.out.1 HAX.out.1 hj hkk (by omega)
     have HLC:=show Hid ((uEnds (tdU M m.up.length m.up.length) a.toNat k).length≤512∧∀ v ∈ uEnds (tdU M m.up.length m.up.length) a.toNat k,v<m.up.length) from ⟨hk5,un_lt HG.out HF.out.2.2.2.2.1 HAX.out.1 k⟩
     obtain ⟨pe,ce,rfl⟩:=h2.slice
     have HH:=hidL ((H13.out.and (lat_isM (show IsM w13 w13.heap.size _ _ (unM m M a.toNat k) from ⟨h3.isU,h4.isV⟩) (Nat.le_refl _))).and (lat_own h2))
     clear H13 hj hk5 hkk h2 h3 h4 hin HR
     have H13:=HH
     clear HH
     generalize unM m M a.toNat k=U at *
     generalize uEnds (tdU M m.up.length m.up.length) a.toNat k=el at *
     go_wp2_with (refine wpList_alloc 25 rfl _ zero_md rfl ?_)
     intro w14a bU hn
     go_wp2_with (refine wpList_st 25 rfl rfl _ _ rfl bU rfl _ rfl _ _ hn.blk sizeM rfl (by simp [Value.oneCell']) ?_)
     intro w14 hc hk
     have H14:=hidL ((H13.out.next (below_box hn hk)).and (lat_box hc))
     clear H13 hn hc hk
     have K:=show Hid _ from bounded_any w14 (H14.out.now.1.1.2) HX.out.2.2.2 (H14.out.now.1.1.1.1.1.1.1.1.1.1.1.1.1.1.2) HF.out.1 (OwnI.isI (H14.out.now.1.2)) (Nat.le_refl _) (by rw [List.length_map];exact Nat.le_trans HLC.out.1 (by decide)) (fun x hx=>by obtain ⟨v,hv,rfl⟩:=List.mem_map.1 hx;have:=HLC.out.2 v hv;have:=(Wd.shaped_and (HG.out).shape).2.1;omega)
     have hx0:=show Hid _ from (H14.out.now.2)
     have hx1:=show Hid _ from (H14.out.now.1.1.1.1.1.1.1.1.1.1.1.2)
     go_wp2_with (first | refine wpList_ldw 25 _ rfl bU rfl _ _ hx0.out rfl Try.underlying25 sizeM rfl ?_ | refine wpList_ldw 25 _ rfl bM rfl _ _ hx1.out rfl Try.underlying25 sizeM rfl ?_)
     clear hx0 hx1
     refine Calls.mono K.out ?_
     rintro e w15 ⟨r3,er3,rfl,hR,hb⟩
     obtain ⟨rfl,rfl⟩:=bd_yes HX.out.2.2.1 HG.out HX.out.1 HX.out.2.1 hR
     have H15:=hidL (H14.out.next (hb))
     clear H14 hb K hR
     have K:=show Hid _ from keeps_any w15 (H15.out.now.1.1.2) HX.out.2.2.2 (H15.out.now.1.1.1.1.1.1.1.1.1.1.1.1.1.1.2) HF.out.1 (OwnI.isI (H15.out.now.1.2)) (H15.out.now.1.1.1.1.1.1.1.1.1.2) (Nat.le_refl _) HX.out.2.2.1 HG.out HX.out.1 HX.out.2.1
     have hx0:=show Hid _ from (H15.out.now.2)
     have hx1:=show Hid _ from (H15.out.now.1.1.1.1.1.1.1.1.1.1.1.2)
     go_wp2_with (first | refine wpList_ldw 25 _ rfl bU rfl _ _ hx0.out rfl Try.underlying25 sizeM rfl ?_ | refine wpList_ldw 25 _ rfl bM rfl _ _ hx1.out rfl Try.underlying25 sizeM rfl ?_)
     clear hx0 hx1
     refine Calls.mono K.out ?_
     rintro e w16 ⟨rfl,hb⟩
     have H16:=hidL (H15.out.next (hb))
     clear H15 hb K
     have KH:=show Hid _ from heads19_any w16
     go_wp2_with fail
     refine Calls.mono KH.out ?_
     rintro e w17 ⟨rfl,hb⟩
     have H17:=hidL (H16.out.next (hb))
     clear H16 hb KH
     have HB:=show Hid _ from (H17.out.now.1.1.1.1.1.1.1.1.1.1.1.1.1.1.1)
     clear H17
     go_wp2_with fail
     go_ret
     exact ⟨rfl,HB.out⟩
 ·skip
  have HK:=show Hid (Wd.Good m∧Wd.Good n∧mapOk m n fl=true∧BndP m n fl) from ⟨hgm,hgn,hok,hbd⟩
  clear hgm hgn hok hbd HR
  have K:=show Hid _ from keeps_any w4 (H4.out.now.1.1.1.1.1.2) HF.out.1 (H4.out.now.1.1.1.1.2) HF.out.2.1 (H4.out.now.1.1.1.2) (H4.out.now.2) (Nat.le_refl _) HK.out.1 HK.out.2.1 HK.out.2.2.1 HK.out.2.2.2
  have hx0:=show Hid _ from (H4.out.now.1.1.2)
  have hx1:=show Hid _ from (H4.out.now.1.2)
  go_wp2_with (first | refine wpList_ldw 25 _ rfl bM rfl _ _ hx0.out rfl Try.underlying25 sizeM rfl ?_ | refine wpList_ldw 25 _ rfl bN rfl _ _ hx1.out rfl Try.underlying25 sizeM rfl ?_)
  clear hx0 hx1
  refine Calls.mono K.out ?_
  rintro e w5 ⟨rfl,hb⟩
  have H5:=hidL (H4.out.next (hb))
  clear H4 hb K
  clear HK
  have K:=show Hid _ from topQuotient_any w5 HF.out.2.2.2.2.1 (H5.out.now.1.1.1.1.1.2) HF.out.1 (Nat.le_refl _) HF.out.2.2.2.2.2.1
  have hx0:=show Hid _ from (H5.out.now.1.1.2)
  go_wp2_with (first | refine wpList_ldw 25 _ rfl bM rfl _ _ hx0.out rfl Try.underlying25 sizeM rfl ?_)
  clear hx0
  refine Calls.mono K.out ?_
  rintro e w6 ⟨u',v',lv,er2,rfl,hR,hb⟩
  have HR:=show Hid _ from hR
  obtain ⟨⟨pa,na,ca,rfl⟩,pz,nz,cz,rfl⟩:=quo_form hR
  have H6:=hidL (H5.out.next (hb))
  clear H5 hb K hR
  rcases HR.out with ⟨hg,rfl,_⟩ | ⟨hg,rfl,E,q,M',h2,h3,h4,h5,h6,h7,h8,h9,h10⟩
  ·skip
   clear hg HR
   go_wp2_with (refine wpList_alloc 25 rfl _ zero_md rfl ?_)
   intro w7a bQ hn
   go_wp2_with (refine wpList_st 25 rfl rfl _ _ rfl bQ rfl _ rfl _ _ hn.blk sizeM rfl (by simp [Value.oneCell']) ?_)
   intro w7 hc hk
   have H7:=hidL ((H6.out.next (below_box hn hk)).and (lat_box hc))
   clear H6 hn hc hk
   have KH:=show Hid _ from heads19_any w7
   go_wp2_with fail
   refine Calls.mono KH.out ?_
   rintro e w8 ⟨rfl,hb⟩
   have H8:=hidL (H7.out.next (hb))
   clear H7 hb KH
   have HB:=show Hid _ from (H8.out.now.1.1.1.1.1.1.1)
   clear H8
   go_wp2_with fail
   go_ret
   exact ⟨rfl,HB.out⟩
  ·skip
   have HG:=show Hid (Wd.Good m) from hg
   have HQ:=show Hid (Wd.Good (tdM q M')∧Fit (tdM q M')∧mapOk m (tdM q M') (((List.range m.up.length).map (cnF E)).map fun n:Nat=>(n:Int))=true∧BndP m (tdM q M') (((List.range m.up.length).map (cnF E)).map fun n:Nat=>(n:Int))) from ⟨good_td h7 h6,fit_td h8 (Wd.shaped_and h6.shape).2.1,quo_map hg h4 h5 h6 h7⟩
   have HLC:=show Hid (((List.range m.up.length).map (cnF E)).length≤512∧∀ v ∈ (List.range m.up.length).map (cnF E),v<(tdM q M').up.length) from ⟨by rw [List.length_map,List.length_range];exact (Wd.shaped_and hg.shape).2.1,fun v hv=>by
    obtain ⟨x,hx,rfl⟩:=List.mem_map.1 hv
    rw [tdM_len]
    exact (h5.ex _).2 ⟨x,List.mem_range.1 hx,rfl⟩⟩
   obtain ⟨pc,cc,rfl⟩:=h2.slice
   have HH:=hidL ((H6.out.and (lat_isM (show IsM w6 w6.heap.size _ _ (tdM q M') from ⟨h9.isU,h10.isV⟩) (Nat.le_refl _))).and (lat_own h2))
   clear H6 h2 h3 h4 h5 h6 h7 h8 h9 h10 hg HR
   have H6:=HH
   clear HH
   generalize (List.range m.up.length).map (cnF E)=cl at *
   generalize tdM q M'=Q at *
   go_wp2_with (refine wpList_alloc 25 rfl _ zero_md rfl ?_)
   intro w7a bQ hn
   go_wp2_with (refine wpList_st 25 rfl rfl _ _ rfl bQ rfl _ rfl _ _ hn.blk sizeM rfl (by simp [Value.oneCell']) ?_)
   intro w7 hc hk
   have H7:=hidL ((H6.out.next (below_box hn hk)).and (lat_box hc))
   clear H6 hn hc hk
   have K:=show Hid _ from bounded_any w7 (H7.out.now.1.1.1.1.1.1.1.1.2) HF.out.1 (H7.out.now.1.1.2) HQ.out.2.1 (OwnI.isI (H7.out.now.1.2)) (Nat.le_refl _) (by rw [List.length_map];exact Nat.le_trans HLC.out.1 (by decide)) (fun x hx=>by obtain ⟨v,hv,rfl⟩:=List.mem_map.1 hx;have:=HLC.out.2 v hv;have:=(Wd.shaped_and (HQ.out.1).shape).2.1;omega)
   have hx0:=show Hid _ from (H7.out.now.1.1.1.1.1.2)
   have hx1:=show Hid _ from (H7.out.now.2)
   go_wp2_with (first | refine wpList_ldw 25 _ rfl bM rfl _ _ hx0.out rfl Try.underlying25 sizeM rfl ?_ | refine wpList_ldw 25 _ rfl bQ rfl _ _ hx1.out rfl Try.underlying25 sizeM rfl ?_)
   clear hx0 hx1
   refine Calls.mono K.out ?_
   rintro e w8 ⟨r3,er3,rfl,hR,hb⟩
   obtain ⟨rfl,rfl⟩:=bd_yes HG.out HQ.out.1 HQ.out.2.2.1 HQ.out.2.2.2 hR
   have H8:=hidL (H7.out.next (hb))
   clear H7 hb K hR
   have K:=show Hid _ from keeps_any w8 (H8.out.now.1.1.1.1.1.1.1.1.2) HF.out.1 (H8.out.now.1.1.2) HQ.out.2.1 (OwnI.isI (H8.out.now.1.2)) (H8.out.now.1.1.1.2) (Nat.le_refl _) HG.out HQ.out.1 HQ.out.2.2.1 HQ.out.2.2.2
   have hx0:=show Hid _ from (H8.out.now.1.1.1.1.1.2)
   have hx1:=show Hid _ from (H8.out.now.2)
   go_wp2_with (first | refine wpList_ldw 25 _ rfl bM rfl _ _ hx0.out rfl Try.underlying25 sizeM rfl ?_ | refine wpList_ldw 25 _ rfl bQ rfl _ _ hx1.out rfl Try.underlying25 sizeM rfl ?_)
   clear hx0 hx1
   refine Calls.mono K.out ?_
   rintro e w9 ⟨rfl,hb⟩
   have H9:=hidL (H8.out.next (hb))
   clear H8 hb K
   have K:=show Hid _ from topAbove_any w9 HF.out.2.2.2.2.1 (H9.out.now.1.1.1.1.1.1.1.1.2) HF.out.1 (Nat.le_refl _) HF.out.2.2.2.2.2.1 HF.out.2.2.2.2.2.2 a HA.out
   have hx0:=show Hid _ from (H9.out.now.1.1.1.1.1.2)
   go_wp2_with (first | refine wpList_ldw 25 _ rfl bM rfl _ _ hx0.out rfl Try.underlying25 sizeM rfl ?_)
   clear hx0
   refine Calls.mono K.out ?_
   rintro e w10 ⟨u',v',lv,er4,rfl,hR,hb⟩
   have HR:=show Hid _ from hR
   obtain ⟨⟨px,nx,cx,rfl⟩,py,ny,cy,rfl⟩:=abm_form hR
   have H10:=hidL (H9.out.next (hb))
   clear H9 hb K hR HQ HLC
   rcases HR.out with ⟨hg,_⟩ | ⟨_,hin,rfl,_⟩ | ⟨_,hin,rfl,l,hl,h2,h3,h4⟩
   ·skip
    exact absurd HG.out hg
   ·skip
    clear hin HR
    go_wp2_with (refine wpList_alloc 25 rfl _ zero_md rfl ?_)
    intro w11a bX hn
    go_wp2_with (refine wpList_st 25 rfl rfl _ _ rfl bX rfl _ rfl _ _ hn.blk sizeM rfl (by simp [Value.oneCell']) ?_)
    intro w11 hc hk
    have H11:=hidL ((H10.out.next (below_box hn hk)).and (lat_box hc))
    clear H10 hn hc hk
    have KH:=show Hid _ from heads19_any w11
    go_wp2_with fail
    refine Calls.mono KH.out ?_
    rintro e w12 ⟨rfl,hb⟩
    have H12:=hidL (H11.out.next (hb))
    clear H11 hb KH
    have HB:=show Hid _ from (H12.out.now.1.1.1.1.1.1.1.1.1.1)
    clear H12
    go_wp2_with fail
    go_ret
    exact ⟨rfl,HB.out⟩
   ·skip
    have hal:=inW_ok.1 hin
    have hax:a.toNat<m.up.length:=by omega
    have HX:=show Hid (mapOk (abT m M l) m (l.map fun n:Nat=>(n:Int))=true∧BndP (abT m M l) m (l.map fun n:Nat=>(n:Int))∧Wd.Good (abT m M l)∧Fit (abT m M l)) from abv_map HF.out.2.2.2.2.1 HG.out HF.out.1 hax hl
    have HAX:=show Hid (a.toNat<m.up.length∧inW m.up.length a=true) from ⟨hax,hin⟩
    have HLC:=show Hid (l.length≤512∧∀ v ∈ l,v<m.up.length) from ⟨by have h5:=(Wd.shaped_and HX.out.2.2.1.shape).2.1;have h6:(abT m M l).up.length=l.length:=tdU_len _ _ _;omega,fun v hv=>((ab_mem hl).1 hv).1⟩
    obtain ⟨pl,cl2,rfl⟩:=h2.slice
    have HH:=hidL ((H10.out.and (lat_isM (show IsM w10 w10.heap.size _ _ (abT m M l) from ⟨h3.isU,h4.isV⟩) (Nat.le_refl _))).and (lat_own h2))
    clear H10 hl h2 h3 h4 hin hal hax HR
    have H10:=HH
    clear HH
    generalize abT m M l=X at *
    go_wp2_with (refine wpList_alloc 25 rfl _ zero_md rfl ?_)
    intro w11a bX hn
    go_wp2_with (refine wpList_st 25 rfl rfl _ _ rfl bX rfl _ rfl _ _ hn.blk sizeM rfl (by simp [Value.oneCell']) ?_)
    intro w11 hc hk
    have H11:=hidL ((H10.out.next (below_box hn hk)).and (lat_box hc))
    clear H10 hn hc hk
    have K:=show Hid _ from bounded_any w11 (H11.out.now.1.1.2) HX.out.2.2.2 (H11.out.now.1.1.1.1.1.1.1.1.1.1.1.2) HF.out.1 (OwnI.isI (H11.out.now.1.2)) (Nat.le_refl _) (by rw [List.length_map];exact Nat.le_trans HLC.out.1 (by decide)) (fun x hx=>by obtain ⟨v,hv,rfl⟩:=List.mem_map.1 hx;have:=HLC.out.2 v hv;have:=(Wd.shaped_and (HG.out).shape).2.1;omega)
    have hx0:=show Hid _ from (H11.out.now.2)
    have hx1:=show Hid _ from (H11.out.now.1.1.1.1.1.1.1.1.2)
    go_wp2_with (first | refine wpList_ldw 25 _ rfl bX rfl _ _ hx0.out rfl Try.underlying25 sizeM rfl ?_ | refine wpList_ldw 25 _ rfl bM rfl _ _ hx1.out rfl Try.underlying25 sizeM rfl ?_)
    clear hx0 hx1
    refine Calls.mono K.out ?_
    rintro e w12 ⟨r3,er3,rfl,hR,hb⟩
    obtain ⟨rfl,rfl⟩:=bd_yes HX.out.2.2.1 HG.out HX.out.1 HX.out.2.1 hR
    have H12:=hidL (H11.out.next (hb))
    clear H11 hb K hR
    have K:=show Hid _ from keeps_any w12 (H12.out.now.1.1.2) HX.out.2.2.2 (H12.out.now.1.1.1.1.1.1.1.1.1.1.1.2) HF.out.1 (OwnI.isI (H12.out.now.1.2)) (H12.out.now.1.1.1.1.1.1.2) (Nat.le_refl _) HX.out.2.2.1 HG.out HX.out.1 HX.out.2.1
    have hx0:=show Hid _ from (H12.out.now.2)
    have hx1:=show Hid _ from (H12.out.now.1.1.1.1.1.1.1.1.2)
    go_wp2_with (first | refine wpList_ldw 25 _ rfl bX rfl _ _ hx0.out rfl Try.underlying25 sizeM rfl ?_ | refine wpList_ldw 25 _ rfl bM rfl _ _ hx1.out rfl Try.underlying25 sizeM rfl ?_)
    clear hx0 hx1
    refine Calls.mono K.out ?_
    rintro e w13 ⟨rfl,hb⟩
    have H13:=hidL (H12.out.next (hb))
    clear H12 hb K
    have K:=show Hid _ from topUnravel_any w13 HF.out.2.2.2.2.1 (H13.out.now.1.1.1.1.1.1.1.1.1.1.1.2) HF.out.1 (Nat.le_refl _) HF.out.2.2.2.2.2.1 a HA.out
    have hx0:=show Hid _ from (H13.out.now.1.1.1.1.1.1.1.1.2)
    go_wp2_with (first | refine wpList_ldw 25 _ rfl bM rfl _ _ hx0.out rfl Try.underlying25 sizeM rfl ?_)
    clear hx0
    refine Calls.mono K.out ?_
    rintro e w14 ⟨u',v',lv,er5,rfl,hR,hb⟩
    have HR:=show Hid _ from hR
    obtain ⟨⟨pu,nu,cu,rfl⟩,pw,nw,cw,rfl⟩:=unr_form hR
    have H14:=hidL (H13.out.next (hb))
    clear H13 hb K hR HX HLC
    rcases HR.out with ⟨hg,_⟩ | ⟨_,hin,_⟩ | ⟨_,hin,k,tt,rfl,hj,hk5,⟨_,_,rfl,_⟩ | ⟨hkk,rfl,h2,h3,h4⟩⟩
    ·skip
     exact absurd HG.out hg
    ·skip
     have:=HAX.out.2
     rw [this] at hin;cases hin
    ·skip
     clear hin hj hk5 HR
     go_wp2_with (refine wpList_alloc 25 rfl _ zero_md rfl ?_)
     intro w15a bU hn
     go_wp2_with (refine wpList_st 25 rfl rfl _ _ rfl bU rfl _ rfl _ _ hn.blk sizeM rfl (by simp [Value.oneCell']) ?_)
     intro w15 hc hk
     have H15:=hidL ((H14.out.next (below_box hn hk)).and (lat_box hc))
     clear H14 hn hc hk
     have KH:=show Hid _ from heads19_any w15
     go_wp2_with fail
     refine Calls.mono KH.out ?_
     rintro e w16 ⟨rfl,hb⟩
     have H16:=hidL (H15.out.next (hb))
     clear H15 hb KH
     have HB:=show Hid _ from (H16.out.now.1.1.1.1.1.1.1.1.1.1.1.1.1)
     clear H16
     go_wp2_with fail
     go_ret
     exact ⟨rfl,HB.out⟩
    ·skip
     have HX:=show Hid (mapOk (unM m M a.toNat k) m ((uEnds (tdU M m.up.length m.up.length) a.toNat k).map fun n:Nat=>(n:Int))=true∧BndP (unM m M a.toNat k) m ((uEnds (tdU M m.up.length m.up.length) a.toNat k).map fun n:Nat=>(n:Int))∧Wd.Good (unM m M a.toNat k)∧Fit (unM m M a.toNat k)) from un_map HF.out.2.2.2.2.1 HG.out HF.out.1 HAX.out.1 hj hkk (by omega)
     have HLC:=show Hid ((uEnds (tdU M m.up.length m.up.length) a.toNat k).length≤512∧∀ v ∈ uEnds (tdU M m.up.length m.up.length) a.toNat k,v<m.up.length) from ⟨hk5,un_lt HG.out HF.out.2.2.2.2.1 HAX.out.1 k⟩
     obtain ⟨pe,ce,rfl⟩:=h2.slice
     have HH:=hidL ((H14.out.and (lat_isM (show IsM w14 w14.heap.size _ _ (unM m M a.toNat k) from ⟨h3.isU,h4.isV⟩) (Nat.le_refl _))).and (lat_own h2))
     clear H14 hj hk5 hkk h2 h3 h4 hin HR
     have H14:=HH
     clear HH
     generalize unM m M a.toNat k=U at *
     generalize uEnds (tdU M m.up.length m.up.length) a.toNat k=el at *
     go_wp2_with (refine wpList_alloc 25 rfl _ zero_md rfl ?_)
     intro w15a bU hn
     go_wp2_with (refine wpList_st 25 rfl rfl _ _ rfl bU rfl _ rfl _ _ hn.blk sizeM rfl (by simp [Value.oneCell']) ?_)
     intro w15 hc hk
     have H15:=hidL ((H14.out.next (below_box hn hk)).and (lat_box hc))
     clear H14 hn hc hk
     have K:=show Hid _ from bounded_any w15 (H15.out.now.1.1.2) HX.out.2.2.2 (H15.out.now.1.1.1.1.1.1.1.1.1.1.1.1.1.1.2) HF.out.1 (OwnI.isI (H15.out.now.1.2)) (Nat.le_refl _) (by rw [List.length_map];exact Nat.le_trans HLC.out.1 (by decide)) (fun x hx=>by obtain ⟨v,hv,rfl⟩:=List.mem_map.1 hx;have:=HLC.out.2 v hv;have:=(Wd.shaped_and (HG.out).shape).2.1;omega)
     have hx0:=show Hid _ from (H15.out.now.2)
     have hx1:=show Hid _ from (H15.out.now.1.1.1.1.1.1.1.1.1.1.1.2)
     go_wp2_with (first | refine wpList_ldw 25 _ rfl bU rfl _ _ hx0.out rfl Try.underlying25 sizeM rfl ?_ | refine wpList_ldw 25 _ rfl bM rfl _ _ hx1.out rfl Try.underlying25 sizeM rfl ?_)
     clear hx0 hx1
     refine Calls.mono K.out ?_
     rintro e w16 ⟨r3,er3,rfl,hR,hb⟩
     obtain ⟨rfl,rfl⟩:=bd_yes HX.out.2.2.1 HG.out HX.out.1 HX.out.2.1 hR
     have H16:=hidL (H15.out.next (hb))
     clear H15 hb K hR
     have K:=show Hid _ from keeps_any w16 (H16.out.now.1.1.2) HX.out.2.2.2 (H16.out.now.1.1.1.1.1.1.1.1.1.1.1.1.1.1.2) HF.out.1 (OwnI.isI (H16.out.now.1.2)) (H16.out.now.1.1.1.1.1.1.1.1.1.2) (Nat.le_refl _) HX.out.2.2.1 HG.out HX.out.1 HX.out.2.1
     have hx0:=show Hid _ from (H16.out.now.2)
     have hx1:=show Hid _ from (H16.out.now.1.1.1.1.1.1.1.1.1.1.1.2)
     go_wp2_with (first | refine wpList_ldw 25 _ rfl bU rfl _ _ hx0.out rfl Try.underlying25 sizeM rfl ?_ | refine wpList_ldw 25 _ rfl bM rfl _ _ hx1.out rfl Try.underlying25 sizeM rfl ?_)
     clear hx0 hx1
     refine Calls.mono K.out ?_
     rintro e w17 ⟨rfl,hb⟩
     have H17:=hidL (H16.out.next (hb))
     clear H16 hb K
     have KH:=show Hid _ from heads19_any w17
     go_wp2_with fail
     refine Calls.mono KH.out ?_
     rintro e w18 ⟨rfl,hb⟩
     have H18:=hidL (H17.out.next (hb))
     clear H17 hb KH
     have HB:=show Hid _ from (H18.out.now.1.1.1.1.1.1.1.1.1.1.1.1.1.1.1)
     clear H18
     go_wp2_with fail
     go_ret
     exact ⟨rfl,HB.out⟩
end Go.Proofs.Ytoedidbbjnnpnaa.Wm
