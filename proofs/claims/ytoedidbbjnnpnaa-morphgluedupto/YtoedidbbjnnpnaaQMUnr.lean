/-
  Unravel: of any model. No condition but what a machine can hold.
-/
import Derived.Test.YtoedidbbjnnpnaaTH22
import Derived.Test.YtoedidbbjnnpnaaTH20
import Derived.Test.YtoedidbbjnnpnaaQMAbv
namespace Go.Proofs.Ytoedidbbjnnpnaa.Wm
open Go.RowKit Go.Maps
open Wd (Md Rc Ed upd vl allW inW)
set_option linter.unusedSimpArgs false
set_option linter.unusedVariables false
set_option maxRecDepth 100000 in
set_option maxHeartbeats 16000000 in
theorem topUnravel_any (w:World) {M:Nat→Nat→Bool} {L:Nat} {uv vv:Value} {m:Md} (hO:IsO m.up M) (hm:IsM w L uv vv m) (hf:Fit m) (hL:L≤w.heap.size) (hfv:∀ r ∈ m.val,r.length * 16≤140737488355328) (a:Int) (ha : -9223372036854775808≤a∧a≤9223372036854775807) :
 Calls Try.prog 18 #[.agg #[uv,vv],.int .i64 a] w fun e w'=>∃ u' v' lv er,e=.returned (.tuple #[.agg #[u',v'],lv,.int .i64 er])∧UnrR w' w.heap.size m M a u' v' lv er∧Below w.heap.size w w':=by
 have HK:=show Hid (∀ W,Below w.heap.size w W→Calls Try.prog 33 #[.agg #[uv,vv]] W _) from fun W hW=>tidy_any W hO (hm.below (hW.mono hL)) hf (Nat.le_trans hL hW.size) hfv
 have HF:=show Hid (IsO m.up M∧Fit m∧∀ r ∈ m.val,r.length * 16≤140737488355328) from ⟨hO,hf,hfv⟩
 clear hm hf hO hfv
 go_enter Try.func18,Try.ntmps18
 go_wp2_with (refine wpList_box 25 _ rfl _ rfl rfl ?_)
 intro w0 b1 hN0
 have H0:=show Hid (Below w.heap.size w w0∧Cl w0 b1 #[uv,vv] 25∧w.heap.size≤b1) from ⟨hN0.bel,hN0.blk,hN0.ge⟩
 clear hN0
 go_wp2_with (refine wpList_alloc 25 rfl _ zero_md rfl ?_)
 intro w1 b2 hN1
 have H1:=show Hid (Below w.heap.size w w1∧Cl w1 b1 #[uv,vv] 25∧Cl w1 b2 #[.slice none 0 0,.slice none 0 0] 25∧w.heap.size≤b2) from ⟨H0.out.1.trans (hN1.bel.mono H0.out.1.size),H0.out.2.1.later hN1.bel,hN1.blk,Nat.le_trans H0.out.1.size hN1.ge⟩
 clear hN1 H0
 go_wp2_with (refine wpList_ldw 25 _ rfl b1 rfl _ _ H1.out.2.1 rfl Try.underlying25 sizeM rfl ?_)
 refine Calls.mono (HK.out w1 H1.out.1) ?_
 rintro e w2 ⟨u',v',er,rfl,hR,hb2⟩
 have H2:=show Hid (Below w.heap.size w w2∧Cl w2 b2 #[.slice none 0 0,.slice none 0 0] 25∧w.heap.size≤b2∧b2<w1.heap.size∧((¬ Wd.Good m∧er=170∧u'=.slice none 0 0∧v'=.slice none 0 0)∨(Wd.Good m∧er=0∧RowsZ w1.heap.size w2 u' (tdU M m.up.length m.up.length)∧RowsN w1.heap.size w2 v' m.val))) from
  ⟨H1.out.1.trans (hb2.mono H1.out.1.size),H1.out.2.2.1.later hb2,H1.out.2.2.2,H1.out.2.2.1.lt,hR⟩
 obtain ⟨pt,nt,ct,rfl⟩:∃ p n c,u'=.slice p n c:=by
  rcases hR with ⟨_,_,rfl,_⟩ | ⟨_,_,⟨xs,h1,_⟩,_⟩
  ·exact ⟨_,_,_,rfl⟩
  ·obtain ⟨p,c,e⟩:=own_form h1;exact ⟨p,_,c,e⟩
 obtain ⟨pz,nz,cz,rfl⟩:∃ p n c,v'=.slice p n c:=by
  rcases hR with ⟨_,_,_,rfl⟩ | ⟨_,_,_,⟨xs,h1,_⟩⟩
  ·exact ⟨_,_,_,rfl⟩
  ·obtain ⟨p,c,e⟩:=own_form h1;exact ⟨p,_,c,e⟩
 clear hR hb2 H1 HK
 go_wp2_with (refine wpList_alloc 25 rfl _ zero_md rfl ?_)
 intro w3 b5 hn3
 go_wp2_with (refine wpList_st 25 rfl rfl _ _ rfl b5 rfl _ rfl _ _ hn3.blk sizeM rfl (by simp [Value.oneCell']) ?_)
 intro w4 hc4 hk4
 have H4:=show Hid (Below w2.heap.size w2 w4∧Cl w4 b5 #[.slice pt nt ct,.slice pz nz cz] 25∧w2.heap.size≤b5) from by
  have hge:=hn3.ge
  exact ⟨hn3.bel.trans (hk4.below hn3.bel.size fun k e=>by omega),hc4,hge⟩
 clear hn3 hc4 hk4
 rcases H2.out.2.2.2.2 with ⟨g,rfl,e1,e2⟩ | ⟨g,rfl,hU,hV⟩
 ·have HX:=show Hid (¬ Wd.Good m∧Below w.heap.size w w4∧Cl w4 b2 #[.slice none 0 0,.slice none 0 0] 25∧w.heap.size≤b2) from ⟨g,H2.out.1.trans (H4.out.1.mono H2.out.1.size),H2.out.2.1.later H4.out.1,H2.out.2.2.1⟩
  clear g e1 e2 H2 H4
  go_wp2_with (refine wpList_st 25 rfl rfl _ _ rfl b2 rfl _ rfl _ _ HX.out.2.2.1 sizeM rfl (by simp [Value.oneCell']) ?_)
  intro w5 hc5 hk5
  have H5:=show Hid (Below w.heap.size w w5∧Cl w5 b2 #[.slice none 0 0,.slice none 0 0] 25) from ⟨HX.out.2.1.trans (hk5.below HX.out.2.1.size fun k e=>by have:=HX.out.2.2.2;omega),hc5⟩
  clear hc5 hk5
  go_wp2_with fail
  refine bodyPost_ret (results_m_tt rfl _ _ b2 rfl H5.out.2) rfl ?_
  exact ⟨_,_,_,_,rfl,Or.inl ⟨HX.out.1,rfl,rfl,rfl,rfl⟩,H5.out.1⟩
 ·obtain ⟨t1,t2,t3⟩:=tidied HF.out.1 HF.out.2.1 g hU hV
  have HG:=show Hid (Wd.Good m∧Wd.Good (tdM m M)∧Fit (tdM m M)∧m.up.length≤512∧m.val.length=m.up.length) from ⟨g,t3,t2,(Wd.shaped_and g.shape).2.1,(Wd.shaped_and g.shape).2.2.1⟩
  have HT:=show Hid (IsM w2 w2.heap.size (.slice pt nt ct) (.slice pz nz cz) (tdM m M)∧b2<w1.heap.size∧w1.heap.size≤w2.heap.size) from ⟨t1,H2.out.2.2.2.1,by
   have:=H2.out.2.2.2.1;have h9:=H2.out.2.1.lt
   obtain ⟨xs,k1,_⟩:=hU
   have hl:=(Wd.shaped_and g.shape).1
   rcases k1.2 with ⟨_,h0⟩ | ⟨gg,cap,cur,_,hg,hh,_⟩
   ·rw [tdU_len] at h0;omega
   ·have:=lt_of_block hh;omega⟩
  have H40:=show Hid (Below w.heap.size w w4∧Cl w4 b2 #[.slice none 0 0,.slice none 0 0] 25∧w.heap.size≤b2∧b2<w2.heap.size) from ⟨H2.out.1.trans (H4.out.1.mono H2.out.1.size),H2.out.2.1.later H4.out.1,H2.out.2.2.1,by have:=HT.out;omega⟩
  clear t1 t2 t3 g hU hV H2
  have hn1:1≤m.up.length:=(Wd.shaped_and HG.out.1.shape).1
  have hn5:m.up.length≤512:=HG.out.2.2.2.1
  have hlen1:=(IsS.at HT.out.1.up).1
  rw [tdM_len] at hlen1
  have hlen2:nz=m.val.length:=(IsS.at HT.out.1.val).1
  subst hlen1
  subst hlen2
  obtain ⟨bt,ot,hbt,rfl,hat⟩:=(IsS.at HT.out.1.up).2 (by rw [tdM_len];omega)
  obtain ⟨bz,oz,hbz,rfl,haz⟩:=(IsS.at HT.out.1.val).2 (by show 0<m.val.length;have:=HG.out.2.2.2.2;omega)
  obtain ⟨t,ht⟩:∃ t,t=tdU M m.up.length m.up.length:=⟨_,rfl⟩
  have HTT:=show Hid (t=tdU M m.up.length m.up.length∧(tdM m M).up=t) from ⟨ht,ht.symm⟩
  have HTL:=show Hid (∀ k,(t.getD k []).length≤512) from fun k=>by
   rw [HTT.out.1,List.getD_eq_getElem?_getD,tdU_get]
   split
   ·show ((nxF M m.up.length k).map fun n:Nat=>(n:Int)).length≤512
    rw [List.length_map]
    unfold nxF
    have h2:=List.length_filter_le (fun v:Nat => !bwP M (numsTo (ovP M k) m.up.length) (v:Int)) (numsTo (ovP M k) m.up.length)
    have h3:=numsTo_len (ovP M k) m.up.length
    omega
   ·simp
  have HTR:=show Hid (∀ a b,b ∈ t.getD a []→0≤b∧b<(m.up.length:Int)) from fun a b hb=>by
   rw [List.getD_eq_getElem?_getD] at hb
   cases hr:t[a]? with
   | none=>rw [hr] at hb;simp at hb
   | some r =>
    rw [hr] at hb
    have h1:=(Wd.shaped_and HG.out.2.1.shape).2.2.2.1 r (by rw [HTT.out.2];exact List.mem_of_getElem? hr)
    have h2:inW (tdM m M).up.length b=true:=List.all_eq_true.1 h1 b hb
    unfold inW at h2
    simp only [Bool.and_eq_true,decide_eq_true_eq,tdM_len] at h2
    exact h2
  have HU0:=show Hid (∀ k (hk:k<m.up.length),∃ q n,w2.cell? ⟨bt,ot+k,none⟩=some (.slice q (t.getD k []).length n)∧IsI w2 w2.heap.size (.slice q (t.getD k []).length n) (t.getD k [])) from fun k hk=>by
   have hk':k<(tdM m M).up.length:=by rw [tdM_len];exact hk
   obtain ⟨x,h1,h2⟩:=hat k hk'
   have e:t.getD k []=(tdM m M).up[k]:=by rw [← HTT.out.2,List.getD_eq_getElem?_getD,List.getElem?_eq_getElem hk'];rfl
   rw [e]
   obtain ⟨q,n,rfl⟩:=IsS.form h2
   exact ⟨q,n,h1,h2⟩
  have HV0:=show Hid (∀ k (hk:k<m.up.length),∃ q n,w2.cell? ⟨bz,oz+k,none⟩=some (.slice q (vl m k).length n)∧IsN w2 w2.heap.size (.slice q (vl m k).length n) (vl m k)∧(vl m k).length * 16≤140737488355328) from fun k hk=>by
   have hk':k<m.val.length:=by have:=HG.out.2.2.2.2;omega
   obtain ⟨x,h1,h2⟩:=haz k hk'
   have h2:IsN w2 w2.heap.size x m.val[k]:=h2
   rw [vl_at hk']
   obtain ⟨q,n,rfl⟩:=IsS.form h2
   exact ⟨q,n,h1,h2,HF.out.2.2 _ (List.getElem_mem hk')⟩
  have HBT:=show Hid (bt<w2.heap.size∧bz<w2.heap.size) from ⟨hbt,hbz⟩
  clear hat haz hbt hbz ht
  have c5:w4.cell? ⟨b5,0,none⟩=some (.slice (some ⟨bt,ot,none⟩) m.up.length ct):=H4.out.2.1.cell 0
  by_cases h0:a<0
  ·have HX:=show Hid (Wd.Good m∧inW m.up.length a=false) from ⟨HG.out.1,by unfold inW;rw [Bool.and_eq_false_iff,decide_eq_false_iff_not,decide_eq_false_iff_not];omega⟩
   go_wp2_with (refine wpList_st 25 rfl rfl _ _ rfl b2 rfl _ rfl _ _ H40.out.2.1 sizeM rfl (by simp [Value.oneCell']) ?_)
   intro w6 hc6 hk6
   have H6:=show Hid (Below w.heap.size w w6∧Cl w6 b2 #[.slice none 0 0,.slice none 0 0] 25) from ⟨H40.out.1.trans (hk6.below H40.out.1.size fun k e=>by have:=H40.out.2.2;omega),hc6⟩
   clear hc6 hk6
   go_wp2_with fail
   refine bodyPost_ret (results_m_tt rfl _ _ b2 rfl H6.out.2) rfl ?_
   exact ⟨_,_,_,_,rfl,Or.inr (Or.inl ⟨HX.out.1,HX.out.2,rfl,rfl,rfl,rfl⟩),H6.out.1⟩
  by_cases h1:(m.up.length:Int)≤a
  ·have HX:=show Hid (Wd.Good m∧inW m.up.length a=false) from ⟨HG.out.1,by unfold inW;rw [Bool.and_eq_false_iff,decide_eq_false_iff_not,decide_eq_false_iff_not];omega⟩
   go_wp2_with (refine wpList_st 25 rfl rfl _ _ rfl b2 rfl _ rfl _ _ H40.out.2.1 sizeM rfl (by simp [Value.oneCell']) ?_)
   intro w6 hc6 hk6
   have H6:=show Hid (Below w.heap.size w w6∧Cl w6 b2 #[.slice none 0 0,.slice none 0 0] 25) from ⟨H40.out.1.trans (hk6.below H40.out.1.size fun k e=>by have:=H40.out.2.2;omega),hc6⟩
   clear hc6 hk6
   go_wp2_with fail
   refine bodyPost_ret (results_m_tt rfl _ _ b2 rfl H6.out.2) rfl ?_
   exact ⟨_,_,_,_,rfl,Or.inr (Or.inl ⟨HX.out.1,HX.out.2,rfl,rfl,rfl,rfl⟩),H6.out.1⟩
  obtain ⟨x,rfl⟩:=Int.eq_ofNat_of_zero_le (show 0≤a by omega)
  have hx:x<m.up.length:=by omega
  have HIN:=show Hid (inW m.up.length (x:Int)=true) from by
   show inW m.up.length (x:Int)=true
   unfold inW
   simp;omega
  have h0':¬ (x:Int)<0:=by omega
  have h1':¬ (m.up.length:Int)≤(x:Int):=by omega
  go_wp2_with (refine wpList_alloc 25 rfl _ zero_md rfl ?_)
  intro w9 b9 hN9
  have HB9:=show Hid (w2.heap.size≤b9∧b9<w9.heap.size∧b5<b9∧b2<b9∧w.heap.size≤b2∧b2<w2.heap.size) from by
   have e1:=hN9.eq
   have e2:=hN9.up
   have e3:=H4.out.2.1.lt
   have e4:=H40.out.2.1.lt
   have e5:=H4.out.1.size
   have e6:=H40.out.2.2
   refine ⟨by omega,by omega,by omega,by omega,by omega,by omega⟩
  have HW:=show Hid (∀ W,Kp (fun k=>k=b9) w9 W→Below w2.heap.size w2 W∧Below w.heap.size w W∧Cl W b5 #[.slice (some ⟨bt,ot,none⟩) m.up.length ct,.slice (some ⟨bz,oz,none⟩) m.val.length cz] 25∧Cl W b2 #[.slice none 0 0,.slice none 0 0] 25) from fun W hW=>by
   have hb4:Below w4.heap.size w4 W:=hN9.bel.trans (hW.below hN9.bel.size fun k e=>by have:=hN9.ge;omega)
   exact ⟨H4.out.1.trans (hb4.mono H4.out.1.size),H40.out.1.trans (hb4.mono H40.out.1.size),H4.out.2.1.later hb4,H40.out.2.1.later hb4⟩
  have HK0:=show Hid (UK w9 (w9.alloc (.cells #[.int .i64 (x:Int)] 3)) b9 (.slice none 0 0) (.slice none 0 0) (.slice (some ⟨w9.heap.size,0,none⟩) 1 1) (.slice none 0 0) (uUp t x 0) (((uEnds t x 0).take 0).map (vl m)) (uEnds t x 0) []) from by
   refine ⟨Cl.later hN9.blk (below_alloc w9 _),⟨[],World.ownsRow_nil _ _ _ _,fun i hi=>absurd hi (Nat.not_lt_zero _)⟩,⟨[],World.ownsRow_nil _ _ _ _,fun i hi=>absurd hi (Nat.not_lt_zero _)⟩,?_,World.ownsRow_nil _ _ _ _,fun k _=>by simp [Value.ownBlock],Kp.of_below (below_alloc w9 _)⟩
   exact World.ownsRow_lit w9 #[.int .i64 (x:Int)] 1 (Nat.le_refl _) (by unfold maxLen;omega) rfl
  clear hN9 c5
  go_wp2_with fail
  generalize w9.alloc (.cells #[.int .i64 (x:Int)] 3)=w10 at *
  go_loopw [10,11,12,13,15] (fun ev i _ _ _ wr=>∃ (k:Nat) (uv2 vv2:Value),i=.int .i64 (k:Int)∧k≤(uEnds t x k).length∧(uEnds t x k).length≤512∧Hid (∀ j,j<k→j<(uEnds t x j).length)∧Hid (UK w9 wr b9 uv2 vv2 ev (.slice none 0 0) (uUp t x k) (((uEnds t x k).take k).map (vl m)) (uEnds t x k) [])) (fun _ i _ _ _ _=>513 - (intOf i).toNat)
  case atStart=>exact ⟨0,_,_,rfl,Nat.zero_le _,by simp [uEnds],fun j h=>absurd h (Nat.not_lt_zero _),HK0.out⟩
  case round =>
   clear HK0
   obtain ⟨k,uv2,vv2,rfl,hke,hle,HJ,HP⟩:=hrel
   have hLn:(uEnds t x k).length=(uEnds t x k).length:=rfl
   by_cases hlt:k<(uEnds t x k).length
   ·obtain ⟨v,hv⟩:∃ v,v=(uEnds t x k)[k]:=⟨_,rfl⟩
    have hvn:v<m.up.length:=uEnds_lt hx HTR.out k v (by rw [hv];exact List.getElem_mem hlt)
    have HST:=show Hid (uEnds t x (k+1)=uEnds t x k ++ (t.getD v []).map Int.toNat∧uUp t x (k+1)=uUp t x k ++ [(List.range (t.getD v []).length).map fun j=>(((uEnds t x k).length+j:Nat):Int)]∧(uEnds t x (k+1)).take (k+1)=(uEnds t x k).take k ++ [v]) from by
     have e:(uEnds t x k).getD k 0=v:=by rw [List.getD_eq_getElem?_getD,List.getElem?_eq_getElem hlt,hv];rfl
     refine ⟨?_,?_,?_⟩
     ·show uEnds t x k ++ (t.getD ((uEnds t x k).getD k 0) []).map Int.toNat=_
      rw [e]
     ·show uUp t x k ++ [(List.range (t.getD ((uEnds t x k).getD k 0) []).length).map fun j=>(((uEnds t x k).length+j:Nat):Int)]=_
      rw [e]
     ·show (uEnds t x k ++ (t.getD ((uEnds t x k).getD k 0) []).map Int.toNat).take (k+1)=_
      rw [List.take_append_of_le_length hlt,List.take_succ_eq_append_getElem hlt,hv]
    obtain ⟨qt,nt0,hct,hit⟩:=HU0.out v hvn
    obtain ⟨qz,nz0,hcz,hiz,hfz⟩:=HV0.out v hvn
    have HWQ:=show Hid (∀ W,Kp (fun k=>k=b9) w9 W→W.cell? ⟨b5,0,none⟩=some (.slice (some ⟨bt,ot,none⟩) m.up.length ct)∧W.cell? ⟨b5,1,none⟩=some (.slice (some ⟨bz,oz,none⟩) m.val.length cz)∧W.cell? ⟨bt,ot+v,none⟩=some (.slice qt (t.getD v []).length nt0)∧W.cell? ⟨bz,oz+v,none⟩=some (.slice qz (vl m v).length nz0)∧IsI W w2.heap.size (.slice qt (t.getD v []).length nt0) (t.getD v [])∧IsN W w2.heap.size (.slice qz (vl m v).length nz0) (vl m v)) from fun W hW=>by
     obtain ⟨h1,h2,h3,h4⟩:=HW.out W hW
     exact ⟨h3.cell 0,h3.cell 1,(World.cell?_of_block (a:=⟨bt,ot+v,none⟩) (h1.block bt HBT.out.1)).trans hct,(World.cell?_of_block (a:=⟨bz,oz+v,none⟩) (h1.block bz HBT.out.2)).trans hcz,hit.keep fun k hk=>h1.block k hk,hiz.keep fun k hk=>h1.block k hk⟩
    have HFZ:=show Hid ((vl m v).length * 16≤140737488355328) from hfz
    have hrl:=HTL.out v
    have hvi:(v:Int)<(m.up.length:Int):=by omega
    have hvi2:(v:Int)<(m.val.length:Int):=by have:=HG.out.2.2.2.2;omega
    have hki:(k:Int)<((uEnds t x k).length:Int):=by omega
    obtain ⟨pe,ce,rfl⟩:=HP.out.ends.slice
    obtain ⟨be,oe,hbe,rfl,hate⟩:=(IsS.at HP.out.ends.isI).2 (by rw [List.length_map];omega)
    have cE:wr.cell? ⟨be,oe+k,none⟩=some (.int .i64 (v:Int)):=by
     obtain ⟨y,h1,h2⟩:=hate k (by rw [List.length_map];exact hlt)
     rw [List.getElem_map,← hv] at h2
     cases h2
     exact h1
    obtain ⟨c50,c51,ct0,cz0,_,_⟩:=HWQ.out wr HP.out.kp
    clear hct hit hcz hiz hfz hate hv hbe
    by_cases hbig:512<(uEnds t x k).length+(t.getD v []).length
    ·have HBG:=show Hid (512<(uEnds t x (k+1)).length) from by
      show 512<(uEnds t x (k+1)).length
      rw [HST.out.1,List.length_append,List.length_map];exact hbig
     have HC2:=show Hid (Below w.heap.size w wr∧Cl wr b2 #[.slice none 0 0,.slice none 0 0] 25) from ⟨(HW.out wr HP.out.kp).2.1,(HW.out wr HP.out.kp).2.2.2⟩
     have hbi:(512:Int)<((uEnds t x k).length:Int)+((t.getD v []).length:Int):=by omega
     generalize hLe:(uEnds t x k).length=le at *
     generalize (t.getD v []).length=lr at *
     go_wp2_with (refine wpList_st 25 rfl rfl _ _ rfl b2 rfl _ rfl _ _ HC2.out.2 sizeM rfl (by simp [Value.oneCell']) ?_)
     intro w11 hc11 hk11
     have H11:=show Hid (Below w.heap.size w w11∧Cl w11 b2 #[.slice none 0 0,.slice none 0 0] 25) from ⟨HC2.out.1.trans (hk11.below HC2.out.1.size fun k e=>by have:=HB9.out;omega),hc11⟩
     clear hc11 hk11
     go_wp2_with fail
     refine bodyPost_ret (results_m_tt rfl _ _ b2 rfl H11.out.2) rfl ?_
     exact ⟨_,_,_,_,rfl,Or.inr (Or.inr ⟨HG.out.1,HIN.out,k,t,HTT.out.1,HJ.out,by rw [Int.toNat_natCast,hLe];exact hle,Or.inl ⟨by rw [Int.toNat_natCast,hLe];exact hlt,HBG.out,rfl,rfl,rfl,rfl⟩⟩),H11.out.1⟩
    ·have hbi:¬ (512:Int)<((uEnds t x k).length:Int)+((t.getD v []).length:Int):=by omega
     have HBG:=show Hid ((uEnds t x k).length+(t.getD v []).length≤512) from by
      show (uEnds t x k).length+(t.getD v []).length≤512
      omega
     have HP0:=show Hid (UK w9 wr b9 uv2 vv2 (.slice (some ⟨be,oe,none⟩) (uEnds t x k).length ce) (.slice none 0 0) (uUp t x k) (((uEnds t x k).take k).map (vl m)) (uEnds t x k ++ ((t.getD v []).take 0).map Int.toNat) ((List.range 0).map fun q=>(uEnds t x k).length+q)) from by
      have e1:uEnds t x k ++ ((t.getD v []).take 0).map Int.toNat=uEnds t x k:=by simp
      rw [e1]
      exact HP.out
     have hl1:=hle
     clear HP
     generalize hek:uEnds t x k=ek at *
     have HEK:=show Hid (uEnds t x k=ek) from hek
     clear hek
     have HRI:=show Hid (∀ b ∈ t.getD v [],0≤b∧b<(m.up.length:Int)) from fun b hb=>HTR.out v b hb
     generalize t.getD v []=rl at *
     go_wp2_with fail
     go_loopw [10,13,15,64] (fun ev rv _ i wr=>∃ j:Nat,j≤rl.length∧i=.int .i64 (j:Int)∧Hid (UK w9 wr b9 uv2 vv2 ev rv (uUp t x k) ((ek.take k).map (vl m)) (ek ++ (rl.take j).map Int.toNat) ((List.range j).map fun q=>ek.length+q))) (fun _ _ _ i _=>rl.length - (intOf i).toNat)
     case atStart=>exact ⟨0,Nat.zero_le _,rfl,HP0.out⟩
     case round =>
      clear HP0
      obtain ⟨j,hj,rfl,HQ⟩:=hrel
      by_cases hjl:j<rl.length
      ·obtain ⟨b0,hb0⟩:∃ y:Nat,rl[j]=(y:Int):=Int.eq_ofNat_of_zero_le (HRI.out _ (List.getElem_mem hjl)).1
       have HSJ:=show Hid (ek ++ (rl.take (j+1)).map Int.toNat=(ek ++ (rl.take j).map Int.toNat) ++ [b0]∧(List.range (j+1)).map (fun q=>ek.length+q)=(List.range j).map (fun q=>ek.length+q) ++ [ek.length+j]) from by
        refine ⟨?_,by rw [List.range_succ,List.map_append];rfl⟩
        rw [List.take_succ_eq_append_getElem hjl,List.map_append,hb0,List.append_assoc];rfl
       have hen:(ek ++ (rl.take j).map Int.toNat).length=ek.length+j:=by
        rw [List.length_append,List.length_map,List.length_take];omega
       have hrn:((List.range j).map fun q=>ek.length+q).length=j:=by simp
       obtain ⟨br,or,_,rfl,hatr⟩:=(IsS.at (HWQ.out wr HQ.out.kp).2.2.2.2.1).2 (by omega)
       obtain ⟨y,cr0,hy⟩:=hatr j hjl
       rw [hb0] at hy
       cases hy
       have hbg:=HBG.out
       have hji:(j:Int)<(rl.length:Int):=by omega
       obtain ⟨en,hEn⟩:∃ en,en=ek ++ (rl.take j).map Int.toNat:=⟨_,rfl⟩
       obtain ⟨rn,hRn⟩:∃ rn,rn=(List.range j).map fun q=>ek.length+q:=⟨_,rfl⟩
       rw [← hEn] at hen HSJ HQ
       rw [← hRn] at hrn HSJ HQ
       obtain ⟨pe2,ce2,rfl⟩:=HQ.out.ends.slice
       obtain ⟨pr2,cr2,rfl⟩:=HQ.out.row.slice
       obtain ⟨i0,hi,hz0,hz1,hz2⟩:=info_parts infoI
       have hbase:=HQ.out.kp.size
       have HEN:=show Hid (en.length=ek.length+j) from hen
       have hel:en.length<512:=by omega
       have hrl2:rn.length<512:=by omega
       clear hatr hEn hRn hb0 hen hrn
       go_wp2_with (at_builtin;refine wpList_append_own_at _ rfl (.tmp 68) (.tmp 71) 27 rfl w9.heap.size 3 i0 (.int .i64 0) 1 8 Try.underlying27 hi hz0 hz1 hz2 rfl (by decide) _ rn.length (intsV rn) rfl (own_later HQ.out.row (below_alloc wr _)) ⟨wr.heap.size,0,none⟩ 1 1 [.int .i64 (en.length:Int)] rfl rfl (cell_one_new _ _ _) (by simp [Value.oneCell']) (by unfold maxLen;omega) (by omega) (by simp;omega) ?_)
       intro v13 w11 ho11 hg11 _ hn11
       have HQ1:=show Hid (UK w9 w11 b9 uv2 vv2 (.slice pe2 en.length ce2) v13 (uUp t x k) ((ek.take k).map (vl m)) en (rn ++ [en.length])) from HQ.out.growRow ho11 hg11 (by simpa using hn11)
       clear ho11 hg11 hn11 HQ
       have hbase1:=HQ1.out.kp.size
       go_wp2_with (at_builtin;refine wpList_append_own_at _ rfl (.tmp 73) (.tmp 75) 27 rfl w9.heap.size 3 i0 (.int .i64 0) 1 8 Try.underlying27 hi hz0 hz1 hz2 rfl (by decide) _ en.length (intsV en) rfl (own_later HQ1.out.ends (below_alloc w11 _)) ⟨w11.heap.size,0,none⟩ 1 1 [.int .i64 (b0:Int)] rfl rfl (cell_one_new _ _ _) (by simp [Value.oneCell']) (by unfold maxLen;omega) (by omega) (by simp;omega) ?_)
       intro v14 w12 ho12 hg12 _ hn12
       have HQ2:=show Hid (UK w9 w12 b9 uv2 vv2 v14 v13 (uUp t x k) ((ek.take k).map (vl m)) (en ++ [b0]) (rn ++ [en.length])) from HQ1.out.growEnds ho12 hg12 (by simpa using hn12)
       clear ho12 hg12 hn12 HQ1
       go_wp2_with fail
       go_roundw
       case rel=>exact ⟨j+1,by omega,val_int (by omega),by rw [HSJ.out.1,HSJ.out.2,← HEN.out];exact HQ2.out⟩
       case measure=>(simp only [intOf];omega)
      ·obtain rfl:j=rl.length:=by omega
       have hji:¬ (rl.length:Int)<(rl.length:Int):=by omega
       have HLT:=show Hid (k<ek.length) from hlt
       obtain ⟨up,hup⟩:∃ up,up=uUp t x k:=⟨_,rfl⟩
       obtain ⟨val,hval⟩:∃ val,val=(ek.take k).map (vl m):=⟨_,rfl⟩
       have HUV:=show Hid (up=uUp t x k∧val=(ek.take k).map (vl m)) from ⟨hup,hval⟩
       have h:=HQ.out
       rw [List.take_length,← hup,← hval] at h
       have HEN2:=show Hid ((ek ++ rl.map Int.toNat).length=ek.length+rl.length) from by
        show (ek ++ rl.map Int.toNat).length=ek.length+rl.length
        rw [List.length_append,List.length_map]
       generalize ek ++ rl.map Int.toNat=en at *
       have HQ2:=show Hid _ from h
       obtain ⟨pe3,ce3,rfl⟩:=HQ2.out.ends.slice
       obtain ⟨pr,cr,rfl⟩:=HQ2.out.row.slice
       have hul:up.length<512:=by rw [hup,uUp_len];omega
       have hvl:val.length<512:=by rw [hval,List.length_map,List.length_take];omega
       have HRW:=show Hid (((List.range rl.length).map fun q=>ek.length+q).map (fun n:Nat=>(n:Int))=(List.range rl.length).map fun j=>((ek.length+j:Nat):Int)) from by
        show ((List.range rl.length).map fun q=>ek.length+q).map (fun n:Nat=>(n:Int))=_
        rw [List.map_map];rfl
       obtain ⟨xs,hx1,hx2⟩:=HQ2.out.up
       obtain ⟨pu2,cu2,rfl⟩:=own_form hx1
       have HXS:=show Hid (wr.ownsRow w9.heap.size 27 1 (.slice pu2 up.length cu2) up.length xs∧∀ (i:Nat) (hi:i<up.length),∃ x,xs[i]?=some x∧OwnZ w9.heap.size wr x up[i]∧∀ k,x.ownBlock=some k→(Value.slice pe3 en.length ce3).ownBlock≠some k∧(Value.slice pr ((List.range rl.length).map fun q=>ek.length+q).length cr).ownBlock≠some k) from ⟨hx1,hx2⟩
       obtain ⟨ys0,hy10,hy20⟩:=HQ2.out.val
       obtain ⟨pv2,cv2,rfl⟩:=own_form hy10
       obtain ⟨i9,hi9,hz90,hz91,hz92⟩:=info_parts infoLI
       obtain ⟨iS,hiS,hzS0,hzS1,hzS2⟩:=info_parts infoLS
       have c90:wr.cell? ⟨b9,0,none⟩=some (.slice pu2 up.length cu2):=HQ2.out.box.cell 0
       have hbase:=HQ2.out.kp.size
       have hrn:((List.range rl.length).map fun q=>ek.length+q).length≤512:=by simp;omega
       generalize hrn2:((List.range rl.length).map fun q=>ek.length+q)=rn at *
       clear hx1 hx2 hy10 hy20 HQ hup hval hrn2 h
       go_wp2_with (at_builtin;refine wpList_append_own_at _ rfl (.tmp 79) (.tmp 81) 22 rfl w9.heap.size 27 i9 (.slice none 0 0) 1 24 Try.underlying22 hi9 hz90 hz91 hz92 rfl (by decide) _ up.length xs rfl (own_later HXS.out.1 (below_alloc wr _)) ⟨wr.heap.size,0,none⟩ 1 1 [.slice pr rn.length cr] rfl rfl (cell_one_new _ _ _) (by simp [Value.oneCell']) (by unfold maxLen;omega) (by omega) (by simp;omega) ?_)
       intro v8 wA hoA hgA _ _
       have hb0:=below_alloc wr (.cells #[.slice pr rn.length cr] 27)
       have hboxA:Cl wA b9 #[.slice pu2 up.length cu2,.slice pv2 val.length cv2] 25:=(grow_old (own_later HXS.out.1 hb0) hgA HB9.out.2.1 (Nat.le_trans HQ2.out.kp.size hb0.size)).trans (HQ2.out.box.later hb0)
       obtain ⟨pA,cA,rfl⟩:=own_form hoA
       have c9A:wA.cell? ⟨b9,0,none⟩=some (.slice pu2 up.length cu2):=hboxA.cell 0
       have f9A:wA.frozen? ⟨b9,0,none⟩=false:=hboxA.fr 0
       have hnew:=HQ2.out.push HB9.out.2.1 HXS.out.1 HXS.out.2 (W:=wA.setCell ⟨b9,0,none⟩ (.slice pA (up.length+1) cA)) ⟨_,_,wr.alloc (.cells #[.slice pr rn.length cr] 27),wA,hb0,rfl,hgA,hoA,rfl⟩
       rw [HRW.out] at hnew
       have HNW:=show Hid (∃ u',UK w9 (wA.setCell ⟨b9,0,none⟩ (.slice pA (up.length+1) cA)) b9 u' (.slice pv2 val.length cv2) (.slice pe3 en.length ce3) (.slice none 0 0) (up ++ [(List.range rl.length).map fun j=>((ek.length+j:Nat):Int)]) val en []) from hnew
       clear hnew hboxA hgA hoA hb0 HQ2 HXS
       go_wp2_with fail
       generalize wA.setCell ⟨b9,0,none⟩ (.slice pA (up.length+1) cA)=w8 at *
       obtain ⟨u8,hp8⟩:=HNW.out
       have HP8:=show Hid (UK w9 w8 b9 u8 (.slice pv2 val.length cv2) (.slice pe3 en.length ce3) (.slice none 0 0) (up ++ [(List.range rl.length).map fun j=>((ek.length+j:Nat):Int)]) val en []) from hp8
       obtain ⟨ys,hy1,hy2⟩:=hp8.val
       have HYS:=show Hid (w8.ownsRow w9.heap.size 34 1 (.slice pv2 val.length cv2) val.length ys∧∀ (i:Nat) (hi:i<val.length),∃ x,ys[i]?=some x∧OwnN w9.heap.size w8 x val[i]) from ⟨hy1,hy2⟩
       clear HNW hp8 hy1 hy2
       refine wp_region_dep (by kernel_rfl) [some 84,some 85,some 86,some 87,some 88,some 89,some 90,some 91,some 92,some 93,some 94,none] [[],[0],[],[2],[],[3,4],[5],[6],[7],[1,8],[],[10,9]] [[],[0],[],[2],[],[3,2,4],[5,3,2,4],[6,5,3,2,4],[7,6,5,3,2,4],[1,0,8,7,6,5,3,2,4],[],[10,9,1,0,8,7,6,5,3,2,4]] (by kernel_rfl) (by decide) (fun zi zv zW=>match zi with | 0=>zv=.pointer (some ⟨b9,1,none⟩) | 1=>zv=(.slice pv2 val.length cv2) | 2=>zv=.pointer (some ⟨b5,1,none⟩) | 3=>zv=.slice (some ⟨bz,oz,none⟩) m.val.length cz | 4=>zv=.int .i64 (v:Int) | 5=>zv=.pointer (some ⟨bz,oz+v,none⟩) | 6=>zv=.slice qz (vl m v).length nz0 | 7=>(fun x W=>OwnN w8.heap.size W x (vl m v)) zv zW | 8=>NqG b9 34 (.slice pv2 val.length cv2) (fun x W=>OwnN w8.heap.size W x (vl m v)) zv zW | 9=>GwG w8 b9 1 w9.heap.size val.length 34 (.slice pv2 val.length cv2) ys (fun x W=>OwnN w8.heap.size W x (vl m v)) zv zW | 10=>zv=.pointer (some ⟨b9,1,none⟩) | 11=>True | _=>True) (SG 9 11 w8 b9 1 w9.heap.size val.length 34 #[u8,(.slice pv2 val.length cv2)] (.slice pv2 val.length cv2) ys (fun x W=>OwnN w8.heap.size W x (vl m v))) (LG 7 8 9 11 b9 1 34 (.slice pv2 val.length cv2)) ?hle ⟨fun _=>(Below.refl _ _).drew,fun _=>HP8.out.box,fun h=>(by cases h)⟩ (allLt 12 ?steps) ?fin
       case hle =>
        intro i j v W W' hij hn hl h
        match j,h with
        | 0,h=>exact h
        | 1,h=>exact h
        | 2,h=>exact h
        | 3,h=>exact h
        | 4,h=>exact h
        | 5,h=>exact h
        | 6,h=>exact h
        | 7,h=>exact (fun _ _ _ h ho=>KT.own h (by decide) (by decide) ho) v W W' hl.1 h
        | 8,h=>exact nqG_le (fun _ _ _ h ho=>KT.own h (by decide) (by decide) ho) hl h
        | 9,h=>exact gwG_le (fun e=>hn (by subst e;decide)) (fun e=>hn (by subst e;decide)) hij hl h
        | 10,h=>exact h
        | 11,_=>trivial
        | _+12,_=>trivial
       case steps =>
        refine ⟨⟨⟨⟨⟨⟨⟨⟨⟨⟨⟨⟨trivial,?s0⟩,?s1⟩,?s2⟩,?s3⟩,?s4⟩,?s5⟩,?s6⟩,?s7⟩,?s8⟩,?s9⟩,?s10⟩,?s11⟩
        case s0 =>
         intro done a W hW hd hnd hno hO hN
         have o9:a.tmps[9]?=some (.pointer (some ⟨b9,0,none⟩)):=(hO.out 9 (by decide)).trans rfl
         have hB:=hW.1 (hno 9 (by decide))
         have hCb:=hW.2.1 (hno 11 (by decide))
         exact relVal rfl (.pointer (some ⟨b9,1,none⟩)) _ rfl (by go_simp) ⟨_,rfl,rfl,⟨fun h=>hW.1 (by simpa using h),fun h=>hW.2.1 (by simpa using h),fun h=>hW.2.2 (by simpa using h)⟩,LG.same (by decide) (by decide)⟩
        case s1 =>
         intro done a W hW hd hnd hno hO hN
         obtain ⟨v0,g0,r0⟩:=hN 0 (by decide)
         have g0:a.tmps[84]?=some v0:=g0
         have e0:v0=.pointer (some ⟨b9,1,none⟩):=r0
         rw [e0] at g0
         have hB:=hW.1 (hno 9 (by decide))
         have hCb:=hW.2.1 (hno 11 (by decide))
         have c0:W.cell? ⟨b9,1,none⟩=some ((.slice pv2 val.length cv2)):=Cl.cell hCb 1
         exact relVal rfl ((.slice pv2 val.length cv2)) _ rfl (by go_simp) ⟨_,rfl,rfl,⟨fun h=>hW.1 (by simpa using h),fun h=>hW.2.1 (by simpa using h),fun h=>hW.2.2 (by simpa using h)⟩,LG.same (by decide) (by decide)⟩
        case s2 =>
         intro done a W hW hd hnd hno hO hN
         have o7:a.tmps[7]?=some (.pointer (some ⟨b5,0,none⟩)):=(hO.out 7 (by decide)).trans rfl
         have hB:=hW.1 (hno 9 (by decide))
         have hCb:=hW.2.1 (hno 11 (by decide))
         exact relVal rfl (.pointer (some ⟨b5,1,none⟩)) _ rfl (by go_simp) ⟨_,rfl,rfl,⟨fun h=>hW.1 (by simpa using h),fun h=>hW.2.1 (by simpa using h),fun h=>hW.2.2 (by simpa using h)⟩,LG.same (by decide) (by decide)⟩
        case s3 =>
         intro done a W hW hd hnd hno hO hN
         obtain ⟨v2,g2,r2⟩:=hN 2 (by decide)
         have g2:a.tmps[86]?=some v2:=g2
         have e2:v2=.pointer (some ⟨b5,1,none⟩):=r2
         rw [e2] at g2
         have hB:=hW.1 (hno 9 (by decide))
         have hCb:=hW.2.1 (hno 11 (by decide))
         have c0:=(HWQ.out W (HP8.out.later hB).kp).2.1
         exact relVal rfl (.slice (some ⟨bz,oz,none⟩) m.val.length cz) _ rfl (by go_simp) ⟨_,rfl,rfl,⟨fun h=>hW.1 (by simpa using h),fun h=>hW.2.1 (by simpa using h),fun h=>hW.2.2 (by simpa using h)⟩,LG.same (by decide) (by decide)⟩
        case s4 =>
         intro done a W hW hd hnd hno hO hN
         have o12:a.tmps[12]?=some (.int .i64 (v:Int)):=(hO.out 12 (by decide)).trans rfl
         have hB:=hW.1 (hno 9 (by decide))
         have hCb:=hW.2.1 (hno 11 (by decide))
         exact relVal rfl (.int .i64 (v:Int)) _ rfl (by go_simp) ⟨_,rfl,rfl,⟨fun h=>hW.1 (by simpa using h),fun h=>hW.2.1 (by simpa using h),fun h=>hW.2.2 (by simpa using h)⟩,LG.same (by decide) (by decide)⟩
        case s5 =>
         intro done a W hW hd hnd hno hO hN
         obtain ⟨v3,g3,r3⟩:=hN 3 (by decide)
         have g3:a.tmps[87]?=some v3:=g3
         have e3:v3=.slice (some ⟨bz,oz,none⟩) m.val.length cz:=r3
         rw [e3] at g3
         obtain ⟨v4,g4,r4⟩:=hN 4 (by decide)
         have g4:a.tmps[88]?=some v4:=g4
         have e4:v4=.int .i64 (v:Int):=r4
         rw [e4] at g4
         have hB:=hW.1 (hno 9 (by decide))
         have hCb:=hW.2.1 (hno 11 (by decide))
         exact relVal rfl (.pointer (some ⟨bz,oz+v,none⟩)) _ rfl (by go_simp) ⟨_,rfl,rfl,⟨fun h=>hW.1 (by simpa using h),fun h=>hW.2.1 (by simpa using h),fun h=>hW.2.2 (by simpa using h)⟩,LG.same (by decide) (by decide)⟩
        case s6 =>
         intro done a W hW hd hnd hno hO hN
         obtain ⟨v5,g5,r5⟩:=hN 5 (by decide)
         have g5:a.tmps[89]?=some v5:=g5
         have e5:v5=.pointer (some ⟨bz,oz+v,none⟩):=r5
         rw [e5] at g5
         have hB:=hW.1 (hno 9 (by decide))
         have hCb:=hW.2.1 (hno 11 (by decide))
         have c0:=(HWQ.out W (HP8.out.later hB).kp).2.2.2.1
         exact relVal rfl (.slice qz (vl m v).length nz0) _ rfl (by go_simp) ⟨_,rfl,rfl,⟨fun h=>hW.1 (by simpa using h),fun h=>hW.2.1 (by simpa using h),fun h=>hW.2.2 (by simpa using h)⟩,LG.same (by decide) (by decide)⟩
        case s7 =>
         intro done a W hW hd hnd hno hO hN
         obtain ⟨v6,g6,r6⟩:=hN 6 (by decide)
         have g6:a.tmps[90]?=some v6:=g6
         have e6:v6=.slice qz (vl m v).length nz0:=r6
         rw [e6] at g6
         have hB:=hW.1 (hno 9 (by decide))
         have hCb:=hW.2.1 (hno 11 (by decide))
         refine relCallF rfl rfl 41 [.tmp 90] #[34] rfl [.slice qz (vl m v).length nz0] (by simp [Act.eval,g6]) (fun _ _=>by kernel_rfl) (Calls.mono (cloneN_any W (HWQ.out W (HP8.out.later hB).kp).2.2.2.2.2 HFZ.out) ?_)
         rintro e W2 ⟨v',rfl,h1,hb2⟩
         exact ⟨_,rfl,v',rfl,own_base h1 hB.size,⟨fun _=>hB.trans ((hb2).mono hB.size),fun _=>Cl.later (hW.2.1 (hno 11 (by decide))) (hb2),fun h=>absurd (h.symm.trans (by simpa using hno 11 (by decide))) (by decide)⟩,LG.made (by decide) (by decide) (Or.inl rfl) hb2⟩
        case s8 =>
         intro done a W hW hd hnd hno hO hN
         obtain ⟨v7,g7,r7⟩:=hN 7 (by decide)
         have g7:a.tmps[91]?=some v7:=g7
         have hB:=hW.1 (hno 9 (by decide))
         have hCb:=hW.2.1 (hno 11 (by decide))
         have r7:OwnN w8.heap.size W v7 (vl m v):=r7
         obtain ⟨px,cx,ex⟩:=own_form r7
         rw [ex] at g7 r7
         have hbs:=bsLS W px (vl m v).length cx
         exact relVal rfl (.slice (some ⟨W.heap.size,0,none⟩) 1 1) (W.alloc (.cells #[(.slice px (vl m v).length cx)] 34)) rfl (by simp [execOp,Act.eval,g7,hbs,Result.andThen]) ⟨_,rfl,⟨W.heap.size,(.slice px (vl m v).length cx),rfl,fun e=>by have:=Cl.lt hCb;omega,fun e=>by have:=(own_blk (own_later (HYS.out.1) hB) e).2.1;omega,heap_alloc_new _ _,own_later r7 (below_alloc W _),rfl⟩,⟨fun _=>hB.trans ((below_alloc W _).mono hB.size),fun _=>Cl.later (hW.2.1 (hno 11 (by decide))) (below_alloc W _),fun h=>absurd (h.symm.trans (by simpa using hno 11 (by decide))) (by decide)⟩,LG.made (by decide) (by decide) (Or.inr rfl) (below_alloc W _)⟩
        case s9 =>
         intro done a W hW hd hnd hno hO hN
         obtain ⟨v1,g1,r1⟩:=hN 1 (by decide)
         have g1:a.tmps[85]?=some v1:=g1
         have e1:v1=(.slice pv2 val.length cv2):=r1
         rw [e1] at g1
         obtain ⟨v8,g8,r8⟩:=hN 8 (by decide)
         have g8:a.tmps[92]?=some v8:=g8
         have hCb:=hW.2.1 (hno 11 (by decide))
         have hB:=hW.1 hd
         obtain ⟨q,x,e8,hqb,hqV,hcq,hpx,hox⟩:=r8
         rw [e8] at g8
         have hrow:=own_later (HYS.out.1) hB
         obtain ⟨v',W2,hrun,ho',hgr,_,hblk⟩:=run_append_own_at (P:=Try.prog) (w:=W) (w9.heap.size) 23 23 34 iS (.slice none 0 0) 1 24 Try.underlying23 hiS hzS0 hzS1 hzS2 rfl (by decide) _ _ _ hrow ⟨q,0,none⟩ 1 1 [x] rfl (cell_one (hcq.cell 0)) (by intro u hu;simp at hu;subst hu;exact hox) (by unfold maxLen;omega) (by omega) (Nat.le_trans (HP8.out.kp.size) hB.size)
         exact relVal rfl v' W2 rfl (by simp [execOp,Act.eval,resolve,invoke,builtin,g1,g8,hrun,Result.andThen]) ⟨_,rfl,⟨x,W,W2,hB,hpx,hgr,ho',Or.inl rfl⟩,⟨fun h=>(by simp at h),fun _=>(grow_old hrow hgr (HB9.out.2.1) (Nat.le_trans (HP8.out.kp.size) hB.size)).trans (hW.2.1 (hno 11 (by decide))),fun h=>absurd (h.symm.trans (by simpa using hno 11 (by decide))) (by decide)⟩,LG.grew (by decide) hrow hgr⟩
        case s10 =>
         intro done a W hW hd hnd hno hO hN
         have o9:a.tmps[9]?=some (.pointer (some ⟨b9,0,none⟩)):=(hO.out 9 (by decide)).trans rfl
         have hCb:=hW.2.1 (hno 11 (by decide))
         exact relVal rfl (.pointer (some ⟨b9,1,none⟩)) _ rfl (by go_simp) ⟨_,rfl,rfl,⟨fun h=>hW.1 (by simpa using h),fun h=>hW.2.1 (by simpa using h),fun h=>hW.2.2 (by simpa using h)⟩,LG.same (by decide) (by decide)⟩
        case s11 =>
         intro done a W hW hd hnd hno hO hN
         obtain ⟨v10,g10,r10⟩:=hN 10 (by decide)
         have g10:a.tmps[94]?=some v10:=g10
         have e10:v10=.pointer (some ⟨b9,1,none⟩):=r10
         rw [e10] at g10
         obtain ⟨v9,g9,r9⟩:=hN 9 (by decide)
         have g9:a.tmps[93]?=some v9:=g9
         have hcl:=hW.2.1 hd
         obtain ⟨x,W1,W2,hb1,hpx,hg,ho,hor⟩:=r9
         have cG:W.cell? ⟨b9,1,none⟩=some ((.slice pv2 val.length cv2)):=Cl.cell hcl 1
         have fG:W.frozen? ⟨b9,1,none⟩=false:=Cl.fr hcl 1
         rcases hor with rfl | hne
         ·obtain ⟨pp,np,e8⟩:=own_form ho
          rw [e8] at g9
          have hlen:v9≠(.slice pv2 val.length cv2):=fun e=>by
           obtain ⟨p0,c0,e0⟩:=own_form (HYS.out.1)
           rw [e8,e0] at e
           have h9:val.length+1=val.length:=(Value.slice.inj e).2.1
           omega
          refine relSkip rfl (W.setCell ⟨b9,1,none⟩ (.slice pp (val.length+1) np)) rfl (by go_simp) ⟨.bool true,rfl,trivial,⟨fun h=>absurd ((hnd 9 (by decide)).symm.trans (by simpa using h)) (by decide),fun h=>(by simp at h),fun _=>⟨x,v9,W1,W,hb1,hpx,hg,ho,by rw [e8]⟩⟩,⟨KT.of_set hcl,fun h=>absurd h (by decide),fun _=>⟨fun h => ?_,fun b' hb'=>Below.heap_setCell _ ⟨b9,1,none⟩ _ b' hb'⟩,fun _ h=>absurd rfl h,fun _ _ _ h=>absurd rfl h⟩⟩
          have h0:=show Cl (W.setCell ⟨b9,1,none⟩ (.slice pp (val.length+1) np)) b9 _ 25 from heap_setCell_same W b9 1 _ _ _ hcl
          have h1:(W.setCell ⟨b9,1,none⟩ (.slice pp (val.length+1) np)).cell? ⟨b9,1,none⟩=some (.slice pp (val.length+1) np):=(Cl.cell h0 1).trans rfl
          rw [h1] at h
          exact hlen (e8.trans (Option.some.inj h))
         ·exact absurd cG hne
       case fin =>
        intro vs done w10b hdone hS hV
        have hF:=hS.2.2 (hdone 11 (by decide))
        obtain ⟨v'',hPT⟩:=HP8.out.valN HB9.out.2.1 HYS.out.1 HYS.out.2 hF
        have HPX:=show Hid (UK w9 w10b b9 u8 v'' (.slice pe3 en.length ce3) (.slice none 0 0) (uUp t x (k+1)) (((uEnds t x (k+1)).take (k+1)).map (vl m)) (uEnds t x (k+1)) []) from by
         rw [HST.out.2.1,HST.out.2.2,HST.out.1,List.map_append,← HUV.out.1,← HUV.out.2]
         exact hPT
        simp only [putAll,Act.put,List.setIfInBounds_toArray,List.set_cons_zero,List.set_cons_succ,Nat.reduceAdd]
        clear hV hS hF hPT HYS HP8
        go_wp2_with fail
        go_roundw
        case rel=>exact ⟨k+1,_,_,val_int (by omega),by rw [HST.out.1,HEN2.out];omega,by rw [HST.out.1,HEN2.out];exact HBG.out,fun j hj=>by
         by_cases e:j=k
         ·subst e;rw [HEK.out];exact HLT.out
         ·exact HJ.out j (by omega),HPX.out⟩
        case measure=>(simp only [intOf];omega)
   ·have hkl:k=(uEnds t x k).length:=by omega
    have hki:¬ (k:Int)<((uEnds t x k).length:Int):=by omega
    obtain ⟨pe,ce,rfl⟩:=HP.out.ends.slice
    obtain ⟨xs,hx1,-⟩:=HP.out.up
    obtain ⟨pu2,cu2,rfl⟩:=own_form hx1
    obtain ⟨ys,hy1,-⟩:=HP.out.val
    obtain ⟨pv2,cv2,rfl⟩:=own_form hy1
    have HKL:=show Hid (k=(uEnds t x k).length∧(uEnds t x k).length≤512∧((uEnds t x k).take k).map (vl m)=(uEnds t x k).map (vl m)) from ⟨hkl,hle,by rw [List.take_of_length_le (by omega)]⟩
    have HPX:=HP
    have HC2:=show Hid (Cl wr b2 #[.slice none 0 0,.slice none 0 0] 25∧Below w.heap.size w wr) from ⟨(HW.out wr HP.out.kp).2.2.2,(HW.out wr HP.out.kp).2.1⟩
    clear hx1 hy1 hkl hLn
    generalize (uUp t x k).length=lu at *
    generalize (((uEnds t x k).take k).map (vl m)).length=lv at *
    go_wp2_with (first | (refine wpList_ldw 25 _ rfl b9 rfl _ _ HP.out.box rfl Try.underlying25 sizeM rfl ?_) | (refine wpList_st 25 rfl rfl _ _ rfl b2 rfl _ rfl _ _ HC2.out.1 sizeM rfl (by simp [Value.oneCell']) ?_))
    intro w11 hc11 hk11
    have H11:=show Hid (Cl w11 b2 #[.slice pu2 lu cu2,.slice pv2 lv cv2] 25∧OwnI w.heap.size w11 (.slice pe (uEnds t x k).length ce) (uEnds t x k)∧RowsZ w.heap.size w11 (.slice pu2 lu cu2) (uUp t x k)∧RowsN w.heap.size w11 (.slice pv2 lv cv2) ((uEnds t x k).map (vl m))∧Below w.heap.size w w11) from by
     have hb:=HB9.out
     have h29:b2<w9.heap.size:=by omega
     have hw9:w.heap.size≤w9.heap.size:=by omega
     refine ⟨hc11,OwnI.base (own_kp HP.out.ends fun k cs hk hc _=>hk11.block k (lt_of_block hc) (by omega)) hw9,(HP.out.rows.keep (St.of_kp hk11 h29)).base hw9,?_,HC2.out.2.trans (hk11.below HC2.out.2.size fun k e=>by omega)⟩
     rw [← HKL.out.2.2]
     exact (HP.out.val.keep (St.of_kp hk11 h29)).base hw9
    clear hc11 hk11 HP HPX
    go_wp2_with fail
    refine bodyPost_ret (results_m_tt rfl _ _ b2 rfl H11.out.1) rfl ?_
    exact ⟨_,_,_,_,rfl,Or.inr (Or.inr ⟨HG.out.1,HIN.out,k,t,HTT.out.1,HJ.out,HKL.out.2.1,Or.inr ⟨HKL.out.1,rfl,H11.out.2.1,H11.out.2.2.1,H11.out.2.2.2.1⟩⟩),H11.out.2.2.2.2⟩
end Go.Proofs.Ytoedidbbjnnpnaa.Wm
