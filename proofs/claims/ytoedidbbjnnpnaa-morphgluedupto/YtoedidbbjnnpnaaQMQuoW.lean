/-
  Quotient: of any model. No condition but what a machine can hold.
-/
import Derived.Test.YtoedidbbjnnpnaaQMQuoP
import Derived.Test.YtoedidbbjnnpnaaTH20
import Derived.Test.YtoedidbbjnnpnaaQMAbv
namespace Go.Proofs.Ytoedidbbjnnpnaa.Wm
open Go.RowKit Go.Maps
open Wd (Md Rc Ed upd vl allW inW)
set_option linter.unusedSimpArgs false
set_option linter.unusedVariables false
theorem cf_quo1:Cf 38:=fun _ _=>by kernel_rfl
def QuoR (w':World) (B:Nat) (m:Md) (u' v' lv:Value) (er:Int):Prop :=
 (¬ Wd.Good m∧er=170∧u'=.slice none 0 0∧v'=.slice none 0 0∧lv=.slice none 0 0) ∨
 (Wd.Good m∧er=0∧∃ E q M',OwnI B w' lv ((List.range m.up.length).map (cnF E))∧Eqv E∧ClsP m (cnF E)∧IsQ m q (cnF E)∧Wd.Good q∧IsO q.up M'∧Fit q∧RowsZ B w' u' (tdU M' q.up.length q.up.length)∧RowsN B w' v' q.val)
structure QK (w W:World) (b5 b7 b2:Nat) (ut vt lv:Value) (B:Nat) (cl:List Nat):Prop where
 bel:Below w.heap.size w W
 box:Cl W b5 #[ut,vt] 25
 cb:Cl W b7 #[lv] 27
 res:Cl W b2 #[.slice none 0 0,.slice none 0 0] 25
 row:OwnI B W lv cl
theorem QK.later {w W W':World} {b5 b7 b2 B:Nat} {ut vt lv:Value} {cl:List Nat} (h:QK w W b5 b7 b2 ut vt lv B cl) (hb:Below W.heap.size W W'):QK w W' b5 b7 b2 ut vt lv B cl :=
 ⟨h.bel.trans (hb.mono h.bel.size),h.box.later hb,h.cb.later hb,h.res.later hb,h.row.later hb⟩
theorem QK.kp {w W W':World} {b b5 b7 b2 B:Nat} {ut vt lv:Value} {cl:List Nat} (h:QK w W b5 b7 b2 ut vt lv B cl) (hk:Kp (fun k=>k=b) W W') {u v:Value} (hb:Cl W b #[u,v] 25) (h5:b5≠b) (h7:b7≠b) (h2:b2≠b) (hw:w.heap.size≤b):QK w W' b5 b7 b2 ut vt lv B cl :=
 ⟨h.bel.trans (hk.below h.bel.size fun k e=>by omega),h.box.kp hk h5,h.cb.kp hk h7,h.res.kp hk h2,own_kp h.row fun k cs _ hc _=>hk.block k (lt_of_block hc) fun e=>by
  subst e
  have h8:=(show W.heap[k]?=_ from hb).symm.trans hc
  injection h8 with h9
  injection h9 with _ h10
  exact absurd h10 (by decide)⟩
set_option maxRecDepth 100000 in
set_option maxHeartbeats 16000000 in
theorem topQuotient_any (w:World) {M:Nat→Nat→Bool} {L:Nat} {uv vv:Value} {m:Md} (hO:IsO m.up M) (hm:IsM w L uv vv m) (hf:Fit m) (hL:L≤w.heap.size) (hfv:∀ r ∈ m.val,r.length * 16≤140737488355328) :
 Calls Try.prog 13 #[.agg #[uv,vv]] w fun e w'=>∃ u' v' lv er,e=.returned (.tuple #[.agg #[u',v'],lv,.int .i64 er])∧QuoR w' w.heap.size m u' v' lv er∧Below w.heap.size w w':=by
 have HK:=show Hid (∀ W,Below w.heap.size w W→Calls Try.prog 33 #[.agg #[uv,vv]] W _) from fun W hW=>tidy_any W hO (hm.below (hW.mono hL)) hf (Nat.le_trans hL hW.size) hfv
 have HF:=show Hid (IsO m.up M∧Fit m∧∀ r ∈ m.val,r.length * 16≤140737488355328) from ⟨hO,hf,hfv⟩
 clear hm hf hO hfv
 go_enter Try.func13,Try.ntmps13
 go_wp2_with (refine wpList_box 25 _ rfl _ rfl rfl ?_)
 intro w0 b1 hN0
 have H0:=show Hid (Below w.heap.size w w0∧Cl w0 b1 #[uv,vv] 25∧w.heap.size≤b1) from ⟨hN0.bel,hN0.blk,hN0.ge⟩
 clear hN0
 go_wp2_with (refine wpList_alloc 25 rfl _ zero_md rfl ?_)
 intro w1 b2 hN1
 have H1:=show Hid (Below w.heap.size w w1∧Cl w1 b1 #[uv,vv] 25∧Cl w1 b2 #[.slice none 0 0,.slice none 0 0] 25∧w.heap.size≤b2) from ⟨H0.out.1.trans (hN1.bel.mono H0.out.1.size),H0.out.2.1.later hN1.bel,hN1.blk,Nat.le_trans H0.out.1.size hN1.ge⟩
 clear hN1 H0
 go_wp2_with (refine wpList_ldw 25 _ rfl b1 rfl _ _ H1.out.2.1 rfl Try.underlying25 sizeM rfl ?_)
 refine Calls.mono (HK.out w1 H1.out.1) ?_
 rintro e w2 ⟨u',v',er,rfl,hR,hb2⟩
 have H2:=show Hid (Below w.heap.size w w2∧Cl w2 b2 #[.slice none 0 0,.slice none 0 0] 25∧w.heap.size≤b2∧b2<w1.heap.size∧((¬ Wd.Good m∧er=170∧u'=.slice none 0 0∧v'=.slice none 0 0)∨(Wd.Good m∧er=0∧RowsZ w1.heap.size w2 u' (tdU M m.up.length m.up.length)∧RowsN w1.heap.size w2 v' m.val))) from
  ⟨H1.out.1.trans (hb2.mono H1.out.1.size),H1.out.2.2.1.later hb2,H1.out.2.2.2,H1.out.2.2.1.lt,hR⟩
 obtain ⟨pt,nt,ct,rfl⟩:∃ p n c,u'=.slice p n c:=by
  rcases hR with ⟨_,_,rfl,_⟩ | ⟨_,_,⟨xs,h1,_⟩,_⟩
  ·exact ⟨_,_,_,rfl⟩
  ·obtain ⟨p,c,e⟩:=own_form h1;exact ⟨p,_,c,e⟩
 obtain ⟨pz,nz,cz,rfl⟩:∃ p n c,v'=.slice p n c:=by
  rcases hR with ⟨_,_,_,rfl⟩ | ⟨_,_,_,⟨xs,h1,_⟩⟩
  ·exact ⟨_,_,_,rfl⟩
  ·obtain ⟨p,c,e⟩:=own_form h1;exact ⟨p,_,c,e⟩
 clear hR hb2 H1 HK
 go_wp2_with (refine wpList_alloc 25 rfl _ zero_md rfl ?_)
 intro w3 b5 hn3
 go_wp2_with (refine wpList_st 25 rfl rfl _ _ rfl b5 rfl _ rfl _ _ hn3.blk sizeM rfl (by simp [Value.oneCell']) ?_)
 intro w4 hc4 hk4
 have H4:=show Hid (Below w2.heap.size w2 w4∧Cl w4 b5 #[.slice pt nt ct,.slice pz nz cz] 25∧w2.heap.size≤b5) from by
  have hge:=hn3.ge
  exact ⟨hn3.bel.trans (hk4.below hn3.bel.size fun k e=>by omega),hc4,hge⟩
 clear hn3 hc4 hk4
 rcases H2.out.2.2.2.2 with ⟨g,rfl,e1,e2⟩ | ⟨g,rfl,hU,hV⟩
 ·have HX:=show Hid (¬ Wd.Good m∧Below w.heap.size w w4∧Cl w4 b2 #[.slice none 0 0,.slice none 0 0] 25∧w.heap.size≤b2) from ⟨g,H2.out.1.trans (H4.out.1.mono H2.out.1.size),H2.out.2.1.later H4.out.1,H2.out.2.2.1⟩
  clear g e1 e2 H2 H4
  go_wp2_with (refine wpList_st 25 rfl rfl _ _ rfl b2 rfl _ rfl _ _ HX.out.2.2.1 sizeM rfl (by simp [Value.oneCell']) ?_)
  intro w5 hc5 hk5
  have H5:=show Hid (Below w.heap.size w w5∧Cl w5 b2 #[.slice none 0 0,.slice none 0 0] 25) from ⟨HX.out.2.1.trans (hk5.below HX.out.2.1.size fun k e=>by have:=HX.out.2.2.2;omega),hc5⟩
  clear hc5 hk5
  go_wp2_with fail
  refine bodyPost_ret (results_m_tt rfl _ _ b2 rfl H5.out.2) rfl ?_
  exact ⟨_,_,_,_,rfl,Or.inl ⟨HX.out.1,rfl,rfl,rfl,rfl⟩,H5.out.1⟩
 ·obtain ⟨t1,t2,t3⟩:=tidied HF.out.1 HF.out.2.1 g hU hV
  have HG:=show Hid (Wd.Good m∧Wd.Good (tdM m M)∧Fit (tdM m M)∧m.up.length≤512∧m.val.length=m.up.length) from ⟨g,t3,t2,(Wd.shaped_and g.shape).2.1,(Wd.shaped_and g.shape).2.2.1⟩
  have HT:=show Hid (IsM w2 w2.heap.size (.slice pt nt ct) (.slice pz nz cz) (tdM m M)∧b2<w1.heap.size∧w1.heap.size≤w2.heap.size) from ⟨t1,H2.out.2.2.2.1,by
   have:=H2.out.2.2.2.1;have h9:=H2.out.2.1.lt
   obtain ⟨xs,k1,_⟩:=hU
   have hl:=(Wd.shaped_and g.shape).1
   rcases k1.2 with ⟨_,h0⟩ | ⟨gg,cap,cur,_,hg,hh,_⟩
   ·rw [tdU_len] at h0;omega
   ·have:=lt_of_block hh;omega⟩
  have H40:=show Hid (Below w.heap.size w w4∧Cl w4 b2 #[.slice none 0 0,.slice none 0 0] 25∧w.heap.size≤b2) from ⟨H2.out.1.trans (H4.out.1.mono H2.out.1.size),H2.out.2.1.later H4.out.1,H2.out.2.2.1⟩
  have KC:=show Hid _ from classes_any w4 (t1.below H4.out.1) t2 t3 H4.out.1.size
  clear t1 t2 t3 g hU hV H2
  go_wp2_with (refine wpList_ldw 25 _ rfl b5 rfl _ _ H4.out.2.1 rfl Try.underlying25 sizeM rfl ?_)
  refine Calls.mono KC.out ?_
  rintro e w5 ⟨lv,E,rfl,h1,h2,h3,h4⟩
  rw [tdM_len] at h1
  have HE:=show Hid (Eqv E∧ClsP m (cnF E)) from ⟨h2,h3.cong (tdM_len m M) rfl (tdM_rc HF.out.1 HG.out.1)⟩
  obtain ⟨pl,cl0,rfl⟩:=h1.slice
  simp only [List.length_map,List.length_range] at h1
  have H5:=show Hid (OwnI w4.heap.size w5 (.slice pl ((List.range m.up.length).map (cnF E)).length cl0) ((List.range m.up.length).map (cnF E))∧Below w4.heap.size w4 w5) from ⟨by simpa using h1,h4⟩
  clear h1 h2 h3 h4 KC
  simp only [List.length_map,List.length_range] at *
  have hb6:=below_alloc w5 (.cells #[.slice pl m.up.length cl0] 27)
  have H6:=show Hid (QK w (w5.alloc (.cells #[.slice pl m.up.length cl0] 27)) b5 w5.heap.size b2 (.slice pt nt ct) (.slice pz nz cz) (.slice pl m.up.length cl0) w4.heap.size ((List.range m.up.length).map (cnF E))∧(w5.alloc (.cells #[.slice pl m.up.length cl0] 27)).heap.size=w5.heap.size+1∧Below w2.heap.size w2 (w5.alloc (.cells #[.slice pl m.up.length cl0] 27))∧w2.heap.size≤b5∧b5<w5.heap.size∧w.heap.size≤b2∧b2<w5.heap.size∧w2.heap.size≤w5.heap.size) from by
   have hb45:=H5.out.2
   have hb:=hb45.trans (hb6.mono hb45.size)
   have h25:=H4.out.1.trans (hb45.mono H4.out.1.size)
   refine ⟨⟨H40.out.1.trans (hb.mono H40.out.1.size),H4.out.2.1.later hb,heap_alloc_new _ _,H40.out.2.1.later hb,H5.out.1.later hb6⟩,by simp,H4.out.1.trans (hb.mono H4.out.1.size),H4.out.2.2,?_,H40.out.2.2,?_,h25.size⟩
   ·exact Nat.lt_of_lt_of_le H4.out.2.1.lt hb45.size
   ·exact Nat.lt_of_lt_of_le H40.out.2.1.lt hb45.size
  have HW4:=show Hid (w.heap.size≤w4.heap.size) from H40.out.1.size
  clear hb6 H5 H4 H40
  go_wp2_with (refine wpList_alloc 25 rfl _ zero_md rfl ?_)
  intro w7 b8 hN7
  generalize w5.alloc (.cells #[.slice pl m.up.length cl0] 27)=W6 at *
  have hb8:b8=w5.heap.size+1:=hN7.eq.trans H6.out.2.1
  generalize w5.heap.size=b7 at *
  have HB8:=show Hid (w2.heap.size≤b8∧b8<w7.heap.size∧b5<b8∧b7<b8∧b2<b8∧w.heap.size≤b8∧w.heap.size≤b2) from by
   have h1:=hN7.up
   have h2:=H6.out
   refine ⟨by omega,by omega,by omega,by omega,by omega,by omega,by omega⟩
  have HB27:=show Hid (b7≠b2) from by
   have h2:=H6.out
   show b7≠b2
   omega
  have H7:=show Hid (QK w w7 b5 b7 b2 (.slice pt nt ct) (.slice pz nz cz) (.slice pl m.up.length cl0) w4.heap.size ((List.range m.up.length).map (cnF E))∧Below w2.heap.size w2 w7∧Cl w7 b8 #[.slice none 0 0,.slice none 0 0] 25) from ⟨H6.out.1.later hN7.bel,H6.out.2.2.1.trans (hN7.bel.mono H6.out.2.2.1.size),hN7.blk⟩
  have HT0:=show Hid (PQ w7 w7 w2.heap.size b8 (.slice none 0 0) (.slice none 0 0) [] []) from
   ⟨hN7.blk,⟨[],World.ownsRow_nil _ _ _ _,fun i hi=>absurd hi (Nat.not_lt_zero _),fun i j x y _ hx=>by simp at hx⟩,⟨[],World.ownsRow_nil _ _ _ _,fun i hi=>absurd hi (Nat.not_lt_zero _)⟩,Kp.refl _ _⟩
  clear hN7 H6 hb8
  have hn1:1≤m.up.length:=(Wd.shaped_and HG.out.1.shape).1
  have hlen1:=(IsS.at HT.out.1.up).1
  rw [tdM_len] at hlen1
  have hlen2:nz=m.val.length:=(IsS.at HT.out.1.val).1
  subst hlen1
  subst hlen2
  obtain ⟨bt,ot,hbt,rfl,hat⟩:=(IsS.at HT.out.1.up).2 (by rw [tdM_len];omega)
  obtain ⟨bz,oz,hbz,rfl,haz⟩:=(IsS.at HT.out.1.val).2 (by show 0<m.val.length;have:=HG.out.2.2.2.2;omega)
  have HU0:=show Hid (∀ k (hk:k<m.up.length),∃ q n,w2.cell? ⟨bt,ot+k,none⟩=some (.slice q ((tdM m M).up.getD k []).length n)∧IsI w2 w2.heap.size (.slice q ((tdM m M).up.getD k []).length n) ((tdM m M).up.getD k [])) from fun k hk=>by
   have hk':k<(tdM m M).up.length:=by rw [tdM_len];exact hk
   obtain ⟨x,h1,h2⟩:=hat k hk'
   have e:(tdM m M).up.getD k []=(tdM m M).up[k]:=by rw [List.getD_eq_getElem?_getD,List.getElem?_eq_getElem hk'];rfl
   rw [e]
   obtain ⟨q,n,rfl⟩:=IsS.form h2
   exact ⟨q,n,h1,h2⟩
  have HV0:=show Hid (∀ k (hk:k<m.up.length),∃ q n,w2.cell? ⟨bz,oz+k,none⟩=some (.slice q (vl m k).length n)∧IsN w2 w2.heap.size (.slice q (vl m k).length n) (vl m k)) from fun k hk=>by
   have hk':k<m.val.length:=by have:=HG.out.2.2.2.2;omega
   obtain ⟨x,h1,h2⟩:=haz k hk'
   have h2:IsN w2 w2.heap.size x m.val[k]:=h2
   rw [vl_at hk']
   obtain ⟨q,n,rfl⟩:=IsS.form h2
   exact ⟨q,n,h1,h2⟩
  obtain ⟨bl,ol,hbl,rfl,hal⟩:=(IsS.at H7.out.1.row.isI).2 (by simp;omega)
  have HCC0:=show Hid (∀ W,Kp (fun k=>k=b8) w7 W→∀ k,k<m.up.length→W.cell? ⟨bl,ol+k,none⟩=some (.int .i64 (cnF E k:Int))) from fun W hW k hk=>by
   have hQ:=H7.out.1.kp hW H7.out.2.2 (by have:=HB8.out;omega) (by have:=HB8.out;omega) (by have:=HB8.out;omega) (by have:=HB8.out;omega)
   obtain ⟨b9,o9,_,e9,h9⟩:=(IsS.at hQ.row.isI).2 (by simp;omega)
   obtain ⟨rfl,rfl⟩:bl=b9∧ol=o9:=by injection e9 with e1;injection e1 with e2 e3;exact ⟨e2,e3⟩
   obtain ⟨x,k1,k2⟩:=h9 k (by simp;exact hk)
   simp only [List.getElem_map,List.getElem_range] at k2
   cases k2
   exact k1
  have HBT:=show Hid (bt<w2.heap.size∧bz<w2.heap.size) from ⟨hbt,hbz⟩
  clear hat haz hal hbt hbz hbl
  have hn5:m.up.length≤512:=HG.out.2.2.2.1
  have c70:w7.cell? ⟨b7,0,none⟩=some (.slice (some ⟨bl,ol,none⟩) m.up.length cl0):=H7.out.1.cb.cell 0
  go_wp2_with fail
  clear c70
  go_loopw [9,10,11,25] (fun _ _ _ i wr=>∃ (k:Nat) (uv2 vv2:Value),k≤m.up.length∧i=.int .i64 (k:Int)∧Hid (PQ w7 wr w2.heap.size b8 uv2 vv2 (qU (tdM m M).up E k) (qV m E k))) (fun _ _ _ i _=>m.up.length - (intOf i).toNat)
  case atStart=>exact ⟨0,_,_,Nat.zero_le _,rfl,HT0.out⟩
  case round =>
   clear HT0
   obtain ⟨k,uv2,vv2,hk,rfl,HP0⟩:=hrel
   by_cases hlt:k<m.up.length
   ·obtain ⟨qt,nt0,hct,hit⟩:=HU0.out k hlt
    obtain ⟨qz,nz0,hcz,hiz⟩:=HV0.out k hlt
    have cc0:=HCC0.out wr HP0.out.kp k hlt
    have HWQ:=show Hid (∀ W,Kp (fun k=>k=b8) w7 W→QK w W b5 b7 b2 (.slice (some ⟨bt,ot,none⟩) m.up.length ct) (.slice (some ⟨bz,oz,none⟩) m.val.length cz) (.slice (some ⟨bl,ol,none⟩) m.up.length cl0) w4.heap.size ((List.range m.up.length).map (cnF E))∧W.cell? ⟨b7,0,none⟩=some (.slice (some ⟨bl,ol,none⟩) m.up.length cl0)∧W.cell? ⟨b5,0,none⟩=some (.slice (some ⟨bt,ot,none⟩) m.up.length ct)∧W.cell? ⟨b5,1,none⟩=some (.slice (some ⟨bz,oz,none⟩) m.val.length cz)∧W.cell? ⟨bt,ot+k,none⟩=some (.slice qt ((tdM m M).up.getD k []).length nt0)∧W.cell? ⟨bz,oz+k,none⟩=some (.slice qz (vl m k).length nz0)) from fun W hW=>by
     have hQ:=H7.out.1.kp hW H7.out.2.2 (by have:=HB8.out;omega) (by have:=HB8.out;omega) (by have:=HB8.out;omega) (by have:=HB8.out;omega)
     have hb:Below w2.heap.size w2 W:=H7.out.2.1.trans (hW.below H7.out.2.1.size fun k e=>by have:=HB8.out;omega)
     exact ⟨hQ,hQ.cb.cell 0,hQ.box.cell 0,hQ.box.cell 1,(World.cell?_of_block (a:=⟨bt,ot+k,none⟩) (hb.block bt HBT.out.1)).trans hct,(World.cell?_of_block (a:=⟨bz,oz+k,none⟩) (hb.block bz HBT.out.2)).trans hcz⟩
    have HRV:=show Hid (IsN w7 w2.heap.size (.slice qz (vl m k).length nz0) (vl m k)) from hiz.keep fun k hk=>H7.out.2.1.block k hk
    have hrw:∀ x ∈ (tdM m M).up.getD k [],0≤x∧x<(m.up.length:Int):=fun x hx=>by
     have hk':k<(tdM m M).up.length:=by rw [tdM_len];exact hlt
     rw [List.getD_eq_getElem?_getD,List.getElem?_eq_getElem hk'] at hx
     have h1:=(Wd.shaped_and HG.out.2.1.shape).2.2.2.1 _ (List.getElem_mem hk')
     have h2:inW (tdM m M).up.length x=true:=List.all_eq_true.1 h1 x hx
     unfold inW at h2
     simp only [Bool.and_eq_true,decide_eq_true_eq,tdM_len] at h2
     exact h2
    have hrl:((tdM m M).up.getD k []).length≤m.up.length:=by
     have hk':k<(tdU M m.up.length m.up.length).length:=by rw [tdU_len];exact hlt
     show ((tdU M m.up.length m.up.length).getD k []).length≤_
     rw [List.getD_eq_getElem?_getD,tdU_get,if_pos hlt]
     show ((nxF M m.up.length k).map fun n:Nat=>(n:Int)).length≤_
     rw [List.length_map]
     unfold nxF
     exact Nat.le_trans (List.length_filter_le _ _) (numsTo_len _ _)
    have KR:=show Hid (∀ W,Kp (fun k=>k=b8) w7 W→Calls Try.prog 31 #[.slice qt ((tdM m M).up.getD k []).length nt0,.func (.func 38) #[] #[.pointer (some ⟨b7,0,none⟩)]] W fun e w'=>∃ v',e=.returned v'∧OwnZ W.heap.size w' v' (qRow (tdM m M).up E k)∧Below W.heap.size W w') from fun W hW=>by
     have hQ:=(HWQ.out W hW).1
     have hb:Below w2.heap.size w2 W:=H7.out.2.1.trans (hW.below H7.out.2.1.size fun k e=>by have:=HB8.out;omega)
     have hI:=ownI_clI hQ.row
     have K:=renumbered_any W (L:=W.heap.size) (Ls:=w2.heap.size) (D:=fun u=>0≤u∧u<(m.up.length:Int)) (fv:=.func (.func 38) #[] #[.pointer (some ⟨b7,0,none⟩)]) (g:=fun u=>(clI m.up.length E).getD u.toNat 0)
      ⟨38,[.pointer (some ⟨b7,0,none⟩)],rfl,cf_quo1,fun W2 u hW2 hu=>row1_any (n:=0) _ (Or.inr rfl) W2 (hQ.cb.later hW2) (ownI_clI (hQ.row.later hW2)) (by rw [clI_len];exact hu)⟩
      (hit.keep fun k hk=>hb.block k hk) hrw hb.size (Nat.le_refl _) (by have:=HG.out.2.2.2.1;omega)
     have e:(((tdM m M).up.getD k []).map fun u=>(clI m.up.length E).getD u.toNat 0)=qRow (tdM m M).up E k:=by
      unfold qRow
      refine List.map_congr_left fun u hu => ?_
      have:=hrw u hu
      unfold clI
      rw [List.getD_eq_getElem?_getD,List.getElem?_map,List.getElem?_range (by omega)];rfl
     rw [e] at K
     exact K
    have HBN:=show Hid (∀ up3,qBeg E k (qU (tdM m M).up E k)=up3→∀ hc:cnF E k<up3.length,(up3[cnF E k]'hc).length+(qRow (tdM m M).up E k).length≤1000000) from fun up3 e hc=>by
     have h1:=qU_row (u:=(tdM m M).up) HE.out.1 (B:=512) (fun a=>by
      rw [List.getD_eq_getElem?_getD]
      show ((tdU M m.up.length m.up.length)[a]?.getD []).length≤512
      rw [tdU_get]
      split
      ·show ((nxF M m.up.length a).map fun n:Nat=>(n:Int)).length≤512
       rw [List.length_map]
       unfold nxF
       have h2:=List.length_filter_le (fun v:Nat => !bwP M (numsTo (ovP M a) m.up.length) (v:Int)) (numsTo (ovP M a) m.up.length)
       have h3:=numsTo_len (ovP M a) m.up.length
       have h4:=HG.out.2.2.2.1
       omega
      ·simp) k (cnF E k)
     have h2:(qRow (tdM m M).up E k).length≤512:=by
      unfold qRow
      rw [List.length_map]
      have:=HG.out.2.2.2.1
      omega
     have h3:up3[cnF E k]=(qU (tdM m M).up E k).getD (cnF E k) []:=by
      rw [← getD_beg k,e,List.getD_eq_getElem?_getD,List.getElem?_eq_getElem hc];rfl
     rw [h3]
     have h4:=HG.out.2.2.2.1
     have h5:k * 512≤512 * 512:=Nat.mul_le_mul_right _ (by omega)
     omega
    have HCK:=show Hid ((isRep E k=true→cnF E k=(qU (tdM m M).up E k).length)∧(isRep E k=false→cnF E k<(qU (tdM m M).up E k).length)) from by
     rw [qU_len]
     exact ⟨cn_new,cn_old HE.out.1⟩
    have HUL:=show Hid ((qU (tdM m M).up E k).length≤512∧(qV m E k).length≤512) from by
     have h1:=repsTo_le (E:=E) k
     have h2:=HG.out.2.2.2.1
     refine ⟨by rw [qU_len];omega,by rw [qV_len];omega⟩
    have hkv:(k:Int)<(m.val.length:Int):=by have:=HG.out.2.2.2.2;omega
    have hki:(k:Int)<(m.up.length:Int):=by omega
    obtain ⟨c,hcc⟩:∃ c,c=cnF E k:=⟨_,rfl⟩
    have HCC:=show Hid (cnF E k=c) from hcc.symm
    rw [← hcc] at cc0 HBN HCK
    obtain ⟨up2,hup2⟩:∃ q,q=qU (tdM m M).up E k:=⟨_,rfl⟩
    obtain ⟨val2,hval2⟩:∃ q,q=qV m E k:=⟨_,rfl⟩
    have HQU:=show Hid (qU (tdM m M).up E k=up2∧qV m E k=val2) from ⟨hup2.symm,hval2.symm⟩
    rw [HQU.out.1] at HCK
    rw [HQU.out.1,HQU.out.2] at HP0 HUL
    obtain ⟨xs,hx⟩:=HP0.out.up
    obtain ⟨ys,hy1,hy2⟩:=HP0.out.val
    obtain ⟨pu2,cu2,rfl⟩:=own_form hx.own
    obtain ⟨pv2,cv2,rfl⟩:=own_form hy1
    have HP:=show Hid (PQ w7 wr w2.heap.size b8 (.slice pu2 up2.length cu2) (.slice pv2 val2.length cv2) up2 val2) from HP0.out
    have HXS:=show Hid (TD w7.heap.size wr (.slice pu2 up2.length cu2) up2 xs) from hx
    have hul:=HUL.out.1
    have hvl:=HUL.out.2
    obtain ⟨i9,hi9,hz90,hz91,hz92⟩:=info_parts infoLI
    obtain ⟨iS,hiS,hzS0,hzS1,hzS2⟩:=info_parts infoLS
    have c80:wr.cell? ⟨b8,0,none⟩=some (.slice pu2 up2.length cu2):=HP.out.box.cell 0
    clear hx hy1 hy2 HP0 hcc hup2 hval2 hct hit hcz hiz HU0 HV0 hrw hrl HUL
    cases hrp:isRep E k
    ·have hcu:c<up2.length:=HCK.out.2 hrp
     have hne:¬ (c:Int)=(up2.length:Int):=by omega
     have HRP:=show Hid (isRep E k=false) from hrp
     have HQB:=show Hid (qBeg E k (qU (tdM m M).up E k)=up2) from by
      show qBeg E k (qU (tdM m M).up E k)=up2
      unfold qBeg
      rw [if_neg (by rw [HRP.out];simp),HQU.out.1]
     have HQV:=show Hid (val2=qV m E (k+1)) from by
      show val2=if isRep E k then qV m E k ++ [vl m k] else qV m E k
      rw [if_neg (by rw [HRP.out];simp),HQU.out.2]
     have HCL0:=show Hid (c<up2.length) from hcu
     obtain ⟨up3,hup3⟩:∃ q,q=up2:=⟨_,rfl⟩
     obtain ⟨val3,hval3⟩:∃ q,q=val2:=⟨_,rfl⟩
     obtain ⟨uv3,huv3⟩:∃ q,q=Value.slice pu2 up2.length cu2:=⟨_,rfl⟩
     obtain ⟨vv3,hvv3⟩:∃ q,q=Value.slice pv2 val2.length cv2:=⟨_,rfl⟩
     have HPN:=show Hid (PQ w7 wr w2.heap.size b8 uv3 vv3 up3 val3) from by rw [huv3,hvv3,hup3,hval3];exact HP.out
     rw [← hup3] at HQB
     rw [← hval3] at HQV
     have HCL:=show Hid (c<up3.length) from by rw [hup3];exact HCL0.out
     have HBND:=show Hid ((up3[c]'HCL.out).length+(qRow (tdM m M).up E k).length≤1000000) from HBN.out up3 HQB.out HCL.out
     clear hrp HP HXS HCL0 HCK
     have hcl3:c<up3.length:=HCL.out
     have hcli:((c:Nat):Int)<(up3.length:Int):=by omega
     obtain ⟨xs,hx⟩:=HPN.out.up
     obtain ⟨x,hxc,hxo⟩:=hx.row c (by have:=HCL.out;omega)
     have hxw:=own_form hx.own
     obtain ⟨G,cap,eG,hGl,hGc⟩:∃ G cap,uv3=.slice (some ⟨G,0,none⟩) up3.length cap∧G<wr.heap.size∧wr.cell? ⟨G,c,none⟩=some x:=by
      rcases hx.own.2 with ⟨_,h0⟩ | ⟨g,cap,cur,e,_,hh,_⟩
      ·have:=HCL.out;omega
      ·have hc9:=hx.own
       rw [e] at hc9
       have h9:=hc9.cellAt c (by have:=HCL.out;omega)
       exact ⟨g,cap,e,lt_of_block hh,h9.trans hxc⟩
     subst eG
     have HTD:=show Hid (TD w7.heap.size wr (.slice (some ⟨G,0,none⟩) up3.length cap) up3 xs∧xs[c]?=some x∧OwnZ w7.heap.size wr x (up3[c]'HCL.out)∧G<wr.heap.size∧wr.cell? ⟨G,c,none⟩=some x) from ⟨hx,hxc,hxo,hGl,hGc⟩
     obtain ⟨px,cx,ex⟩:=OwnZ.slice hxo
     clear hx hxc hxo hxw hGl hGc
     have c70:=(HWQ.out wr HPN.out.kp).2.1
     have c50:=(HWQ.out wr HPN.out.kp).2.2.1
     have ck0:=(HWQ.out wr HPN.out.kp).2.2.2.2.1
     go_wp2_with fail
     refine Calls.mono (KR.out wr HPN.out.kp) ?_
     rintro e w11 ⟨ov,rfl,ho11,hb11⟩
     have H11:=show Hid (PQ w7 w11 w2.heap.size b8 (.slice (some ⟨G,0,none⟩) up3.length cap) vv3 up3 val3∧TD w7.heap.size w11 (.slice (some ⟨G,0,none⟩) up3.length cap) up3 xs∧xs[c]?=some x∧OwnZ w7.heap.size w11 x (up3[c]'HCL.out)∧G<w11.heap.size∧w11.cell? ⟨G,c,none⟩=some x∧x.ownBlock≠some G∧x.ownBlock≠some b8∧b8<w7.heap.size∧w7.heap.size≤w11.heap.size∧w11.frozen? ⟨G,c,none⟩=false) from by
      have hp:=HPN.out.later hb11
      have ht:=HTD.out.1.keep (St.of_below (B:=w7.heap.size) (T:=27) (T':=3) hb11)
      obtain ⟨_,_,cur,hcur⟩:=own_blk ht.own (k:=G) rfl
      have hxo:=own_later HTD.out.2.2.1 hb11
      refine ⟨hp,ht,HTD.out.2.1,hxo,Nat.lt_of_lt_of_le HTD.out.2.2.2.1 hb11.size,(World.cell?_of_block (a:=⟨G,c,none⟩) (hb11.block G HTD.out.2.2.2.1)).trans HTD.out.2.2.2.2,fun e => ?_,fun e => ?_,HB8.out.2.1,hp.kp.size,frozen_of_row w11 G (c) _ _ hcur⟩
      ·obtain ⟨_,_,cur2,hc2⟩:=own_blk hxo e
       have h8:=hcur.symm.trans hc2
       injection h8 with h7
       injection h7 with _ h6
       exact absurd h6 (by decide)
      ·obtain ⟨_,_,cur2,hc2⟩:=own_blk hxo e
       have h8:=(show w11.heap[b8]?=_ from hp.box).symm.trans hc2
       injection h8 with h7
       injection h7 with _ h6
       exact absurd h6 (by decide)
     have HOV:=show Hid (OwnZ w7.heap.size w11 ov (qRow (tdM m M).up E k)) from own_base ho11 HPN.out.kp.size
     obtain ⟨po,co,rfl⟩:=OwnZ.slice HOV.out
     subst ex
     clear ho11 hb11 HTD HPN c70 c50 ck0
     go_wp2_with fail
     refine wp_region_dep (by kernel_rfl) [some 57,some 58,some 59,some 60,some 61,some 62,some 63,some 64,some 65,some 66,some 67,none] [[],[0],[],[],[3],[],[4,5],[6],[],[7,8],[1,2],[10,9]] [[],[0],[],[],[3],[],[4,3,5],[6,4,3,5],[],[7,6,4,3,5,8],[1,0,2],[10,1,0,2,9,7,6,4,3,5,8]] (by kernel_rfl) (by decide) (fun i v W=>match i with | 0=>v=.pointer (some ⟨b8,0,none⟩) | 1=>v=.slice (some ⟨G,0,none⟩) up3.length cap | 2=>v=.int .i64 (c:Int) | 3=>v=.pointer (some ⟨b8,0,none⟩) | 4=>v=.slice (some ⟨G,0,none⟩) up3.length cap | 5=>v=.int .i64 (c:Int) | 6=>v=.pointer (some ⟨G,c,none⟩) | 7=>v=(.slice px (up3[c]'HCL.out).length cx) | 8=>v=(.slice po (qRow (tdM m M).up E k).length co) | 9=>GwJ w11 G w7.heap.size (.slice px (up3[c]'HCL.out).length cx) ((up3[c]'HCL.out) ++ qRow (tdM m M).up E k) v W | 10=>v=.pointer (some ⟨G,c,none⟩) | 11=>True | _=>True) (SJ 9 11 w11 G c w7.heap.size (.slice px (up3[c]'HCL.out).length cx) ((up3[c]'HCL.out) ++ qRow (tdM m M).up E k)) (LJ 9 11 G) ?hle ⟨fun _=>(Below.refl _ _).drew,fun _ _ _ _=>rfl,fun h=>(by cases h)⟩ (allLt 12 ?steps) ?fin
     case hle =>
      intro i j v W W' hij hn hl h
      match j,h with
      | 0,h=>exact h
      | 1,h=>exact h
      | 2,h=>exact h
      | 3,h=>exact h
      | 4,h=>exact h
      | 5,h=>exact h
      | 6,h=>exact h
      | 7,h=>exact h
      | 8,h=>exact h
      | 9,h=>exact gwJ_le hij hl h
      | 10,h=>exact h
      | 11,_=>trivial
      | _+12,_=>trivial
     case steps =>
      refine ⟨⟨⟨⟨⟨⟨⟨⟨⟨⟨⟨⟨trivial,?s0⟩,?s1⟩,?s2⟩,?s3⟩,?s4⟩,?s5⟩,?s6⟩,?s7⟩,?s8⟩,?s9⟩,?s10⟩,?s11⟩
      case s0 =>
       intro done a W hW hd hnd hno hO hN
       have o8:a.tmps[8]?=some (.pointer (some ⟨b8,0,none⟩)):=(hO.out 8 (by decide)).trans rfl
       have hK:=hW.2.1 (hno 11 (by decide))
       exact relVal rfl (.pointer (some ⟨b8,0,none⟩)) _ rfl (by go_simp) ⟨_,rfl,rfl,⟨fun h=>hW.1 (by simpa using h),fun h=>hW.2.1 (by simpa using h),fun h=>hW.2.2 (by simpa using h)⟩,LJ.same (by decide)⟩
      case s1 =>
       intro done a W hW hd hnd hno hO hN
       obtain ⟨v0,g0,r0⟩:=hN 0 (by decide)
       have g0:a.tmps[57]?=some v0:=g0
       have e0:v0=.pointer (some ⟨b8,0,none⟩):=r0
       rw [e0] at g0
       have hK:=hW.2.1 (hno 11 (by decide))
       have c0:W.cell? ⟨b8,0,none⟩=some (.slice (some ⟨G,0,none⟩) up3.length cap):=(World.cell?_of_block (a:=⟨b8,0,none⟩) (hK b8 (by have:=H11.out.2.2.2.2.2.2.2.2;omega) H11.out.2.2.2.2.2.2.2.1)).trans (H11.out.1.box.cell 0)
       exact relVal rfl (.slice (some ⟨G,0,none⟩) up3.length cap) _ rfl (by go_simp) ⟨_,rfl,rfl,⟨fun h=>hW.1 (by simpa using h),fun h=>hW.2.1 (by simpa using h),fun h=>hW.2.2 (by simpa using h)⟩,LJ.same (by decide)⟩
      case s2 =>
       intro done a W hW hd hnd hno hO hN
       have o10:a.tmps[10]?=some (.int .i64 (c:Int)):=(hO.out 10 (by decide)).trans rfl
       have hK:=hW.2.1 (hno 11 (by decide))
       exact relVal rfl (.int .i64 (c:Int)) _ rfl (by go_simp) ⟨_,rfl,rfl,⟨fun h=>hW.1 (by simpa using h),fun h=>hW.2.1 (by simpa using h),fun h=>hW.2.2 (by simpa using h)⟩,LJ.same (by decide)⟩
      case s3 =>
       intro done a W hW hd hnd hno hO hN
       have o8:a.tmps[8]?=some (.pointer (some ⟨b8,0,none⟩)):=(hO.out 8 (by decide)).trans rfl
       have hK:=hW.2.1 (hno 11 (by decide))
       exact relVal rfl (.pointer (some ⟨b8,0,none⟩)) _ rfl (by go_simp) ⟨_,rfl,rfl,⟨fun h=>hW.1 (by simpa using h),fun h=>hW.2.1 (by simpa using h),fun h=>hW.2.2 (by simpa using h)⟩,LJ.same (by decide)⟩
      case s4 =>
       intro done a W hW hd hnd hno hO hN
       obtain ⟨v3,g3,r3⟩:=hN 3 (by decide)
       have g3:a.tmps[60]?=some v3:=g3
       have e3:v3=.pointer (some ⟨b8,0,none⟩):=r3
       rw [e3] at g3
       have hK:=hW.2.1 (hno 11 (by decide))
       have c0:W.cell? ⟨b8,0,none⟩=some (.slice (some ⟨G,0,none⟩) up3.length cap):=(World.cell?_of_block (a:=⟨b8,0,none⟩) (hK b8 (by have:=H11.out.2.2.2.2.2.2.2.2;omega) H11.out.2.2.2.2.2.2.2.1)).trans (H11.out.1.box.cell 0)
       exact relVal rfl (.slice (some ⟨G,0,none⟩) up3.length cap) _ rfl (by go_simp) ⟨_,rfl,rfl,⟨fun h=>hW.1 (by simpa using h),fun h=>hW.2.1 (by simpa using h),fun h=>hW.2.2 (by simpa using h)⟩,LJ.same (by decide)⟩
      case s5 =>
       intro done a W hW hd hnd hno hO hN
       have o10:a.tmps[10]?=some (.int .i64 (c:Int)):=(hO.out 10 (by decide)).trans rfl
       have hK:=hW.2.1 (hno 11 (by decide))
       exact relVal rfl (.int .i64 (c:Int)) _ rfl (by go_simp) ⟨_,rfl,rfl,⟨fun h=>hW.1 (by simpa using h),fun h=>hW.2.1 (by simpa using h),fun h=>hW.2.2 (by simpa using h)⟩,LJ.same (by decide)⟩
      case s6 =>
       intro done a W hW hd hnd hno hO hN
       obtain ⟨v4,g4,r4⟩:=hN 4 (by decide)
       have g4:a.tmps[61]?=some v4:=g4
       have e4:v4=.slice (some ⟨G,0,none⟩) up3.length cap:=r4
       rw [e4] at g4
       obtain ⟨v5,g5,r5⟩:=hN 5 (by decide)
       have g5:a.tmps[62]?=some v5:=g5
       have e5:v5=.int .i64 (c:Int):=r5
       rw [e5] at g5
       have hK:=hW.2.1 (hno 11 (by decide))
       exact relVal rfl (.pointer (some ⟨G,c,none⟩)) _ rfl (by go_simp) ⟨_,rfl,rfl,⟨fun h=>hW.1 (by simpa using h),fun h=>hW.2.1 (by simpa using h),fun h=>hW.2.2 (by simpa using h)⟩,LJ.same (by decide)⟩
      case s7 =>
       intro done a W hW hd hnd hno hO hN
       obtain ⟨v6,g6,r6⟩:=hN 6 (by decide)
       have g6:a.tmps[63]?=some v6:=g6
       have e6:v6=.pointer (some ⟨G,c,none⟩):=r6
       rw [e6] at g6
       have hK:=hW.2.1 (hno 11 (by decide))
       have c0:W.cell? ⟨G,c,none⟩=some ((.slice px (up3[c]'HCL.out).length cx)):=(World.cell?_of_block (a:=⟨G,c,none⟩) (hK G H11.out.2.2.2.2.1 H11.out.2.2.2.2.2.2.1)).trans H11.out.2.2.2.2.2.1
       exact relVal rfl ((.slice px (up3[c]'HCL.out).length cx)) _ rfl (by go_simp) ⟨_,rfl,rfl,⟨fun h=>hW.1 (by simpa using h),fun h=>hW.2.1 (by simpa using h),fun h=>hW.2.2 (by simpa using h)⟩,LJ.same (by decide)⟩
      case s8 =>
       intro done a W hW hd hnd hno hO hN
       have o11:a.tmps[11]?=some ((.slice po (qRow (tdM m M).up E k).length co)):=(hO.out 11 (by decide)).trans rfl
       have hK:=hW.2.1 (hno 11 (by decide))
       exact relVal rfl ((.slice po (qRow (tdM m M).up E k).length co)) _ rfl (by go_simp) ⟨_,rfl,rfl,⟨fun h=>hW.1 (by simpa using h),fun h=>hW.2.1 (by simpa using h),fun h=>hW.2.2 (by simpa using h)⟩,LJ.same (by decide)⟩
      case s9 =>
       intro done a W hW hd hnd hno hO hN
       obtain ⟨v7,g7,r7⟩:=hN 7 (by decide)
       have g7:a.tmps[64]?=some v7:=g7
       have e7:v7=(.slice px (up3[c]'HCL.out).length cx):=r7
       rw [e7] at g7
       obtain ⟨v8,g8,r8⟩:=hN 8 (by decide)
       have g8:a.tmps[65]?=some v8:=g8
       have e8:v8=(.slice po (qRow (tdM m M).up E k).length co):=r8
       rw [e8] at g8
       have hK:=hW.2.1 (hno 11 (by decide))
       have hB:=hW.1 hd
       obtain ⟨v',W2,hrun,ho',hgr,hblk⟩:=run_append_rows W (own_later (H11.out.2.2.2.1) hB) (own_later (HOV.out) hB) (by have:=HBND.out;omega) (Nat.le_trans (H11.out.2.2.2.2.2.2.2.2.2.1) hB.size)
       have hoz:OwnZ w7.heap.size W2 v' ((up3[c]'HCL.out) ++ qRow (tdM m M).up E k):=by
        unfold OwnZ
        rw [List.length_append,List.map_append]
        exact ho'
       exact relVal rfl v' W2 rfl (by simp [execOp,Act.eval,resolve,invoke,builtin,g7,g8,hrun,Result.andThen]) ⟨_,rfl,⟨W,W2,hB,hgr,hoz,hblk,Kp.refl _ _,rfl⟩,⟨fun h=>(by simp at h),fun _ k hk hx=>(hgr.block k (Nat.lt_of_lt_of_le hk hB.size) (fun e=>hx e.symm)).trans (hB.block k hk),fun h=>absurd (h.symm.trans (by simpa using hno 11 (by decide))) (by decide)⟩,⟨fun h=>absurd rfl h,fun h=>absurd h (by decide)⟩⟩
      case s10 =>
       intro done a W hW hd hnd hno hO hN
       obtain ⟨v1,g1,r1⟩:=hN 1 (by decide)
       have g1:a.tmps[58]?=some v1:=g1
       have e1:v1=.slice (some ⟨G,0,none⟩) up3.length cap:=r1
       rw [e1] at g1
       obtain ⟨v2,g2,r2⟩:=hN 2 (by decide)
       have g2:a.tmps[59]?=some v2:=g2
       have e2:v2=.int .i64 (c:Int):=r2
       rw [e2] at g2
       have hK:=hW.2.1 (hno 11 (by decide))
       exact relVal rfl (.pointer (some ⟨G,c,none⟩)) _ rfl (by go_simp) ⟨_,rfl,rfl,⟨fun h=>hW.1 (by simpa using h),fun h=>hW.2.1 (by simpa using h),fun h=>hW.2.2 (by simpa using h)⟩,LJ.same (by decide)⟩
      case s11 =>
       intro done a W hW hd hnd hno hO hN
       obtain ⟨v10,g10,r10⟩:=hN 10 (by decide)
       have g10:a.tmps[67]?=some v10:=g10
       have e10:v10=.pointer (some ⟨G,c,none⟩):=r10
       rw [e10] at g10
       obtain ⟨v9,g9,r9⟩:=hN 9 (by decide)
       have g9:a.tmps[66]?=some v9:=g9
       have hK:=hW.2.1 hd
       have cG:W.cell? ⟨G,c,none⟩=some ((.slice px (up3[c]'HCL.out).length cx)):=(World.cell?_of_block (a:=⟨G,c,none⟩) (hK G (H11.out.2.2.2.2.1) (H11.out.2.2.2.2.2.2.1))).trans (H11.out.2.2.2.2.2.1)
       have fG:W.frozen? ⟨G,c,none⟩=false:=(World.frozen?_of_block (a:=⟨G,c,none⟩) (hK G (H11.out.2.2.2.2.1) (H11.out.2.2.2.2.2.2.1))).trans (H11.out.2.2.2.2.2.2.2.2.2.2)
       have hfin:=gwJ_fin (c:=c) r9 (H11.out.2.2.2.2.1) (H11.out.2.2.2.2.2.2.1) hK
       obtain ⟨pp,np,e8⟩:∃ p9 c9,v9=.slice p9 (((up3[c]'HCL.out) ++ qRow (tdM m M).up E k).length) c9:=by
        obtain ⟨W1,W2,_,_,ho,_⟩:=r9
        exact own_form ho
       rw [e8] at g9 hfin
       exact relSkip rfl (W.setCell ⟨G,c,none⟩ (.slice pp (((up3[c]'HCL.out) ++ qRow (tdM m M).up E k).length) np)) rfl (by go_simp) ⟨.bool true,rfl,trivial,⟨fun h=>absurd ((hnd 9 (by decide)).symm.trans (by simpa using h)) (by decide),fun h=>(by simp at h),fun _=>hfin⟩,⟨fun _ h=>absurd rfl h,fun _=>⟨(Kp.refl (fun k=>k=G) W).set (p:=G) rfl _ _,by simp [World.setCell]⟩⟩⟩
     case fin =>
      intro vs done w9 hdone hS hV
      have hF:=hS.2.2 (hdone 11 (by decide))
      have hPX:=PQ.rowS H11.out.1 H11.out.2.1 HCL.out H11.out.2.2.1 hF
      have HPX:=show Hid (PQ w7 w9 w2.heap.size b8 (.slice (some ⟨G,0,none⟩) up3.length cap) vv3 (qU (tdM m M).up E (k+1)) (qV m E (k+1))) from by
       rw [← HQV.out]
       have e9:qU (tdM m M).up E (k+1)=up3.set (c) ((up3[c]'HCL.out) ++ qRow (tdM m M).up E k):=by
        rw [show qU (tdM m M).up E (k+1)=qAdd (tdM m M).up E k (qBeg E k (qU (tdM m M).up E k)) from rfl,HQB.out]
        unfold qAdd
        rw [HCC.out,List.getD_eq_getElem?_getD,List.getElem?_eq_getElem HCL.out];rfl
       rw [e9];exact hPX
      simp only [putAll,Act.put,List.setIfInBounds_toArray,List.set_cons_zero,List.set_cons_succ,Nat.reduceAdd]
      clear hV hS hF hPX H11 HOV
      go_wp2_with fail
      go_roundw
      case rel=>exact ⟨k+1,_,_,by omega,val_int (by omega),HPX.out⟩
      case measure=>(simp only [intOf];omega)
    ·have HRP:=show Hid (isRep E k=true) from hrp
     obtain rfl:c=up2.length:=HCK.out.1 hrp
     clear hrp
     go_wp2_with (at_builtin;refine wpList_append_own_at _ rfl (.tmp 36) (.tmp 37) 22 rfl w7.heap.size 27 i9 (.slice none 0 0) 1 24 Try.underlying22 hi9 hz90 hz91 hz92 rfl (by decide) _ up2.length xs rfl (own_later HXS.out.own (below_alloc wr _)) ⟨wr.heap.size,0,none⟩ 1 1 [.slice none 0 0] rfl rfl (cell_one_new _ _ _) (by simp [Value.oneCell']) (by unfold maxLen;omega) (by omega) (by have:=HP.out.kp.size;simp;omega) ?_)
     intro v8 wA hoA hgA _ _
     have hb0:=below_alloc wr (.cells #[.slice none 0 0] 27)
     have hboxA:Cl wA b8 #[.slice pu2 up2.length cu2,.slice pv2 val2.length cv2] 25:=(grow_old (own_later HXS.out.own hb0) hgA HB8.out.2.1 (Nat.le_trans HP.out.kp.size hb0.size)).trans (HP.out.box.later hb0)
     obtain ⟨pA,cA,rfl⟩:=own_form hoA
     have c8A:wA.cell? ⟨b8,0,none⟩=some (.slice pu2 up2.length cu2):=hboxA.cell 0
     have f8A:wA.frozen? ⟨b8,0,none⟩=false:=hboxA.fr 0
     have hnew:=HP.out.newS HB8.out.2.1 HXS.out (W:=wA.setCell ⟨b8,0,none⟩ (.slice pA (up2.length+1) cA)) ⟨_,_,wr.alloc (.cells #[.slice none 0 0] 27),wA,hb0,rfl,hgA,hoA,rfl⟩
     have HNW:=show Hid (∃ u',PQ w7 (wA.setCell ⟨b8,0,none⟩ (.slice pA (up2.length+1) cA)) w2.heap.size b8 u' (.slice pv2 val2.length cv2) (up2 ++ [[]]) val2) from hnew
     clear hnew hboxA hgA hoA hb0 HP HXS
     go_wp2_with fail
     generalize wA.setCell ⟨b8,0,none⟩ (.slice pA (up2.length+1) cA)=w8 at *
     obtain ⟨u8,hp8⟩:=HNW.out
     have HP8:=show Hid (PQ w7 w8 w2.heap.size b8 u8 (.slice pv2 val2.length cv2) (up2 ++ [[]]) val2) from hp8
     obtain ⟨ys8,hy81,hy82⟩:=hp8.val
     have HYS:=show Hid (w8.ownsRow w7.heap.size 34 1 (.slice pv2 val2.length cv2) val2.length ys8∧∀ (i:Nat) (hi:i<val2.length),∃ x,ys8[i]?=some x∧IsN w7 w2.heap.size x val2[i]) from ⟨hy81,hy82⟩
     clear HNW hp8 hy81 hy82
     refine wp_region_dep (by kernel_rfl) [some 40,some 41,some 42,some 43,some 44,some 45,some 46,some 47,some 48,some 49,none] [[],[0],[],[2],[],[3,4],[5],[6],[1,7],[],[9,8]] [[],[0],[],[2],[],[3,2,4],[5,3,2,4],[6,5,3,2,4],[1,0,7,6,5,3,2,4],[],[9,8,1,0,7,6,5,3,2,4]] (by kernel_rfl) (by decide) (fun i v W=>match i with | 0=>v=.pointer (some ⟨b8,1,none⟩) | 1=>v=(.slice pv2 val2.length cv2) | 2=>v=.pointer (some ⟨b5,1,none⟩) | 3=>v=.slice (some ⟨bz,oz,none⟩) m.val.length cz | 4=>v=.int .i64 (k:Int) | 5=>v=.pointer (some ⟨bz,oz+k,none⟩) | 6=>v=.slice qz (vl m k).length nz0 | 7=>NqG b8 34 (.slice pv2 val2.length cv2) (fun x _=>x=.slice qz (vl m k).length nz0) v W | 8=>GwG w8 b8 1 w7.heap.size val2.length 34 (.slice pv2 val2.length cv2) ys8 (fun x _=>x=.slice qz (vl m k).length nz0) v W | 9=>v=.pointer (some ⟨b8,1,none⟩) | 10=>True | _=>True) (SG 8 10 w8 b8 1 w7.heap.size val2.length 34 #[u8,(.slice pv2 val2.length cv2)] (.slice pv2 val2.length cv2) ys8 (fun x _=>x=.slice qz (vl m k).length nz0)) (LG 6 7 8 10 b8 1 34 (.slice pv2 val2.length cv2)) ?hle ⟨fun _=>(Below.refl _ _).drew,fun _=>HP8.out.box,fun h=>(by cases h)⟩ (allLt 11 ?steps) ?fin
     case hle =>
      intro i j v W W' hij hn hl h
      match j,h with
      | 0,h=>exact h
      | 1,h=>exact h
      | 2,h=>exact h
      | 3,h=>exact h
      | 4,h=>exact h
      | 5,h=>exact h
      | 6,h=>exact h
      | 7,h=>exact nqG_le (fun _ _ _ _ h=>h) hl h
      | 8,h=>exact gwG_le (fun e=>hn (by subst e;decide)) (fun e=>hn (by subst e;decide)) hij hl h
      | 9,h=>exact h
      | 10,_=>trivial
      | _+11,_=>trivial
     case steps =>
      refine ⟨⟨⟨⟨⟨⟨⟨⟨⟨⟨⟨trivial,?s0⟩,?s1⟩,?s2⟩,?s3⟩,?s4⟩,?s5⟩,?s6⟩,?s7⟩,?s8⟩,?s9⟩,?s10⟩
      case s0 =>
       intro done a W hW hd hnd hno hO hN
       have o8:a.tmps[8]?=some (.pointer (some ⟨b8,0,none⟩)):=(hO.out 8 (by decide)).trans rfl
       have hB:=hW.1 (hno 8 (by decide))
       have hCb:=hW.2.1 (hno 10 (by decide))
       exact relVal rfl (.pointer (some ⟨b8,1,none⟩)) _ rfl (by go_simp) ⟨_,rfl,rfl,⟨fun h=>hW.1 (by simpa using h),fun h=>hW.2.1 (by simpa using h),fun h=>hW.2.2 (by simpa using h)⟩,LG.same (by decide) (by decide)⟩
      case s1 =>
       intro done a W hW hd hnd hno hO hN
       obtain ⟨v0,g0,r0⟩:=hN 0 (by decide)
       have g0:a.tmps[40]?=some v0:=g0
       have e0:v0=.pointer (some ⟨b8,1,none⟩):=r0
       rw [e0] at g0
       have hB:=hW.1 (hno 8 (by decide))
       have hCb:=hW.2.1 (hno 10 (by decide))
       have c0:W.cell? ⟨b8,1,none⟩=some ((.slice pv2 val2.length cv2)):=Cl.cell hCb 1
       exact relVal rfl ((.slice pv2 val2.length cv2)) _ rfl (by go_simp) ⟨_,rfl,rfl,⟨fun h=>hW.1 (by simpa using h),fun h=>hW.2.1 (by simpa using h),fun h=>hW.2.2 (by simpa using h)⟩,LG.same (by decide) (by decide)⟩
      case s2 =>
       intro done a W hW hd hnd hno hO hN
       have o5:a.tmps[5]?=some (.pointer (some ⟨b5,0,none⟩)):=(hO.out 5 (by decide)).trans rfl
       have hB:=hW.1 (hno 8 (by decide))
       have hCb:=hW.2.1 (hno 10 (by decide))
       exact relVal rfl (.pointer (some ⟨b5,1,none⟩)) _ rfl (by go_simp) ⟨_,rfl,rfl,⟨fun h=>hW.1 (by simpa using h),fun h=>hW.2.1 (by simpa using h),fun h=>hW.2.2 (by simpa using h)⟩,LG.same (by decide) (by decide)⟩
      case s3 =>
       intro done a W hW hd hnd hno hO hN
       obtain ⟨v2,g2,r2⟩:=hN 2 (by decide)
       have g2:a.tmps[42]?=some v2:=g2
       have e2:v2=.pointer (some ⟨b5,1,none⟩):=r2
       rw [e2] at g2
       have hB:=hW.1 (hno 8 (by decide))
       have hCb:=hW.2.1 (hno 10 (by decide))
       have c0:=(HWQ.out W (HP8.out.later hB).kp).2.2.2.1
       exact relVal rfl (.slice (some ⟨bz,oz,none⟩) m.val.length cz) _ rfl (by go_simp) ⟨_,rfl,rfl,⟨fun h=>hW.1 (by simpa using h),fun h=>hW.2.1 (by simpa using h),fun h=>hW.2.2 (by simpa using h)⟩,LG.same (by decide) (by decide)⟩
      case s4 =>
       intro done a W hW hd hnd hno hO hN
       have o9:a.tmps[9]?=some (.int .i64 (k:Int)):=(hO.out 9 (by decide)).trans rfl
       have hB:=hW.1 (hno 8 (by decide))
       have hCb:=hW.2.1 (hno 10 (by decide))
       exact relVal rfl (.int .i64 (k:Int)) _ rfl (by go_simp) ⟨_,rfl,rfl,⟨fun h=>hW.1 (by simpa using h),fun h=>hW.2.1 (by simpa using h),fun h=>hW.2.2 (by simpa using h)⟩,LG.same (by decide) (by decide)⟩
      case s5 =>
       intro done a W hW hd hnd hno hO hN
       obtain ⟨v3,g3,r3⟩:=hN 3 (by decide)
       have g3:a.tmps[43]?=some v3:=g3
       have e3:v3=.slice (some ⟨bz,oz,none⟩) m.val.length cz:=r3
       rw [e3] at g3
       obtain ⟨v4,g4,r4⟩:=hN 4 (by decide)
       have g4:a.tmps[44]?=some v4:=g4
       have e4:v4=.int .i64 (k:Int):=r4
       rw [e4] at g4
       have hB:=hW.1 (hno 8 (by decide))
       have hCb:=hW.2.1 (hno 10 (by decide))
       exact relVal rfl (.pointer (some ⟨bz,oz+k,none⟩)) _ rfl (by go_simp) ⟨_,rfl,rfl,⟨fun h=>hW.1 (by simpa using h),fun h=>hW.2.1 (by simpa using h),fun h=>hW.2.2 (by simpa using h)⟩,LG.same (by decide) (by decide)⟩
      case s6 =>
       intro done a W hW hd hnd hno hO hN
       obtain ⟨v5,g5,r5⟩:=hN 5 (by decide)
       have g5:a.tmps[45]?=some v5:=g5
       have e5:v5=.pointer (some ⟨bz,oz+k,none⟩):=r5
       rw [e5] at g5
       have hB:=hW.1 (hno 8 (by decide))
       have hCb:=hW.2.1 (hno 10 (by decide))
       have c0:=(HWQ.out W (HP8.out.later hB).kp).2.2.2.2.2
       exact relVal rfl (.slice qz (vl m k).length nz0) _ rfl (by go_simp) ⟨_,rfl,rfl,⟨fun h=>hW.1 (by simpa using h),fun h=>hW.2.1 (by simpa using h),fun h=>hW.2.2 (by simpa using h)⟩,LG.same (by decide) (by decide)⟩
      case s7 =>
       intro done a W hW hd hnd hno hO hN
       obtain ⟨v6,g6,r6⟩:=hN 6 (by decide)
       have g6:a.tmps[46]?=some v6:=g6
       have e6:v6=.slice qz (vl m k).length nz0:=r6
       rw [e6] at g6
       have hB:=hW.1 (hno 8 (by decide))
       have hCb:=hW.2.1 (hno 10 (by decide))
       have hbs:=bsLS W qz (vl m k).length nz0
       exact relVal rfl (.slice (some ⟨W.heap.size,0,none⟩) 1 1) (W.alloc (.cells #[(.slice qz (vl m k).length nz0)] 34)) rfl (by simp [execOp,Act.eval,g6,hbs,Result.andThen]) ⟨_,rfl,⟨W.heap.size,(.slice qz (vl m k).length nz0),rfl,fun e=>by have:=Cl.lt hCb;omega,fun e=>by have:=(own_blk (own_later (HYS.out.1) hB) e).2.1;omega,heap_alloc_new _ _,rfl,rfl⟩,⟨fun _=>hB.trans ((below_alloc W _).mono hB.size),fun _=>Cl.later (hW.2.1 (hno 10 (by decide))) (below_alloc W _),fun h=>absurd (h.symm.trans (by simpa using hno 10 (by decide))) (by decide)⟩,LG.made (by decide) (by decide) (Or.inr rfl) (below_alloc W _)⟩
      case s8 =>
       intro done a W hW hd hnd hno hO hN
       obtain ⟨v1,g1,r1⟩:=hN 1 (by decide)
       have g1:a.tmps[41]?=some v1:=g1
       have e1:v1=(.slice pv2 val2.length cv2):=r1
       rw [e1] at g1
       obtain ⟨v7,g7,r7⟩:=hN 7 (by decide)
       have g7:a.tmps[47]?=some v7:=g7
       have hCb:=hW.2.1 (hno 10 (by decide))
       have hB:=hW.1 hd
       obtain ⟨q,x,e7,hqb,hqV,hcq,hpx,hox⟩:=r7
       rw [e7] at g7
       have hrow:=own_later (HYS.out.1) hB
       obtain ⟨v',W2,hrun,ho',hgr,_,hblk⟩:=run_append_own_at (P:=Try.prog) (w:=W) (w7.heap.size) 23 23 34 iS (.slice none 0 0) 1 24 Try.underlying23 hiS hzS0 hzS1 hzS2 rfl (by decide) _ _ _ hrow ⟨q,0,none⟩ 1 1 [x] rfl (cell_one (hcq.cell 0)) (by intro u hu;simp at hu;subst hu;exact hox) (by unfold maxLen;omega) (by omega) (Nat.le_trans (HP8.out.kp.size) hB.size)
       exact relVal rfl v' W2 rfl (by simp [execOp,Act.eval,resolve,invoke,builtin,g1,g7,hrun,Result.andThen]) ⟨_,rfl,⟨x,W,W2,hB,hpx,hgr,ho',Or.inl rfl⟩,⟨fun h=>(by simp at h),fun _=>(grow_old hrow hgr (HB8.out.2.1) (Nat.le_trans (HP8.out.kp.size) hB.size)).trans (hW.2.1 (hno 10 (by decide))),fun h=>absurd (h.symm.trans (by simpa using hno 10 (by decide))) (by decide)⟩,LG.grew (by decide) hrow hgr⟩
      case s9 =>
       intro done a W hW hd hnd hno hO hN
       have o8:a.tmps[8]?=some (.pointer (some ⟨b8,0,none⟩)):=(hO.out 8 (by decide)).trans rfl
       have hCb:=hW.2.1 (hno 10 (by decide))
       exact relVal rfl (.pointer (some ⟨b8,1,none⟩)) _ rfl (by go_simp) ⟨_,rfl,rfl,⟨fun h=>hW.1 (by simpa using h),fun h=>hW.2.1 (by simpa using h),fun h=>hW.2.2 (by simpa using h)⟩,LG.same (by decide) (by decide)⟩
      case s10 =>
       intro done a W hW hd hnd hno hO hN
       obtain ⟨v9,g9,r9⟩:=hN 9 (by decide)
       have g9:a.tmps[49]?=some v9:=g9
       have e9:v9=.pointer (some ⟨b8,1,none⟩):=r9
       rw [e9] at g9
       obtain ⟨v8,g8,r8⟩:=hN 8 (by decide)
       have g8:a.tmps[48]?=some v8:=g8
       have hcl:=hW.2.1 hd
       obtain ⟨x,W1,W2,hb1,hpx,hg,ho,hor⟩:=r8
       have cG:W.cell? ⟨b8,1,none⟩=some ((.slice pv2 val2.length cv2)):=Cl.cell hcl 1
       have fG:W.frozen? ⟨b8,1,none⟩=false:=Cl.fr hcl 1
       rcases hor with rfl | hne
       ·obtain ⟨pp,np,e8⟩:=own_form ho
        rw [e8] at g8
        have hlen:v8≠(.slice pv2 val2.length cv2):=fun e=>by
         obtain ⟨p0,c0,e0⟩:=own_form (HYS.out.1)
         rw [e8,e0] at e
         have h9:val2.length+1=val2.length:=(Value.slice.inj e).2.1
         omega
        refine relSkip rfl (W.setCell ⟨b8,1,none⟩ (.slice pp (val2.length+1) np)) rfl (by go_simp) ⟨.bool true,rfl,trivial,⟨fun h=>absurd ((hnd 8 (by decide)).symm.trans (by simpa using h)) (by decide),fun h=>(by simp at h),fun _=>⟨x,v8,W1,W,hb1,hpx,hg,ho,by rw [e8]⟩⟩,⟨KT.of_set hcl,fun h=>absurd h (by decide),fun _=>⟨fun h => ?_,fun b' hb'=>Below.heap_setCell _ ⟨b8,1,none⟩ _ b' hb'⟩,fun _ h=>absurd rfl h,fun _ _ _ h=>absurd rfl h⟩⟩
        have h0:=show Cl (W.setCell ⟨b8,1,none⟩ (.slice pp (val2.length+1) np)) b8 _ 25 from heap_setCell_same W b8 1 _ _ _ hcl
        have h1:(W.setCell ⟨b8,1,none⟩ (.slice pp (val2.length+1) np)).cell? ⟨b8,1,none⟩=some (.slice pp (val2.length+1) np):=(Cl.cell h0 1).trans rfl
        rw [h1] at h
        exact hlen (e8.trans (Option.some.inj h))
       ·exact absurd cG hne
     case fin =>
      intro vs done w10 hdone hS hV
      have hF:=hS.2.2 (hdone 10 (by decide))
      obtain ⟨vv3,hPT⟩:=HP8.out.valS HB8.out.2.1 HYS.out.1 HYS.out.2 HRV.out hF
      have HPN0:=show Hid (PQ w7 w10 w2.heap.size b8 u8 vv3 (up2 ++ [[]]) (val2 ++ [vl m k])) from hPT
      simp only [putAll,Act.put,List.setIfInBounds_toArray,List.set_cons_zero,List.set_cons_succ,Nat.reduceAdd]
      clear hV hS hF hPT HYS HP8
      generalize hup3:up2 ++ [[]]=up3 at *
      generalize hval3:val2 ++ [vl m k]=val3 at *
      have HQB:=show Hid (qBeg E k (qU (tdM m M).up E k)=up3) from by
       show qBeg E k (qU (tdM m M).up E k)=up3
       unfold qBeg
       rw [if_pos HRP.out,HQU.out.1];exact hup3
      have HQV:=show Hid (val3=qV m E (k+1)) from by
       show val3=if isRep E k then qV m E k ++ [vl m k] else qV m E k
       rw [if_pos HRP.out,HQU.out.2];exact hval3.symm
      have HCL:=show Hid (up2.length<up3.length) from by
       show up2.length<up3.length
       rw [← hup3];simp
      have HBND:=show Hid ((up3[up2.length]'HCL.out).length+(qRow (tdM m M).up E k).length≤1000000) from HBN.out up3 HQB.out HCL.out
      obtain ⟨uv3,rfl⟩:∃ z,z=u8:=⟨_,rfl⟩
      have HPN:=show Hid (PQ w7 w10 w2.heap.size b8 uv3 vv3 up3 val3) from HPN0.out
      clear hup3 hval3 HPN0
      have hcl3:up2.length<up3.length:=HCL.out
      have hcli:((up2.length:Nat):Int)<(up3.length:Int):=by omega
      obtain ⟨xs,hx⟩:=HPN.out.up
      obtain ⟨x,hxc,hxo⟩:=hx.row up2.length (by have:=HCL.out;omega)
      have hxw:=own_form hx.own
      obtain ⟨G,cap,eG,hGl,hGc⟩:∃ G cap,uv3=.slice (some ⟨G,0,none⟩) up3.length cap∧G<w10.heap.size∧w10.cell? ⟨G,up2.length,none⟩=some x:=by
       rcases hx.own.2 with ⟨_,h0⟩ | ⟨g,cap,cur,e,_,hh,_⟩
       ·have:=HCL.out;omega
       ·have hc9:=hx.own
        rw [e] at hc9
        have h9:=hc9.cellAt up2.length (by have:=HCL.out;omega)
        exact ⟨g,cap,e,lt_of_block hh,h9.trans hxc⟩
      subst eG
      have HTD:=show Hid (TD w7.heap.size w10 (.slice (some ⟨G,0,none⟩) up3.length cap) up3 xs∧xs[up2.length]?=some x∧OwnZ w7.heap.size w10 x (up3[up2.length]'HCL.out)∧G<w10.heap.size∧w10.cell? ⟨G,up2.length,none⟩=some x) from ⟨hx,hxc,hxo,hGl,hGc⟩
      obtain ⟨px,cx,ex⟩:=OwnZ.slice hxo
      clear hx hxc hxo hxw hGl hGc
      have c70:=(HWQ.out w10 HPN.out.kp).2.1
      have c50:=(HWQ.out w10 HPN.out.kp).2.2.1
      have ck0:=(HWQ.out w10 HPN.out.kp).2.2.2.2.1
      go_wp2_with fail
      refine Calls.mono (KR.out w10 HPN.out.kp) ?_
      rintro e w11 ⟨ov,rfl,ho11,hb11⟩
      have H11:=show Hid (PQ w7 w11 w2.heap.size b8 (.slice (some ⟨G,0,none⟩) up3.length cap) vv3 up3 val3∧TD w7.heap.size w11 (.slice (some ⟨G,0,none⟩) up3.length cap) up3 xs∧xs[up2.length]?=some x∧OwnZ w7.heap.size w11 x (up3[up2.length]'HCL.out)∧G<w11.heap.size∧w11.cell? ⟨G,up2.length,none⟩=some x∧x.ownBlock≠some G∧x.ownBlock≠some b8∧b8<w7.heap.size∧w7.heap.size≤w11.heap.size∧w11.frozen? ⟨G,up2.length,none⟩=false) from by
       have hp:=HPN.out.later hb11
       have ht:=HTD.out.1.keep (St.of_below (B:=w7.heap.size) (T:=27) (T':=3) hb11)
       obtain ⟨_,_,cur,hcur⟩:=own_blk ht.own (k:=G) rfl
       have hxo:=own_later HTD.out.2.2.1 hb11
       refine ⟨hp,ht,HTD.out.2.1,hxo,Nat.lt_of_lt_of_le HTD.out.2.2.2.1 hb11.size,(World.cell?_of_block (a:=⟨G,up2.length,none⟩) (hb11.block G HTD.out.2.2.2.1)).trans HTD.out.2.2.2.2,fun e => ?_,fun e => ?_,HB8.out.2.1,hp.kp.size,frozen_of_row w11 G (up2.length) _ _ hcur⟩
       ·obtain ⟨_,_,cur2,hc2⟩:=own_blk hxo e
        have h8:=hcur.symm.trans hc2
        injection h8 with h7
        injection h7 with _ h6
        exact absurd h6 (by decide)
       ·obtain ⟨_,_,cur2,hc2⟩:=own_blk hxo e
        have h8:=(show w11.heap[b8]?=_ from hp.box).symm.trans hc2
        injection h8 with h7
        injection h7 with _ h6
        exact absurd h6 (by decide)
      have HOV:=show Hid (OwnZ w7.heap.size w11 ov (qRow (tdM m M).up E k)) from own_base ho11 HPN.out.kp.size
      obtain ⟨po,co,rfl⟩:=OwnZ.slice HOV.out
      subst ex
      clear ho11 hb11 HTD HPN c70 c50 ck0
      go_wp2_with fail
      refine wp_region_dep (by kernel_rfl) [some 57,some 58,some 59,some 60,some 61,some 62,some 63,some 64,some 65,some 66,some 67,none] [[],[0],[],[],[3],[],[4,5],[6],[],[7,8],[1,2],[10,9]] [[],[0],[],[],[3],[],[4,3,5],[6,4,3,5],[],[7,6,4,3,5,8],[1,0,2],[10,1,0,2,9,7,6,4,3,5,8]] (by kernel_rfl) (by decide) (fun i v W=>match i with | 0=>v=.pointer (some ⟨b8,0,none⟩) | 1=>v=.slice (some ⟨G,0,none⟩) up3.length cap | 2=>v=.int .i64 (up2.length:Int) | 3=>v=.pointer (some ⟨b8,0,none⟩) | 4=>v=.slice (some ⟨G,0,none⟩) up3.length cap | 5=>v=.int .i64 (up2.length:Int) | 6=>v=.pointer (some ⟨G,up2.length,none⟩) | 7=>v=(.slice px (up3[up2.length]'HCL.out).length cx) | 8=>v=(.slice po (qRow (tdM m M).up E k).length co) | 9=>GwJ w11 G w7.heap.size (.slice px (up3[up2.length]'HCL.out).length cx) ((up3[up2.length]'HCL.out) ++ qRow (tdM m M).up E k) v W | 10=>v=.pointer (some ⟨G,up2.length,none⟩) | 11=>True | _=>True) (SJ 9 11 w11 G up2.length w7.heap.size (.slice px (up3[up2.length]'HCL.out).length cx) ((up3[up2.length]'HCL.out) ++ qRow (tdM m M).up E k)) (LJ 9 11 G) ?hle ⟨fun _=>(Below.refl _ _).drew,fun _ _ _ _=>rfl,fun h=>(by cases h)⟩ (allLt 12 ?steps) ?fin
      case hle =>
       intro i j v W W' hij hn hl h
       match j,h with
       | 0,h=>exact h
       | 1,h=>exact h
       | 2,h=>exact h
       | 3,h=>exact h
       | 4,h=>exact h
       | 5,h=>exact h
       | 6,h=>exact h
       | 7,h=>exact h
       | 8,h=>exact h
       | 9,h=>exact gwJ_le hij hl h
       | 10,h=>exact h
       | 11,_=>trivial
       | _+12,_=>trivial
      case steps =>
       refine ⟨⟨⟨⟨⟨⟨⟨⟨⟨⟨⟨⟨trivial,?s0⟩,?s1⟩,?s2⟩,?s3⟩,?s4⟩,?s5⟩,?s6⟩,?s7⟩,?s8⟩,?s9⟩,?s10⟩,?s11⟩
       case s0 =>
        intro done a W hW hd hnd hno hO hN
        have o8:a.tmps[8]?=some (.pointer (some ⟨b8,0,none⟩)):=(hO.out 8 (by decide)).trans rfl
        have hK:=hW.2.1 (hno 11 (by decide))
        exact relVal rfl (.pointer (some ⟨b8,0,none⟩)) _ rfl (by go_simp) ⟨_,rfl,rfl,⟨fun h=>hW.1 (by simpa using h),fun h=>hW.2.1 (by simpa using h),fun h=>hW.2.2 (by simpa using h)⟩,LJ.same (by decide)⟩
       case s1 =>
        intro done a W hW hd hnd hno hO hN
        obtain ⟨v0,g0,r0⟩:=hN 0 (by decide)
        have g0:a.tmps[57]?=some v0:=g0
        have e0:v0=.pointer (some ⟨b8,0,none⟩):=r0
        rw [e0] at g0
        have hK:=hW.2.1 (hno 11 (by decide))
        have c0:W.cell? ⟨b8,0,none⟩=some (.slice (some ⟨G,0,none⟩) up3.length cap):=(World.cell?_of_block (a:=⟨b8,0,none⟩) (hK b8 (by have:=H11.out.2.2.2.2.2.2.2.2;omega) H11.out.2.2.2.2.2.2.2.1)).trans (H11.out.1.box.cell 0)
        exact relVal rfl (.slice (some ⟨G,0,none⟩) up3.length cap) _ rfl (by go_simp) ⟨_,rfl,rfl,⟨fun h=>hW.1 (by simpa using h),fun h=>hW.2.1 (by simpa using h),fun h=>hW.2.2 (by simpa using h)⟩,LJ.same (by decide)⟩
       case s2 =>
        intro done a W hW hd hnd hno hO hN
        have o10:a.tmps[10]?=some (.int .i64 (up2.length:Int)):=(hO.out 10 (by decide)).trans rfl
        have hK:=hW.2.1 (hno 11 (by decide))
        exact relVal rfl (.int .i64 (up2.length:Int)) _ rfl (by go_simp) ⟨_,rfl,rfl,⟨fun h=>hW.1 (by simpa using h),fun h=>hW.2.1 (by simpa using h),fun h=>hW.2.2 (by simpa using h)⟩,LJ.same (by decide)⟩
       case s3 =>
        intro done a W hW hd hnd hno hO hN
        have o8:a.tmps[8]?=some (.pointer (some ⟨b8,0,none⟩)):=(hO.out 8 (by decide)).trans rfl
        have hK:=hW.2.1 (hno 11 (by decide))
        exact relVal rfl (.pointer (some ⟨b8,0,none⟩)) _ rfl (by go_simp) ⟨_,rfl,rfl,⟨fun h=>hW.1 (by simpa using h),fun h=>hW.2.1 (by simpa using h),fun h=>hW.2.2 (by simpa using h)⟩,LJ.same (by decide)⟩
       case s4 =>
        intro done a W hW hd hnd hno hO hN
        obtain ⟨v3,g3,r3⟩:=hN 3 (by decide)
        have g3:a.tmps[60]?=some v3:=g3
        have e3:v3=.pointer (some ⟨b8,0,none⟩):=r3
        rw [e3] at g3
        have hK:=hW.2.1 (hno 11 (by decide))
        have c0:W.cell? ⟨b8,0,none⟩=some (.slice (some ⟨G,0,none⟩) up3.length cap):=(World.cell?_of_block (a:=⟨b8,0,none⟩) (hK b8 (by have:=H11.out.2.2.2.2.2.2.2.2;omega) H11.out.2.2.2.2.2.2.2.1)).trans (H11.out.1.box.cell 0)
        exact relVal rfl (.slice (some ⟨G,0,none⟩) up3.length cap) _ rfl (by go_simp) ⟨_,rfl,rfl,⟨fun h=>hW.1 (by simpa using h),fun h=>hW.2.1 (by simpa using h),fun h=>hW.2.2 (by simpa using h)⟩,LJ.same (by decide)⟩
       case s5 =>
        intro done a W hW hd hnd hno hO hN
        have o10:a.tmps[10]?=some (.int .i64 (up2.length:Int)):=(hO.out 10 (by decide)).trans rfl
        have hK:=hW.2.1 (hno 11 (by decide))
        exact relVal rfl (.int .i64 (up2.length:Int)) _ rfl (by go_simp) ⟨_,rfl,rfl,⟨fun h=>hW.1 (by simpa using h),fun h=>hW.2.1 (by simpa using h),fun h=>hW.2.2 (by simpa using h)⟩,LJ.same (by decide)⟩
       case s6 =>
        intro done a W hW hd hnd hno hO hN
        obtain ⟨v4,g4,r4⟩:=hN 4 (by decide)
        have g4:a.tmps[61]?=some v4:=g4
        have e4:v4=.slice (some ⟨G,0,none⟩) up3.length cap:=r4
        rw [e4] at g4
        obtain ⟨v5,g5,r5⟩:=hN 5 (by decide)
        have g5:a.tmps[62]?=some v5:=g5
        have e5:v5=.int .i64 (up2.length:Int):=r5
        rw [e5] at g5
        have hK:=hW.2.1 (hno 11 (by decide))
        exact relVal rfl (.pointer (some ⟨G,up2.length,none⟩)) _ rfl (by go_simp) ⟨_,rfl,rfl,⟨fun h=>hW.1 (by simpa using h),fun h=>hW.2.1 (by simpa using h),fun h=>hW.2.2 (by simpa using h)⟩,LJ.same (by decide)⟩
       case s7 =>
        intro done a W hW hd hnd hno hO hN
        obtain ⟨v6,g6,r6⟩:=hN 6 (by decide)
        have g6:a.tmps[63]?=some v6:=g6
        have e6:v6=.pointer (some ⟨G,up2.length,none⟩):=r6
        rw [e6] at g6
        have hK:=hW.2.1 (hno 11 (by decide))
        have c0:W.cell? ⟨G,up2.length,none⟩=some ((.slice px (up3[up2.length]'HCL.out).length cx)):=(World.cell?_of_block (a:=⟨G,up2.length,none⟩) (hK G H11.out.2.2.2.2.1 H11.out.2.2.2.2.2.2.1)).trans H11.out.2.2.2.2.2.1
        exact relVal rfl ((.slice px (up3[up2.length]'HCL.out).length cx)) _ rfl (by go_simp) ⟨_,rfl,rfl,⟨fun h=>hW.1 (by simpa using h),fun h=>hW.2.1 (by simpa using h),fun h=>hW.2.2 (by simpa using h)⟩,LJ.same (by decide)⟩
       case s8 =>
        intro done a W hW hd hnd hno hO hN
        have o11:a.tmps[11]?=some ((.slice po (qRow (tdM m M).up E k).length co)):=(hO.out 11 (by decide)).trans rfl
        have hK:=hW.2.1 (hno 11 (by decide))
        exact relVal rfl ((.slice po (qRow (tdM m M).up E k).length co)) _ rfl (by go_simp) ⟨_,rfl,rfl,⟨fun h=>hW.1 (by simpa using h),fun h=>hW.2.1 (by simpa using h),fun h=>hW.2.2 (by simpa using h)⟩,LJ.same (by decide)⟩
       case s9 =>
        intro done a W hW hd hnd hno hO hN
        obtain ⟨v7,g7,r7⟩:=hN 7 (by decide)
        have g7:a.tmps[64]?=some v7:=g7
        have e7:v7=(.slice px (up3[up2.length]'HCL.out).length cx):=r7
        rw [e7] at g7
        obtain ⟨v8,g8,r8⟩:=hN 8 (by decide)
        have g8:a.tmps[65]?=some v8:=g8
        have e8:v8=(.slice po (qRow (tdM m M).up E k).length co):=r8
        rw [e8] at g8
        have hK:=hW.2.1 (hno 11 (by decide))
        have hB:=hW.1 hd
        obtain ⟨v',W2,hrun,ho',hgr,hblk⟩:=run_append_rows W (own_later (H11.out.2.2.2.1) hB) (own_later (HOV.out) hB) (by have:=HBND.out;omega) (Nat.le_trans (H11.out.2.2.2.2.2.2.2.2.2.1) hB.size)
        have hoz:OwnZ w7.heap.size W2 v' ((up3[up2.length]'HCL.out) ++ qRow (tdM m M).up E k):=by
         unfold OwnZ
         rw [List.length_append,List.map_append]
         exact ho'
        exact relVal rfl v' W2 rfl (by simp [execOp,Act.eval,resolve,invoke,builtin,g7,g8,hrun,Result.andThen]) ⟨_,rfl,⟨W,W2,hB,hgr,hoz,hblk,Kp.refl _ _,rfl⟩,⟨fun h=>(by simp at h),fun _ k hk hx=>(hgr.block k (Nat.lt_of_lt_of_le hk hB.size) (fun e=>hx e.symm)).trans (hB.block k hk),fun h=>absurd (h.symm.trans (by simpa using hno 11 (by decide))) (by decide)⟩,⟨fun h=>absurd rfl h,fun h=>absurd h (by decide)⟩⟩
       case s10 =>
        intro done a W hW hd hnd hno hO hN
        obtain ⟨v1,g1,r1⟩:=hN 1 (by decide)
        have g1:a.tmps[58]?=some v1:=g1
        have e1:v1=.slice (some ⟨G,0,none⟩) up3.length cap:=r1
        rw [e1] at g1
        obtain ⟨v2,g2,r2⟩:=hN 2 (by decide)
        have g2:a.tmps[59]?=some v2:=g2
        have e2:v2=.int .i64 (up2.length:Int):=r2
        rw [e2] at g2
        have hK:=hW.2.1 (hno 11 (by decide))
        exact relVal rfl (.pointer (some ⟨G,up2.length,none⟩)) _ rfl (by go_simp) ⟨_,rfl,rfl,⟨fun h=>hW.1 (by simpa using h),fun h=>hW.2.1 (by simpa using h),fun h=>hW.2.2 (by simpa using h)⟩,LJ.same (by decide)⟩
       case s11 =>
        intro done a W hW hd hnd hno hO hN
        obtain ⟨v10,g10,r10⟩:=hN 10 (by decide)
        have g10:a.tmps[67]?=some v10:=g10
        have e10:v10=.pointer (some ⟨G,up2.length,none⟩):=r10
        rw [e10] at g10
        obtain ⟨v9,g9,r9⟩:=hN 9 (by decide)
        have g9:a.tmps[66]?=some v9:=g9
        have hK:=hW.2.1 hd
        have cG:W.cell? ⟨G,up2.length,none⟩=some ((.slice px (up3[up2.length]'HCL.out).length cx)):=(World.cell?_of_block (a:=⟨G,up2.length,none⟩) (hK G (H11.out.2.2.2.2.1) (H11.out.2.2.2.2.2.2.1))).trans (H11.out.2.2.2.2.2.1)
        have fG:W.frozen? ⟨G,up2.length,none⟩=false:=(World.frozen?_of_block (a:=⟨G,up2.length,none⟩) (hK G (H11.out.2.2.2.2.1) (H11.out.2.2.2.2.2.2.1))).trans (H11.out.2.2.2.2.2.2.2.2.2.2)
        have hfin:=gwJ_fin (c:=up2.length) r9 (H11.out.2.2.2.2.1) (H11.out.2.2.2.2.2.2.1) hK
        obtain ⟨pp,np,e8⟩:∃ p9 c9,v9=.slice p9 (((up3[up2.length]'HCL.out) ++ qRow (tdM m M).up E k).length) c9:=by
         obtain ⟨W1,W2,_,_,ho,_⟩:=r9
         exact own_form ho
        rw [e8] at g9 hfin
        exact relSkip rfl (W.setCell ⟨G,up2.length,none⟩ (.slice pp (((up3[up2.length]'HCL.out) ++ qRow (tdM m M).up E k).length) np)) rfl (by go_simp) ⟨.bool true,rfl,trivial,⟨fun h=>absurd ((hnd 9 (by decide)).symm.trans (by simpa using h)) (by decide),fun h=>(by simp at h),fun _=>hfin⟩,⟨fun _ h=>absurd rfl h,fun _=>⟨(Kp.refl (fun k=>k=G) W).set (p:=G) rfl _ _,by simp [World.setCell]⟩⟩⟩
      case fin =>
       intro vs done w9 hdone hS hV
       have hF:=hS.2.2 (hdone 11 (by decide))
       have hPX:=PQ.rowS H11.out.1 H11.out.2.1 HCL.out H11.out.2.2.1 hF
       have HPX:=show Hid (PQ w7 w9 w2.heap.size b8 (.slice (some ⟨G,0,none⟩) up3.length cap) vv3 (qU (tdM m M).up E (k+1)) (qV m E (k+1))) from by
        rw [← HQV.out]
        have e9:qU (tdM m M).up E (k+1)=up3.set (up2.length) ((up3[up2.length]'HCL.out) ++ qRow (tdM m M).up E k):=by
         rw [show qU (tdM m M).up E (k+1)=qAdd (tdM m M).up E k (qBeg E k (qU (tdM m M).up E k)) from rfl,HQB.out]
         unfold qAdd
         rw [HCC.out,List.getD_eq_getElem?_getD,List.getElem?_eq_getElem HCL.out];rfl
        rw [e9];exact hPX
       simp only [putAll,Act.put,List.setIfInBounds_toArray,List.set_cons_zero,List.set_cons_succ,Nat.reduceAdd]
       clear hV hS hF hPX H11 HOV
       go_wp2_with fail
       go_roundw
       case rel=>exact ⟨k+1,_,_,by omega,val_int (by omega),HPX.out⟩
       case measure=>(simp only [intOf];omega)
   ·obtain rfl:k=m.up.length:=by omega
    have hki:¬ (m.up.length:Int)<(m.up.length:Int):=by omega
    have HP:=show Hid (PQ w7 wr w2.heap.size b8 uv2 vv2 (qU (tdM m M).up E m.up.length) (qV m E m.up.length)) from HP0.out
    obtain ⟨hIsQ,hQG⟩:=quo_ok (m:=m) (t:=tdM m M) HE.out.1 HG.out.1 HG.out.2.1 (tdM_len m M) rfl (tdM_rc HF.out.1 HG.out.1) HE.out.2
    have hQF:Fit ⟨qU (tdM m M).up E m.up.length,qV m E m.up.length⟩:=by
     obtain ⟨q1,q2,q3,q4,q5⟩:=Wd.shaped_and hQG.shape
     obtain ⟨f1,f2,f3,f4⟩:=HF.out.2.1
     refine ⟨by omega,by omega,fun r hr => ?_,fun r hr=>f4 r (qV_mem (by have:=HG.out.2.2.2.2;omega) _ (Nat.le_refl _) r hr)⟩
     have hall:=q4 r hr
     obtain ⟨i,hi,rfl⟩:=List.mem_iff_getElem.1 hr
     refine ⟨?_,fun x hx => ?_⟩
     ·have h1:=qU_row (u:=(tdM m M).up) HE.out.1 (B:=512) (fun a=>by
       rw [List.getD_eq_getElem?_getD]
       show ((tdU M m.up.length m.up.length)[a]?.getD []).length≤512
       rw [tdU_get]
       split
       ·show ((nxF M m.up.length a).map fun n:Nat=>(n:Int)).length≤512
        rw [List.length_map]
        unfold nxF
        have h2:=List.length_filter_le (fun v:Nat => !bwP M (numsTo (ovP M a) m.up.length) (v:Int)) (numsTo (ovP M a) m.up.length)
        have h3:=numsTo_len (ovP M a) m.up.length
        omega
       ·simp) m.up.length i
      rw [List.getD_eq_getElem?_getD,List.getElem?_eq_getElem hi] at h1
      have h2:((qU (tdM m M).up E m.up.length)[i]).length≤m.up.length * 512:=h1
      have h3:m.up.length * 512≤512 * 512:=Nat.mul_le_mul_right _ hn5
      show ((qU (tdM m M).up E m.up.length)[i]).length≤140737488351232
      omega
     ·have h2:=List.all_eq_true.1 hall x hx
      unfold inW at h2
      simp only [Bool.and_eq_true,decide_eq_true_eq] at h2
      have h3:x<((qU (tdM m M).up E m.up.length).length:Int):=h2.2
      have h4:(qU (tdM m M).up E m.up.length).length≤512:=q2
      have h5:=h2.1
      omega
    obtain ⟨M',hO'⟩:=isO_ex (qU (tdM m M).up E m.up.length)
    have hisM:=HP.out.pt.isM HB8.out.1 HB8.out.2.1
    have KT:=show Hid _ from tidy_any wr (m:=⟨qU (tdM m M).up E m.up.length,qV m E m.up.length⟩) hO' hisM hQF (Nat.le_refl _) (fun r hr=>HF.out.2.2 r (qV_mem (by have:=HG.out.2.2.2.2;omega) _ (Nat.le_refl _) r hr))
    obtain ⟨q,hqe⟩:∃ q:Md,q=⟨qU (tdM m M).up E m.up.length,qV m E m.up.length⟩:=⟨_,rfl⟩
    have HGQ:=show Hid (IsQ m q (cnF E)∧Wd.Good q∧Fit q∧IsO q.up M') from by rw [hqe];exact ⟨hIsQ,hQG,hQF,hO'⟩
    rw [← hqe] at KT
    clear hIsQ hQG hQF hisM hO' hqe HP0 HU0 HV0
    go_wp2_with (refine wpList_ldw 25 _ rfl b8 rfl _ _ HP.out.box rfl Try.underlying25 sizeM rfl ?_)
    refine Calls.mono KT.out ?_
    rintro e w6 ⟨u',v',er,rfl,hR,hb6⟩
    obtain ⟨rfl,hU,hV⟩:er=0∧RowsZ wr.heap.size w6 u' (tdU M' q.up.length q.up.length)∧RowsN wr.heap.size w6 v' q.val:=by
     rcases hR with ⟨h,_⟩ | ⟨_,h1,h2,h3⟩
     ·exact absurd HGQ.out.2.1 h
     ·exact ⟨h1,h2,h3⟩
    have H6:=show Hid (RowsZ wr.heap.size w6 u' (tdU M' q.up.length q.up.length)∧RowsN wr.heap.size w6 v' q.val∧Kp (fun k=>k=b8) w7 w6∧Cl w6 b8 #[uv2,vv2] 25∧b8<wr.heap.size) from ⟨hU,hV,(HP.out.later hb6).kp,(HP.out.later hb6).box,HP.out.box.lt⟩
    obtain ⟨pt2,nt2,ct2,rfl⟩:∃ p n c,u'=.slice p n c:=by obtain ⟨xs,h1,_⟩:=hU;obtain ⟨p,c,e⟩:=own_form h1;exact ⟨p,_,c,e⟩
    obtain ⟨pz2,nz2,cz2,rfl⟩:∃ p n c,v'=.slice p n c:=by obtain ⟨xs,h1,_⟩:=hV;obtain ⟨p,c,e⟩:=own_form h1;exact ⟨p,_,c,e⟩
    clear hR hU hV hb6 KT HP
    go_wp2_with (refine wpList_st 25 rfl rfl _ _ rfl b8 rfl _ rfl _ _ H6.out.2.2.2.1 sizeM rfl (by simp [Value.oneCell']) ?_)
    intro w9 hc9 hk9
    have H9:=show Hid (Cl w9 b8 #[.slice pt2 nt2 ct2,.slice pz2 nz2 cz2] 25∧RowsZ wr.heap.size w9 (.slice pt2 nt2 ct2) (tdU M' q.up.length q.up.length)∧RowsN wr.heap.size w9 (.slice pz2 nz2 cz2) q.val∧QK w w9 b5 b7 b2 (.slice (some ⟨bt,ot,none⟩) m.up.length ct) (.slice (some ⟨bz,oz,none⟩) m.val.length cz) (.slice (some ⟨bl,ol,none⟩) m.up.length cl0) w4.heap.size ((List.range m.up.length).map (cnF E))∧b8<wr.heap.size) from
     ⟨hc9,H6.out.1.keep (St.of_kp hk9 H6.out.2.2.2.2),H6.out.2.1.keep (St.of_kp hk9 H6.out.2.2.2.2),H7.out.1.kp (H6.out.2.2.1.trans hk9 fun _ e=>Or.inl e) H7.out.2.2 (by have:=HB8.out;omega) (by have:=HB8.out;omega) (by have:=HB8.out;omega) (by have:=HB8.out;omega),H6.out.2.2.2.2⟩
    have HB9:=show Hid (w4.heap.size≤bl∧w.heap.size≤w4.heap.size) from by
     have h1:=(own_blk H7.out.1.row (k:=bl) rfl).1
     exact ⟨h1,HW4.out⟩
    clear hc9 hk9 H6
    go_wp2_with fail
    refine wp_region_dep (by kernel_rfl) [some 74,some 75,none,some 3,some 4] [[],[],[0],[1],[]] [[],[],[0],[1],[]] (by kernel_rfl) (by decide) (fun i v W=>match i with | 0=>v=.agg #[.slice pt2 nt2 ct2,.slice pz2 nz2 cz2] | 1=>v=.slice (some ⟨bl,ol,none⟩) m.up.length cl0 | 3=>v=.slice (some ⟨bl,ol,none⟩) m.up.length cl0 | 4=>v=.int .i64 0 | _=>True) (fun done W=>Kp (fun k=>k=b2) w9 W∧(done 2=false→Cl W b2 #[.slice none 0 0,.slice none 0 0] 25)∧(done 2=true→Cl W b2 #[.slice pt2 nt2 ct2,.slice pz2 nz2 cz2] 25)) (fun _ _ _=>True) (fun _ _ _ _ _ _ _ _ h=>h) ⟨(Kp.refl _ _).drew,fun _=>H9.out.2.2.2.1.res.drew,fun h=>(by cases h)⟩ (allLt 5 ?steps) ?fin
    case steps =>
     refine ⟨⟨⟨⟨⟨trivial,?s0⟩,?s1⟩,?s2⟩,?s3⟩,?s4⟩
     case s0 =>
      intro done a W hW hd hnd hno hO hN
      have o8:a.tmps[8]?=some (.pointer (some ⟨b8,0,none⟩)):=(hO.out 8 (by decide)).trans rfl
      have hl:=run_ldM (H9.out.1.kp hW.1 (by have:=HB8.out;omega))
      exact relVal rfl (.agg #[.slice pt2 nt2 ct2,.slice pz2 nz2 cz2]) _ rfl (by simp [execOp,Act.eval,o8,hl,Result.andThen]) ⟨_,rfl,rfl,⟨hW.1,fun h=>hW.2.1 (by simpa using h),fun h=>hW.2.2 (by simpa using h)⟩,trivial⟩
     case s1 =>
      intro done a W hW hd hnd hno hO hN
      have o7:a.tmps[7]?=some (.pointer (some ⟨b7,0,none⟩)):=(hO.out 7 (by decide)).trans rfl
      have c0:W.cell? ⟨b7,0,none⟩=some (.slice (some ⟨bl,ol,none⟩) m.up.length cl0):=(H9.out.2.2.2.1.cb.kp hW.1 (by have:=HB27.out;omega)).cell 0
      exact relVal rfl (.slice (some ⟨bl,ol,none⟩) m.up.length cl0) _ rfl (by go_simp) ⟨_,rfl,rfl,⟨hW.1,fun h=>hW.2.1 (by simpa using h),fun h=>hW.2.2 (by simpa using h)⟩,trivial⟩
     case s2 =>
      intro done a W hW hd hnd hno hO hN
      obtain ⟨v0,g0,r0⟩:=hN 0 (by decide)
      have g0:a.tmps[74]?=some v0:=g0
      have e0:v0=.agg #[.slice pt2 nt2 ct2,.slice pz2 nz2 cz2]:=r0
      rw [e0] at g0
      have o2:a.tmps[2]?=some (.pointer (some ⟨b2,0,none⟩)):=(hO.out 2 (by decide)).trans rfl
      have hc2:=hW.2.1 hd
      have hrun:(Instr.storeAt 25 (.pointer (some ⟨b2,0,none⟩)) (.agg #[.slice pt2 nt2 ct2,.slice pz2 nz2 cz2])).run Try.prog W=.ok () (W.setRow b2 #[.slice pt2 nt2 ct2,.slice pz2 nz2 cz2]):=by
       simp only [Instr.storeAt,Instr.sureAddr,Sem.run_bind,Sem.run_pure,Result.andThen]
       exact run_storeVar_row W b2 25 25 _ _ hc2 sizeM rfl (by simp [Value.oneCell'])
      exact relSkip rfl (W.setRow b2 #[.slice pt2 nt2 ct2,.slice pz2 nz2 cz2]) rfl (by simp [execOp,Act.eval,o2,g0,hrun,Result.andThen]) ⟨.bool true,rfl,trivial,⟨hW.1.trans (S':=fun k=>k=b2) ⟨rfl,rfl,rfl,by simp,fun k _ hk=>setRow_other W b2 k _ hk⟩ (fun _ e=>Or.inl e),fun h=>(by simp at h),fun _=>setRow_heap W b2 _ _ _ _ hc2⟩,trivial⟩
     case s3 =>
      intro done a W hW hd hnd hno hO hN
      obtain ⟨v1,g1,r1⟩:=hN 1 (by decide)
      have g1:a.tmps[75]?=some v1:=g1
      have e1:v1=.slice (some ⟨bl,ol,none⟩) m.up.length cl0:=r1
      rw [e1] at g1
      exact relVal rfl (.slice (some ⟨bl,ol,none⟩) m.up.length cl0) _ rfl (by go_simp) ⟨_,rfl,rfl,⟨hW.1,fun h=>hW.2.1 (by simpa using h),fun h=>hW.2.2 (by simpa using h)⟩,trivial⟩
     case s4 =>
      intro done a W hW hd hnd hno hO hN
      exact relVal rfl (.int .i64 0) _ rfl (by go_simp) ⟨_,rfl,rfl,⟨hW.1,fun h=>hW.2.1 (by simpa using h),fun h=>hW.2.2 (by simpa using h)⟩,trivial⟩
    case fin =>
     intro vs done w10 hdone hS hV
     have e3:vs 3=.slice (some ⟨bl,ol,none⟩) m.up.length cl0:=hV 3 (by decide)
     have e4:vs 4=.int .i64 0:=hV 4 (by decide)
     have H10:=show Hid (Cl w10 b2 #[.slice pt2 nt2 ct2,.slice pz2 nz2 cz2] 25∧RowsZ w.heap.size w10 (.slice pt2 nt2 ct2) (tdU M' q.up.length q.up.length)∧RowsN w.heap.size w10 (.slice pz2 nz2 cz2) q.val∧OwnI w.heap.size w10 (.slice (some ⟨bl,ol,none⟩) m.up.length cl0) ((List.range m.up.length).map (cnF E))∧Below w.heap.size w w10) from by
      have hb2:b2<wr.heap.size:=by have h1:=HB8.out;have h2:=H9.out.2.2.2.2;omega
      have hww:w.heap.size≤wr.heap.size:=by have h1:=HB8.out;have h2:=H9.out.2.2.2.2;omega
      refine ⟨hS.2.2 (hdone 2 (by decide)),(H9.out.2.1.keep (St.of_kp hS.1 hb2)).base hww,(H9.out.2.2.1.keep (St.of_kp hS.1 hb2)).base hww,OwnI.base (own_kp H9.out.2.2.2.1.row fun k cs _ hc he=>hS.1.block k (lt_of_block hc) fun e => ?_) HB9.out.2,H9.out.2.2.2.1.bel.trans (hS.1.below H9.out.2.2.2.1.bel.size fun k e=>by have:=HB8.out;omega)⟩
      subst e
      have h8:=(show w9.heap[k]?=_ from H9.out.2.2.2.1.res).symm.trans hc
      injection h8 with h9
      injection h9 with _ h10
      exact absurd h10 (by decide)
     simp only [putAll,Act.put,List.setIfInBounds_toArray,List.set_cons_zero,List.set_cons_succ,Nat.reduceAdd,e3,e4]
     clear hV hS e3 e4 H9
     go_wp2_with fail
     refine bodyPost_ret (results_m_tt rfl _ _ b2 rfl H10.out.1) rfl ?_
     exact ⟨_,_,_,_,rfl,Or.inr ⟨HG.out.1,rfl,E,q,M',H10.out.2.2.2.1,HE.out.1,HE.out.2,HGQ.out.1,HGQ.out.2.1,HGQ.out.2.2.2,HGQ.out.2.2.1,H10.out.2.1,H10.out.2.2.1⟩,H10.out.2.2.2.2⟩
end Go.Proofs.Ytoedidbbjnnpnaa.Wm
