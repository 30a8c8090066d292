/-
  The document's Right: the order of a well-formed model. No condition.
-/
import Derived.Test.YtoedidbbjnnpnaaQWFine
namespace Go.Proofs.Ytoedidbbjnnpnaa.Wm
open Go.RowKit Go.Maps
open Wd (Md allW names Sub Rc vl)
set_option linter.unusedSimpArgs false
theorem Ob.base {w:World} {B B' O n k:Nat} {Ra:Nat→Nat} {S:Nat→Nat→Bool} (h:Ob w B O n k Ra S) (hB:B'≤B):Ob w B' O n k Ra S :=
 ⟨h.out,fun j hj=>⟨(h.row j hj).1,Nat.le_trans hB (h.row j hj).2.1,(h.row j hj).2.2⟩,h.inj,Nat.le_trans hB h.hO⟩
theorem good_M {m:Md} {M:Nat→Nat→Bool} (hO:IsO m.up M) (hs:Wd.shaped m=true) (h:∀ a b,a<m.up.length→b<m.up.length→M a b=true→a≠b→M b a=false∧Sub (vl m a) (vl m b)):Wd.Good m:=by
 obtain ⟨_,_,_,hu,_⟩:=Wd.shaped_and hs
 refine ⟨hs,fun a b ha r1 r2 => ?_,fun a b ha r => ?_⟩
 ·by_cases e:a=b
  ·exact e
  ·have h1:=(h a b ha (Wd.rc_lt hu r1 ha) ((hO a b).2 r1) e).1
   rw [(hO b a).2 r2] at h1
   cases h1
 ·by_cases e:a=b
  ·subst e;exact fun _ h=>h
  ·exact (h a b ha (Wd.rc_lt hu r ha) ((hO a b).2 r) e).2
theorem bad_anti {m:Md} {M:Nat→Nat→Bool} (hO:IsO m.up M) {a b:Nat} (ha:a<m.up.length) (h1:M a b=true) (h2:M b a=true) (hn:a≠b):¬ Wd.Good m:=fun g=>hn (g.anti a b ha ((hO a b).1 h1) ((hO b a).1 h2))
theorem bad_mono {m:Md} {M:Nat→Nat→Bool} (hO:IsO m.up M) {a b:Nat} (ha:a<m.up.length) (h1:M a b=true) {x:ByteArray} (hx:x ∈ vl m a) (hn:x ∉ vl m b):¬ Wd.Good m:=fun g=>hn (g.mono a b ha ((hO a b).1 h1) x hx)
theorem vl_at {m:Md} {a:Nat} (h:a<m.val.length):vl m a=m.val[a]:=by
 unfold vl
 rw [List.getD_eq_getElem?_getD,List.getElem?_eq_getElem h]
 rfl
set_option maxRecDepth 100000 in
set_option maxHeartbeats 8000000 in
theorem right_any (w:World) {M:Nat→Nat→Bool} {L:Nat} {uv vv:Value} {m:Md} (hO:IsO m.up M) (hm:IsM w L uv vv m) (hf:Fit m) (hL:L≤w.heap.size) :
 Calls Try.prog 34 #[.agg #[uv,vv]] w fun e w'=>((∃ O Ra,e=.returned (.tuple #[.slice (some ⟨O,0,none⟩) m.up.length m.up.length,.bool true])∧Ob w' w.heap.size O m.up.length m.up.length Ra M∧Wd.Good m)∨(e=.returned (.tuple #[.slice none 0 0,.bool false])∧¬ Wd.Good m))∧Below w.heap.size w w':=by
 obtain ⟨pu,cu,rfl⟩:=IsS.form hm.up
 obtain ⟨pv,cv,rfl,hv⟩:=hm.val.row
 have hn1:=hf.1
 have hn2:=hf.2.1
 have HM:=show Hid (IsM w L (.slice pu m.up.length cu) (.slice pv m.val.length cv) m∧Fit m∧IsO m.up M) from ⟨hm,hf,hO⟩
 have HSF:=show Hid ((m.up.length<1∨512<m.up.length∨m.val.length≠m.up.length)→¬ Wd.Good m) from fun h g=>by
  have h1:=g.shape
  rw [shaped_few h] at h1
  cases h1
 have HV:=show Hid (∀ (j:Nat) (hj:j<m.val.length),∃ b o q n,pv=some ⟨b,o,none⟩∧b<L∧w.cell? ⟨b,o+j,none⟩=some (.slice q m.val[j].length n)∧IsN w L (.slice q m.val[j].length n) m.val[j]) from hv
 clear hm hf hO hv
 go_enter Try.func34,Try.ntmps34
 go_wp2_with (refine wpList_box 25 _ rfl _ rfl rfl ?_)
 intro w1 b1 hN
 have hc0:w1.cell? ⟨b1,0,none⟩=some (.slice pu m.up.length cu):=Cl.cell (T:=25) hN.blk 0
 have hc1:w1.cell? ⟨b1,1,none⟩=some (.slice pv m.val.length cv):=Cl.cell (T:=25) hN.blk 1
 have HB1:=show Hid (Below w.heap.size w w1∧Cl w1 b1 #[.slice pu m.up.length cu,.slice pv m.val.length cv] 25) from ⟨hN.bel,hN.blk⟩
 clear hN
 by_cases h1:m.up.length<1
 ·have h1i:decide ((m.up.length:Int)<1)=true:=by simp;omega
  have HE:=show Hid _ from HSF.out (Or.inl h1)
  go_wp2_with fail
  go_ret2
  exact ⟨Or.inr ⟨rfl,HE.out⟩,HB1.out.1⟩
 have h1i:decide ((m.up.length:Int)<1)=false:=by simp;omega
 by_cases h2:512<m.up.length
 ·have h2i:decide (512<(m.up.length:Int))=true:=by simp;omega
  have HE:=show Hid _ from HSF.out (Or.inr (Or.inl h2))
  go_wp2_with fail
  go_ret2
  exact ⟨Or.inr ⟨rfl,HE.out⟩,HB1.out.1⟩
 have h2i:decide (512<(m.up.length:Int))=false:=by simp;omega
 by_cases h3:m.val.length=m.up.length
 ·have h3i:((m.val.length:Int) != (m.up.length:Int))=false:=by simp [h3]
  have HLV:=show Hid (m.val.length=m.up.length) from h3
  have KO:=show Hid _ from order_any w1 HM.out.2.2 (HM.out.1.below (Below.mono HB1.out.1 (by omega))) HM.out.2.1 (Nat.le_trans hL HB1.out.1.size) (by omega:m.up.length≤512)
  clear h3 HSF
  go_wp2_with (refine wpList_ldw 25 _ rfl b1 rfl _ _ HB1.out.2 rfl Try.underlying25 sizeM rfl ?_)
  go_wp2_with fail
  refine Calls.mono KO.out ?_
  rintro e w2 ⟨hr,hb2⟩
  clear KO hc0 hc1
  have HB2:=show Hid (Below w.heap.size w w2∧Cl w2 b1 #[.slice pu m.up.length cu,.slice pv m.val.length cv] 25) from ⟨HB1.out.1.trans (hb2.mono HB1.out.1.size),HB1.out.2.later hb2⟩
  rcases hr with ⟨O,Ra,rfl,hob,hall⟩ | ⟨rfl,hbad⟩
  ·have HOB:=show Hid (Ob w2 w.heap.size O m.up.length m.up.length Ra M) from hob.base HB1.out.1.size
   have HALL:=show Hid (∀ r ∈ m.up,allW m.up.length r=true) from hall
   clear hob hall hb2 HB1
   obtain ⟨bv,ov,hpv,hbvL⟩:∃ bv ov,pv=some ⟨bv,ov,none⟩∧bv<L:=by
    obtain ⟨b,o,q,n,e1,e2,_⟩:=HV.out 0 (by have:=HLV.out;omega)
    exact ⟨b,o,e1,e2⟩
   subst hpv
   have HR:=show Hid (∀ (j:Nat) (hj:j<m.val.length),∃ q c,∀ W,Below w2.heap.size w2 W→W.cell? ⟨bv,ov+j,none⟩=some (.slice q m.val[j].length c)∧IsN W W.heap.size (.slice q m.val[j].length c) m.val[j]) from fun j hj=>by
    obtain ⟨b,o,q,c,e1,h1,h2,h3⟩:=HV.out j hj
    obtain ⟨rfl,rfl,_⟩:=Addr.mk.inj (Option.some.inj e1)
    refine ⟨q,c,fun W hW => ?_⟩
    have hbw:Below w.heap.size w W:=HB2.out.1.trans (hW.mono HB2.out.1.size)
    exact ⟨(World.cell?_of_block (a:=⟨bv,ov+j,none⟩) (hbw.block bv (by omega))).trans h2,IsS.wide (IsN.keep h3 fun i hi=>hbw.block i (by omega)) (by have:=hbw.size;omega)⟩
   have HCq:=show Hid (∀ W,Below w2.heap.size w2 W→W.cell? ⟨b1,1,none⟩=some (.slice (some ⟨bv,ov,none⟩) m.val.length cv)) from fun W hW=>(HB2.out.2.later hW).cell 1
   have HQ:=show Hid (∀ W,Below w2.heap.size w2 W→∀ a,a<m.up.length→W.cell? ⟨O,a,none⟩=some (.slice (some ⟨Ra a,0,none⟩) m.up.length m.up.length)∧∀ b,b<m.up.length→W.cell? ⟨Ra a,b,none⟩=some (.bool (M a b))) from fun W hW a ha=>by
    have ho:=HOB.out.later hW
    exact ⟨(ho.out.cell ha).trans (by rw [if_pos ha]),fun b hb=>(ho.row a ha).1.cell hb⟩
   have HFV:=show Hid (∀ (j:Nat) (hj:j<m.val.length),m.val[j].length≤140737488351232∧∀ i ∈ m.val[j],i.size≤140737488351232) from fun j hj=>HM.out.2.1.2.2.2 _ (List.getElem_mem hj)
   clear HV
   go_wp2_with fail
   go_loopw [7] (fun i wr=>∃ k:Nat,k≤m.up.length∧i=.int .i64 (k:Int)∧Hid (Below w2.heap.size w2 wr)∧Hid (∀ (j:Nat) (hj:j<m.val.length),j<k→names none m.val[j]=true)) (fun i _=>m.up.length - (intOf i).toNat)
   case atStart=>exact ⟨0,Nat.zero_le _,rfl,Below.refl _ _,fun j _ h=>absurd h (Nat.not_lt_zero _)⟩
   case round =>
    obtain ⟨k,hk,rfl,HB,HI⟩:=hrel
    by_cases hlt:k<m.up.length
    ·have hltv:k<m.val.length:=by have:=HLV.out;omega
     obtain ⟨q,c,hqc⟩:=HR.out k hltv
     have c1:=HCq.out wr HB.out
     have c2:=(hqc wr HB.out).1
     have KF:=show Hid _ from fine_any wr (hqc wr HB.out).2 (Nat.le_refl _) (HFV.out k hltv).1 (HFV.out k hltv).2
     have hki:(k:Int)<(m.up.length:Int):=by omega
     have hkv:(k:Int)<(m.val.length:Int):=by omega
     have HBAD:=show Hid (names none m.val[k]=false→¬ Wd.Good m) from fun h g=>by
      have h1:=g.shape
      rw [shaped_row hlt hltv (Or.inr h)] at h1
      cases h1
     have HS:=show Hid (names none m.val[k]=true→∀ (j:Nat) (hj:j<m.val.length),j<k+1→names none m.val[j]=true) from fun h j hj hjk=>by
      by_cases e:j=k
      ·subst e;exact h
      ·exact HI.out j hj (by omega)
     clear hqc HI
     generalize names none m.val[k]=y at *
     generalize m.val[k].length=lk at *
     go_wp2_with fail
     refine Calls.mono KF.out ?_
     rintro e w4 ⟨rfl,hb4⟩
     have HB4:=show Hid (Below w2.heap.size w2 w4) from HB.out.trans (hb4.mono HB.out.size)
     clear hb4 KF HB c1 c2
     cases y
     ·have HE:=show Hid (¬ Wd.Good m) from HBAD.out (by first | rfl | trivial)
      clear HS HBAD
      go_wp2_with fail
      go_ret2
      exact ⟨Or.inr ⟨rfl,HE.out⟩,HB2.out.1.trans (HB4.out.mono HB2.out.1.size)⟩
     ·have HS2:=show Hid _ from HS.out (by first | rfl | trivial)
      clear HS HBAD
      go_wp2_with fail
      go_roundw
      case rel=>exact ⟨k+1,by omega,val_int (by omega),HB4,HS2⟩
      case measure=>(simp only [intOf];omega)
    ·obtain rfl:k=m.up.length:=by omega
     have HSH:=show Hid (Wd.shaped m=true) from shaped_all (by omega) (by omega) HLV.out fun k hk=>⟨HALL.out _ (List.getElem_mem hk),by
      have hkv:k<m.val.length:=by have:=HLV.out;omega
      rw [List.getD_eq_getElem?_getD,List.getElem?_eq_getElem hkv]
      exact HI.out k hkv hk⟩
     clear HI HALL
     go_wp2_with fail
     go_loopw [8,9,10] (fun i _ _ wr=>∃ k:Nat,k≤m.up.length∧i=.int .i64 (k:Int)∧Hid (Below w2.heap.size w2 wr)∧Hid (∀ aw b,aw<k→b<m.up.length→M aw b=true→aw≠b→M b aw=false∧Sub (vl m aw) (vl m b))) (fun i _ _ _=>m.up.length - (intOf i).toNat)
     case atStart=>exact ⟨0,Nat.zero_le _,rfl,HB,fun aw _ h=>absurd h (Nat.not_lt_zero _)⟩
     case round =>
      obtain ⟨aw,ha,rfl,HBa,HIa⟩:=hrel
      clear HB
      by_cases hla:aw<m.up.length
      ·have hav:aw<m.val.length:=by have:=HLV.out;omega
       have hai:(aw:Int)<(m.up.length:Int):=by omega
       have haiv:(aw:Int)<(m.val.length:Int):=by omega
       go_wp2_with fail
       go_loopw [9,10] (fun i _ wr=>∃ k:Nat,k≤m.up.length∧i=.int .i64 (k:Int)∧Hid (Below w2.heap.size w2 wr)∧Hid (∀ b,b<k→M aw b=true→aw≠b→M b aw=false∧Sub (vl m aw) (vl m b))) (fun i _ _=>m.up.length - (intOf i).toNat)
       case atStart=>exact ⟨0,Nat.zero_le _,rfl,HBa,fun b h=>absurd h (Nat.not_lt_zero _)⟩
       case round =>
        obtain ⟨b,hb,rfl,HBb,HIb⟩:=hrel
        clear HBa
        by_cases hlb:b<m.up.length
        ·have hbv:b<m.val.length:=by have:=HLV.out;omega
         have hbi:(b:Int)<(m.up.length:Int):=by omega
         have hbiv:(b:Int)<(m.val.length:Int):=by omega
         have d1:=(HQ.out wr HBb.out aw hla).1
         have d2:=(HQ.out wr HBb.out aw hla).2 b hlb
         have d3:=(HQ.out wr HBb.out b hlb).1
         have d4:=(HQ.out wr HBb.out b hlb).2 aw hla
         have HN:=show Hid ((M aw b=true→aw≠b→M b aw=false∧Sub (vl m aw) (vl m b))→∀ b',b'<b+1→M aw b'=true→aw≠b'→M b' aw=false∧Sub (vl m aw) (vl m b')) from fun h b' hb'=>by
          by_cases e:b'=b
          ·subst e;exact h
          ·exact HIb.out b' (by omega)
         clear HIb
         cases hab:M aw b
         ·rw [hab] at d2
          have HN2:=show Hid _ from HN.out (by intro h;rw [hab] at h;cases h)
          clear HN hab
          go_wp2_with fail
          go_roundw
          case rel=>exact ⟨b+1,by omega,val_int (by omega),HBb,HN2⟩
          case measure=>(simp only [intOf];omega)
         ·rw [hab] at d2
          by_cases eab:aw=b
          ·have HN2:=show Hid _ from HN.out (fun _ h=>absurd eab h)
           have e1:((aw:Int) == (b:Int))=true:=by simp;omega
           clear HN hab eab
           go_wp2_with fail
           go_roundw
           case rel=>exact ⟨b+1,by omega,val_int (by omega),HBb,HN2⟩
           case measure=>(simp only [intOf];omega)
          ·have e1:((aw:Int) == (b:Int))=false:=by simp;omega
           cases hba:M b aw
           ·rw [hba] at d4
            have HN2:=show Hid (Sub (vl m aw) (vl m b)→_) from fun h=>HN.out (fun _ _=>⟨hba,h⟩)
            have HBAD:=show Hid (∀ x,x ∈ vl m aw→x ∉ vl m b→¬ Wd.Good m) from fun x h1 h2=>bad_mono HM.out.2.2 hla hab h1 h2
            clear HN hab hba eab
            go_wp2_with fail
            clear d1 d2 d3 d4
            obtain ⟨qa,ca,hqa⟩:=HR.out aw hav
            obtain ⟨qb,cb,hqb⟩:=HR.out b hbv
            have HLA:=show Hid (m.val[aw].length≤140737488351232∧m.val[b].length≤140737488351232) from ⟨(HFV.out aw hav).1,(HFV.out b hbv).1⟩
            have HXA:=show Hid (∀ W,Below w2.heap.size w2 W→W.cell? ⟨b1,1,none⟩=some (.slice (some ⟨bv,ov,none⟩) m.val.length cv)∧W.cell? ⟨bv,ov+aw,none⟩=some (.slice qa m.val[aw].length ca)∧W.cell? ⟨bv,ov+b,none⟩=some (.slice qb m.val[b].length cb)) from fun W hW=>⟨HCq.out W hW,(hqa W hW).1,(hqb W hW).1⟩
            have HXN:=show Hid (∀ W,Below w2.heap.size w2 W→∀ (j:Nat) (hj:j<m.val[aw].length),∃ b o,qa=some ⟨b,o,none⟩∧∀ W,Below w2.heap.size w2 W→W.cell? ⟨b,o+j,none⟩=some (.string m.val[aw][j])) from fun W hW j hj=>by
             obtain ⟨p,c,e,h⟩:=(hqa w2 (Below.refl _ _)).2
             obtain ⟨rfl,_,rfl⟩:=Value.slice.inj e
             obtain ⟨b,o,hb,hp,h⟩:=h (by omega)
             obtain ⟨x,hx,rfl⟩:=h j hj
             exact ⟨b,o,hp,fun W hW=>(hW.cell (p:=⟨b,o+j,none⟩) hb).trans hx⟩
            have HXH:=show Hid (∀ W,Below w2.heap.size w2 W→∀ s,Calls Try.prog 60 #[.slice qb m.val[b].length cb,.string s] W fun e w'=>e=.returned (.bool (inS s m.val[b]))∧Below W.heap.size W w') from fun W hW s=>has_ref W (hqb W hW).2 (Nat.le_refl _) HLA.out.2 s
            have HSUB:=show Hid ((∀ (j:Nat) (hj:j<m.val[aw].length),m.val[aw][j] ∈ m.val[b])→Sub (vl m aw) (vl m b)) from fun h x hx=>by
             rw [vl_at hav] at hx
             rw [vl_at hbv]
             obtain ⟨j,hj,rfl⟩:=List.mem_iff_getElem.1 hx
             exact h j hj
            have HNO:=show Hid (∀ (j:Nat) (hj:j<m.val[aw].length),m.val[aw][j] ∉ m.val[b]→¬ Wd.Good m) from fun j hj h=>HBAD.out _ (by rw [vl_at hav];exact List.getElem_mem hj) (by rw [vl_at hbv];exact h)
            clear hqa hqb HBAD
            have hlA:=HLA.out.1
            generalize m.val[aw]=na at *
            generalize m.val[b]=nb at *
            go_loopw [10] (fun i wr=>∃ k:Nat,k≤na.length∧i=.int .i64 (k:Int)∧Hid (Below w2.heap.size w2 wr)∧Hid (∀ (j:Nat) (hj:j<na.length),j<k→na[j] ∈ nb)) (fun i _=>na.length - (intOf i).toNat)
            case atStart=>exact ⟨0,Nat.zero_le _,rfl,HBb,fun j _ h=>absurd h (Nat.not_lt_zero _)⟩
            case round =>
             obtain ⟨j,hj,rfl,HBj,HIj⟩:=hrel
             clear HBb
             obtain ⟨w3,hw3⟩:∃ w3,w3=wr:=⟨_,rfl⟩
             rw [← hw3] at HBj ⊢
             clear hw3
             obtain ⟨x1,x2,x3⟩:=HXA.out w3 HBj.out
             by_cases hlj:j<na.length
             ·have hji:(j:Int)<(na.length:Int):=by omega
              obtain ⟨bs,os,rfl,hcs⟩:=HXN.out w3 HBj.out j hlj
              have x4:=hcs w3 HBj.out
              have KH:=show Hid _ from HXH.out w3.drew (HBj.out.trans ((Below.refl _ _).drew.mono HBj.out.size)) na[j]
              have HNJ:=show Hid (inS na[j] nb=true→∀ (i:Nat) (hi:i<na.length),i<j+1→na[i] ∈ nb) from fun h i hi hij=>by
               by_cases e:i=j
               ·subst e;exact inS_iff.1 h
               ·exact HIj.out i hi (by omega)
              have HNB:=show Hid (inS na[j] nb=false→¬ Wd.Good m) from fun h=>HNO.out j hlj fun hm=>by
               rw [inS_mem hm] at h
               cases h
              clear hcs HIj
              generalize na[j]=s at *
              generalize inS s nb=y at *
              go_wp2_with fail
              refine wp_region_one (by kernel_rfl) 13 [some 86,some 87,some 88,some 89,some 90,some 91,some 92,some 93,some 94,some 95,some 96,some 97,some 98,some 99,some 100] [[],[0],[],[1,2],[3],[],[5],[],[6,7],[8],[],[9,10],[11],[4,12],[13]] [[],[0],[],[1,0,2],[3,1,0,2],[],[5],[],[6,5,7],[8,6,5,7],[],[9,8,6,5,7,10],[11,9,8,6,5,7,10],[4,3,1,0,2,12,11,9,8,6,5,7,10],[13,4,3,1,0,2,12,11,9,8,6,5,7,10]] (by kernel_rfl) (by decide) (fun ii vv w1=>match ii with | 0=>vv=.pointer (some ⟨b1,1,none⟩) | 1=>vv=.slice (some ⟨bv,ov,none⟩) m.val.length cv | 2=>vv=.int .i64 (b:Int) | 3=>vv=.pointer (some ⟨bv,ov+b,none⟩) | 4=>vv=.slice qb nb.length cb | 5=>vv=.pointer (some ⟨b1,1,none⟩) | 6=>vv=.slice (some ⟨bv,ov,none⟩) m.val.length cv | 7=>vv=.int .i64 (aw:Int) | 8=>vv=.pointer (some ⟨bv,ov+aw,none⟩) | 9=>vv=.slice (some ⟨bs,os,none⟩) na.length ca | 10=>vv=.int .i64 (j:Int) | 11=>vv=.pointer (some ⟨bs,os+j,none⟩) | 12=>vv=.string s | 13=>vv=.bool y∧Below w3.heap.size w3 w1 | 14=>vv=.bool (!y)∧Below w3.heap.size w3 w1 | _=>True) ?hfree (allLt 15 ?steps) ?fin
              case hfree =>
               intro j v w1 w2 hj hn h
               match j,h,hj,hn with
               | 0,h,_,_=>exact h
               | 1,h,_,_=>exact h
               | 2,h,_,_=>exact h
               | 3,h,_,_=>exact h
               | 4,h,_,_=>exact h
               | 5,h,_,_=>exact h
               | 6,h,_,_=>exact h
               | 7,h,_,_=>exact h
               | 8,h,_,_=>exact h
               | 9,h,_,_=>exact h
               | 10,h,_,_=>exact h
               | 11,h,_,_=>exact h
               | 12,h,_,_=>exact h
               | 13,_,hj,_=>exact absurd rfl hj
               | 14,_,_,hn=>exact absurd (by decide) hn
               | _+15,_,_,_=>trivial
              case steps =>
               refine ⟨⟨⟨⟨⟨⟨⟨⟨⟨⟨⟨⟨⟨⟨⟨trivial,?s0⟩,?s1⟩,?s2⟩,?s3⟩,?s4⟩,?s5⟩,?s6⟩,?s7⟩,?s8⟩,?s9⟩,?s10⟩,?s11⟩,?s12⟩,?s13⟩,?s14⟩
               case s0 =>
                intro a w1 hw hO hN
                obtain rfl:w1=w3.drew:=hw (by decide)
                have o1:a.tmps[1]?=some (.pointer (some ⟨b1,0,none⟩)):=(hO.out 1 (by decide)).trans rfl
                exact relVal rfl (.pointer (some ⟨b1,1,none⟩)) _ rfl (by go_simp) ⟨_,rfl,rfl,fun _=>rfl⟩
               case s1 =>
                intro a w1 hw hO hN
                obtain rfl:w1=w3.drew:=hw (by decide)
                obtain ⟨v0,g0,r0⟩:=hN 0 (by decide)
                have g0:a.tmps[86]?=some v0:=g0
                have e0:v0=.pointer (some ⟨b1,1,none⟩):=r0
                rw [e0] at g0
                exact relVal rfl (.slice (some ⟨bv,ov,none⟩) m.val.length cv) _ rfl (by go_simp) ⟨_,rfl,rfl,fun _=>rfl⟩
               case s2 =>
                intro a w1 hw hO hN
                obtain rfl:w1=w3.drew:=hw (by decide)
                have o9:a.tmps[9]?=some (.int .i64 (b:Int)):=(hO.out 9 (by decide)).trans rfl
                exact relVal rfl (.int .i64 (b:Int)) _ rfl (by go_simp) ⟨_,rfl,rfl,fun _=>rfl⟩
               case s3 =>
                intro a w1 hw hO hN
                obtain rfl:w1=w3.drew:=hw (by decide)
                obtain ⟨v1,g1,r1⟩:=hN 1 (by decide)
                have g1:a.tmps[87]?=some v1:=g1
                have e1:v1=.slice (some ⟨bv,ov,none⟩) m.val.length cv:=r1
                rw [e1] at g1
                obtain ⟨v2,g2,r2⟩:=hN 2 (by decide)
                have g2:a.tmps[88]?=some v2:=g2
                have e2:v2=.int .i64 (b:Int):=r2
                rw [e2] at g2
                exact relVal rfl (.pointer (some ⟨bv,ov+b,none⟩)) _ rfl (by go_simp) ⟨_,rfl,rfl,fun _=>rfl⟩
               case s4 =>
                intro a w1 hw hO hN
                obtain rfl:w1=w3.drew:=hw (by decide)
                obtain ⟨v3,g3,r3⟩:=hN 3 (by decide)
                have g3:a.tmps[89]?=some v3:=g3
                have e3:v3=.pointer (some ⟨bv,ov+b,none⟩):=r3
                rw [e3] at g3
                exact relVal rfl (.slice qb nb.length cb) _ rfl (by go_simp) ⟨_,rfl,rfl,fun _=>rfl⟩
               case s5 =>
                intro a w1 hw hO hN
                obtain rfl:w1=w3.drew:=hw (by decide)
                have o1:a.tmps[1]?=some (.pointer (some ⟨b1,0,none⟩)):=(hO.out 1 (by decide)).trans rfl
                exact relVal rfl (.pointer (some ⟨b1,1,none⟩)) _ rfl (by go_simp) ⟨_,rfl,rfl,fun _=>rfl⟩
               case s6 =>
                intro a w1 hw hO hN
                obtain rfl:w1=w3.drew:=hw (by decide)
                obtain ⟨v5,g5,r5⟩:=hN 5 (by decide)
                have g5:a.tmps[91]?=some v5:=g5
                have e5:v5=.pointer (some ⟨b1,1,none⟩):=r5
                rw [e5] at g5
                exact relVal rfl (.slice (some ⟨bv,ov,none⟩) m.val.length cv) _ rfl (by go_simp) ⟨_,rfl,rfl,fun _=>rfl⟩
               case s7 =>
                intro a w1 hw hO hN
                obtain rfl:w1=w3.drew:=hw (by decide)
                have o8:a.tmps[8]?=some (.int .i64 (aw:Int)):=(hO.out 8 (by decide)).trans rfl
                exact relVal rfl (.int .i64 (aw:Int)) _ rfl (by go_simp) ⟨_,rfl,rfl,fun _=>rfl⟩
               case s8 =>
                intro a w1 hw hO hN
                obtain rfl:w1=w3.drew:=hw (by decide)
                obtain ⟨v6,g6,r6⟩:=hN 6 (by decide)
                have g6:a.tmps[92]?=some v6:=g6
                have e6:v6=.slice (some ⟨bv,ov,none⟩) m.val.length cv:=r6
                rw [e6] at g6
                obtain ⟨v7,g7,r7⟩:=hN 7 (by decide)
                have g7:a.tmps[93]?=some v7:=g7
                have e7:v7=.int .i64 (aw:Int):=r7
                rw [e7] at g7
                exact relVal rfl (.pointer (some ⟨bv,ov+aw,none⟩)) _ rfl (by go_simp) ⟨_,rfl,rfl,fun _=>rfl⟩
               case s9 =>
                intro a w1 hw hO hN
                obtain rfl:w1=w3.drew:=hw (by decide)
                obtain ⟨v8,g8,r8⟩:=hN 8 (by decide)
                have g8:a.tmps[94]?=some v8:=g8
                have e8:v8=.pointer (some ⟨bv,ov+aw,none⟩):=r8
                rw [e8] at g8
                exact relVal rfl (.slice (some ⟨bs,os,none⟩) na.length ca) _ rfl (by go_simp) ⟨_,rfl,rfl,fun _=>rfl⟩
               case s10 =>
                intro a w1 hw hO hN
                obtain rfl:w1=w3.drew:=hw (by decide)
                have o10:a.tmps[10]?=some (.int .i64 (j:Int)):=(hO.out 10 (by decide)).trans rfl
                exact relVal rfl (.int .i64 (j:Int)) _ rfl (by go_simp) ⟨_,rfl,rfl,fun _=>rfl⟩
               case s11 =>
                intro a w1 hw hO hN
                obtain rfl:w1=w3.drew:=hw (by decide)
                obtain ⟨v9,g9,r9⟩:=hN 9 (by decide)
                have g9:a.tmps[95]?=some v9:=g9
                have e9:v9=.slice (some ⟨bs,os,none⟩) na.length ca:=r9
                rw [e9] at g9
                obtain ⟨v10,g10,r10⟩:=hN 10 (by decide)
                have g10:a.tmps[96]?=some v10:=g10
                have e10:v10=.int .i64 (j:Int):=r10
                rw [e10] at g10
                exact relVal rfl (.pointer (some ⟨bs,os+j,none⟩)) _ rfl (by go_simp) ⟨_,rfl,rfl,fun _=>rfl⟩
               case s12 =>
                intro a w1 hw hO hN
                obtain rfl:w1=w3.drew:=hw (by decide)
                obtain ⟨v11,g11,r11⟩:=hN 11 (by decide)
                have g11:a.tmps[97]?=some v11:=g11
                have e11:v11=.pointer (some ⟨bs,os+j,none⟩):=r11
                rw [e11] at g11
                exact relVal rfl (.string s) _ rfl (by go_simp) ⟨_,rfl,rfl,fun _=>rfl⟩
               case s13 =>
                intro a w1 hw hO hN
                obtain rfl:w1=w3.drew:=hw (by decide)
                obtain ⟨v4,g4,r4⟩:=hN 4 (by decide)
                have g4:a.tmps[90]?=some v4:=g4
                have e4:v4=.slice qb nb.length cb:=r4
                rw [e4] at g4
                obtain ⟨v12,g12,r12⟩:=hN 12 (by decide)
                have g12:a.tmps[98]?=some v12:=g12
                have e12:v12=.string s:=r12
                rw [e12] at g12
                refine relCallF rfl rfl 60 [.tmp 90,.tmp 98] #[34,9] rfl [.slice qb nb.length cb,.string s] (by simp [Act.eval,g4,g12]) (enters_of Try.func60 (by kernel_rfl) rfl) (Calls.mono KH.out ?_)
                rintro e w5 ⟨rfl,hb5⟩
                exact ⟨_,rfl,_,rfl,⟨rfl,(Below.refl _ _).drew.trans hb5⟩,fun h=>absurd rfl h⟩
               case s14 =>
                intro a w1 hw hO hN
                obtain ⟨v13,g13,r13⟩:=hN 13 (by decide)
                have g13:a.tmps[99]?=some v13:=g13
                obtain ⟨e13,hb13⟩:=r13
                rw [e13] at g13
                exact relVal rfl (.bool (!y)) _ rfl (by go_simp) ⟨_,rfl,⟨rfl,hb13⟩,fun _=>rfl⟩
              case fin =>
               intro vs w1 hV
               obtain ⟨e14,hb9⟩:vs 14=.bool (!y)∧Below w3.heap.size w3 w1:=hV 14 (by decide)
               have HB9:=show Hid (Below w2.heap.size w2 w1) from HBj.out.trans (hb9.mono HBj.out.size)
               simp only [putAll,Act.put,List.setIfInBounds_toArray,List.set_cons_zero,List.set_cons_succ,e14]
               clear hV e14 hb9 KH HBj x1 x2 x3 x4
               cases y
               ·have HE:=show Hid (¬ Wd.Good m) from HNB.out (by first | rfl | trivial)
                clear HNJ HNB
                go_wp2_with fail
                go_ret2
                exact ⟨Or.inr ⟨rfl,HE.out⟩,HB2.out.1.trans (HB9.out.mono HB2.out.1.size)⟩
               ·have HN4:=show Hid _ from HNJ.out (by first | rfl | trivial)
                clear HNJ HNB
                go_wp2_with fail
                go_roundw
                case rel=>exact ⟨j+1,by omega,val_int (by omega),HB9,HN4⟩
                case measure=>(simp only [intOf];omega)
             ·obtain rfl:j=na.length:=by omega
              have HN3:=show Hid _ from HN2.out (HSUB.out fun i hi=>HIj.out i hi hi)
              go_wp2_with fail
              go_roundw
              case rel=>exact ⟨b+1,by omega,val_int (by omega),HBj,HN3⟩
              case measure=>(simp only [intOf];omega)
           ·rw [hba] at d4
            have HE:=show Hid (¬ Wd.Good m) from bad_anti HM.out.2.2 hla hab hba eab
            clear HN hab hba eab
            go_wp2_with fail
            go_ret2
            exact ⟨Or.inr ⟨rfl,HE.out⟩,HB2.out.1.trans (HBb.out.mono HB2.out.1.size)⟩
        ·obtain rfl:b=m.up.length:=by omega
         have HN:=show Hid (∀ aw' b,aw'<aw+1→b<m.up.length→M aw' b=true→aw'≠b→M b aw'=false∧Sub (vl m aw') (vl m b)) from fun aw' b ha' hb'=>by
          by_cases e:aw'=aw
          ·subst e;exact HIb.out b hb'
          ·exact HIa.out aw' b (by omega) hb'
         clear HIa HIb
         go_wp2_with fail
         go_roundw
         case rel=>exact ⟨aw+1,by omega,val_int (by omega),HBb,HN⟩
         case measure=>(simp only [intOf];omega)
      ·obtain rfl:aw=m.up.length:=by omega
       have HG:=show Hid (Wd.Good m) from good_M HM.out.2.2 HSH.out HIa.out
       go_wp2_with fail
       go_ret2
       exact ⟨Or.inl ⟨O,Ra,rfl,HOB.out.later HBa.out,HG.out⟩,HB2.out.1.trans (HBa.out.mono HB2.out.1.size)⟩
  ·have HE:=show Hid (¬ Wd.Good m) from fun g=>by
    obtain ⟨r,hr,hx⟩:=hbad
    have:=(Wd.shaped_and g.shape).2.2.2.1 r hr
    rw [hx] at this
    cases this
   clear hbad hb2
   go_wp2_with fail
   go_ret2
   exact ⟨Or.inr ⟨rfl,HE.out⟩,HB2.out.1⟩
 ·have h3i:((m.val.length:Int) != (m.up.length:Int))=true:=by simp;omega
  have HE:=show Hid _ from HSF.out (Or.inr (Or.inr h3))
  clear h3
  go_wp2_with fail
  go_ret2
  exact ⟨Or.inr ⟨rfl,HE.out⟩,HB1.out.1⟩
end Go.Proofs.Ytoedidbbjnnpnaa.Wm
