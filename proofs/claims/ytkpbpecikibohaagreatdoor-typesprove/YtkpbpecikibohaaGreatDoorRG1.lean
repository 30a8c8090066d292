import Derived.Test.YtkpbpecikibohaaGreatDoorFG2
import Derived.Test.YtkpbpecikibohaaGreatDoorFG3
set_option linter.unusedSimpArgs false
set_option maxRecDepth 100000
set_option maxHeartbeats 8000000
namespace Go.Proofs.YtkpbpecikibohaaGreatDoor
open Go.RowKit
open Fm (Nd)
theorem IJ (w:World) (c:UInt8) :
 Calls Tryz.prog 100 #[.int .u8 c.toNat] w fun e w'=>e=.returned (.bool (Fm.gP c))/\w'=w:=by
 have h:=Gb c
 have hc:=c.toNat_lt
 generalize c.toNat=x at *
 generalize Fm.gP c=r at *
 have H:=show Hid _ from h
 clear h
 go_enter Tryz.func100,Tryz.ntmps100
 go_wp2
 all_goals (go_ret;refine⟨eB ?_,rfl⟩;rw[H.out,Bool.eq_iff_iff];simp only[Bool.or_eq_true,decide_eq_true_eq,true_iff,Bool.false_eq_true,false_iff];omega)
def strs:Array Value:=(Fm.fP.map fun l=>Value.string ⟨l.toArray⟩).toArray
theorem Dk (w:World) :
 Calls Tryz.prog 101 #[] w fun e w'=>e=.returned (.slice (some ⟨w.heap.size,0,none⟩) 12 12)/\w'.heap[w.heap.size]?=some (.cells strs 9 (0,0))/\Below w.heap.size w w':=by
 go_enter Tryz.func101,Tryz.ntmps101
 go_wp2
 go_ret
 exact⟨rfl,heap_alloc_new _ _,ak _ _⟩
theorem RA (k:Nat) (h:k<12):∃ x:ByteArray,strs[k]?=some (.string x)/\x.toList=Fm.fP.getD k []/\x.toList ∈ Fm.fP:=by
 have:∀ k,k<12->∃ x:ByteArray,strs[k]?=some (.string x)/\x.data.toList=Fm.fP.getD k []/\x.data.toList ∈ Fm.fP:=by
  intro k hk
  have hl:k<Fm.fP.length:=hk
  refine⟨⟨(Fm.fP[k]).toArray⟩,?_,?_,?_⟩
  ·unfold strs
   simp[hl]
  ·simp[hl]
  ·simp
 obtain⟨x,h1,h2,h3⟩:=this k h
 exact⟨x,h1,by rw[ByteArray.toList_eq];exact h2,by rw[ByteArray.toList_eq];exact h3⟩
theorem IK {l:List UInt8} (h:l ∈ Fm.fP):∃ k,k<12/\Fm.fP.getD k []=l:=by
 obtain⟨k,hk,e⟩:=List.mem_iff_getElem.1 h
 exact⟨k,hk,by rw[List.getD_eq_getElem?_getD,List.getElem?_eq_getElem hk];exact e⟩
theorem Li (w:World) (s:ByteArray) (hs:s.size<=140737488351232) :
 Calls Tryz.prog 70 #[.string s] w fun e w'=>e=.returned (.bool (Fm.word s.data.toList))/\Below w.heap.size w w':=by
 have KL:=show Hid (∀ (c:UInt8) (w:World),Calls Tryz.prog 100 #[.int .u8 c.toNat] w fun e w'=>e=.returned (.bool (Fm.gP c))/\w'=w) from fun c w=>IJ w c
 have KR:=show Hid (Calls Tryz.prog 101 #[] w fun e w'=>e=.returned (.slice (some ⟨w.heap.size,0,none⟩) 12 12)/\w'.heap[w.heap.size]?=some (.cells strs 9 (0,0))/\Below w.heap.size w w') from Dk w
 have Lj:=show Hid (Below w.heap.size w w) from Below.refl _ _
 by_cases h0:s.size=0
 ·have hw:=qR (Or.inl h0)
  rw[hw]
  have hlt:(s.size:Int)<1:=by omega
  clear hw
  go_enter Tryz.func70,Tryz.ntmps70
  go_wp2_with fail
  go_ret
  exact⟨rfl,Lj.out⟩
 ·by_cases h1:31<s.size
  ·have hw:=qR (Or.inr (Or.inl h1))
   rw[hw]
   have hlt:¬ (s.size:Int)<1:=by omega
   have hgt:(31:Int)<(s.size:Int):=by omega
   clear hw
   go_enter Tryz.func70,Tryz.ntmps70
   go_wp2_with fail
   go_ret
   exact⟨rfl,Lj.out⟩
  ·have hp:0<s.size:=by omega
   have hlt:¬ (s.size:Int)<1:=by omega
   have hgt:¬ (31:Int)<(s.size:Int):=by omega
   cases hc:Fm.gP s[0]
   ·have hw:=qR (Or.inr (Or.inr ⟨hp,hc⟩))
    rw[hw]
    clear hw
    go_enter Tryz.func70,Tryz.ntmps70
    go_wp2_with fail
    refine(KL.out _ _).mono ?_
    rintro e w' ⟨rfl,rfl⟩
    rw[hc]
    go_wp2_with fail
    go_ret
    exact⟨rfl,Lj.out⟩
   ·have HW:=show Hid ((∀ j (hj:j<s.size),1<=j->Fm.lq s[j]=true)->Fm.word s.data.toList = !Fm.fP.contains s.data.toList) from Ct hp (by omega) hc
    have HF:=show Hid (∀ k (hk:k<s.size),1<=k->Fm.lq s[k]=false->Fm.word s.data.toList=false) from fun k hk h1 h=>Cr k hk h1 h
    have Yd:=show Hid (s.toList=s.data.toList) from ByteArray.toList_eq s
    generalize Fm.word s.data.toList=wd at *
    go_enter Tryz.func70,Tryz.ntmps70
    go_wp2_with fail
    refine(KL.out _ _).mono ?_
    rintro e w' ⟨rfl,hw'⟩
    subst w'
    rw[hc]
    go_wp2_with fail
    go_loop [3] (fun i=>∃ k:Nat,1<=k/\k<=s.size/\i=.int .i64 k/\Hid (∀ j (hj:j<s.size),1<=j->j<k->Fm.lq s[j]=true)) (fun i=>s.size - (intOf i).toNat)
    case atStart=>exact⟨1,by omega,by omega,rfl,fun j hj h1 h2=>by omega⟩
    case round=>
     obtain⟨k,hk1,hk,rfl,HI⟩:=hrel
     by_cases hlt2:k<s.size
     ·have hki:(k:Int)<(s.size:Int):=by omega
      have HN:=show Hid _ from Gc s[k]
      have HC:=show Hid (Fm.lq s[k]=false->wd=false) from HF.out k hlt2 hk1
      have HY:=show Hid (Fm.lq s[k]=true->∀ j (hj:j<s.size),1<=j->j<k+1->Fm.lq s[j]=true) from fun hn j hj h1 h2=>by
       by_cases e:j=k
       ·subst e;exact hn
       ·exact HI.out j hj h1 (by omega)
      have HYN:Hid (Fm.lq s[k]=true)\/(Fm.gP s[k]=false/\¬ (48<=(s[k].toNat:Int)/\(s[k].toNat:Int)<=57)/\((s[k].toNat:Int) != 95)=true/\((s[k].toNat:Int) != 39)=true/\Hid (wd=false)):=by
       by_cases hin:Fm.lq s[k]=true
       ·exact Or.inl hin
       ·have h2:Fm.lq s[k]=false:=by simpa using hin
        have h3:=HN.out
        rw[h2] at h3
        have h4:=h3.symm
        simp only[Bool.or_eq_false_iff,decide_eq_false_iff_not] at h4
        exact Or.inr ⟨h4.1.1.1,h4.1.1.2,by simpa using h4.1.2,by simpa using h4.2,HC.out h2⟩
      rcases HYN with hin | ⟨hl0,hd,Ua,Qk,hwd⟩
      ·have Gn:=show Hid (∀ j (hj:j<s.size),1<=j->j<k+1->Fm.lq s[j]=true) from HY.out hin.out
       have Ye:Fm.gP s[k]=true\/(Fm.gP s[k]=false/\((48<=(s[k].toNat:Int)/\(s[k].toNat:Int)<=57)\/(s[k].toNat:Int)=95\/(s[k].toNat:Int)=39)):=by
        have h3:=HN.out
        rw[hin.out] at h3
        have h4:=h3.symm
        simp only[Bool.or_eq_true,decide_eq_true_eq] at h4
        cases hl:Fm.gP s[k]
        ·rw[hl] at h4
         refine Or.inr ⟨rfl,?_⟩
         rcases h4 with ((h4 | h4) | h4) | h4
         ·cases h4
         ·exact Or.inl h4
         ·exact Or.inr (Or.inl h4)
         ·exact Or.inr (Or.inr h4)
        ·exact Or.inl rfl
       clear HC HN HY hin
       have uX:=show Hid _ from Ye
       clear Ye
       go_wp2_with fail
       refine(KL.out _ _).mono ?_
       rintro e w' ⟨rfl,hw'⟩
       subst w'
       rcases uX.out with hl | ⟨hl,⟨hd1,hd2⟩ | Ua | Qk⟩
       ·rw[hl]
        clear uX
        go_wp2_with fail
        go_round
        case rel=>exact⟨k+1,by omega,by omega,by go_num,Gn⟩
        case measure=>simp[intOf];omega
       ·rw[hl]
        clear uX
        go_wp2_with fail
        go_round
        case rel=>exact⟨k+1,by omega,by omega,by go_num,Gn⟩
        case measure=>simp[intOf];omega
       ·rw[hl]
        clear uX
        have h1:¬ (s[k].toNat:Int)<=57:=by omega
        have h2:48<=(s[k].toNat:Int):=by omega
        have h3:((s[k].toNat:Int) != 95)=false:=by simp[Ua]
        clear Ua
        go_wp2_with fail
        go_round
        case rel=>exact⟨k+1,by omega,by omega,by go_num,Gn⟩
        case measure=>simp[intOf];omega
       ·rw[hl]
        clear uX
        have h1:¬ 48<=(s[k].toNat:Int):=by omega
        have h2:((s[k].toNat:Int) != 95)=true:=by simp[Qk]
        have h3:((s[k].toNat:Int) != 39)=false:=by simp[Qk]
        clear Qk
        go_wp2_with fail
        go_round
        case rel=>exact⟨k+1,by omega,by omega,by go_num,Gn⟩
        case measure=>simp[intOf];omega
      ·clear HC HN HY
       by_cases hd1:48<=(s[k].toNat:Int)
       ·have hd2:¬ (s[k].toNat:Int)<=57:=fun h=>hd ⟨hd1,h⟩
        clear hd
        go_wp2_with fail
        refine(KL.out _ _).mono ?_
        rintro e w' ⟨rfl,hw'⟩
        subst w'
        rw[hl0]
        go_wp2_with fail
        all_goals first
         | (go_ret;exact⟨eB hwd.out.symm,Lj.out⟩)
         | (exfalso;rename_i hx;simp_all;done)
         | (exfalso;rename_i hx;simp_all;omega)
       ·clear hd
        go_wp2_with fail
        refine(KL.out _ _).mono ?_
        rintro e w' ⟨rfl,hw'⟩
        subst w'
        rw[hl0]
        go_wp2_with fail
        all_goals first
         | (go_ret;exact⟨eB hwd.out.symm,Lj.out⟩)
         | (exfalso;rename_i hx;simp_all;done)
         | (exfalso;rename_i hx;simp_all;omega)
     ·go_wp2_with fail
      refine KR.out.mono ?_
      rintro e w1 ⟨rfl,hrow,hb1⟩
      have HW2:=show Hid (wd = !Fm.fP.contains s.data.toList) from HW.out fun j hj h1=>HI.out j hj h1 (by omega)
      have HR1:=show Hid _ from hrow
      have HB1:=show Hid (Below w.heap.size w w1) from hb1
      clear hrow hb1 KR HW HF HI
      go_wp2_with fail
      go_loop [5] (fun i=>∃ j:Nat,j<=12/\i=.int .i64 j/\Hid (∀ i,i<j->Fm.fP.getD i []≠s.toList)) (fun i=>12 - (intOf i).toNat)
      case atStart=>exact⟨0,by omega,rfl,fun i hi=>by omega⟩
      case round=>
       obtain⟨j,hj,rfl,HJ⟩:=hrel
       by_cases hlt3:j<12
       ·obtain⟨x,hx1,hx2,hx3⟩:=RA j hlt3
        have hcell:w1.cell? ⟨w.heap.size,j,none⟩=some (.string x):=by rw[cell_of_row _ _ j _ _ _ HR1.out];exact hx1
        have hji:(j:Int)<12:=by omega
        have HX:=show Hid (x.toList=Fm.fP.getD j []/\x.toList ∈ Fm.fP) from⟨hx2,hx3⟩
        clear hx1 hx2 hx3
        cases hb:(x.toList == s.toList)
        ·go_wp2_with fail
         go_round
         case rel=>
          refine⟨j+1,by omega,by go_num,fun i hi => ?_⟩
          by_cases e:i=j
          ·subst e
           rw[<- HX.out.1]
           exact ne_of_beq_false hb
          ·exact HJ.out i (by omega)
         case measure=>simp[intOf];omega
        ·go_wp2_with fail
         go_ret
         refine⟨eB ?_,HB1.out⟩
         rw[HW2.out]
         have h1:=HX.out.2
         rw[eq_of_beq hb,Yd.out] at h1
         simp[h1]
       ·go_wp2_with fail
        go_ret
        refine⟨eB ?_,HB1.out⟩
        rw[HW2.out]
        have hno:s.data.toList ∉ Fm.fP:=fun hmem=>by
         obtain⟨i,hi,e⟩:=IK hmem
         exact HJ.out i (by omega) (by rw[e,Yd.out])
        simp[hno]
end Go.Proofs.YtkpbpecikibohaaGreatDoor
namespace Go.Proofs.YtkpbpecikibohaaGreatDoor
open Go.RowKit Go.Maps
open Fm (Nd)
section
variable (w:World) {c:Nat} {u:Value} {t:List Nd}
theorem N8 (h:Tr w c u t) (i:Int) :
 Calls Tryz.prog 23 #[.pointer (some ⟨c,0,none⟩),.int .i64 i] w fun e w'=>e=.returned (.bool (Fm.has t i))/\w'=w:=by
 have h0:=h.c0
 obtain⟨p,cp,rfl⟩:=h.row.form
 have HE:=show Hid _ from has_eq t i
 generalize Fm.has t i=r at *
 have hl:=h.ok.len
 clear h
 generalize t.length=n at *
 by_cases hi:0<=i
 all_goals
  go_enter Tryz.func23,Tryz.ntmps23
  go_wp2
  go_ret
  exact⟨eB (by rw[HE.out,Bool.eq_iff_iff];simp;try omega),rfl⟩
theorem Ll {t:List Nd} {n:Nd} {k:Nat} (hk:k<t.length) (h:∀ j (hj:j<t.length),j<k->t[j]≠n) (e:t[k]=n):numOf t n=k/\decide (n ∈ t)=true:=by
 have hm:n ∈ t:=by rw[<- e];exact List.getElem_mem hk
 refine⟨?_,decide_eq_true hm⟩
 unfold numOf
 rw[if_pos hm]
 have h1:=List.idxOf_lt_length_iff.2 hm
 have h2:t[t.idxOf n]=n:=List.getElem_idxOf h1
 have h3:¬ t.idxOf n<k:=fun hlt=>h _ h1 hlt h2
 have h4:¬ k<t.idxOf n:=fun hlt=>by
  have:=List.not_of_lt_findIdx (p:=fun x=>x == n) (xs:=t) (i:=k) hlt
  simp[e] at this
 have h5:t.idxOf n=k:=by omega
 rw[h5]
theorem N9 {t:List Nd} {n:Nd} (h:∀ j (hj:j<t.length),t[j]≠n):numOf t n=0/\decide (n ∈ t)=false:=by
 have hm:n ∉ t:=fun hm=>by
  obtain⟨j,hj,e⟩:=List.mem_iff_getElem.1 hm
  exact h j hj e
 exact⟨if_neg hm,decide_eq_false hm⟩
theorem Lm (h:Tr w c u t) (n:Nd) (hn:Fm.good n) :
 Calls Tryz.prog 71 #[.pointer (some ⟨c,0,none⟩),dY n] w fun e w'=>e=.returned (.tuple #[.int .i64 (numOf t n),.bool (decide (n ∈ t))])/\Below w.heap.size w w':=by
 have Gq:=show Hid (∀ x ∈ t,Fm.good x) from h.ok.gd
 have Gy:=show Hid (Fm.good n) from hn
 have hlen:=h.ok.len
 have HF:=show Hid (∀ k (hk:k<t.length),(∀ j (hj:j<t.length),j<k->t[j]≠n)->t[k]=n->numOf t n=k/\decide (n ∈ t)=true) from fun k hk h e=>Ll hk h e
 have HO:=show Hid ((∀ j (hj:j<t.length),t[j]≠n)->numOf t n=0/\decide (n ∈ t)=false) from fun h=>N9 h
 generalize numOf t n=nu at *
 generalize decide (n ∈ t)=dm at *
 obtain⟨p,cp,hv,hc1,hc2,hat⟩:=h.row.Ga.at
 have HAT:=show Hid (0<t.length->∃ b o,p=some ⟨b,o,none⟩/\∀ w',Below w.heap.size w w'->∀ k (hk:k<t.length),FZ w' b (o+k * 4) t[k]) from hat
 subst hv
 have HC:=show Hid (∀ w',Below w.heap.size w w'->w'.cell? ⟨c,0,none⟩=some (.slice p t.length cp)) from fun w' hb=>(h.later hb).c0
 obtain⟨w0,hw0⟩:∃ w0,w0=w.alloc (Obj.cells #[.int .i64 n.k,.string n.s,.int .i64 n.l,.int .i64 n.r] 67):=⟨_,rfl⟩
 have HB:=show Hid (Below w.heap.size w w0) from by rw[hw0];exact ak w _
 have HR:=show Hid (N4 w0 w.heap.size n) from by rw[hw0];exact heap_alloc_new w _
 unfold dY at *
 have GD:=show Hid (∀ (x:Nd),x ∈ t->∀ w,(Op.equalIn 10000 67 (.agg #[.int .i64 x.k,.string x.s,.int .i64 x.l,.int .i64 x.r]) (.agg #[.int .i64 n.k,.string n.s,.int .i64 n.l,.int .i64 n.r])).run Tryz.prog w=.ok (decide (x=n)) w) from fun x hx w=>Qc w (Gq.out x hx) hn
 clear h hn hat
 go_enter Tryz.func71,Tryz.ntmps71
 go_wp2_with fail
 rw[<- hw0]
 clear hw0
 go_loopw [6] (fun i wr=>∃ k d:Nat,k<=t.length/\i=.int .i64 (k:Int)/\wr=w0.drewN d/\Hid (∀ j (hj:j<t.length),j<k->t[j]≠n)) (fun i _=>t.length - (intOf i).toNat)
 case atStart=>exact⟨0,0,by omega,rfl,rfl,fun j hj h=>by omega⟩
 case round=>
  obtain⟨k,d,hk,rfl,rfl,HI⟩:=hrel
  have c0:=HC.out w0 HB.out
  have d0:=HR.out.c0;have d1:=HR.out.c1;have d2:=HR.out.c2;have d3:=HR.out.c3
  by_cases hlt:k<t.length
  ·obtain⟨rb,ro,rfl,hat⟩:=HAT.out (by omega)
   have hA:=hat w0 HB.out k hlt
   have hki:(k:Int)<(t.length:Int):=by omega
   have heq:=GD.out t[k] (List.getElem_mem hlt)
   have Ub:=show Hid (t[k]=n->nu=k/\dm=true) from HF.out k hlt HI.out
   have Uc:=show Hid (t[k]≠n->∀ j (hj:j<t.length),j<k+1->t[j]≠n) from fun hne j hj h=>by
    by_cases e:j=k
    ·subst e;exact hne
    ·exact HI.out j hj (by omega)
   generalize t[k]=nd at *
   obtain⟨q,hq⟩:∃ q,q=decide (nd=n):=⟨_,rfl⟩
   rw[<- hq] at heq
   have HQ:=show Hid (q=decide (nd=n)) from hq
   have a0:=hA.c0;have a1:=hA.c1;have a2:=hA.c2;have a3:=hA.c3
   clear hq hA hat GD HF HO
   go_wp2_with fail
   go_quiet (fail)
   cases q
   ·have hne:nd≠n:=of_decide_eq_false HQ.out.symm
    have pK:=show Hid (∀ j (hj:j<t.length),j<k+1->t[j]≠n) from Uc.out hne
    clear hne Uc Ub HQ
    go_wp2_with fail
    go_roundw
    case rel=>exact⟨k+1,_,by omega,by go_num,rfl,pK⟩
    case measure=>first|(simp[intOf];done)|(simp[intOf];omega)
   ·have he:nd=n:=of_decide_eq_true HQ.out.symm
    obtain⟨hnu,jw⟩:=Ub.out he
    subst hnu jw
    clear he Uc Ub HQ
    go_wp2_with fail
    go_ret2
    exact⟨rfl,⟨HB.out.os,HB.out.tape,HB.out.output,HB.out.size,HB.out.block⟩⟩
  ·have hki:¬ (k:Int)<(t.length:Int):=by omega
   obtain⟨hnu,jw⟩:=HO.out fun j hj=>HI.out j hj (by omega)
   subst hnu jw
   clear GD HF HO
   go_wp2_with fail
   go_ret2
   exact⟨rfl,⟨HB.out.os,HB.out.tape,HB.out.output,HB.out.size,HB.out.block⟩⟩
end
theorem zi {w W w':World} {c:Nat} {u u':Value} {t t':List Nd} (h:Tr w c u t) (hW:Below w.heap.size w W) (hg:W.grownBy w' u.ownBlock) (hr:Rw w' u' t') (hl:dh W.heap.size u u') (hok:Fm.Ok t') :
 Tr (w'.setCell ⟨c,0,none⟩ u') c u' t'/\dh w.heap.size u u'/\Kp (Fr c u) w (w'.setCell ⟨c,0,none⟩ u'):=by
 have hb:w'.heap[c]?=some (.cells #[u] 89 (0,0)):=(hg.block c (Nat.lt_of_lt_of_le h.oG hW.size) (fun e=>h.uc e.symm)).trans ((hW.block c h.oG).trans h.tab)
 have hne:u'.ownBlock≠some c:=fun e=>by
  obtain⟨_,cur,hh⟩:=hr.lt c e
  rw[hb] at hh
  simp at hh
 have hsz:=hW.size
 refine⟨⟨heap_setCell_same w' c 0 _ _ _ hb,hr.keep fun k hk=>Below.heap_setCell _ _ _ _ (fun e=>hne (hk.trans (congrArg some e))),hok⟩,fun k hk=>(hl k hk).imp id (fun h'=>by omega),?_⟩
 refine⟨hg.os.trans hW.os,hg.tape.trans hW.tape,hg.output.trans hW.output,Nat.le_trans hW.size (Nat.le_trans hg.size (by simp[World.setCell])),fun k hk hn => ?_⟩
 rw[Below.heap_setCell _ _ _ _ (fun e=>hn (Or.inl e))]
 exact(hg.block k (Nat.lt_of_lt_of_le hk hW.size) (fun e=>hn (Or.inr e.symm))).trans (hW.block k hk)
theorem IL (t:List Nd) (n:Nd) :
 (n.k=1/\(((n.l != 0)=true/\Fm.check t n=31)\/((n.l != 0)=false/\(n.r != 0)=true/\Fm.check t n=31)\/((n.l != 0)=false/\(n.r != 0)=false/\Fm.word n.s.data.toList=false/\Fm.check t n=32)\/((n.l != 0)=false/\(n.r != 0)=false/\Fm.word n.s.data.toList=true/\Fm.check t n=0))) \/
 (n.k=2/\(((n.s.toList == [])=false/\Fm.check t n=31)\/((n.s.toList == [])=true/\(n.l != 0)=true/\Fm.check t n=31)\/((n.s.toList == [])=true/\(n.l != 0)=false/\(n.r != 0)=true/\Fm.check t n=31)\/((n.s.toList == [])=true/\(n.l != 0)=false/\(n.r != 0)=false/\Fm.check t n=0))) \/
 ((n.k=3\/n.k=4\/n.k=5)/\(((n.s.toList == [])=false/\Fm.check t n=31)\/((n.s.toList == [])=true/\Fm.has t n.l=false/\Fm.check t n=31)\/((n.s.toList == [])=true/\Fm.has t n.l=true/\Fm.has t n.r=false/\Fm.check t n=31)\/((n.s.toList == [])=true/\Fm.has t n.l=true/\Fm.has t n.r=true/\Fm.check t n=0))) \/
 ((n.k == 1)=false/\(n.k == 2)=false/\(n.k == 3)=false/\(n.k == 4)=false/\(n.k == 5)=false/\Fm.check t n=31):=by
 rw[AO]
 unfold Fm.check Fm.shaped
 obtain⟨k,s,l,r⟩:=n
 simp only
 by_cases h1:k=1
 ·subst h1
  refine Or.inl ⟨rfl,?_⟩
  simp only[if_true]
  cases hl:(l == 0) <;> cases hr:(r == 0) <;> cases hw:Fm.word s.data.toList <;> simp_all [bne]
 ·refine Or.inr ?_
  by_cases h2:k=2
  ·subst h2
   refine Or.inl ⟨rfl,?_⟩
   cases hz:(s.size == 0) <;> cases hl:(l == 0) <;> cases hr:(r == 0) <;> simp_all [bne]
  ·refine Or.inr ?_
   by_cases h3:k=3\/k=4\/k=5
   ·have hj:Fm.jn k=true:=by
     rcases h3 with rfl | rfl | rfl <;> rfl
    refine Or.inl ⟨h3,?_⟩
    rw[if_neg h1,if_neg h2,if_pos hj]
    cases hz:(s.size == 0) <;> cases hl:Fm.has t l <;> cases hr:Fm.has t r <;> simp[h1]
   ·have hj:Fm.jn k=false:=by
     simp only[not_or] at h3
     simp[Fm.jn,h3]
    refine Or.inr ?_
    simp only[not_or] at h3
    simp[h1,h2,h3,hj]
theorem xZ (w:World) {c:Nat} {u:Value} {t:List Nd} (h:Tr w c u t) (n:Nd) (hn:Fm.good n) :
 Calls Tryz.prog 35 #[.pointer (some ⟨c,0,none⟩),dY n] w fun e w'=>e=.returned (.tuple #[.int .i64 (Fm.put t n).1,.int .i64 (Fm.put t n).2.1])/\bZ w c u (Fm.put t n).2.2 w':=by
 have HE:=show Hid _ from put_eq t n
 have gW:=show Hid (Tr w c u t) from h
 have HN:=show Hid (Fm.good n) from hn
 have Yf:=show Hid _ from IL t n
 have lJ:=show Hid (Fm.check t n=0->n ∉ t->¬ 1024<=t.length->Fm.Ok (t ++ [n])) from fun h1 h2 h3=>by
  have h4:=Fm.qU h.ok hn
  rw[Fm.FX h1 h2 (by omega)] at h4
  exact h4
 have KH:=show Hid (∀ w',Below w.heap.size w w'->∀ i:Int,Calls Tryz.prog 23 #[.pointer (some ⟨c,0,none⟩),.int .i64 i] w' fun e w''=>e=.returned (.bool (Fm.has t i))/\w''=w') from fun w' hb i=>N8 w' (h.later hb) i
 have KW:=show Hid (∀ w':World,Calls Tryz.prog 70 #[.string n.s] w' fun e w''=>e=.returned (.bool (Fm.word n.s.data.toList))/\Below w'.heap.size w' w'') from fun w'=>Li w' n.s hn.2.1
 have KF:=show Hid (∀ w',Below w.heap.size w w'->Calls Tryz.prog 71 #[.pointer (some ⟨c,0,none⟩),dY n] w' fun e w''=>e=.returned (.tuple #[.int .i64 (numOf t n),.bool (decide (n ∈ t))])/\Below w'.heap.size w' w'') from fun w' hb=>Lm w' (h.later hb) n hn
 generalize Fm.put t n=r at *
 generalize Fm.check t n=ck at *
 generalize Fm.word n.s.data.toList=wd at *
 obtain⟨w0,hw0⟩:∃ w0,w0=w.alloc (Obj.cells #[.int .i64 n.k,.string n.s,.int .i64 n.l,.int .i64 n.r] 67):=⟨_,rfl⟩
 have HB:=show Hid (Below w.heap.size w w0) from by rw[hw0];exact ak w _
 have HR:=show Hid (N4 w0 w.heap.size n) from by rw[hw0];exact heap_alloc_new w _
 have hlen:=h.ok.len
 obtain⟨p,cp,rfl⟩:=h.row.form
 unfold dY at *
 have HD:=show Hid (∀ dm nu,dm=decide (n ∈ t)->nu=numOf t n->(dm=true->n ∈ t/\nu=(t.idxOf n:Int))/\(dm=false->n ∉ t)) from fun dm nu hd hu=>⟨fun e=>by
  have hm:n ∈ t:=of_decide_eq_true (hd.symm.trans e)
  exact⟨hm,by rw[hu];exact if_pos hm⟩,fun e=>of_decide_eq_false (hd.symm.trans e)⟩
 obtain⟨k,s,l,q⟩:=n
 simp only at HE KW KF hw0 |-
 have hc:=Yf.out
 simp only at hc
 clear h hn Yf
 have kQ:=show Hid (ck≠0->r=(0,ck,t)) from fun hne=>by rw[HE.out,if_neg hne]
 rcases hc with ⟨rfl,⟨h1,rfl⟩ | ⟨h1,h2,rfl⟩ | ⟨h1,h2,rfl,rfl⟩ | ⟨h1,h2,rfl,rfl⟩⟩ | ⟨rfl,⟨h1,rfl⟩ | ⟨h1,h2,rfl⟩ | ⟨h1,h2,h3,rfl⟩ | ⟨h1,h2,h3,rfl⟩⟩ | ⟨hk,⟨h1,rfl⟩ | ⟨h1,h2,rfl⟩ | ⟨h1,h2,h3,rfl⟩ | ⟨h1,h2,h3,rfl⟩⟩ | ⟨h1,h2,h3,h4,h5,rfl⟩
 ·have hr:=kQ.out (by decide)
  subst hr
  clear HE kQ lJ HD
  go_enter Tryz.func35,Tryz.ntmps35
  go_wp2_with fail
  go_ret2
  exact⟨rfl,bZ.of_below gW.out (ak _ _)⟩
 ·have hr:=kQ.out (by decide)
  subst hr
  clear HE kQ lJ HD
  go_enter Tryz.func35,Tryz.ntmps35
  go_wp2_with fail
  go_ret2
  exact⟨rfl,bZ.of_below gW.out (ak _ _)⟩
 ·have hr:=kQ.out (by decide)
  subst hr
  clear HE kQ lJ HD
  go_enter Tryz.func35,Tryz.ntmps35
  go_wp2_with fail
  refine(KW.out _).mono ?_
  rintro e w1 ⟨rfl,hb1⟩
  have HBz:=show Hid (Below w.heap.size w w1) from(ak _ _).trans (hb1.mono (by simp))
  clear hb1
  go_wp2_with fail
  go_ret2
  exact⟨rfl,bZ.of_below gW.out HBz.out⟩
 ·go_enter Tryz.func35,Tryz.ntmps35
  go_wp2_with fail
  rw[<- hw0]
  clear hw0
  refine(KW.out _).mono ?_
  rintro e w1 ⟨rfl,hb1⟩
  have IQ:w.heap.size<w0.heap.size:=lt_of_block HR.out
  have HB1:=show Hid (Below w.heap.size w w1) from HB.out.trans (hb1.mono (by omega))
  have HR1:=show Hid (N4 w1 w.heap.size ⟨1,s,l,q⟩) from(hb1.block _ IQ).trans HR.out
  clear hb1 IQ
  have d0:=HR1.out.c0;have d1:=HR1.out.c1;have d2:=HR1.out.c2;have d3:=HR1.out.c3
  simp only at d0 d1 d2 d3
  go_wp2_with fail
  refine(KF.out _ HB1.out).mono ?_
  rintro e w2 ⟨rfl,hb2⟩
  have hltx:w.heap.size<w1.heap.size:=lt_of_block HR1.out
  have HB2:=show Hid (Below w.heap.size w w2) from HB1.out.trans (hb2.mono (by omega))
  have HR2:=show Hid (N4 w2 w.heap.size ⟨1,s,l,q⟩) from(hb2.block _ hltx).trans HR1.out
  have HT2:=show Hid (Tr w2 c (.slice p t.length cp) t) from gW.out.later HB2.out
  have hlt2:w.heap.size<w2.heap.size:=lt_of_block HR2.out
  clear hb2 hltx d0 d1 d2 d3 KF HB1 HR1
  have c0:=HT2.out.c0
  have hr:=HE.out
  rw[if_pos (by first|rfl | trivial)] at hr
  have HE2:=show Hid _ from hr
  have sD:=HD.out
  obtain⟨dm,jw⟩:∃ dm,dm=decide ((⟨1,s,l,q⟩:Nd) ∈ t):=⟨_,rfl⟩
  obtain⟨nu,hnu⟩:∃ nu,nu=numOf t (⟨1,s,l,q⟩:Nd):=⟨_,rfl⟩
  have HD2:=show Hid ((dm=true->(⟨1,s,l,q⟩:Nd) ∈ t/\nu=(t.idxOf (⟨1,s,l,q⟩:Nd):Int))/\(dm=false->(⟨1,s,l,q⟩:Nd) ∉ t)) from sD dm nu jw hnu
  rw[<- jw,<- hnu]
  clear hr HE kQ jw hnu sD HD
  cases dm
  ·have hnm:=HD2.out.2 rfl
   have tu:=show Hid ((⟨1,s,l,q⟩:Nd) ∉ t) from hnm
   have hr:=HE2.out
   rw[if_neg hnm] at hr
   have jY:=show Hid _ from hr
   clear hr hnm HE2 HD2
   by_cases hfull:1024<=t.length
   ·have hr:=jY.out
    rw[if_pos hfull] at hr
    subst hr
    have hfi:(1024:Int)<=(t.length:Int):=by omega
    clear jY
    go_wp2_with fail
    go_ret2
    exact⟨rfl,bZ.of_below gW.out HB2.out⟩
   ·have hr:=jY.out
    rw[if_neg hfull] at hr
    subst hr
    have hfi:(t.length:Int)<1024:=by omega
    have tC:=show Hid (Fm.Ok (t ++ [(⟨1,s,l,q⟩:Nd)])) from lJ.out (by first|rfl | trivial) tu.out hfull
    clear jY
    have HRW:=show Hid (∀ o,Rw (w2.drew.alloc o) (.slice p t.length cp) t) from fun o=>HT2.out.row.keep fun k hk=>Below.heap_alloc w2.drew _ _ (HT2.out.row.lt k hk).1
    have d0:=HR2.out.c0;have d1:=HR2.out.c1;have d2:=HR2.out.c2;have d3:=HR2.out.c3
    simp only at d0 d1 d2 d3
    have j3:=show Hid (∀ (o:Obj) (w':World),(w2.drew.alloc o).grownBy w' (Value.slice p t.length cp).ownBlock->w'.heap[c]?=w2.heap[c]?) from fun o w' hg=>(hg.block c (by have:=HT2.out.oG;simp;omega) (fun e=>HT2.out.uc e.symm)).trans (Below.heap_alloc w2.drew _ _ HT2.out.oG)
    have HST:=show Hid (∀ w':World,(w2.drew.alloc (Obj.cells #[.int .i64 1,.string s,.int .i64 l,.int .i64 q] 67)).grownBy w' (Value.slice p t.length cp).ownBlock->∀ (j:Nat) (x:Value),w2.cell? ⟨c,j,none⟩=some x->w'.cell? ⟨c,j,none⟩=some x) from fun w' hg j x hx=>(World.cell?_of_block (w:=w2) (j3.out _ w' hg)).trans hx
    have kL:=show Hid (∀ w':World,(w2.drew.alloc (Obj.cells #[.int .i64 1,.string s,.int .i64 l,.int .i64 q] 67)).grownBy w' (Value.slice p t.length cp).ownBlock->∀ (j:Nat),w'.frozen? ⟨c,j,none⟩=false) from fun w' hg j=>(World.frozen?_of_block (w:=w2) (a:=⟨c,j,none⟩) (j3.out _ w' hg)).trans (HT2.out.fr j)
    have c0a:(w2.alloc (Obj.cells #[.int .i64 1,.string s,.int .i64 l,.int .i64 q] 67)).cell? ⟨c,0,none⟩=some (.slice p t.length cp):=(World.cell?_of_block (w:=w2) (Below.heap_alloc w2 _ _ HT2.out.oG)).trans c0
    go_wp2_with fail
    go_region_law (refine jo rfl (.tmp 78) (.tmp 80) rfl (.slice p t.length cp) t rfl (HRW.out _) (by omega) ⟨1,s,l,q⟩ ⟨w2.heap.size,0,none⟩ rfl (lI _ _ _ _ rfl) ?_;intro v' w' hrw hgr pI;obtain⟨p',c',hv'⟩:=hrw.form;subst hv';have f0:w'.cell? ⟨c,0,none⟩=some (.slice p t.length cp):=HST.out w' hgr 0 _ c0;have f1:w'.frozen? ⟨c,0,none⟩=false:=kL.out w' hgr 0)
    all_goals
     have X:=zi HT2.out (by exact⟨rfl,rfl,rfl,by simp,fun k hk=>Below.heap_alloc w2 _ _ hk⟩) hgr hrw pI tC.out
     rw[show(t ++ [(⟨1,s,l,q⟩:Nd)]).length=t.length+1 by simp] at X
     have y0:=X.1.c0
     generalize w'.setCell ⟨c,0,none⟩ (.slice p' (t.length+1) c')=w3 at *
     have HX:=show Hid (bZ w c (.slice p t.length cp) (t ++ [(⟨1,s,l,q⟩:Nd)]) w3) from bZ.kF ⟨_,X⟩ HB2.out
     clear X hrw hgr pI f0 f1 c0a kL HST j3 HRW
     go_wp2_with fail
     go_ret2
     exact⟨by simp,HX.out⟩
  ·have hmm:=HD2.out.1 rfl
   have hr:=HE2.out
   rw[if_pos hmm.1,<- hmm.2] at hr
   subst hr
   clear hmm HE2 HD2
   go_wp2_with fail
   go_ret2
   exact⟨rfl,bZ.of_below gW.out HB2.out⟩
 ·have hr:=kQ.out (by decide)
  subst hr
  clear HE kQ lJ HD
  go_enter Tryz.func35,Tryz.ntmps35
  go_wp2_with fail
  go_ret2
  exact⟨rfl,bZ.of_below gW.out (ak _ _)⟩
 ·have hr:=kQ.out (by decide)
  subst hr
  clear HE kQ lJ HD
  go_enter Tryz.func35,Tryz.ntmps35
  go_wp2_with fail
  go_ret2
  exact⟨rfl,bZ.of_below gW.out (ak _ _)⟩
 ·have hr:=kQ.out (by decide)
  subst hr
  clear HE kQ lJ HD
  go_enter Tryz.func35,Tryz.ntmps35
  go_wp2_with fail
  go_ret2
  exact⟨rfl,bZ.of_below gW.out (ak _ _)⟩
 ·skip
  go_enter Tryz.func35,Tryz.ntmps35
  go_wp2_with fail
  rw[<- hw0]
  clear hw0
  refine(KF.out _ HB.out).mono ?_
  rintro e w2 ⟨rfl,hb2⟩
  have hltx:w.heap.size<w0.heap.size:=lt_of_block HR.out
  have HB2:=show Hid (Below w.heap.size w w2) from HB.out.trans (hb2.mono (by omega))
  have HR2:=show Hid (N4 w2 w.heap.size ⟨2,s,l,q⟩) from(hb2.block _ hltx).trans HR.out
  have HT2:=show Hid (Tr w2 c (.slice p t.length cp) t) from gW.out.later HB2.out
  have hlt2:w.heap.size<w2.heap.size:=lt_of_block HR2.out
  clear hb2 hltx KF HB HR
  have c0:=HT2.out.c0
  have hr:=HE.out
  rw[if_pos (by first|rfl | trivial)] at hr
  have HE2:=show Hid _ from hr
  have sD:=HD.out
  obtain⟨dm,jw⟩:∃ dm,dm=decide ((⟨2,s,l,q⟩:Nd) ∈ t):=⟨_,rfl⟩
  obtain⟨nu,hnu⟩:∃ nu,nu=numOf t (⟨2,s,l,q⟩:Nd):=⟨_,rfl⟩
  have HD2:=show Hid ((dm=true->(⟨2,s,l,q⟩:Nd) ∈ t/\nu=(t.idxOf (⟨2,s,l,q⟩:Nd):Int))/\(dm=false->(⟨2,s,l,q⟩:Nd) ∉ t)) from sD dm nu jw hnu
  rw[<- jw,<- hnu]
  clear hr HE kQ jw hnu sD HD
  cases dm
  ·have hnm:=HD2.out.2 rfl
   have tu:=show Hid ((⟨2,s,l,q⟩:Nd) ∉ t) from hnm
   have hr:=HE2.out
   rw[if_neg hnm] at hr
   have jY:=show Hid _ from hr
   clear hr hnm HE2 HD2
   by_cases hfull:1024<=t.length
   ·have hr:=jY.out
    rw[if_pos hfull] at hr
    subst hr
    have hfi:(1024:Int)<=(t.length:Int):=by omega
    clear jY
    go_wp2_with fail
    go_ret2
    exact⟨rfl,bZ.of_below gW.out HB2.out⟩
   ·have hr:=jY.out
    rw[if_neg hfull] at hr
    subst hr
    have hfi:(t.length:Int)<1024:=by omega
    have tC:=show Hid (Fm.Ok (t ++ [(⟨2,s,l,q⟩:Nd)])) from lJ.out (by first|rfl | trivial) tu.out hfull
    clear jY
    have HRW:=show Hid (∀ o,Rw (w2.drew.alloc o) (.slice p t.length cp) t) from fun o=>HT2.out.row.keep fun k hk=>Below.heap_alloc w2.drew _ _ (HT2.out.row.lt k hk).1
    have d0:=HR2.out.c0;have d1:=HR2.out.c1;have d2:=HR2.out.c2;have d3:=HR2.out.c3
    simp only at d0 d1 d2 d3
    have j3:=show Hid (∀ (o:Obj) (w':World),(w2.drew.alloc o).grownBy w' (Value.slice p t.length cp).ownBlock->w'.heap[c]?=w2.heap[c]?) from fun o w' hg=>(hg.block c (by have:=HT2.out.oG;simp;omega) (fun e=>HT2.out.uc e.symm)).trans (Below.heap_alloc w2.drew _ _ HT2.out.oG)
    have HST:=show Hid (∀ w':World,(w2.drew.alloc (Obj.cells #[.int .i64 2,.string s,.int .i64 l,.int .i64 q] 67)).grownBy w' (Value.slice p t.length cp).ownBlock->∀ (j:Nat) (x:Value),w2.cell? ⟨c,j,none⟩=some x->w'.cell? ⟨c,j,none⟩=some x) from fun w' hg j x hx=>(World.cell?_of_block (w:=w2) (j3.out _ w' hg)).trans hx
    have kL:=show Hid (∀ w':World,(w2.drew.alloc (Obj.cells #[.int .i64 2,.string s,.int .i64 l,.int .i64 q] 67)).grownBy w' (Value.slice p t.length cp).ownBlock->∀ (j:Nat),w'.frozen? ⟨c,j,none⟩=false) from fun w' hg j=>(World.frozen?_of_block (w:=w2) (a:=⟨c,j,none⟩) (j3.out _ w' hg)).trans (HT2.out.fr j)
    have c0a:(w2.alloc (Obj.cells #[.int .i64 2,.string s,.int .i64 l,.int .i64 q] 67)).cell? ⟨c,0,none⟩=some (.slice p t.length cp):=(World.cell?_of_block (w:=w2) (Below.heap_alloc w2 _ _ HT2.out.oG)).trans c0
    go_wp2_with fail
    go_region_law (refine jo rfl (.tmp 78) (.tmp 80) rfl (.slice p t.length cp) t rfl (HRW.out _) (by omega) ⟨2,s,l,q⟩ ⟨w2.heap.size,0,none⟩ rfl (lI _ _ _ _ rfl) ?_;intro v' w' hrw hgr pI;obtain⟨p',c',hv'⟩:=hrw.form;subst hv';have f0:w'.cell? ⟨c,0,none⟩=some (.slice p t.length cp):=HST.out w' hgr 0 _ c0;have f1:w'.frozen? ⟨c,0,none⟩=false:=kL.out w' hgr 0)
    all_goals
     have X:=zi HT2.out (by exact⟨rfl,rfl,rfl,by simp,fun k hk=>Below.heap_alloc w2 _ _ hk⟩) hgr hrw pI tC.out
     rw[show(t ++ [(⟨2,s,l,q⟩:Nd)]).length=t.length+1 by simp] at X
     have y0:=X.1.c0
     generalize w'.setCell ⟨c,0,none⟩ (.slice p' (t.length+1) c')=w3 at *
     have HX:=show Hid (bZ w c (.slice p t.length cp) (t ++ [(⟨2,s,l,q⟩:Nd)]) w3) from bZ.kF ⟨_,X⟩ HB2.out
     clear X hrw hgr pI f0 f1 c0a kL HST j3 HRW
     go_wp2_with fail
     go_ret2
     exact⟨by simp,HX.out⟩
  ·have hmm:=HD2.out.1 rfl
   have hr:=HE2.out
   rw[if_pos hmm.1,<- hmm.2] at hr
   subst hr
   clear hmm HE2 HD2
   go_wp2_with fail
   go_ret2
   exact⟨rfl,bZ.of_below gW.out HB2.out⟩
 ·rcases hk with rfl | rfl | rfl
  all_goals
   have hr:=kQ.out (by decide)
   subst hr
   clear HE kQ lJ HD
   go_enter Tryz.func35,Tryz.ntmps35
   go_wp2_with fail
   go_ret2
   exact⟨rfl,bZ.of_below gW.out (ak _ _)⟩
 ·rcases hk with rfl | rfl | rfl
  all_goals
   have hr:=kQ.out (by decide)
   subst hr
   clear HE kQ lJ HD
   go_enter Tryz.func35,Tryz.ntmps35
   go_wp2_with fail
   refine(KH.out _ (ak _ _) _).mono ?_
   rintro e w1 ⟨rfl,hw1⟩
   subst w1
   rw[h2]
   go_wp2_with fail
   go_ret2
   exact⟨rfl,bZ.of_below gW.out (ak _ _)⟩
 ·rcases hk with rfl | rfl | rfl
  all_goals
   have hr:=kQ.out (by decide)
   subst hr
   clear HE kQ lJ HD
   go_enter Tryz.func35,Tryz.ntmps35
   go_wp2_with fail
   refine(KH.out _ (ak _ _) _).mono ?_
   rintro e w1 ⟨rfl,hw1⟩
   subst w1
   rw[h2]
   go_wp2_with fail
   refine(KH.out _ (ak _ _) _).mono ?_
   rintro e w1 ⟨rfl,hw1⟩
   subst w1
   rw[h3]
   go_wp2_with fail
   go_ret2
   exact⟨rfl,bZ.of_below gW.out (ak _ _)⟩
 ·rcases hk with rfl | rfl | rfl
  ·go_enter Tryz.func35,Tryz.ntmps35
   go_wp2_with fail
   rw[<- hw0]
   clear hw0
   refine(KH.out _ HB.out _).mono ?_
   rintro e w1 ⟨rfl,hw1⟩
   subst w1
   rw[h2]
   have d0:=HR.out.c0;have d1:=HR.out.c1;have d2:=HR.out.c2;have d3:=HR.out.c3
   simp only at d0 d1 d2 d3
   go_wp2_with fail
   refine(KH.out _ HB.out _).mono ?_
   rintro e w1 ⟨rfl,hw1⟩
   subst w1
   rw[h3]
   clear d0 d1 d2 d3
   have d0:=HR.out.c0;have d1:=HR.out.c1;have d2:=HR.out.c2;have d3:=HR.out.c3
   simp only at d0 d1 d2 d3
   go_wp2_with fail
   refine(KF.out _ HB.out).mono ?_
   rintro e w2 ⟨rfl,hb2⟩
   have hltx:w.heap.size<w0.heap.size:=lt_of_block HR.out
   have HB2:=show Hid (Below w.heap.size w w2) from HB.out.trans (hb2.mono (by omega))
   have HR2:=show Hid (N4 w2 w.heap.size ⟨3,s,l,q⟩) from(hb2.block _ hltx).trans HR.out
   have HT2:=show Hid (Tr w2 c (.slice p t.length cp) t) from gW.out.later HB2.out
   have hlt2:w.heap.size<w2.heap.size:=lt_of_block HR2.out
   clear hb2 hltx d0 d1 d2 d3 KF HB HR
   have c0:=HT2.out.c0
   have hr:=HE.out
   rw[if_pos (by first|rfl | trivial)] at hr
   have HE2:=show Hid _ from hr
   have sD:=HD.out
   obtain⟨dm,jw⟩:∃ dm,dm=decide ((⟨3,s,l,q⟩:Nd) ∈ t):=⟨_,rfl⟩
   obtain⟨nu,hnu⟩:∃ nu,nu=numOf t (⟨3,s,l,q⟩:Nd):=⟨_,rfl⟩
   have HD2:=show Hid ((dm=true->(⟨3,s,l,q⟩:Nd) ∈ t/\nu=(t.idxOf (⟨3,s,l,q⟩:Nd):Int))/\(dm=false->(⟨3,s,l,q⟩:Nd) ∉ t)) from sD dm nu jw hnu
   rw[<- jw,<- hnu]
   clear hr HE kQ jw hnu sD HD
   cases dm
   ·have hnm:=HD2.out.2 rfl
    have tu:=show Hid ((⟨3,s,l,q⟩:Nd) ∉ t) from hnm
    have hr:=HE2.out
    rw[if_neg hnm] at hr
    have jY:=show Hid _ from hr
    clear hr hnm HE2 HD2
    by_cases hfull:1024<=t.length
    ·have hr:=jY.out
     rw[if_pos hfull] at hr
     subst hr
     have hfi:(1024:Int)<=(t.length:Int):=by omega
     clear jY
     go_wp2_with fail
     go_ret2
     exact⟨rfl,bZ.of_below gW.out HB2.out⟩
    ·have hr:=jY.out
     rw[if_neg hfull] at hr
     subst hr
     have hfi:(t.length:Int)<1024:=by omega
     have tC:=show Hid (Fm.Ok (t ++ [(⟨3,s,l,q⟩:Nd)])) from lJ.out (by first|rfl | trivial) tu.out hfull
     clear jY
     have HRW:=show Hid (∀ o,Rw (w2.drew.alloc o) (.slice p t.length cp) t) from fun o=>HT2.out.row.keep fun k hk=>Below.heap_alloc w2.drew _ _ (HT2.out.row.lt k hk).1
     have d0:=HR2.out.c0;have d1:=HR2.out.c1;have d2:=HR2.out.c2;have d3:=HR2.out.c3
     simp only at d0 d1 d2 d3
     have j3:=show Hid (∀ (o:Obj) (w':World),(w2.drew.alloc o).grownBy w' (Value.slice p t.length cp).ownBlock->w'.heap[c]?=w2.heap[c]?) from fun o w' hg=>(hg.block c (by have:=HT2.out.oG;simp;omega) (fun e=>HT2.out.uc e.symm)).trans (Below.heap_alloc w2.drew _ _ HT2.out.oG)
     have HST:=show Hid (∀ w':World,(w2.drew.alloc (Obj.cells #[.int .i64 3,.string s,.int .i64 l,.int .i64 q] 67)).grownBy w' (Value.slice p t.length cp).ownBlock->∀ (j:Nat) (x:Value),w2.cell? ⟨c,j,none⟩=some x->w'.cell? ⟨c,j,none⟩=some x) from fun w' hg j x hx=>(World.cell?_of_block (w:=w2) (j3.out _ w' hg)).trans hx
     have kL:=show Hid (∀ w':World,(w2.drew.alloc (Obj.cells #[.int .i64 3,.string s,.int .i64 l,.int .i64 q] 67)).grownBy w' (Value.slice p t.length cp).ownBlock->∀ (j:Nat),w'.frozen? ⟨c,j,none⟩=false) from fun w' hg j=>(World.frozen?_of_block (w:=w2) (a:=⟨c,j,none⟩) (j3.out _ w' hg)).trans (HT2.out.fr j)
     have c0a:(w2.alloc (Obj.cells #[.int .i64 3,.string s,.int .i64 l,.int .i64 q] 67)).cell? ⟨c,0,none⟩=some (.slice p t.length cp):=(World.cell?_of_block (w:=w2) (Below.heap_alloc w2 _ _ HT2.out.oG)).trans c0
     go_wp2_with fail
     go_region_law (refine jo rfl (.tmp 78) (.tmp 80) rfl (.slice p t.length cp) t rfl (HRW.out _) (by omega) ⟨3,s,l,q⟩ ⟨w2.heap.size,0,none⟩ rfl (lI _ _ _ _ rfl) ?_;intro v' w' hrw hgr pI;obtain⟨p',c',hv'⟩:=hrw.form;subst hv';have f0:w'.cell? ⟨c,0,none⟩=some (.slice p t.length cp):=HST.out w' hgr 0 _ c0;have f1:w'.frozen? ⟨c,0,none⟩=false:=kL.out w' hgr 0)
     all_goals
      have X:=zi HT2.out (by exact⟨rfl,rfl,rfl,by simp,fun k hk=>Below.heap_alloc w2 _ _ hk⟩) hgr hrw pI tC.out
      rw[show(t ++ [(⟨3,s,l,q⟩:Nd)]).length=t.length+1 by simp] at X
      have y0:=X.1.c0
      generalize w'.setCell ⟨c,0,none⟩ (.slice p' (t.length+1) c')=w3 at *
      have HX:=show Hid (bZ w c (.slice p t.length cp) (t ++ [(⟨3,s,l,q⟩:Nd)]) w3) from bZ.kF ⟨_,X⟩ HB2.out
      clear X hrw hgr pI f0 f1 c0a kL HST j3 HRW
      go_wp2_with fail
      go_ret2
      exact⟨by simp,HX.out⟩
   ·have hmm:=HD2.out.1 rfl
    have hr:=HE2.out
    rw[if_pos hmm.1,<- hmm.2] at hr
    subst hr
    clear hmm HE2 HD2
    go_wp2_with fail
    go_ret2
    exact⟨rfl,bZ.of_below gW.out HB2.out⟩
  ·go_enter Tryz.func35,Tryz.ntmps35
   go_wp2_with fail
   rw[<- hw0]
   clear hw0
   refine(KH.out _ HB.out _).mono ?_
   rintro e w1 ⟨rfl,hw1⟩
   subst w1
   rw[h2]
   have d0:=HR.out.c0;have d1:=HR.out.c1;have d2:=HR.out.c2;have d3:=HR.out.c3
   simp only at d0 d1 d2 d3
   go_wp2_with fail
   refine(KH.out _ HB.out _).mono ?_
   rintro e w1 ⟨rfl,hw1⟩
   subst w1
   rw[h3]
   clear d0 d1 d2 d3
   have d0:=HR.out.c0;have d1:=HR.out.c1;have d2:=HR.out.c2;have d3:=HR.out.c3
   simp only at d0 d1 d2 d3
   go_wp2_with fail
   refine(KF.out _ HB.out).mono ?_
   rintro e w2 ⟨rfl,hb2⟩
   have hltx:w.heap.size<w0.heap.size:=lt_of_block HR.out
   have HB2:=show Hid (Below w.heap.size w w2) from HB.out.trans (hb2.mono (by omega))
   have HR2:=show Hid (N4 w2 w.heap.size ⟨4,s,l,q⟩) from(hb2.block _ hltx).trans HR.out
   have HT2:=show Hid (Tr w2 c (.slice p t.length cp) t) from gW.out.later HB2.out
   have hlt2:w.heap.size<w2.heap.size:=lt_of_block HR2.out
   clear hb2 hltx d0 d1 d2 d3 KF HB HR
   have c0:=HT2.out.c0
   have hr:=HE.out
   rw[if_pos (by first|rfl | trivial)] at hr
   have HE2:=show Hid _ from hr
   have sD:=HD.out
   obtain⟨dm,jw⟩:∃ dm,dm=decide ((⟨4,s,l,q⟩:Nd) ∈ t):=⟨_,rfl⟩
   obtain⟨nu,hnu⟩:∃ nu,nu=numOf t (⟨4,s,l,q⟩:Nd):=⟨_,rfl⟩
   have HD2:=show Hid ((dm=true->(⟨4,s,l,q⟩:Nd) ∈ t/\nu=(t.idxOf (⟨4,s,l,q⟩:Nd):Int))/\(dm=false->(⟨4,s,l,q⟩:Nd) ∉ t)) from sD dm nu jw hnu
   rw[<- jw,<- hnu]
   clear hr HE kQ jw hnu sD HD
   cases dm
   ·have hnm:=HD2.out.2 rfl
    have tu:=show Hid ((⟨4,s,l,q⟩:Nd) ∉ t) from hnm
    have hr:=HE2.out
    rw[if_neg hnm] at hr
    have jY:=show Hid _ from hr
    clear hr hnm HE2 HD2
    by_cases hfull:1024<=t.length
    ·have hr:=jY.out
     rw[if_pos hfull] at hr
     subst hr
     have hfi:(1024:Int)<=(t.length:Int):=by omega
     clear jY
     go_wp2_with fail
     go_ret2
     exact⟨rfl,bZ.of_below gW.out HB2.out⟩
    ·have hr:=jY.out
     rw[if_neg hfull] at hr
     subst hr
     have hfi:(t.length:Int)<1024:=by omega
     have tC:=show Hid (Fm.Ok (t ++ [(⟨4,s,l,q⟩:Nd)])) from lJ.out (by first|rfl | trivial) tu.out hfull
     clear jY
     have HRW:=show Hid (∀ o,Rw (w2.drew.alloc o) (.slice p t.length cp) t) from fun o=>HT2.out.row.keep fun k hk=>Below.heap_alloc w2.drew _ _ (HT2.out.row.lt k hk).1
     have d0:=HR2.out.c0;have d1:=HR2.out.c1;have d2:=HR2.out.c2;have d3:=HR2.out.c3
     simp only at d0 d1 d2 d3
     have j3:=show Hid (∀ (o:Obj) (w':World),(w2.drew.alloc o).grownBy w' (Value.slice p t.length cp).ownBlock->w'.heap[c]?=w2.heap[c]?) from fun o w' hg=>(hg.block c (by have:=HT2.out.oG;simp;omega) (fun e=>HT2.out.uc e.symm)).trans (Below.heap_alloc w2.drew _ _ HT2.out.oG)
     have HST:=show Hid (∀ w':World,(w2.drew.alloc (Obj.cells #[.int .i64 4,.string s,.int .i64 l,.int .i64 q] 67)).grownBy w' (Value.slice p t.length cp).ownBlock->∀ (j:Nat) (x:Value),w2.cell? ⟨c,j,none⟩=some x->w'.cell? ⟨c,j,none⟩=some x) from fun w' hg j x hx=>(World.cell?_of_block (w:=w2) (j3.out _ w' hg)).trans hx
     have kL:=show Hid (∀ w':World,(w2.drew.alloc (Obj.cells #[.int .i64 4,.string s,.int .i64 l,.int .i64 q] 67)).grownBy w' (Value.slice p t.length cp).ownBlock->∀ (j:Nat),w'.frozen? ⟨c,j,none⟩=false) from fun w' hg j=>(World.frozen?_of_block (w:=w2) (a:=⟨c,j,none⟩) (j3.out _ w' hg)).trans (HT2.out.fr j)
     have c0a:(w2.alloc (Obj.cells #[.int .i64 4,.string s,.int .i64 l,.int .i64 q] 67)).cell? ⟨c,0,none⟩=some (.slice p t.length cp):=(World.cell?_of_block (w:=w2) (Below.heap_alloc w2 _ _ HT2.out.oG)).trans c0
     go_wp2_with fail
     go_region_law (refine jo rfl (.tmp 78) (.tmp 80) rfl (.slice p t.length cp) t rfl (HRW.out _) (by omega) ⟨4,s,l,q⟩ ⟨w2.heap.size,0,none⟩ rfl (lI _ _ _ _ rfl) ?_;intro v' w' hrw hgr pI;obtain⟨p',c',hv'⟩:=hrw.form;subst hv';have f0:w'.cell? ⟨c,0,none⟩=some (.slice p t.length cp):=HST.out w' hgr 0 _ c0;have f1:w'.frozen? ⟨c,0,none⟩=false:=kL.out w' hgr 0)
     all_goals
      have X:=zi HT2.out (by exact⟨rfl,rfl,rfl,by simp,fun k hk=>Below.heap_alloc w2 _ _ hk⟩) hgr hrw pI tC.out
      rw[show(t ++ [(⟨4,s,l,q⟩:Nd)]).length=t.length+1 by simp] at X
      have y0:=X.1.c0
      generalize w'.setCell ⟨c,0,none⟩ (.slice p' (t.length+1) c')=w3 at *
      have HX:=show Hid (bZ w c (.slice p t.length cp) (t ++ [(⟨4,s,l,q⟩:Nd)]) w3) from bZ.kF ⟨_,X⟩ HB2.out
      clear X hrw hgr pI f0 f1 c0a kL HST j3 HRW
      go_wp2_with fail
      go_ret2
      exact⟨by simp,HX.out⟩
   ·have hmm:=HD2.out.1 rfl
    have hr:=HE2.out
    rw[if_pos hmm.1,<- hmm.2] at hr
    subst hr
    clear hmm HE2 HD2
    go_wp2_with fail
    go_ret2
    exact⟨rfl,bZ.of_below gW.out HB2.out⟩
  ·go_enter Tryz.func35,Tryz.ntmps35
   go_wp2_with fail
   rw[<- hw0]
   clear hw0
   refine(KH.out _ HB.out _).mono ?_
   rintro e w1 ⟨rfl,hw1⟩
   subst w1
   rw[h2]
   have d0:=HR.out.c0;have d1:=HR.out.c1;have d2:=HR.out.c2;have d3:=HR.out.c3
   simp only at d0 d1 d2 d3
   go_wp2_with fail
   refine(KH.out _ HB.out _).mono ?_
   rintro e w1 ⟨rfl,hw1⟩
   subst w1
   rw[h3]
   clear d0 d1 d2 d3
   have d0:=HR.out.c0;have d1:=HR.out.c1;have d2:=HR.out.c2;have d3:=HR.out.c3
   simp only at d0 d1 d2 d3
   go_wp2_with fail
   refine(KF.out _ HB.out).mono ?_
   rintro e w2 ⟨rfl,hb2⟩
   have hltx:w.heap.size<w0.heap.size:=lt_of_block HR.out
   have HB2:=show Hid (Below w.heap.size w w2) from HB.out.trans (hb2.mono (by omega))
   have HR2:=show Hid (N4 w2 w.heap.size ⟨5,s,l,q⟩) from(hb2.block _ hltx).trans HR.out
   have HT2:=show Hid (Tr w2 c (.slice p t.length cp) t) from gW.out.later HB2.out
   have hlt2:w.heap.size<w2.heap.size:=lt_of_block HR2.out
   clear hb2 hltx d0 d1 d2 d3 KF HB HR
   have c0:=HT2.out.c0
   have hr:=HE.out
   rw[if_pos (by first|rfl | trivial)] at hr
   have HE2:=show Hid _ from hr
   have sD:=HD.out
   obtain⟨dm,jw⟩:∃ dm,dm=decide ((⟨5,s,l,q⟩:Nd) ∈ t):=⟨_,rfl⟩
   obtain⟨nu,hnu⟩:∃ nu,nu=numOf t (⟨5,s,l,q⟩:Nd):=⟨_,rfl⟩
   have HD2:=show Hid ((dm=true->(⟨5,s,l,q⟩:Nd) ∈ t/\nu=(t.idxOf (⟨5,s,l,q⟩:Nd):Int))/\(dm=false->(⟨5,s,l,q⟩:Nd) ∉ t)) from sD dm nu jw hnu
   rw[<- jw,<- hnu]
   clear hr HE kQ jw hnu sD HD
   cases dm
   ·have hnm:=HD2.out.2 rfl
    have tu:=show Hid ((⟨5,s,l,q⟩:Nd) ∉ t) from hnm
    have hr:=HE2.out
    rw[if_neg hnm] at hr
    have jY:=show Hid _ from hr
    clear hr hnm HE2 HD2
    by_cases hfull:1024<=t.length
    ·have hr:=jY.out
     rw[if_pos hfull] at hr
     subst hr
     have hfi:(1024:Int)<=(t.length:Int):=by omega
     clear jY
     go_wp2_with fail
     go_ret2
     exact⟨rfl,bZ.of_below gW.out HB2.out⟩
    ·have hr:=jY.out
     rw[if_neg hfull] at hr
     subst hr
     have hfi:(t.length:Int)<1024:=by omega
     have tC:=show Hid (Fm.Ok (t ++ [(⟨5,s,l,q⟩:Nd)])) from lJ.out (by first|rfl | trivial) tu.out hfull
     clear jY
     have HRW:=show Hid (∀ o,Rw (w2.drew.alloc o) (.slice p t.length cp) t) from fun o=>HT2.out.row.keep fun k hk=>Below.heap_alloc w2.drew _ _ (HT2.out.row.lt k hk).1
     have d0:=HR2.out.c0;have d1:=HR2.out.c1;have d2:=HR2.out.c2;have d3:=HR2.out.c3
     simp only at d0 d1 d2 d3
     have j3:=show Hid (∀ (o:Obj) (w':World),(w2.drew.alloc o).grownBy w' (Value.slice p t.length cp).ownBlock->w'.heap[c]?=w2.heap[c]?) from fun o w' hg=>(hg.block c (by have:=HT2.out.oG;simp;omega) (fun e=>HT2.out.uc e.symm)).trans (Below.heap_alloc w2.drew _ _ HT2.out.oG)
     have HST:=show Hid (∀ w':World,(w2.drew.alloc (Obj.cells #[.int .i64 5,.string s,.int .i64 l,.int .i64 q] 67)).grownBy w' (Value.slice p t.length cp).ownBlock->∀ (j:Nat) (x:Value),w2.cell? ⟨c,j,none⟩=some x->w'.cell? ⟨c,j,none⟩=some x) from fun w' hg j x hx=>(World.cell?_of_block (w:=w2) (j3.out _ w' hg)).trans hx
     have kL:=show Hid (∀ w':World,(w2.drew.alloc (Obj.cells #[.int .i64 5,.string s,.int .i64 l,.int .i64 q] 67)).grownBy w' (Value.slice p t.length cp).ownBlock->∀ (j:Nat),w'.frozen? ⟨c,j,none⟩=false) from fun w' hg j=>(World.frozen?_of_block (w:=w2) (a:=⟨c,j,none⟩) (j3.out _ w' hg)).trans (HT2.out.fr j)
     have c0a:(w2.alloc (Obj.cells #[.int .i64 5,.string s,.int .i64 l,.int .i64 q] 67)).cell? ⟨c,0,none⟩=some (.slice p t.length cp):=(World.cell?_of_block (w:=w2) (Below.heap_alloc w2 _ _ HT2.out.oG)).trans c0
     go_wp2_with fail
     go_region_law (refine jo rfl (.tmp 78) (.tmp 80) rfl (.slice p t.length cp) t rfl (HRW.out _) (by omega) ⟨5,s,l,q⟩ ⟨w2.heap.size,0,none⟩ rfl (lI _ _ _ _ rfl) ?_;intro v' w' hrw hgr pI;obtain⟨p',c',hv'⟩:=hrw.form;subst hv';have f0:w'.cell? ⟨c,0,none⟩=some (.slice p t.length cp):=HST.out w' hgr 0 _ c0;have f1:w'.frozen? ⟨c,0,none⟩=false:=kL.out w' hgr 0)
     all_goals
      have X:=zi HT2.out (by exact⟨rfl,rfl,rfl,by simp,fun k hk=>Below.heap_alloc w2 _ _ hk⟩) hgr hrw pI tC.out
      rw[show(t ++ [(⟨5,s,l,q⟩:Nd)]).length=t.length+1 by simp] at X
      have y0:=X.1.c0
      generalize w'.setCell ⟨c,0,none⟩ (.slice p' (t.length+1) c')=w3 at *
      have HX:=show Hid (bZ w c (.slice p t.length cp) (t ++ [(⟨5,s,l,q⟩:Nd)]) w3) from bZ.kF ⟨_,X⟩ HB2.out
      clear X hrw hgr pI f0 f1 c0a kL HST j3 HRW
      go_wp2_with fail
      go_ret2
      exact⟨by simp,HX.out⟩
   ·have hmm:=HD2.out.1 rfl
    have hr:=HE2.out
    rw[if_pos hmm.1,<- hmm.2] at hr
    subst hr
    clear hmm HE2 HD2
    go_wp2_with fail
    go_ret2
    exact⟨rfl,bZ.of_below gW.out HB2.out⟩
 ·have hr:=kQ.out (by decide)
  subst hr
  clear HE kQ lJ HD
  go_enter Tryz.func35,Tryz.ntmps35
  go_wp2_with fail
  go_ret2
  exact⟨rfl,bZ.of_below gW.out (ak _ _)⟩
def GH (w w':World) (e:Ending) (r:Int × List Nd):Prop :=
 (r.1=0/\∃ C u,e=.returned (.tuple #[.pointer (some ⟨C,0,none⟩),.int .i64 0])/\Tr w' C u r.2/\∀ k,Fr C u k->w.heap.size<=k) \/
 (r.1≠0/\e=.returned (.tuple #[.pointer none,.int .i64 r.1]))
theorem Lp (w:World) (rv:Value) (rs:List Nd) (hR:lH w rv rs) (hg:∀ n ∈ rs,Fm.good n) (hl:rs.length<=140737488351232) :
 Calls Tryz.prog 16 #[rv] w fun e w'=>GH w w' e (Fm.fr [] rs)/\Below w.heap.size w w':=by
 have KP:=show Hid (∀ (w1:World) (c:Nat) (u:Value) (t:List Nd),Tr w1 c u t->∀ n,Fm.good n->Calls Tryz.prog 35 #[.pointer (some ⟨c,0,none⟩),.agg #[.int .i64 n.k,.string n.s,.int .i64 n.l,.int .i64 n.r]] w1 fun e w'=>e=.returned (.tuple #[.int .i64 (Fm.put t n).1,.int .i64 (Fm.put t n).2.1])/\bZ w1 c u (Fm.put t n).2.2 w') from fun w1 c u t h n hn=>xZ w1 h n hn
 have HX:=show Hid (Fm.fr [] (rs.drop 0)=Fm.fr [] rs) from by rw[List.drop_zero];rfl
 have HG:=show Hid (∀ n ∈ rs,Fm.good n) from hg
 generalize Fm.fr [] rs=ans at *
 obtain⟨p,c,rfl,hc1,hc2,hat⟩:=hR.at
 have HA:=show Hid (0<rs.length->∃ b o,p=some ⟨b,o,none⟩/\∀ w',Below w.heap.size w w'->∀ k (hk:k<rs.length),FZ w' b (o+k * 4) rs[k]) from hat
 have HT0:=show Hid (Tr (w.alloc (Obj.cells #[.slice none 0 0] 89)) w.heap.size (.slice none 0 0) []) from⟨heap_alloc_new _ _,JW _,Fm.JV⟩
 clear hR hg hat
 go_enter Tryz.func16,Tryz.ntmps16
 go_wp2_with fail
 go_loopw [5] (fun i wr=>∃ (t:List Nd) (v:Value),t.length<=rs.length/\i=.int .i64 (t.length:Int)/\Hid (Fm.fr t (rs.drop t.length)=ans)/\Hid (Tr wr w.heap.size v t/\∀ k,v.ownBlock=some k->w.heap.size<=k)/\Hid (Below w.heap.size w wr)) (fun i _=>rs.length - (intOf i).toNat)
 case atStart=>exact⟨[],.slice none 0 0,by simp,rfl,HX,⟨HT0.out,fun k hk=>by simp[Value.ownBlock] at hk⟩,ak _ _⟩
 case round=>
  obtain⟨t,v,hk,rfl,HF,HT,HB⟩:=hrel
  clear HX HT0
  by_cases hlt:t.length<rs.length
  ·obtain⟨rb,ro,rfl,hat⟩:=HA.out (by omega)
   have hA:=hat wr HB.out t.length hlt
   have Gy:=show Hid (Fm.good rs[t.length]) from HG.out _ (List.getElem_mem hlt)
   have hst:=HF.out
   rw[List.drop_eq_getElem_cons hlt,Gx] at hst
   generalize rs[t.length]=nd at *
   have HST:=show Hid _ from hst
   have xA:=show Hid (Fm.put t nd |>.2.1=0->(Fm.put t nd).1=t.length->(Fm.put t nd).2.2.length=t.length+1) from fun h1 h2=>Df h1 h2
   obtain⟨nk,ns,nl,nr⟩:=nd
   have a0:=hA.c0;have a1:=hA.c1;have a2:=hA.c2;have a3:=hA.c3
   simp only at a0 a1 a2 a3
   have hki:(t.length:Int)<(rs.length:Int):=by omega
   clear hat hA hst HF
   have tL:=show Hid (Calls Tryz.prog 35 #[.pointer (some ⟨w.heap.size,0,none⟩),.agg #[.int .i64 nk,.string ns,.int .i64 nl,.int .i64 nr]] wr fun e w'=>e=.returned (.tuple #[.int .i64 (Fm.put t ⟨nk,ns,nl,nr⟩).1,.int .i64 (Fm.put t ⟨nk,ns,nl,nr⟩).2.1])/\bZ wr w.heap.size v (Fm.put t ⟨nk,ns,nl,nr⟩).2.2 w') from KP.out _ _ _ _ HT.out.1 ⟨nk,ns,nl,nr⟩ Gy.out
   generalize Fm.put t ⟨nk,ns,nl,nr⟩=pr at *
   obtain⟨p1,p2,p3⟩:=pr
   simp only at tL xA
   go_wp2_with fail
   refine tL.out.mono ?_
   rintro e w2 ⟨rfl,v2,kP,hL2,hK2⟩
   have HB2:=show Hid (Below w.heap.size w w2) from HB.out.trans (hK2.below HB.out.size (by
    rintro k (e | e)
    ·omega
    ·exact HT.out.2 k e))
   have HT2:=show Hid (Tr w2 w.heap.size v2 p3/\∀ k,v2.ownBlock=some k->w.heap.size<=k) from⟨kP,fun k hk=>by
    rcases hL2 k hk with h | h
    ·exact HT.out.2 k h
    ·have:=HB.out.size
     omega⟩
   clear kP hL2 hK2 tL HB HT
   by_cases h0:p2=0
   ·subst h0
    have hst:=HST.out
    rw[if_pos rfl] at hst
    by_cases h1:p1=t.length
    ·subst h1
     rw[if_pos rfl] at hst
     have hgw:=xA.out rfl rfl
     have tF:=show Hid (Fm.fr p3 (rs.drop p3.length)=ans) from by rw[hgw];exact hst
     have Le:=show Hid (p3.length=t.length+1) from hgw
     clear hst hgw HST xA
     go_wp2_with fail
     go_roundw
     case rel=>exact⟨p3,v2,by have:=Le.out;omega,by rw[Le.out];go_num,tF,HT2,HB2⟩
     case measure=>first|(simp[intOf];done)|(simp[intOf];omega)
    ·rw[if_neg h1] at hst
     have hne:(p1 != (t.length:Int))=true:=by simp[h1]
     subst hst
     go_wp2_with fail
     go_ret2
     exact⟨Or.inr ⟨by simp,rfl⟩,HB2.out⟩
   ·have hst:=HST.out
    rw[if_neg h0] at hst
    have hne:(p2 != 0)=true:=by simp[h0]
    subst hst
    go_wp2_with fail
    go_ret2
    exact⟨Or.inr ⟨h0,rfl⟩,HB2.out⟩
  ·have hke:t.length=rs.length:=by omega
   have hst:=HF.out
   rw[hke,List.drop_length,Fm.fr] at hst
   subst hst
   have hki:¬ (t.length:Int)<(rs.length:Int):=by omega
   clear hke
   go_wp2_with fail
   go_ret2
   refine⟨Or.inl ⟨rfl,w.heap.size,v,rfl,HT.out.1,?_⟩,HB.out⟩
   rintro k (e | e)
   ·omega
   ·exact HT.out.2 k e
structure Pair (w0 w:World) (b m:Nat) (v:Value) (c:Nat) (u:Value) (t r:List Nd):Prop where
 tb:Tb w b m v t
 tr:Tr w c u r
 Ud:∀ k,v.ownBlock=some k->u.ownBlock≠some k
 bt:∀ k,Ft b m v k->w0.heap.size<=k
 br:∀ k,Fr c u k->w0.heap.size<=k
 av:Below w0.heap.size w0 w
section
variable {w0 w w2:World} {b m c:Nat} {v u:Value} {t r t' r':List Nd}
theorem Pair.apart (h:Pair w0 w b m v c u t r):∀ k,Ft b m v k->¬ Fr c u k:=by
 have hc:=h.tr.tab
 have hb:=h.tb.tab
 obtain⟨D,⟨es,cl,hm,_⟩,_⟩:=h.tb.map
 rintro k (rfl | rfl | e) (rfl | e')
 ·rw[hb] at hc;simp at hc
 ·obtain⟨_,cur,hh⟩:=h.tr.row.lt k e'
  rw[hb] at hh;simp at hh
 ·rw[hm] at hc;cases hc
 ·obtain⟨_,cur,hh⟩:=h.tr.row.lt k e'
  rw[hm] at hh;cases hh
 ·obtain⟨_,cur,hh⟩:=h.tb.row.lt k e
  rw[hc] at hh;simp at hh
 ·exact h.Ud k e e'
theorem Pair.stepT (h:Pair w0 w b m v c u t r) (ha:After w b m v t' w2):∃ v',Pair w0 w2 b m v' c u t' r:=by
 obtain⟨v',hT,hL,hK⟩:=ha
 refine⟨v',hT,h.tr.keep fun k hk=>hK.block k (h.tr.foot k hk) (fun hf=>h.apart k hf hk),fun k hk e => ?_,?_,h.br,h.av.trans (hK.below h.av.size h.bt)⟩
 ·rcases hL k hk with h1 | h1
  ·exact h.Ud k h1 e
  ·have:=(h.tr.row.lt k e).1
   omega
 ·rintro k (e | e | e)
  ·exact h.bt k (Or.inl e)
  ·exact h.bt k (Or.inr (Or.inl e))
  ·rcases hL k e with h1 | h1
   ·exact h.bt k (Or.inr (Or.inr h1))
   ·exact Nat.le_trans h.av.size h1
theorem Pair.later (h:Pair w0 w b m v c u t r) (hb:Below w.heap.size w w2):Pair w0 w2 b m v c u t r :=
 ⟨h.tb.later hb,h.tr.later hb,h.Ud,h.bt,h.br,h.av.trans (hb.mono h.av.size)⟩
end
def Lr (w w':World) (e:Ending) (r:Int × List Nd):Prop :=
 (r.1=0/\∃ B M v C u,e=.returned (.tuple #[.pointer (some ⟨B,0,none⟩),.pointer (some ⟨C,0,none⟩),.bool true])/\Pair w w' B M v C u r.2 r.2) \/
 (r.1≠0/\e=.returned (.tuple #[.pointer none,.pointer none,.bool false])/\Below w.heap.size w w')
theorem Oa (w:World) (rv:Value) (rs:List Nd) (hR:lH w rv rs) (hg:∀ n ∈ rs,Fm.good n) (hl:rs.length * 40<=140737488351232) (hv:rv=.slice none 0 0\/∃ a n c,rv=.slice (some a) n c) :
 Calls Tryz.prog 5 #[rv] w fun e w'=>Lr w w' e (Fm.fr [] rs):=by
 have HRR:=show Hid (lH w rv rs) from hR
 have HG:=show Hid (∀ n ∈ rs,Fm.good n) from hg
 have KF:=show Hid (∀ (w':World) (x:Value),lH w' x rs->Calls Tryz.prog 17 #[x] w' fun e w''=>Ld w' w'' e (Fm.fr [] rs)/\Below w'.heap.size w' w'') from fun w' x hx=>Dg w' x rs hx hg (by omega)
 have KG:=show Hid (∀ (w':World) (x:Value),lH w' x rs->Calls Tryz.prog 16 #[x] w' fun e w''=>GH w' w'' e (Fm.fr [] rs)/\Below w'.heap.size w' w'') from fun w' x hx=>Lp w' x rs hx hg (by omega)
 generalize Fm.fr [] rs=ans at *
 obtain⟨i0,hi,hz0,hz1,hz2⟩:=info_parts AJ
 rcases hv with rfl | ⟨a,n,c,rfl⟩
 ·have hrs:rs=[]:=by
   obtain⟨p,c,hv,_⟩:=hR
   exact List.eq_nil_of_length_eq_zero (Value.slice.inj hv).2.1.symm
  subst hrs
  clear hR hg
  go_enter Tryz.func5,Tryz.ntmps5
  go_wp2_with fail
  have HB1:=show Hid (Below w.heap.size w (w.alloc (Obj.cells #[] 67))) from ak _ _
  have Ls:=show Hid (lH (w.alloc (Obj.cells #[] 67)) (.slice (some ⟨w.heap.size,0,none⟩) 0 0) []) from⟨_,0,rfl,by simp,by omega,fun h=>by simp at h⟩
  have HR1:=show Hid (lH (w.alloc (Obj.cells #[] 67)) (.slice none 0 0) []) from HRR.out.later (ak _ _)
  generalize w.alloc (Obj.cells #[] 67)=w1 at *
  clear HRR
  refine(KG.out _ _ HR1.out).mono ?_
  rintro e w2 ⟨hF,hb2⟩
  have HB2:=show Hid (Below w.heap.size w w2) from HB1.out.trans (hb2.mono HB1.out.size)
  have pQ:=show Hid (lH w2 (.slice (some ⟨w.heap.size,0,none⟩) 0 0) []) from Ls.out.later hb2
  have nW:=show Hid (w.heap.size<=w1.heap.size) from HB1.out.size
  rcases hF with ⟨h0,C,u,rfl,hT,hf⟩ | ⟨h0,rfl⟩
  ·obtain⟨a1,a2⟩:=ans
   simp only at h0 hT
   subst h0
   have HT:=show Hid (Tr w2 C u a2/\∀ k,Fr C u k->w.heap.size<=k) from⟨hT,fun k hk=>Nat.le_trans nW.out (hf k hk)⟩
   clear hT hf hb2 KG Ls HR1
   go_wp2_with fail
   refine(KF.out _ _ pQ.out).mono ?_
   rintro e w3 ⟨hF,hb3⟩
   rcases hF with ⟨h0,B,M,v,rfl,Lu,hf3⟩ | ⟨h0,rfl⟩
   ·have HP:=show Hid (Pair w w3 B M v C u a2 a2) from⟨Lu,HT.out.1.later hb3,fun k hk e=>by
     have h1:=hf3 k (Or.inr (Or.inr hk))
     have h2:=(HT.out.1.row.lt k e).1
     omega,fun k hk=>Nat.le_trans HB2.out.size (hf3 k hk),HT.out.2,HB2.out.trans (hb3.mono HB2.out.size)⟩
    clear Lu hf3 hb3 KF
    go_wp2_with fail
    refine bodyPost_ret (v:=.tuple #[.pointer (some ⟨B,0,none⟩),.pointer (some ⟨C,0,none⟩),.bool true]) (by simp[results,Tryz.results5,go_sem]) rfl ?_
    exact Or.inl ⟨rfl,B,M,v,C,u,rfl,HP.out⟩
   ·exact absurd rfl h0
  ·have hne:(ans.1 != 0)=true:=by simp[h0]
   clear hb2
   go_wp2_with fail
   refine bodyPost_ret (v:=.tuple #[.pointer none,.pointer none,.bool false]) (by simp[results,Tryz.results5,go_sem]) rfl ?_
   exact Or.inr ⟨h0,rfl,HB2.out⟩
 ·have hn:n=rs.length:=by
   obtain⟨p,c,hv,_⟩:=hR
   exact(Value.slice.inj hv).2.1
  subst hn
  have uG:=show Hid (∀ j u,(cellsOf rs)[j]?=some u->(w.alloc (Obj.cells #[] 67)).cell? (a.add j)=some u) from Rk (hR.later (ak _ _))
  obtain⟨xs,hxs⟩:∃ xs,xs=cellsOf rs:=⟨_,rfl⟩
  have Gh:=show Hid (xs=cellsOf rs) from hxs
  rw[<- hxs] at uG
  have yQ:=show Hid (xs.length=rs.length * 4) from by rw[hxs];exact jg rs
  have aB:=show Hid (∀ u ∈ xs,u.oneCell'=true) from by rw[hxs];exact E9 rs
  clear hxs hR hg
  go_enter Tryz.func5,Tryz.ntmps5
  go_wp2_with (at_builtin;refine wpList_append_own_at _ rfl (.tmp 10) (.tmp 11) 22 rfl w.heap.size 67 i0 _ 4 40 Tryz.underlying22 hi hz0 hz1 hz2 rfl (by decide) (.slice (some ⟨w.heap.size,0,none⟩) 0 0) 0 [] rfl (World.ownsRow_made w #[] 0 (Nat.le_refl _) (Nat.zero_le _) rfl) a rs.length c xs rfl yQ.out uG.out aB.out (by unfold maxLen;omega) (by omega) (by simp) ?_)
  intro v' w1 hown hgr hnil hat
  have hbel:Below w.heap.size w w1:=(ak _ _).grown hgr (by simp) (fun k hk=>by cases hk;exact Nat.le_refl _)
  have hrw:Rw w1 v' rs:=(Ky (by rw[<- Gh.out];exact hown)).1
  have HB1:=show Hid (Below w.heap.size w w1) from hbel
  have Ls:=show Hid (lH w1 v' rs) from hrw.Ga
  have HR1:=show Hid (lH w1 (.slice (some a) rs.length c) rs) from HRR.out.later hbel
  clear hown hgr hnil hat hbel hrw Gh yQ aB uG HRR
  go_wp2_with fail
  refine(KG.out _ _ HR1.out).mono ?_
  rintro e w2 ⟨hF,hb2⟩
  have HB2:=show Hid (Below w.heap.size w w2) from HB1.out.trans (hb2.mono HB1.out.size)
  have pQ:=show Hid (lH w2 v' rs) from Ls.out.later hb2
  have nW:=show Hid (w.heap.size<=w1.heap.size) from HB1.out.size
  rcases hF with ⟨h0,C,u,rfl,hT,hf⟩ | ⟨h0,rfl⟩
  ·obtain⟨a1,a2⟩:=ans
   simp only at h0 hT
   subst h0
   have HT:=show Hid (Tr w2 C u a2/\∀ k,Fr C u k->w.heap.size<=k) from⟨hT,fun k hk=>Nat.le_trans nW.out (hf k hk)⟩
   clear hT hf hb2 KG Ls HR1
   go_wp2_with fail
   refine(KF.out _ _ pQ.out).mono ?_
   rintro e w3 ⟨hF,hb3⟩
   rcases hF with ⟨h0,B,M,v,rfl,Lu,hf3⟩ | ⟨h0,rfl⟩
   ·have HP:=show Hid (Pair w w3 B M v C u a2 a2) from⟨Lu,HT.out.1.later hb3,fun k hk e=>by
     have h1:=hf3 k (Or.inr (Or.inr hk))
     have h2:=(HT.out.1.row.lt k e).1
     omega,fun k hk=>Nat.le_trans HB2.out.size (hf3 k hk),HT.out.2,HB2.out.trans (hb3.mono HB2.out.size)⟩
    clear Lu hf3 hb3 KF
    go_wp2_with fail
    refine bodyPost_ret (v:=.tuple #[.pointer (some ⟨B,0,none⟩),.pointer (some ⟨C,0,none⟩),.bool true]) (by simp[results,Tryz.results5,go_sem]) rfl ?_
    exact Or.inl ⟨rfl,B,M,v,C,u,rfl,HP.out⟩
   ·exact absurd rfl h0
  ·have hne:(ans.1 != 0)=true:=by simp[h0]
   clear hb2
   go_wp2_with fail
   refine bodyPost_ret (v:=.tuple #[.pointer none,.pointer none,.bool false]) (by simp[results,Tryz.results5,go_sem]) rfl ?_
   exact Or.inr ⟨h0,rfl,HB2.out⟩
end Go.Proofs.YtkpbpecikibohaaGreatDoor
