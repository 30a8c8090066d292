/-
  The document's has: of any names. No condition.
-/
import Derived.Test.YtoedidbbjnnpnaaQWBf
namespace Go.Proofs.Ytoedidbbjnnpnaa.Wm
open Go.RowKit Go.Maps
open Wd (Md allW upd)
set_option linter.unusedSimpArgs false
theorem inS_mem {s:ByteArray} {l:List ByteArray} (h:s ∈ l):inS s l=true:=by
 unfold inS
 exact List.any_eq_true.2 ⟨s,h,by simp⟩
theorem inS_not {s:ByteArray} {l:List ByteArray} (h:s ∉ l):inS s l=false:=by
 unfold inS
 refine List.any_eq_false.2 fun x hx e=>h ?_
 have e1:x.data.toList=s.data.toList:=by simpa using e
 rw [← ba_ext e1]
 exact hx
set_option maxRecDepth 100000 in
set_option maxHeartbeats 2000000 in
theorem has_ref (w:World) {L:Nat} {v:Value} {l:List ByteArray} (hl:IsN w L v l) (hL:L≤w.heap.size) (hlen:l.length≤140737488351232) (s:ByteArray) :
 Calls Try.prog 60 #[v,.string s] w fun e w'=>e=.returned (.bool (inS s l))∧Below w.heap.size w w':=by
 obtain ⟨p,c,rfl,hat⟩:=hl
 have HA:=show Hid (∀ (k:Nat) (hk:k<l.length),∃ b o,b<w.heap.size∧p=some ⟨b,o,none⟩∧w.cell? ⟨b,o+k,none⟩=some (.string l[k])) from fun k hk=>by
  obtain ⟨b,o,hb,e,h⟩:=hat (by omega)
  obtain ⟨x,hx,rfl⟩:=h k hk
  exact ⟨b,o,by omega,e,hx⟩
 have HT:=show Hid (s ∈ l→inS s l=true) from inS_mem
 have HF:=show Hid (s ∉ l→inS s l=false) from inS_not
 generalize inS s l=ans at *
 clear hat
 go_enter Try.func60,Try.ntmps60
 go_wp2_with fail
 go_loopw [5] (fun i wr=>∃ k:Nat,k≤l.length∧i=.int .i64 (k:Int)∧Hid (Below w.heap.size w wr∧∀ (j:Nat) (h1:j<l.length),j<k→l[j]≠s)) (fun i _=>l.length - (intOf i).toNat)
 case atStart=>exact ⟨0,Nat.zero_le _,rfl,Below.refl _ _,fun _ _ h=>absurd h (Nat.not_lt_zero _)⟩
 case round =>
  obtain ⟨k,hk,rfl,HI⟩:=hrel
  by_cases hlt:k<l.length
  ·obtain ⟨ba,oa,hba,rfl,hca⟩:=HA.out k hlt
   have ha2:wr.cell? ⟨ba,oa+k,none⟩=some (.string l[k]):=(HI.out.1.cell (p:=⟨ba,oa+k,none⟩) hba).trans hca
   have HS:=show Hid (l[k]≠s→∀ (j:Nat) (h1:j<l.length),j<k+1→l[j]≠s) from fun h j h1 hj=>by
    by_cases e:j=k
    ·subst e;exact h
    ·exact HI.out.2 j h1 (by omega)
   have HN:=show Hid (l[k]=s→ans=true) from fun h=>HT.out (h ▸ List.getElem_mem hlt)
   have HBL:=show Hid (Below w.heap.size w wr) from HI.out.1
   have hki:(k:Int)<(l.length:Int):=by omega
   clear hca HA HI
   generalize l[k]=x at *
   by_cases exy:x=s
   ·have HS2:=show Hid _ from HN.out exy
    have hne:=beqS_eq exy
    clear HS HN exy
    go_wp2_with fail
    go_ret
    exact ⟨ret_bool HS2.out.symm,HBL.out⟩
   ·have HS2:=show Hid _ from HS.out exy
    have hne:=beqS_ne exy
    clear HS HN exy
    go_wp2_with fail
    go_roundw
    case rel=>exact ⟨k+1,by omega,val_int (by omega),HBL.out,HS2.out⟩
    case measure=>(simp only [intOf];omega)
  ·have HE:=show Hid (ans=false) from HF.out fun h=>by
    obtain ⟨j,hj,e⟩:=List.mem_iff_getElem.1 h
    exact HI.out.2 j hj (by omega) e
   go_wp2_with fail
   go_ret
   exact ⟨ret_bool HE.out.symm,HI.out.1⟩
end Go.Proofs.Ytoedidbbjnnpnaa.Wm
/-
  The document's call Word: is a text a name? For every text that a machine can hold. No other condition.
-/
namespace Go.Proofs.Ytoedidbbjnnpnaa.Wm
open Go.RowKit Go.Maps
set_option linter.unusedSimpArgs false
set_option maxHeartbeats 400000 in
theorem letter_any (w:World) (c:UInt8) :
 Calls Try.prog 71 #[.int .u8 c.toNat] w fun e w'=>e=.returned (.bool (Fm.isL c))∧w'=w:=by
 have h:=isL_iff c
 have hc:=c.toNat_lt
 generalize c.toNat=x at *
 generalize Fm.isL c=r at *
 have H:=show Hid _ from h
 clear h
 go_enter Try.func71,Try.ntmps71
 go_wp2
 all_goals (go_ret;refine ⟨ret_bool ?_,rfl⟩;rw [H.out,Bool.eq_iff_iff];simp only [Bool.or_eq_true,decide_eq_true_eq,true_iff,Bool.false_eq_true,false_iff];omega)
def strs:Array Value:=(Fm.takens.map fun l=>Value.string ⟨l.toArray⟩).toArray
set_option maxHeartbeats 400000 in
theorem reserved_any (w:World) :
 Calls Try.prog 72 #[] w fun e w'=>e=.returned (.slice (some ⟨w.heap.size,0,none⟩) 12 12)∧w'.heap[w.heap.size]?=some (.cells strs 9 (0,0))∧Below w.heap.size w w':=by
 go_enter Try.func72,Try.ntmps72
 go_wp2
 go_ret
 exact ⟨rfl,heap_alloc_new _ _,below_alloc _ _⟩
theorem strs_at (k:Nat) (h:k<12):∃ x:ByteArray,strs[k]?=some (.string x)∧x.toList=Fm.takens.getD k []∧x.toList ∈ Fm.takens:=by
 have:∀ k,k<12→∃ x:ByteArray,strs[k]?=some (.string x)∧x.data.toList=Fm.takens.getD k []∧x.data.toList ∈ Fm.takens:=by
  intro k hk
  have hl:k<Fm.takens.length:=hk
  refine ⟨⟨(Fm.takens[k]).toArray⟩,?_,?_,?_⟩
  ·unfold strs
   simp [hl]
  ·simp [hl]
  ·simp
 obtain ⟨x,h1,h2,h3⟩:=this k h
 exact ⟨x,h1,by rw [ByteArray.toList_eq];exact h2,by rw [ByteArray.toList_eq];exact h3⟩
theorem mem_takens {l:List UInt8} (h:l ∈ Fm.takens):∃ k,k<12∧Fm.takens.getD k []=l:=by
 obtain ⟨k,hk,e⟩:=List.mem_iff_getElem.1 h
 exact ⟨k,hk,by rw [List.getD_eq_getElem?_getD,List.getElem?_eq_getElem hk];exact e⟩
set_option maxRecDepth 100000 in
set_option maxHeartbeats 4000000 in
theorem rword_any (w:World) (s:ByteArray) (hs:s.size≤140737488351232) :
 Calls Try.prog 47 #[.string s] w fun e w'=>e=.returned (.bool (Fm.word s.data.toList))∧Below w.heap.size w w':=by
 have KL:=show Hid (∀ (c:UInt8) (w:World),Calls Try.prog 71 #[.int .u8 c.toNat] w fun e w'=>e=.returned (.bool (Fm.isL c))∧w'=w) from fun c w=>letter_any w c
 have KR:=show Hid (Calls Try.prog 72 #[] w fun e w'=>e=.returned (.slice (some ⟨w.heap.size,0,none⟩) 12 12)∧w'.heap[w.heap.size]?=some (.cells strs 9 (0,0))∧Below w.heap.size w w') from reserved_any w
 have HBr:=show Hid (Below w.heap.size w w) from Below.refl _ _
 by_cases h0:s.size=0
 ·have hw:=word_no (Or.inl h0)
  rw [hw]
  have hlt:(s.size:Int)<1:=by omega
  clear hw
  go_enter Try.func47,Try.ntmps47
  go_wp2_with fail
  go_ret
  exact ⟨rfl,HBr.out⟩
 ·by_cases h1:31<s.size
  ·have hw:=word_no (Or.inr (Or.inl h1))
   rw [hw]
   have hlt:¬ (s.size:Int)<1:=by omega
   have hgt:(31:Int)<(s.size:Int):=by omega
   clear hw
   go_enter Try.func47,Try.ntmps47
   go_wp2_with fail
   go_ret
   exact ⟨rfl,HBr.out⟩
  ·have hp:0<s.size:=by omega
   have hlt:¬ (s.size:Int)<1:=by omega
   have hgt:¬ (31:Int)<(s.size:Int):=by omega
   cases hc:Fm.isL s[0]
   ·have hw:=word_no (Or.inr (Or.inr ⟨hp,hc⟩))
    rw [hw]
    clear hw
    go_enter Try.func47,Try.ntmps47
    go_wp2_with fail
    refine (KL.out _ _).mono ?_
    rintro e w' ⟨rfl,rfl⟩
    rw [hc]
    go_wp2_with fail
    go_ret
    exact ⟨rfl,HBr.out⟩
   ·have HW:=show Hid ((∀ j (hj:j<s.size),1≤j→Fm.inN s[j]=true)→Fm.word s.data.toList = !Fm.takens.contains s.data.toList) from word_yes hp (by omega) hc
    have HF:=show Hid (∀ k (hk:k<s.size),1≤k→Fm.inN s[k]=false→Fm.word s.data.toList=false) from fun k hk h1 h=>tail_all k hk h1 h
    have HLS:=show Hid (s.toList=s.data.toList) from ByteArray.toList_eq s
    generalize Fm.word s.data.toList=wd at *
    go_enter Try.func47,Try.ntmps47
    go_wp2_with fail
    refine (KL.out _ _).mono ?_
    rintro e w' ⟨rfl,hw'⟩
    subst w'
    rw [hc]
    go_wp2_with fail
    go_loop [3] (fun i=>∃ k:Nat,1≤k∧k≤s.size∧i=.int .i64 k∧Hid (∀ j (hj:j<s.size),1≤j→j<k→Fm.inN s[j]=true)) (fun i=>s.size - (intOf i).toNat)
    case atStart=>exact ⟨1,by omega,by omega,rfl,fun j hj h1 h2=>by omega⟩
    case round =>
     obtain ⟨k,hk1,hk,rfl,HI⟩:=hrel
     by_cases hlt2:k<s.size
     ·have hki:(k:Int)<(s.size:Int):=by omega
      have HN:=show Hid _ from inN_iff s[k]
      have HCq:=show Hid (Fm.inN s[k]=false→wd=false) from HF.out k hlt2 hk1
      have HY:=show Hid (Fm.inN s[k]=true→∀ j (hj:j<s.size),1≤j→j<k+1→Fm.inN s[j]=true) from fun hn j hj h1 h2=>by
       by_cases e:j=k
       ·subst e;exact hn
       ·exact HI.out j hj h1 (by omega)
      have HYN:Hid (Fm.inN s[k]=true)∨(Fm.isL s[k]=false∧¬ (48≤(s[k].toNat:Int)∧(s[k].toNat:Int)≤57)∧((s[k].toNat:Int) != 95)=true∧((s[k].toNat:Int) != 39)=true∧Hid (wd=false)):=by
       by_cases hin:Fm.inN s[k]=true
       ·exact Or.inl hin
       ·have h2:Fm.inN s[k]=false:=by simpa using hin
        have h3:=HN.out
        rw [h2] at h3
        have h4:=h3.symm
        simp only [Bool.or_eq_false_iff,decide_eq_false_iff_not] at h4
        exact Or.inr ⟨h4.1.1.1,h4.1.1.2,by simpa using h4.1.2,by simpa using h4.2,HCq.out h2⟩
      rcases HYN with hin | ⟨hl0,hd,h95,h39,hwd⟩
      ·have HY2:=show Hid (∀ j (hj:j<s.size),1≤j→j<k+1→Fm.inN s[j]=true) from HY.out hin.out
       have HCS:Fm.isL s[k]=true∨(Fm.isL s[k]=false∧((48≤(s[k].toNat:Int)∧(s[k].toNat:Int)≤57)∨(s[k].toNat:Int)=95∨(s[k].toNat:Int)=39)):=by
        have h3:=HN.out
        rw [hin.out] at h3
        have h4:=h3.symm
        simp only [Bool.or_eq_true,decide_eq_true_eq] at h4
        cases hl:Fm.isL s[k]
        ·rw [hl] at h4
         refine Or.inr ⟨rfl,?_⟩
         rcases h4 with ((h4 | h4) | h4) | h4
         ·cases h4
         ·exact Or.inl h4
         ·exact Or.inr (Or.inl h4)
         ·exact Or.inr (Or.inr h4)
        ·exact Or.inl rfl
       clear HCq HN HY hin
       have HC2:=show Hid _ from HCS
       clear HCS
       go_wp2_with fail
       refine (KL.out _ _).mono ?_
       rintro e w' ⟨rfl,hw'⟩
       subst w'
       rcases HC2.out with hl | ⟨hl,⟨hd1,hd2⟩ | h95 | h39⟩
       ·rw [hl]
        clear HC2
        go_wp2_with fail
        go_round
        case rel=>exact ⟨k+1,by omega,by omega,by go_num,HY2⟩
        case measure=>simp [intOf];omega
       ·rw [hl]
        clear HC2
        go_wp2_with fail
        go_round
        case rel=>exact ⟨k+1,by omega,by omega,by go_num,HY2⟩
        case measure=>simp [intOf];omega
       ·rw [hl]
        clear HC2
        have h1:¬ (s[k].toNat:Int)≤57:=by omega
        have h2:48≤(s[k].toNat:Int):=by omega
        have h3:((s[k].toNat:Int) != 95)=false:=by simp [h95]
        clear h95
        go_wp2_with fail
        go_round
        case rel=>exact ⟨k+1,by omega,by omega,by go_num,HY2⟩
        case measure=>simp [intOf];omega
       ·rw [hl]
        clear HC2
        have h1:¬ 48≤(s[k].toNat:Int):=by omega
        have h2:((s[k].toNat:Int) != 95)=true:=by simp [h39]
        have h3:((s[k].toNat:Int) != 39)=false:=by simp [h39]
        clear h39
        go_wp2_with fail
        go_round
        case rel=>exact ⟨k+1,by omega,by omega,by go_num,HY2⟩
        case measure=>simp [intOf];omega
      ·clear HCq HN HY
       by_cases hd1:48≤(s[k].toNat:Int)
       ·have hd2:¬ (s[k].toNat:Int)≤57:=fun h=>hd ⟨hd1,h⟩
        clear hd
        go_wp2_with fail
        refine (KL.out _ _).mono ?_
        rintro e w' ⟨rfl,hw'⟩
        subst w'
        rw [hl0]
        go_wp2_with fail
        all_goals first
         | (go_ret;exact ⟨ret_bool hwd.out.symm,HBr.out⟩)
         | (exfalso;rename_i hx;simp_all;done)
         | (exfalso;rename_i hx;simp_all;omega)
       ·clear hd
        go_wp2_with fail
        refine (KL.out _ _).mono ?_
        rintro e w' ⟨rfl,hw'⟩
        subst w'
        rw [hl0]
        go_wp2_with fail
        all_goals first
         | (go_ret;exact ⟨ret_bool hwd.out.symm,HBr.out⟩)
         | (exfalso;rename_i hx;simp_all;done)
         | (exfalso;rename_i hx;simp_all;omega)
     ·go_wp2_with fail
      refine KR.out.mono ?_
      rintro e w1 ⟨rfl,hrow,hb1⟩
      have HW2:=show Hid (wd = !Fm.takens.contains s.data.toList) from HW.out fun j hj h1=>HI.out j hj h1 (by omega)
      have HR1:=show Hid _ from hrow
      have HB1:=show Hid (Below w.heap.size w w1) from hb1
      clear hrow hb1 KR HW HF HI
      go_wp2_with fail
      go_loop [5] (fun i=>∃ j:Nat,j≤12∧i=.int .i64 j∧Hid (∀ i,i<j→Fm.takens.getD i []≠s.toList)) (fun i=>12 - (intOf i).toNat)
      case atStart=>exact ⟨0,by omega,rfl,fun i hi=>by omega⟩
      case round =>
       obtain ⟨j,hj,rfl,HJ⟩:=hrel
       by_cases hlt3:j<12
       ·obtain ⟨x,hx1,hx2,hx3⟩:=strs_at j hlt3
        have hcell:w1.cell? ⟨w.heap.size,j,none⟩=some (.string x):=by rw [cell_of_row _ _ j _ _ _ HR1.out];exact hx1
        have hji:(j:Int)<12:=by omega
        have HX:=show Hid (x.toList=Fm.takens.getD j []∧x.toList ∈ Fm.takens) from ⟨hx2,hx3⟩
        clear hx1 hx2 hx3
        cases hb:(x.toList == s.toList)
        ·go_wp2_with fail
         go_round
         case rel =>
          refine ⟨j+1,by omega,by go_num,fun i hi => ?_⟩
          by_cases e:i=j
          ·subst e
           rw [← HX.out.1]
           exact ne_of_beq_false hb
          ·exact HJ.out i (by omega)
         case measure=>simp [intOf];omega
        ·go_wp2_with fail
         go_ret
         refine ⟨ret_bool ?_,HB1.out⟩
         rw [HW2.out]
         have h1:=HX.out.2
         rw [eq_of_beq hb,HLS.out] at h1
         simp [h1]
       ·go_wp2_with fail
        go_ret
        refine ⟨ret_bool ?_,HB1.out⟩
        rw [HW2.out]
        have hno:s.data.toList ∉ Fm.takens:=fun hmem=>by
         obtain ⟨i,hi,e⟩:=mem_takens hmem
         exact HJ.out i (by omega) (by rw [e,HLS.out])
        simp [hno]
end Go.Proofs.Ytoedidbbjnnpnaa.Wm
