/-
  areWorlds, areNames, within, shaped: the rows of a model, one by one. No condition.
-/
import Derived.Test.YtoedidbbjnnpnaaQWFun
import Derived.Test.YtoedidbbjnnpnaaTH2
namespace Go.Proofs.Ytoedidbbjnnpnaa.Wm
open Go.RowKit Go.Maps
open Wd (Md inW allW names past Sub lt)
set_option linter.unusedSimpArgs false
theorem cf_are1:Cf 95:=fun _ _=>by kernel_rfl
theorem are1_any (w:World) {b n:Nat} (hb:Cl w b #[.int .i64 (n:Int)] 3) (x:Int) (hx : -9223372036854775808≤x∧x≤9223372036854775807) (_hn:n≤140737488351232) :
 Calls Try.prog 95 #[.int .i64 x,.pointer (some ⟨b,0,none⟩)] w fun e w'=>e=.returned (.bool (!inW n x))∧Below w.heap.size w w':=by
 have hc:w.cell? ⟨b,0,none⟩=some (.int .i64 (n:Int)):=hb.cell 0
 have H:=show Hid ((!inW n x)=(decide (x<0) || decide ((n:Int)≤x))) from by
  show (!inW n x)=(decide (x<0) || decide ((n:Int)≤x))
  unfold inW
  by_cases h1:0≤x <;> by_cases h2:x<(n:Int) <;> simp [h1,h2] <;> omega
 generalize (!inW n x)=ans at *
 clear hb
 by_cases h:x<0
 ·have h1:decide (x<0)=true:=by simp [h]
  go_enter Try.func95,Try.ntmps95
  go_wp2_with fail
  go_ret
  exact ⟨ret_bool (by rw [H.out,h1];rfl),Below.refl _ _⟩
 ·have h1:decide (x<0)=false:=by simp [h]
  go_enter Try.func95,Try.ntmps95
  go_wp2_with fail
  go_ret
  exact ⟨ret_bool (by rw [H.out,h1];rfl),Below.refl _ _⟩
theorem any_not (p:Int→Bool):∀ l:List Int,(!l.any fun x => !p x)=l.all p
 | []=>rfl
 | x :: r=>by
  rw [List.any_cons,List.all_cons,← any_not p r]
  cases p x <;> simp
set_option maxRecDepth 100000 in
set_option maxHeartbeats 1000000 in
theorem areWorlds_any (w:World) {Ls n:Nat} {v:Value} {l:List Int} (hl:IsI w Ls v l) (hLs:Ls≤w.heap.size) (hlen:l.length≤140737488351232) (hx:∀ x ∈ l,-9223372036854775808≤x∧x≤9223372036854775807) (hn:n≤140737488351232) :
 Calls Try.prog 78 #[v,.int .i64 (n:Int)] w fun e w'=>e=.returned (.bool (allW n l))∧Below w.heap.size w w':=by
 have K:=show Hid (∀ W b,New w W b #[.int .i64 (n:Int)] 3→Calls Try.prog 49 #[v,.func (.func 95) #[] #[.pointer (some ⟨b,0,none⟩)]] W fun e w'=>e=.returned (.bool (l.any fun x => !inW n x))∧Below W.heap.size W w') from fun W b hN =>
  containsFunc_any W (L:=W.heap.size) (Ls:=Ls) (D:=fun x => -9223372036854775808≤x∧x≤9223372036854775807) ⟨_,[.pointer (some ⟨b,0,none⟩)],rfl,cf_are1,fun W' x hW' hx'=>are1_any W' (Cl.later (T:=3) hN.blk hW') x hx' hn⟩ (hl.keep fun k hk=>hN.bel.block k (by omega)) hx (Nat.le_trans hLs hN.bel.size) (Nat.le_refl _) hlen
 have HE:=show Hid ((!l.any fun x => !inW n x)=allW n l) from any_not _ l
 obtain ⟨q,c,rfl,-⟩:=hl
 clear hx
 generalize (l.any fun x => !inW n x)=y at *
 generalize allW n l=ans at *
 go_enter Try.func78,Try.ntmps78
 go_wp2_with (refine wpList_box1 3 _ rfl _ rfl rfl rfl ?_)
 intro w1 b hN
 have K1:=show Hid _ from K.out w1 b hN
 have HB:=show Hid (Below w.heap.size w w1) from hN.bel
 clear K hN
 go_wp2_with fail
 refine Calls.mono K1.out ?_
 rintro e w2 ⟨rfl,hb⟩
 have HB2:=show Hid (Below w.heap.size w w2) from HB.out.trans (hb.mono HB.out.size)
 clear hb K1
 go_wp2_with fail
 go_ret
 exact ⟨ret_bool HE.out,HB2.out⟩
theorem names_no {l:List ByteArray}:∀ {p:Option ByteArray} (k:Nat) (hk:k<l.length),(Fm.word l[k].data.toList=false∨(0<k∧lt (l[k - 1]'(by omega)) l[k]=false))→names p l=false:=by
 induction l with
 | nil=>intro p k hk;exact absurd hk (by simp)
 | cons x r ih =>
  intro p k hk h
  rw [names]
  match k,hk,h with
  | 0,_,h =>
   rcases h with h | ⟨h,_⟩
   ·simp only [List.getElem_cons_zero] at h;rw [h];rfl
   ·exact absurd h (Nat.lt_irrefl _)
  | 1,hk,h =>
   match r,hk,h with
   | y :: r',_,h =>
    simp only [List.getElem_cons_succ,List.getElem_cons_zero] at h
    have:names (some x) (y :: r')=false:=by
     rw [names]
     rcases h with h | ⟨_,h⟩
     ·rw [h];rfl
     ·rw [show past (some x) y=false from h];simp
    rw [this];simp
  | k+2,hk,h =>
   have:=ih (p:=some x) (k+1) (by simp at hk;omega) (by
    rcases h with h | ⟨_,h⟩
    ·exact Or.inl (by simpa using h)
    ·exact Or.inr ⟨by omega,by simpa using h⟩)
   rw [this];simp
theorem names_yes {l:List ByteArray}:∀ {p:Option ByteArray},(∀ (h0:0<l.length),past p l[0]=true)→(∀ (k:Nat) (hk:k<l.length),Fm.word l[k].data.toList=true∧(0<k→lt (l[k - 1]'(by omega)) l[k]=true))→names p l=true:=by
 induction l with
 | nil=>intro p _ _;rfl
 | cons x r ih =>
  intro p h0 h
  have hx:=(h 0 (by simp)).1
  have hp:=h0 (by simp)
  simp only [List.getElem_cons_zero] at hx hp
  rw [names,hx,hp,ih (p:=some x)]
  ·rfl
  ·intro h1
   have:=(h 1 (by simpa using h1)).2 (by omega)
   simpa [past] using this
  ·intro k hk
   have h2:=h (k+1) (by simpa using hk)
   refine ⟨by simpa using h2.1,fun hk0 => ?_⟩
   have:=h2.2 (by omega)
   obtain ⟨k',rfl⟩:∃ k',k=k'+1:=⟨k - 1,by omega⟩
   simpa using this
theorem less_eq:∀ (x y:List UInt8),Op.bytesLess x y=decide (x<y)
 | [],[]=>by simp [Op.bytesLess]
 | _ :: _,[]=>by simp [Op.bytesLess]
 | [],_ :: _=>by simp [Op.bytesLess]
 | a :: x,b :: y=>by
  rw [Op.bytesLess,less_eq x y]
  simp only [List.cons_lt_cons_iff]
  by_cases h1:a<b <;> by_cases h2:a=b <;> by_cases h3:x<y <;> simp [h1,h2,h3]
theorem bless (x y:ByteArray):Op.bytesLess x.toList y.toList=lt x y:=by
 rw [less_eq,ByteArray.toList_eq,ByteArray.toList_eq]
 rfl
set_option maxRecDepth 100000 in
set_option maxHeartbeats 4000000 in
theorem areNames_any (w:World) {Ls:Nat} {v:Value} {l:List ByteArray} (hl:IsN w Ls v l) (hlen:l.length≤140737488351232) (hx:∀ x ∈ l,x.size≤140737488351232) :
 Calls Try.prog 91 #[v] w fun e w'=>e=.returned (.bool (names none l))∧w'=w:=by
 obtain ⟨q,c,rfl,hat⟩:=hl
 have HA:=show Hid (0<l.length→∃ b o,b<Ls∧q=some ⟨b,o,none⟩∧∀ (j:Nat) (hj:j<l.length),∃ x,w.cell? ⟨b,o+j,none⟩=some x∧isT l[j] x) from hat
 have HX:=show Hid (∀ (j:Nat) (hj:j<l.length) (W:World),Calls Try.prog 97 #[.string l[j]] W fun e w'=>e=.returned (.bool (Fm.word l[j].data.toList))∧w'=W) from fun j hj W=>word_any W l[j] (hx _ (List.getElem_mem hj))
 have HT:=show Hid ((∀ (k:Nat) (hk:k<l.length),Fm.word l[k].data.toList=true∧(0<k→lt (l[k - 1]'(by omega)) l[k]=true))→names none l=true) from names_yes (fun _=>rfl)
 have HF:=show Hid (∀ (k:Nat) (hk:k<l.length),(Fm.word l[k].data.toList=false∨(0<k∧lt (l[k - 1]'(by omega)) l[k]=false))→names none l=false) from names_no
 generalize names none l=ans at *
 clear hat hx
 go_enter Try.func91,Try.ntmps91
 go_wp2_with fail
 go_loopw [3,4,7] (fun _ _ i wr=>∃ k:Nat,k≤l.length∧i=.int .i64 (k:Int)∧wr=w∧Hid (∀ (j:Nat) (hk:j<l.length),j<k→Fm.word l[j].data.toList=true∧(0<j→lt (l[j - 1]'(by omega)) l[j]=true))) (fun _ _ i _=>l.length - (intOf i).toNat)
 case atStart=>exact ⟨0,Nat.zero_le _,rfl,rfl,fun j _ h=>absurd h (Nat.not_lt_zero _)⟩
 case round =>
  obtain ⟨k,hk,rfl,rfl,HI⟩:=hrel
  by_cases hlt:k<l.length
  ·obtain ⟨b,o,hb,rfl,hat⟩:=HA.out (by omega)
   obtain ⟨x,hx,rfl⟩:=hat k hlt
   have KW:=show Hid _ from HX.out k hlt
   have HFK:=show Hid _ from HF.out k hlt
   have HS:=show Hid (Fm.word l[k].data.toList=true→(0<k→lt (l[k - 1]'(by omega)) l[k]=true)→∀ (j:Nat) (hk:j<l.length),j<k+1→Fm.word l[j].data.toList=true∧(0<j→lt (l[j - 1]'(by omega)) l[j]=true)) from fun h1 h2 j hj hk=>by
    by_cases e:j=k
    ·subst e;exact ⟨h1,h2⟩
    ·exact HI.out j hj (by omega)
   have hki:(k:Int)<(l.length:Int):=by omega
   by_cases hk0:0<k
   ·obtain ⟨y,hy,rfl⟩:=hat (k - 1) (by omega)
    have hy2:wr.cell? ⟨b,o+(k - 1),none⟩=some (.string (l[k - 1]'(by omega))):=hy
    have hd:decide (0<(k:Int))=true:=by simp;omega
    have hk1:((k:Int) - 1).toNat=k - 1:=by omega
    have HBL:=show Hid _ from bless (l[k - 1]'(by omega)) l[k]
    have HS3:=show Hid (Fm.word l[k].data.toList=true→lt (l[k - 1]'(by omega)) l[k]=true→_) from fun h1 h2=>HS.out h1 (fun _=>h2)
    have HF3:=show Hid (lt (l[k - 1]'(by omega)) l[k]=false→ans=false) from fun h=>HFK.out (Or.inr ⟨hk0,h⟩)
    have HF4:=show Hid (Fm.word l[k].data.toList=false→ans=false) from fun h=>HFK.out (Or.inl h)
    clear hat hy HA HX HF HFK HS HI
    generalize l[k - 1]=y at *
    generalize l[k]=x at *
    go_wp2_with fail
    refine Calls.mono (KW.out _) ?_
    rintro e w2 ⟨rfl,rfl⟩
    clear KW
    generalize Fm.word x.data.toList=wx at *
    cases wx
    ·go_wp2_with fail
     go_ret
     exact ⟨ret_bool (HF4.out (by first | rfl | trivial)).symm,rfl⟩
    ·have hbl:=HBL.out
     cases hz:lt y x
     ·rw [hz] at hbl
      clear HS3 HBL
      go_wp2_with fail
      go_ret
      exact ⟨ret_bool (HF3.out hz).symm,rfl⟩
     ·rw [hz] at hbl
      have HS4:=show Hid _ from HS3.out (by first | rfl | trivial) hz
      clear HS3 HBL HF3 HF4
      go_wp2_with fail
      go_roundw
      case rel=>exact ⟨k+1,by omega,val_int (by omega),(by first | rfl | trivial),HS4⟩
      case measure=>(simp only [intOf];omega)
   ·have hd:decide (0<(k:Int))=false:=by simp;omega
    have HS3:=show Hid (Fm.word l[k].data.toList=true→_) from fun h1=>HS.out h1 (fun h=>absurd h hk0)
    have HF4:=show Hid (Fm.word l[k].data.toList=false→ans=false) from fun h=>HFK.out (Or.inl h)
    clear hat HA HX HF HFK HS HI
    generalize l[k]=x at *
    go_wp2_with fail
    refine Calls.mono (KW.out _) ?_
    rintro e w2 ⟨rfl,rfl⟩
    clear KW
    generalize Fm.word x.data.toList=wx at *
    cases wx
    ·go_wp2_with fail
     go_ret
     exact ⟨ret_bool (HF4.out (by first | rfl | trivial)).symm,rfl⟩
    ·have HS4:=show Hid _ from HS3.out (by first | rfl | trivial)
     clear HS3 HF4
     go_wp2_with fail
     go_roundw
     case rel=>exact ⟨k+1,by omega,val_int (by omega),(by first | rfl | trivial),HS4⟩
     case measure=>(simp only [intOf];omega)
  ·go_wp2_with fail
   go_ret
   exact ⟨ret_bool (HT.out fun j hj=>HI.out j hj (by omega)).symm,rfl⟩
theorem names_at {l:List ByteArray}:∀ {p:Option ByteArray},names p l=true→∀ (i j:Nat) (hj:j<l.length) (hij:i<j),lt (l[i]'(by omega)) l[j]=true:=by
 induction l with
 | nil=>intro p _ i j hj;exact absurd hj (by simp)
 | cons x r ih =>
  intro p h i j hj hij
  have ht:=Wd.names_tail h
  obtain ⟨j',rfl⟩:∃ j',j=j'+1:=⟨j - 1,by omega⟩
  have hj':j'<r.length:=by simpa using hj
  match i,hij with
  | 0,_=>simpa using Wd.names_lt ht r[j'] (List.getElem_mem hj')
  | i+1,hij=>simpa using ih ht i j' hj' (by omega)
theorem not_in {l:List ByteArray} {x:ByteArray} {k:Nat} (hl:names none l=true) (h1:∀ (j:Nat) (hj:j<l.length),j<k→lt l[j] x=true) (h2:∀ (hk:k<l.length),lt l[k] x=false∧l[k]≠x):x ∉ l:=by
 intro hx
 obtain ⟨j,hj,e⟩:=List.mem_iff_getElem.1 hx
 by_cases h:j<k
 ·have:=h1 j hj h
  rw [e,Wd.lt_irrefl] at this;cases this
 ·by_cases e2:j=k
  ·subst e2;exact (h2 hj).2 e
  ·have a:=names_at hl k j hj (by omega)
   have b:=Wd.lt_tri (h2 (by omega)).1 (h2 (by omega)).2
   rw [e] at a
   have:=Wd.lt_trans a b
   rw [Wd.lt_irrefl] at this;cases this
set_option maxRecDepth 100000 in
set_option maxHeartbeats 4000000 in
theorem within_any (w:World) {La Lb:Nat} {va vb:Value} {a b:List ByteArray} (ha:IsN w La va a) (hb:IsN w Lb vb b) (hla:a.length≤140737488351232) (hlb:b.length≤140737488351232) (hna:names none a=true) (hnb:names none b=true) :
 Calls Try.prog 99 #[va,vb] w fun e w'=>∃ r:Bool,e=.returned (.bool r)∧(r=true ↔ Sub a b)∧w'=w:=by
 obtain ⟨qa,ca,rfl,hata⟩:=ha
 obtain ⟨qb,cb,rfl,hatb⟩:=hb
 have HA:=show Hid (∀ (j:Nat) (hj:j<a.length),∃ bb o,qa=some ⟨bb,o,none⟩∧w.cell? ⟨bb,o+j,none⟩=some (.string a[j])) from fun j hj=>by
  obtain ⟨bb,o,_,h1,h2⟩:=hata (by omega)
  obtain ⟨x,hx,rfl⟩:=h2 j hj
  exact ⟨bb,o,h1,hx⟩
 have HB:=show Hid (∀ (j:Nat) (hj:j<b.length),∃ bb o,qb=some ⟨bb,o,none⟩∧w.cell? ⟨bb,o+j,none⟩=some (.string b[j])) from fun j hj=>by
  obtain ⟨bb,o,_,h1,h2⟩:=hatb (by omega)
  obtain ⟨x,hx,rfl⟩:=h2 j hj
  exact ⟨bb,o,h1,hx⟩
 have HNA:=show Hid (∀ (i j:Nat) (hj:j<a.length) (hij:i<j),lt (a[i]'(by omega)) a[j]=true) from names_at hna
 have HNB:=show Hid (names none b=true) from hnb
 clear hata hatb hna hnb
 go_enter Try.func99,Try.ntmps99
 go_wp2_with fail
 go_loopw [5,7,10] (fun t _ i wr=>∃ k at_:Nat,k≤a.length∧at_≤b.length∧i=.int .i64 (k:Int)∧t=.int .i64 (at_:Int)∧wr=w∧Hid ((∀ (i:Nat) (hi:i<a.length),i<k→a[i] ∈ b)∧∀ (j i:Nat) (hj:j<b.length) (hi:i<a.length),j<at_→k≤i→lt b[j] a[i]=true)) (fun _ _ i _=>a.length - (intOf i).toNat)
 case atStart=>exact ⟨0,0,Nat.zero_le _,Nat.zero_le _,rfl,rfl,rfl,fun _ _ h=>absurd h (Nat.not_lt_zero _),fun _ _ _ _ h=>absurd h (Nat.not_lt_zero _)⟩
 case round =>
  obtain ⟨k,at0,hk,hat0,rfl,rfl,rfl,HI⟩:=hrel
  by_cases hlt:k<a.length
  ·obtain ⟨ba,oa,rfl,hca⟩:=HA.out k hlt
   have hki:(k:Int)<(a.length:Int):=by omega
   have H0:=show Hid (∀ (j:Nat) (hj:j<b.length),j<at0→lt b[j] a[k]=true) from fun j hj h=>HI.out.2 j k hj hlt h (Nat.le_refl _)
   have HEND:=show Hid (∀ at1:Nat,(h:at1<b.length)→b[at1]=a[k]→(∀ (j:Nat) (hj:j<b.length),j<at1→lt b[j] a[k]=true)→(∀ (i:Nat) (hi:i<a.length),i<k+1→a[i] ∈ b)∧∀ (j i:Nat) (hj:j<b.length) (hi:i<a.length),j<at1→k+1≤i→lt b[j] a[i]=true) from fun at1 h he hj1=>⟨fun i hi hik=>by
    by_cases e:i=k
    ·subst e;rw [← he];exact List.getElem_mem h
    ·exact HI.out.1 i hi (by omega),fun j i hj hi hja hki=>Wd.lt_trans (hj1 j hj hja) (HNA.out k i hi (by omega))⟩
   have HNO:=show Hid (∀ at1:Nat,(∀ (j:Nat) (hj:j<b.length),j<at1→lt b[j] a[k]=true)→(∀ (h:at1<b.length),lt b[at1] a[k]=false∧b[at1]≠a[k])→¬ Sub a b) from fun at1 h1 h2 hs=>not_in HNB.out h1 h2 (hs _ (List.getElem_mem hlt))
   clear HI HNA HNB
   generalize a[k]=x at *
   go_wp2_with fail
   go_loopw [5] (fun t wr2=>∃ at1:Nat,at1≤b.length∧t=.int .i64 (at1:Int)∧wr2=wr∧Hid (∀ (j:Nat) (hj:j<b.length),j<at1→lt b[j] x=true)) (fun t _=>b.length - (intOf t).toNat)
   case atStart=>exact ⟨at0,hat0,rfl,rfl,H0.out⟩
   case round =>
    obtain ⟨at1,hat1,rfl,rfl,HJ⟩:=hrel
    clear H0 hat0
    by_cases hlb1:at1<b.length
    ·obtain ⟨bb,ob,rfl,hcb⟩:=HB.out at1 hlb1
     have hai:(at1:Int)<(b.length:Int):=by omega
     have hbl:=bless b[at1] x
     have HE1:=show Hid _ from HEND.out at1 hlb1
     have HN1:=show Hid (lt b[at1] x=false→b[at1]≠x→¬ Sub a b) from fun h1 h2=>HNO.out at1 HJ.out (fun _=>⟨h1,h2⟩)
     have HJ1:=show Hid (lt b[at1] x=true→∀ (j:Nat) (hj:j<b.length),j<at1+1→lt b[j] x=true) from fun h j hj hja=>by
      by_cases e:j=at1
      ·subst e;exact h
      ·exact HJ.out j hj (by omega)
     clear HEND HNO
     generalize b[at1]=y at *
     cases hz:lt y x
     ·rw [hz] at hbl
      have HN2:=show Hid _ from HN1.out hz
      clear HN1 HJ1
      by_cases hxy:y=x
      ·subst hxy
       have HE2:=show Hid _ from HE1.out rfl HJ.out
       clear HE1 HN2
       go_wp2_with fail
       go_roundw
       case rel=>exact ⟨k+1,at1,by omega,by omega,val_int (by omega),rfl,(by first | rfl | trivial),HE2⟩
       case measure=>(simp only [intOf];omega)
      ·have hne:(y.toList == x.toList)=false:=by
        rw [beq_eq_false_iff_ne]
        intro e
        rw [ByteArray.toList_eq,ByteArray.toList_eq] at e
        exact hxy (by cases x;cases y;simp only [ByteArray.mk.injEq];exact Array.ext' e)
       have HN3:=show Hid _ from HN2.out hxy
       clear HN2 HE1
       go_wp2_with fail
       go_ret
       exact ⟨false,rfl,⟨fun h=>(by cases h),fun h=>absurd h HN3.out⟩,rfl⟩
     ·rw [hz] at hbl
      have HJ2:=show Hid _ from HJ1.out hz
      clear HJ1 HN1 HE1 HJ
      go_wp2_with fail
      go_roundw
      case rel=>exact ⟨at1+1,by omega,val_int (by omega),(by first | rfl | trivial),HJ2⟩
      case measure=>(simp only [intOf];omega)
    ·have HN3:=show Hid (¬ Sub a b) from HNO.out at1 HJ.out (fun h=>absurd h hlb1)
     have hae:at1=b.length:=by omega
     have hai:¬ (at1:Int)<(b.length:Int):=by omega
     have hai2:((at1:Int) == (b.length:Int))=true:=by simp [hae]
     clear HNO HEND HJ hae
     go_wp2_with fail
     go_ret
     exact Or.inl ⟨rfl,HN3.out,rfl⟩
  ·go_wp2_with fail
   go_ret
   exact ⟨true,rfl,⟨fun _ x hx=>by
    obtain ⟨i,hi,rfl⟩:=List.mem_iff_getElem.1 hx
    exact HI.out.1 i hi (by omega),fun _=>rfl⟩,rfl⟩
end Go.Proofs.Ytoedidbbjnnpnaa.Wm
