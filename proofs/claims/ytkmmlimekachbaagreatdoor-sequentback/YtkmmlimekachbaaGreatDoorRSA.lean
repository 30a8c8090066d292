/-
  The document's call skip: over blanks and comments: for every text and every place. No condition beyond the text's size.
-/
import Derived.Test.YtkmmlimekachbaaGreatDoorTG3
import Derived.Test.YtkmmlimekachbaaGreatDoorTG2
import Derived.Test.YtkmmlimekachbaaGreatDoorTG1
namespace Go.Proofs.YtkmmlimekachbaaGreatDoor.Tw
open Go.RowKit
set_option maxRecDepth 100000 in
set_option maxHeartbeats 2000000 in
theorem rskip_any (w:World) (s:ByteArray) (o:Nat) (hs:s.size≤140737488355328) (ho:o≤s.size) :
 Calls Tryz.prog 115 #[.string s,.int .i64 (o:Int)] w fun e w'=>e=.returned (.int .i64 ((o+Tk.skip (s.data.toList.drop o):Nat):Int))∧w'=w:=by
 have HSL:=show Hid (s.data.toList.length=s.size) from rfl
 obtain ⟨ende,hend⟩:∃ ende,ende=o+Tk.skip (s.data.toList.drop o):=⟨_,rfl⟩
 rw [← hend]
 have HN:=show Hid (o+Tk.skip (s.data.toList.drop o)=ende) from hend.symm
 have HO:=show Hid (o≤s.size) from ho
 clear hend ho
 go_enter Tryz.func115,Tryz.ntmps115
 go_wp2
 go_loopw [1] (fun v wr=>∃ k:Nat,k≤s.size∧v=.int .i64 k∧Hid (k+Tk.skip (s.data.toList.drop k)=ende)∧wr=w) (fun v _=>s.size - (intOf v).toNat)
 case atStart=>exact ⟨o,HO.out,rfl,HN,rfl⟩
 case round =>
  obtain ⟨k,hk,rfl,HE,rfl⟩:=hrel
  clear HN
  by_cases hlt:k<s.size
  ·cases hbl:Tk.isBlank s[k] with
   | true =>
    have hor:(((s[k]).toNat:Int) == 32)=true∨((((s[k]).toNat:Int) == 32)=false∧(((s[k]).toNat:Int) == 9)=true)∨((((s[k]).toNat:Int) == 32)=false∧(((s[k]).toNat:Int) == 9)=false∧(((s[k]).toNat:Int) == 10)=true)∨((((s[k]).toNat:Int) == 32)=false∧(((s[k]).toNat:Int) == 9)=false∧(((s[k]).toNat:Int) == 10)=false∧(((s[k]).toNat:Int) == 13)=true):=by
     simp only [Tk.isBlank,Bool.or_eq_true,decide_eq_true_eq] at hbl
     simp only [beq_iff_eq,beq_eq_false_iff_ne]
     omega
    have HE2:=show Hid (k+1+Tk.skip (s.data.toList.drop (k+1))=ende) from by
     have h:=HE.out
     rw [drop_byte s k hlt,Tk.skip_blank _ _ hbl] at h
     show _=_
     omega
    clear hbl HE
    rcases hor with q1 | ⟨q1,q2⟩ | ⟨q1,q2,q3⟩ | ⟨q1,q2,q3,q4⟩
    all_goals
     go_wp2
     go_roundw
     case rel=>exact ⟨k+1,by omega,by go_num,HE2,trivial⟩
     case measure=>simp [intOf];omega
   | false =>
    have hq:(((s[k]).toNat:Int) == 32)=false∧(((s[k]).toNat:Int) == 9)=false∧(((s[k]).toNat:Int) == 10)=false∧(((s[k]).toNat:Int) == 13)=false:=by
     simp only [Tk.isBlank,Bool.or_eq_false_iff,decide_eq_false_iff_not] at hbl
     simp only [beq_eq_false_iff_ne]
     omega
    obtain ⟨q1,q2,q3,q4⟩:=hq
    by_cases h35:(s[k]).toNat=35
    ·have q5:(((s[k]).toNat:Int) != 35)=false:=by simp [h35]
     obtain ⟨je,hje⟩:∃ je,je=k+Tk.run (fun c=>c != 10) (s.data.toList.drop k):=⟨_,rfl⟩
     have hrn:=Tk.run_le (fun c=>c != 10) (s.data.toList.drop k)
     rw [List.length_drop,HSL.out] at hrn
     have hr1:1≤Tk.run (fun c=>c != 10) (s.data.toList.drop k):=by rw [drop_byte s k hlt];exact Tk.run_hash _ _ h35
     have HJ:=show Hid (k+Tk.run (fun c=>c != 10) (s.data.toList.drop k)=je) from hje.symm
     have HE2:=show Hid (je+Tk.skip (s.data.toList.drop je)=ende) from by
      have h:=HE.out
      have h2:=Tk.skip_hash s[k] (s.data.toList.drop (k+1)) h35
      rw [← drop_byte s k hlt,List.drop_drop,← hje] at h2
      rw [h2] at h
      show _=_
      omega
     have hjs:je≤s.size:=by omega
     have hkj:k<je:=by omega
     clear hbl HE h35 hje hrn hr1
     go_wp2
     go_loopw [1] (fun v wr2=>∃ j:Nat,k≤j∧j≤je∧v=.int .i64 j∧Hid (j+Tk.run (fun c=>c != 10) (s.data.toList.drop j)=je)∧wr2=wr) (fun v _=>s.size - (intOf v).toNat)
     case atStart=>exact ⟨k,Nat.le_refl _,by omega,rfl,HJ,rfl⟩
     case round =>
      obtain ⟨j,hkj2,hjj,rfl,HJ2,rfl⟩:=hrel
      clear HJ
      by_cases hjl:j<s.size
      ·by_cases h10:(s[j]).toNat=10
       ·have q10:(((s[j]).toNat:Int) != 10)=false:=by simp [h10]
        have hjd:j=je:=by
         have h:=HJ2.out
         rw [drop_byte s j hjl,Tk.run_cons,if_neg (by
          have:s[j]=10:=UInt8.toNat_inj.1 h10
          rw [this];decide)] at h
         exact h
        subst hjd
        clear HJ2 h10
        go_wp2
        go_roundw
        case rel=>exact ⟨j,hjs,rfl,HE2,trivial⟩
        case measure=>simp [intOf];omega
       ·have q10:(((s[j]).toNat:Int) != 10)=true:=by simp;omega
        have HJ3:=show Hid (j+1+Tk.run (fun c=>c != 10) (s.data.toList.drop (j+1))=je) from by
         have h:=HJ2.out
         rw [drop_byte s j hjl,Tk.run_cons,if_pos (by
          simp only [bne_iff_ne,ne_eq];intro e;rw [e] at h10;exact h10 rfl)] at h
         show _=_
         omega
        have hj1:j+1≤je:=by have:=HJ3.out;omega
        clear HJ2 h10
        go_wp2
        go_roundw
        case rel=>exact ⟨j+1,by omega,hj1,by go_num,HJ3,trivial⟩
        case measure=>simp [intOf];omega
      ·have hjd:j=je:=by omega
       subst hjd
       clear HJ2
       go_wp2
       go_roundw
       case rel=>exact ⟨j,hjs,rfl,HE2,trivial⟩
       case measure=>simp [intOf];omega
    ·have q5:(((s[k]).toNat:Int) != 35)=true:=by simp;omega
     have hE:=HE.out
     rw [drop_byte s k hlt,Tk.skip_else _ _ hbl h35,Nat.add_zero] at hE
     subst hE
     clear HE hbl h35
     go_wp2
     go_ret
     exact ⟨rfl,rfl⟩
  ·have hE:=HE.out
   rw [List.drop_eq_nil_of_le (by rw [HSL.out];omega),Tk.skip_nil,Nat.add_zero] at hE
   subst hE
   clear HE
   go_wp2
   go_ret
   exact ⟨rfl,rfl⟩
end Go.Proofs.YtkmmlimekachbaaGreatDoor.Tw
/-
  The document's calls digit, letter and within: for every byte. No condition.
-/
namespace Go.Proofs.YtkmmlimekachbaaGreatDoor.Tw
open Go.RowKit
set_option maxHeartbeats 400000 in
theorem rdigit_any (w:World) (c:UInt8) :
 Calls Tryz.prog 160 #[.int .u8 (c.toNat:Int)] w fun e w'=>e=.returned (.bool (Tk.isDig c))∧w'=w:=by
 have HX:Hid (Tk.isDig c=(decide (48≤c.toNat) && decide (c.toNat≤57))):=rfl
 generalize Tk.isDig c=ans at *
 have hm:=toNat_lt c
 generalize c.toNat=m at *
 have q48:decide (48≤(m:Int))=decide (48≤m):=decide_eq_decide.2 (by omega)
 have q57:decide ((m:Int)≤57)=decide (m≤57):=decide_eq_decide.2 (by omega)
 generalize decide (48≤m)=b1 at *
 generalize decide (m≤57)=b2 at *
 go_enter Tryz.func160,Tryz.ntmps160
 cases b1 <;> cases b2
 all_goals
  go_wp2
  go_ret
  exact ⟨ret_bool (by rw [HX.out];rfl),rfl⟩
set_option maxHeartbeats 1000000 in
theorem rletter_any (w:World) (c:UInt8) :
 Calls Tryz.prog 158 #[.int .u8 (c.toNat:Int)] w fun e w'=>e=.returned (.bool (Tk.isBeg c))∧w'=w:=by
 have HX:Hid (Tk.isBeg c=((decide (97≤c.toNat) && decide (c.toNat≤122)) || (decide (65≤c.toNat) && decide (c.toNat≤90)) || decide (c.toNat=95))):=rfl
 generalize Tk.isBeg c=ans at *
 have hm:=toNat_lt c
 generalize c.toNat=m at *
 have q97:decide (97≤(m:Int))=decide (97≤m):=decide_eq_decide.2 (by omega)
 have q122:decide ((m:Int)≤122)=decide (m≤122):=decide_eq_decide.2 (by omega)
 have q65:decide (65≤(m:Int))=decide (65≤m):=decide_eq_decide.2 (by omega)
 have q90:decide ((m:Int)≤90)=decide (m≤90):=decide_eq_decide.2 (by omega)
 have q95:((m:Int) == 95)=decide (m=95):=by rw [Bool.eq_iff_iff];simp;omega
 generalize decide (97≤m)=b1 at *
 generalize decide (m≤122)=b2 at *
 generalize decide (65≤m)=b3 at *
 generalize decide (m≤90)=b4 at *
 generalize decide (m=95)=b5 at *
 go_enter Tryz.func158,Tryz.ntmps158
 cases b1 <;> cases b2 <;> cases b3 <;> cases b4 <;> cases b5
 all_goals
  go_wp2
  go_ret
  exact ⟨ret_bool (by rw [HX.out];rfl),rfl⟩
set_option maxHeartbeats 1000000 in
theorem rwithin_any (w:World) (c:UInt8) :
 Calls Tryz.prog 159 #[.int .u8 (c.toNat:Int)] w fun e w'=>e=.returned (.bool (Tk.isIn c))∧w'=w:=by
 have HX:Hid (Tk.isIn c=(Tk.isBeg c || Tk.isDig c || decide (c.toNat=39))):=rfl
 have C1:=show Hid (Calls Tryz.prog 158 #[.int .u8 (c.toNat:Int)] w fun e w'=>e=.returned (.bool (Tk.isBeg c))∧w'=w) from rletter_any w c
 have C2:=show Hid (Calls Tryz.prog 160 #[.int .u8 (c.toNat:Int)] w fun e w'=>e=.returned (.bool (Tk.isDig c))∧w'=w) from rdigit_any w c
 generalize Tk.isIn c=ans at *
 generalize Tk.isBeg c=b1 at *
 generalize Tk.isDig c=b2 at *
 have hm:=toNat_lt c
 generalize c.toNat=m at *
 have q39:((m:Int) == 39)=decide (m=39):=by rw [Bool.eq_iff_iff];simp;omega
 generalize decide (m=39)=b3 at *
 go_enter Tryz.func159,Tryz.ntmps159
 go_wp2_with fail
 refine C1.out.mono ?_
 rintro e w1 ⟨rfl,rfl⟩
 cases b1 with
 | true =>
  cases b3 <;>
  ·go_wp2
   go_ret
   exact ⟨ret_bool (by rw [HX.out];rfl),rfl⟩
 | false =>
  go_wp2_with fail
  refine C2.out.mono ?_
  rintro e w1 ⟨rfl,rfl⟩
  cases b2 <;> cases b3 <;>
  ·go_wp2
   go_ret
   exact ⟨ret_bool (by rw [HX.out];rfl),rfl⟩
end Go.Proofs.YtkmmlimekachbaaGreatDoor.Tw
/-
  The document's calls number and at: for every text and every place. No condition beyond the text's size.
-/
namespace Go.Proofs.YtkmmlimekachbaaGreatDoor.Tw
open Go.RowKit
theorem drop_at (s:ByteArray) (i j:Nat) (h:i+j<s.size):(s.data.toList.drop i)[j]'(by rw [List.length_drop];have:s.data.toList.length=s.size:=rfl;omega)=s[i+j]:=by
 rw [List.getElem_drop,bytes_at s (i+j) h]
theorem inAt_drop_lt (s:ByteArray) (i j:Nat) (h:i+j<s.size):Tk.inAt (s.data.toList.drop i) j=Tk.isIn s[i+j]:=by
 unfold Tk.inAt
 have hsz:s.data.toList.length=s.size:=rfl
 rw [List.getElem?_eq_getElem (by rw [List.length_drop];omega)]
 simp only
 rw [drop_at s i j h]
theorem inAt_drop_ge (s:ByteArray) (i j:Nat) (h:s.size≤i+j):Tk.inAt (s.data.toList.drop i) j=false:=by
 unfold Tk.inAt
 have hsz:s.data.toList.length=s.size:=rfl
 rw [List.getElem?_eq_none (by rw [List.length_drop];omega)]
theorem run_drop_at (f:UInt8→Bool) (s:ByteArray) (k:Nat) (h:k<s.size) (hf:f s[k]=true):Tk.run f (s.data.toList.drop k)=Tk.run f (s.data.toList.drop (k+1))+1:=by
 rw [drop_byte s k h,Tk.run_cons,if_pos hf]
theorem run_drop_not (f:UInt8→Bool) (s:ByteArray) (k:Nat) (h:k<s.size) (hf:f s[k]=false):Tk.run f (s.data.toList.drop k)=0:=by
 rw [drop_byte s k h,Tk.run_cons,if_neg (by rw [hf];simp)]
def IsOne (i:Nat) (c:Tk.Cut) (e:Ending):Prop:=∃ k:Nat,e=.returned (.tuple #[.agg (tokV c.1),.int .i64 (k:Int),.int .i64 c.2.2])∧(c.2.2=0→k=i+c.2.1)
def NumRel (V v:Nat):Prop:=(V=v∧V≤9999999999)∨(999999999<V∧V≤9999999999∧999999999<v)
set_option maxRecDepth 100000 in
set_option maxHeartbeats 4000000 in
theorem rnum_any (w:World) (s:ByteArray) (i:Nat) (hs:s.size≤140737488355328) (hi:i<s.size) :
 Calls Tryz.prog 161 #[.string s,.int .i64 (i:Int)] w fun e w'=>IsOne i (Tk.cutNum (s.data.toList.drop i)) e∧Below w.heap.size w w':=by
 have HSL:=show Hid (s.data.toList.length=s.size) from rfl
 obtain ⟨n,hn⟩:∃ n,n=Tk.run Tk.isDig (s.data.toList.drop i):=⟨_,rfl⟩
 have hnle:i+n≤s.size:=by
  have:=Tk.run_le Tk.isDig (s.data.toList.drop i)
  rw [List.length_drop,HSL.out] at this
  omega
 have HX:=show Hid (i+Tk.run Tk.isDig (s.data.toList.drop i)=i+n) from by rw [hn];rfl
 have HA:=show Hid (Tk.cutNum (s.data.toList.drop i)=if 999999999<Tk.val 0 ((s.data.toList.drop i).take n)∨((s.data.toList.drop i)[0]?=some 48∧1<n)∨Tk.inAt (s.data.toList.drop i) n=true then Tk.bad 21 else ((2,[],(Tk.val 0 ((s.data.toList.drop i).take n):Int)),n,0)) from by rw [hn];rfl
 have h48:((s.data.toList.drop i)[0]?=some 48) ↔ (s[i]).toNat=48:=by
  rw [drop_byte s i hi,List.getElem?_cons_zero,Option.some.injEq,← UInt8.toNat_inj]
  rfl
 have HA1:=show Hid (999999999<Tk.val 0 ((s.data.toList.drop i).take n)→Tk.cutNum (s.data.toList.drop i)=Tk.bad 21) from fun h=>by rw [HA.out,if_pos (Or.inl h)]
 have HA2:=show Hid ((s[i]).toNat=48→1<n→Tk.cutNum (s.data.toList.drop i)=Tk.bad 21) from fun h h'=>by rw [HA.out,if_pos (Or.inr (Or.inl ⟨h48.2 h,h'⟩))]
 have HA3:=show Hid (Tk.inAt (s.data.toList.drop i) n=true→Tk.cutNum (s.data.toList.drop i)=Tk.bad 21) from fun h=>by rw [HA.out,if_pos (Or.inr (Or.inr h))]
 have HA4:=show Hid (Tk.val 0 ((s.data.toList.drop i).take n)≤999999999→(s[i]).toNat≠48∨n≤1→Tk.inAt (s.data.toList.drop i) n=false→Tk.cutNum (s.data.toList.drop i)=((2,[],(Tk.val 0 ((s.data.toList.drop i).take n):Int)),n,0)) from fun h h' h''=>by
  rw [HA.out,if_neg]
  rintro (h1 | h1 | h1)
  ·omega
  ·rcases h' with h' | h'
   ·exact h' (h48.1 h1.1)
   ·omega
  ·rw [h''] at h1;cases h1
 clear HA hn h48
 generalize Tk.cutNum (s.data.toList.drop i)=ans at *
 have C1:=show Hid (∀ (w:World) (c:UInt8),Calls Tryz.prog 160 #[.int .u8 (c.toNat:Int)] w fun e w'=>e=.returned (.bool (Tk.isDig c))∧w'=w) from rdigit_any
 have C2:=show Hid (∀ (w:World) (c:UInt8),Calls Tryz.prog 159 #[.int .u8 (c.toNat:Int)] w fun e w'=>e=.returned (.bool (Tk.isIn c))∧w'=w) from rwithin_any
 go_enter Tryz.func161,Tryz.ntmps161
 go_wp2_with fail
 go_loopw [7,8] (fun v v8 wr=>∃ k V:Nat,i≤k∧k≤s.size∧V≤9999999999∧v8=.int .i64 k∧v=.int .i64 (V:Int)∧Hid (NumRel V (Tk.val 0 ((s.data.toList.drop i).take (k - i))))∧Hid (k+Tk.run Tk.isDig (s.data.toList.drop k)=i+n)∧wr=w.alloc (Obj.cells #[.int .i64 0,.string ⟨#[]⟩,.int .i64 0,.int .i64 0,.int .i64 0,.int .i64 0] 108)) (fun _ v8 _=>s.size - (intOf v8).toNat)
 case atStart=>exact ⟨i,0,Nat.le_refl _,by omega,by omega,rfl,rfl,Or.inl ⟨by rw [Nat.sub_self];rfl,by omega⟩,HX,rfl⟩
 case round =>
  obtain ⟨k,V,hik,hk,hV,rfl,rfl,HV,HK,rfl⟩:=hrel
  clear HX
  by_cases hlt:k<s.size
  ·cases hin:Tk.isDig s[k] with
   | true =>
    have HK2:=show Hid (k+1+Tk.run Tk.isDig (s.data.toList.drop (k+1))=i+n) from by
     have:=HK.out
     rw [run_drop_at _ s k hlt hin] at this
     show _=_
     omega
    have hd:=(isDig_iff _).1 hin
    obtain ⟨d,hdd⟩:∃ d,(s[k]).toNat - 48=d:=⟨_,rfl⟩
    have hx:(((s[k]).toNat:Int) - 48) % 256=(d:Int):=by omega
    have hd9:d≤9:=by omega
    have HV2:=show Hid (Tk.val 0 ((s.data.toList.drop i).take (k+1 - i))=10 * Tk.val 0 ((s.data.toList.drop i).take (k - i))+d) from by
     have h:=val_snoc (s.data.toList.drop i) (k - i) (by rw [List.length_drop,HSL.out];omega)
     have e:(s.data.toList.drop i)[k - i]'(by rw [List.length_drop,HSL.out];omega)=s[k]:=by
      rw [List.getElem_drop]
      have e2:i+(k - i)=k:=by omega
      simp only [e2]
      exact bytes_at s k hlt
     rw [e,hdd] at h
     rw [show k+1 - i=k - i+1 by omega]
     exact h
    have HIN:=show Hid (Tk.isDig s[k]=true) from hin
    clear HK hin hd hdd
    go_wp2_with fail
    refine (C1.out _ s[k]).mono ?_
    rintro e w1 ⟨rfl,rfl⟩
    rw [HIN.out]
    clear HIN
    by_cases hbig:V≤999999999
    ·have q:decide ((V:Int)≤999999999)=true:=decide_eq_true (by omega)
     have HR:=show Hid (NumRel (10 * V+d) (Tk.val 0 ((s.data.toList.drop i).take (k+1 - i)))) from by
      rw [HV2.out]
      rcases HV.out with h | h
      ·exact Or.inl ⟨by rw [h.1],by omega⟩
      ·omega
     clear HV HV2
     go_wp2_with fail
     go_roundw
     case rel=>exact ⟨k+1,10 * V+d,by omega,by omega,by omega,by go_num,val_int (by omega),HR,HK2,trivial⟩
     case measure=>simp [intOf];omega
    ·have q:decide ((V:Int)≤999999999)=false:=decide_eq_false (by omega)
     have HR:=show Hid (NumRel V (Tk.val 0 ((s.data.toList.drop i).take (k+1 - i)))) from by
      rw [HV2.out]
      rcases HV.out with h | h
      ·exact Or.inr ⟨by omega,hV,by omega⟩
      ·exact Or.inr ⟨h.1,hV,by omega⟩
     clear HV HV2 hbig
     go_wp2_with fail
     go_roundw
     case rel=>exact ⟨k+1,V,by omega,by omega,hV,by go_num,rfl,HR,HK2,trivial⟩
     case measure=>simp [intOf];omega
   | false =>
    have hkn:k=i+n:=by
     have:=HK.out
     rw [run_drop_not _ s k hlt hin] at this
     omega
    have HIN:=show Hid (Tk.isDig s[k]=false) from hin
    have hki:k - i=n:=by omega
    rw [hki] at HV
    have hia:Tk.inAt (s.data.toList.drop i) n=Tk.isIn s[k]:=by
     rw [inAt_drop_lt s i n (by omega)]
     simp only [← hkn]
    rw [hia] at HA3 HA4
    have HKN:=show Hid (k=i+n) from hkn
    clear hkn hia hki HK hin hnle
    go_wp2_with fail
    refine (C1.out _ s[k]).mono ?_
    rintro e w1 ⟨rfl,rfl⟩
    rw [HIN.out]
    clear HIN
    by_cases h48:(s[i]).toNat=48∧1<n
    ·have hA:=HA2.out h48.1 h48.2
     subst hA
     have q48:(((s[i]).toNat:Int) == 48)=true:=beq_iff_eq.2 (by omega)
     have qk:decide ((i:Int)+1<(k:Int))=true:=decide_eq_true (by have:=HKN.out;omega)
     clear HA1 HA2 HA3 HA4 h48
     go_wp2_with fail
     refine bodyPost_ret (results_cell2_row rfl _ _ w.heap.size _ _ _ _ rfl (heap_alloc_new _ _) Tryz.underlying108 rfl (by kernel_rfl)) rfl ?_
     exact ⟨⟨k,rfl,fun h=>absurd h (by decide)⟩,below_alloc _ _⟩
    ·have H48:=show Hid ((s[i]).toNat≠48∨n≤1) from by
      show (s[i]).toNat≠48∨n≤1
      omega
     have hor:(((s[i]).toNat:Int) == 48)=false∨((((s[i]).toNat:Int) == 48)=true∧decide ((i:Int)+1<(k:Int))=false):=by
      by_cases h:(s[i]).toNat=48
      ·exact Or.inr ⟨beq_iff_eq.2 (by omega),decide_eq_false (by have:=HKN.out;omega)⟩
      ·exact Or.inl (beq_eq_false_iff_ne.2 (by omega))
     clear h48
     by_cases hbig:999999999<V
     ·have q:decide (999999999<(V:Int))=true:=decide_eq_true (by omega)
      have hA:=HA1.out (by rcases HV.out with h | h <;> omega)
      subst hA
      clear HA1 HA2 HA3 HA4 HV hbig
      rcases hor with q48 | ⟨q48,q1⟩
      all_goals
       go_wp2_with fail
       refine bodyPost_ret (results_cell2_row rfl _ _ w.heap.size _ _ _ _ rfl (heap_alloc_new _ _) Tryz.underlying108 rfl (by kernel_rfl)) rfl ?_
       exact ⟨⟨k,rfl,fun h=>absurd h (by decide)⟩,below_alloc _ _⟩
     ·have q:decide (999999999<(V:Int))=false:=decide_eq_false (by omega)
      have hVv:Tk.val 0 ((s.data.toList.drop i).take n)=V:=by rcases HV.out with h | h <;> omega
      rw [hVv] at HA4
      clear HV hVv
      cases hin2:Tk.isIn s[k] with
      | true =>
       have hA:=HA3.out hin2
       subst hA
       have HIN2:=show Hid (Tk.isIn s[k]=true) from hin2
       clear HA1 HA2 HA3 HA4 hin2 hbig
       rcases hor with q48 | ⟨q48,q1⟩
       all_goals
        go_wp2_with fail
        refine (C2.out _ s[k]).mono ?_
        rintro e w1 ⟨rfl,rfl⟩
        rw [HIN2.out]
        go_wp2_with fail
        refine bodyPost_ret (results_cell2_row rfl _ _ w.heap.size _ _ _ _ rfl (heap_alloc_new _ _) Tryz.underlying108 rfl (by kernel_rfl)) rfl ?_
        exact ⟨⟨k,rfl,fun h=>absurd h (by decide)⟩,below_alloc _ _⟩
      | false =>
       have hA:=HA4.out (by omega) H48.out hin2
       subst hA
       have HIN2:=show Hid (Tk.isIn s[k]=false) from hin2
       clear HA1 HA2 HA3 HA4 hin2 hbig
       rcases hor with q48 | ⟨q48,q1⟩
       all_goals
        go_wp2_with fail
        refine (C2.out _ s[k]).mono ?_
        rintro e w1 ⟨rfl,rfl⟩
        rw [HIN2.out]
        go_wp2_with fail
        refine bodyPost_ret (results_cell2_row rfl _ _ w.heap.size _ _ _ _ rfl (heap_alloc_new _ _) Tryz.underlying108 rfl (by kernel_rfl)) rfl ?_
        exact ⟨⟨k,rfl,fun _=>HKN.out⟩,below_alloc _ _⟩
  ·have hkn:k=i+n:=by
    have:=HK.out
    rw [List.drop_eq_nil_of_le (by rw [HSL.out];omega)] at this
    exact this
   have hki:k - i=n:=by omega
   rw [hki] at HV
   have hia:Tk.inAt (s.data.toList.drop i) n=false:=inAt_drop_ge s i n (by omega)
   rw [hia] at HA4
   have HKN:=show Hid (k=i+n) from hkn
   clear hkn hia hki HK hnle
   by_cases h48:(s[i]).toNat=48∧1<n
   ·have hA:=HA2.out h48.1 h48.2
    subst hA
    have q48:(((s[i]).toNat:Int) == 48)=true:=beq_iff_eq.2 (by omega)
    have qk:decide ((i:Int)+1<(k:Int))=true:=decide_eq_true (by have:=HKN.out;omega)
    clear HA1 HA2 HA3 HA4 h48
    go_wp2_with fail
    refine bodyPost_ret (results_cell2_row rfl _ _ w.heap.size _ _ _ _ rfl (heap_alloc_new _ _) Tryz.underlying108 rfl (by kernel_rfl)) rfl ?_
    exact ⟨⟨k,rfl,fun h=>absurd h (by decide)⟩,below_alloc _ _⟩
   ·have H48:=show Hid ((s[i]).toNat≠48∨n≤1) from by
     show (s[i]).toNat≠48∨n≤1
     omega
    have hor:(((s[i]).toNat:Int) == 48)=false∨((((s[i]).toNat:Int) == 48)=true∧decide ((i:Int)+1<(k:Int))=false):=by
     by_cases h:(s[i]).toNat=48
     ·exact Or.inr ⟨beq_iff_eq.2 (by omega),decide_eq_false (by have:=HKN.out;omega)⟩
     ·exact Or.inl (beq_eq_false_iff_ne.2 (by omega))
    clear h48
    by_cases hbig:999999999<V
    ·have q:decide (999999999<(V:Int))=true:=decide_eq_true (by omega)
     have hA:=HA1.out (by rcases HV.out with h | h <;> omega)
     subst hA
     clear HA1 HA2 HA3 HA4 HV hbig
     rcases hor with q48 | ⟨q48,q1⟩
     all_goals
      go_wp2_with fail
      refine bodyPost_ret (results_cell2_row rfl _ _ w.heap.size _ _ _ _ rfl (heap_alloc_new _ _) Tryz.underlying108 rfl (by kernel_rfl)) rfl ?_
      exact ⟨⟨k,rfl,fun h=>absurd h (by decide)⟩,below_alloc _ _⟩
    ·have q:decide (999999999<(V:Int))=false:=decide_eq_false (by omega)
     have hVv:Tk.val 0 ((s.data.toList.drop i).take n)=V:=by rcases HV.out with h | h <;> omega
     rw [hVv] at HA4
     clear HV hVv
     have hA:=HA4.out (by omega) H48.out rfl
     subst hA
     clear HA1 HA2 HA3 HA4 hbig
     rcases hor with q48 | ⟨q48,q1⟩
     all_goals
      go_wp2_with fail
      refine bodyPost_ret (results_cell2_row rfl _ _ w.heap.size _ _ _ _ rfl (heap_alloc_new _ _) Tryz.underlying108 rfl (by kernel_rfl)) rfl ?_
      exact ⟨⟨k,rfl,fun _=>HKN.out⟩,below_alloc _ _⟩
theorem ext_take (s:ByteArray) (i m:Nat):(s.extract i (i+m)).data.toList=(s.data.toList.drop i).take m:=by
 rw [ByteArray.data_extract,Array.toList_extract]
 show (s.data.toList.drop i).take (i+m - i)=_
 rw [Nat.add_sub_cancel_left]
theorem pre_eq (g l:List UInt8):g.isPrefixOf l=(decide (g.length≤l.length) && (l.take g.length == g)):=by
 rw [Bool.eq_iff_iff,List.isPrefixOf_iff_prefix,Bool.and_eq_true,decide_eq_true_eq,beq_iff_eq,List.prefix_iff_eq_take]
 constructor
 ·intro h
  refine ⟨?_,h.symm⟩
  have:=congrArg List.length h
  rw [List.length_take] at this
  omega
 ·intro h
  exact h.2.symm
set_option maxHeartbeats 1000000 in
theorem rat2_any (w:World) (s:ByteArray) (i:Nat) (g:ByteArray) (hs:s.size≤140737488355328) (hg:g.size≤100) (hi:i≤s.size) :
 Calls Tryz.prog 163 #[.string s,.int .i64 (i:Int),.string g] w fun e w'=>e=.returned (.bool (g.data.toList.isPrefixOf (s.data.toList.drop i)))∧w'=w:=by
 have hsz:s.data.toList.length=s.size:=rfl
 have hgz:g.data.toList.length=g.size:=rfl
 rw [pre_eq,List.length_drop,hsz,hgz]
 by_cases h:g.size≤s.size - i
 ·have HQ:=show Hid (((s.extract i (i+g.size)).toList == g.toList)=((s.data.toList.drop i).take g.size == g.data.toList)) from by
   rw [Lib.toList_data,Lib.toList_data,ext_take];rfl
  rw [decide_eq_true h,Bool.true_and,← HQ.out]
  have q:decide ((g.size:Int)≤(s.size:Int) - (i:Int))=true:=decide_eq_true (by omega)
  have hle:i+g.size≤s.size:=by omega
  clear HQ hsz hgz
  go_enter Tryz.func163,Tryz.ntmps163
  go_wp2
  go_ret
  exact ⟨rfl,rfl⟩
 ·rw [decide_eq_false h,Bool.false_and]
  have q:decide ((g.size:Int)≤(s.size:Int) - (i:Int))=false:=decide_eq_false (by omega)
  clear hsz hgz
  go_enter Tryz.func163,Tryz.ntmps163
  go_wp2
  go_ret
  exact ⟨rfl,rfl⟩
end Go.Proofs.YtkmmlimekachbaaGreatDoor.Tw
/-
  How many bytes a rune has, as the document tells it by ranges: it is what the model decodes. Plain; nothing of the program is named here. No condition.
-/
set_option linter.unusedSimpArgs false
namespace Go.Proofs.YtkmmlimekachbaaGreatDoor.Tk
def mor (l:List UInt8) (k lo hi:Nat):Bool:=decide (k<l.length) && (decide (lo≤byt l k) && decide (byt l k≤hi))
theorem mor_con (l:List UInt8) (k:Nat):mor l k 128 191=con l k:=by
 unfold mor con
 congr 1
 have:=(l.getD k 0).toNat_lt
 rw [Bool.eq_iff_iff]
 simp only [Bool.and_eq_true,decide_eq_true_eq,beq_iff_eq]
 omega
theorem mor_sub (l:List UInt8) (k lo hi:Nat) (h1:128≤lo) (h2:hi≤191):mor l k lo hi=(con l k && (decide (lo≤byt l k) && decide (byt l k≤hi))):=by
 rw [← mor_con]
 unfold mor
 rw [Bool.eq_iff_iff]
 simp only [Bool.and_eq_true,decide_eq_true_eq]
 omega
theorem valid_iff (r:Nat):Utf8.valid (r:Int)=(decide (r<55296) || (decide (57344≤r) && decide (r≤1114111))):=by
 unfold Utf8.valid
 rw [Bool.eq_iff_iff]
 simp only [Bool.and_eq_true,Bool.or_eq_true,decide_eq_true_eq]
 omega
theorem size_1 (l:List UInt8) (h:byt l 0<194∨244<byt l 0):(dec l).2=1:=by
 have h0:=(l.getD 0 0).toNat_lt
 have e0:(l.getD 0 0).toNat=byt l 0:=rfl
 unfold dec decF
 simp only [valid_iff,Bool.and_eq_true,Bool.or_eq_true,decide_eq_true_eq,beq_iff_eq]
 repeat' split
 all_goals first | rfl | (exfalso;omega)
theorem size_2 (l:List UInt8) (h1:194≤byt l 0) (h2:byt l 0≤223):(dec l).2=if mor l 1 128 191 then 2 else 1:=by
 rw [mor_con]
 unfold dec decF
 cases hc:con l 1
 ·simp only [Bool.and_false,Bool.false_and,Bool.false_eq_true,if_false]
  split <;> rfl
 ·simp only [valid_iff,Bool.and_true,Bool.and_eq_true,Bool.or_eq_true,decide_eq_true_eq,beq_iff_eq,if_true]
  repeat' split
  all_goals first | rfl | (exfalso;omega)
theorem size_3 (l:List UInt8) (lo hi:Nat) (h:(byt l 0=224∧lo=160∧hi=191)∨(byt l 0=237∧lo=128∧hi=159)∨(225≤byt l 0∧byt l 0≤239∧byt l 0≠237∧lo=128∧hi=191)):(dec l).2=if mor l 1 lo hi && mor l 2 128 191 then 3 else 1:=by
 have hb:=(l.getD 1 0).toNat_lt
 have eb:(l.getD 1 0).toNat=byt l 1:=rfl
 have hx:con l 1=true→128≤byt l 1∧byt l 1≤191:=fun hc=>by
  rw [← mor_con] at hc
  simp only [mor,Bool.and_eq_true,decide_eq_true_eq] at hc
  exact hc.2
 have hx2:con l 2=true→128≤byt l 2∧byt l 2≤191:=fun hc=>by
  rw [← mor_con] at hc
  simp only [mor,Bool.and_eq_true,decide_eq_true_eq] at hc
  exact hc.2
 rw [mor_con,mor_sub l 1 lo hi (by omega) (by omega)]
 unfold dec decF
 cases hc:con l 1
 ·simp only [Bool.and_false,Bool.false_and,Bool.false_eq_true,if_false]
  split <;> rfl
 ·have hx':=hx hc
  cases hc2:con l 2
  ·simp only [valid_iff,Bool.and_true,Bool.and_false,Bool.false_and,Bool.false_eq_true,if_false,Bool.and_eq_true,Bool.or_eq_true,decide_eq_true_eq,beq_iff_eq]
   repeat' split
   all_goals first | rfl | (exfalso;omega)
  ·have hx2':=hx2 hc2
   simp only [valid_iff,Bool.and_true,Bool.true_and,Bool.and_eq_true,Bool.or_eq_true,decide_eq_true_eq,beq_iff_eq,ge_iff_le]
   repeat' split
   all_goals first | rfl | (exfalso;omega)
theorem size_4 (l:List UInt8) (lo hi:Nat) (h:(byt l 0=240∧lo=144∧hi=191)∨(byt l 0=244∧lo=128∧hi=143)∨(241≤byt l 0∧byt l 0≤243∧lo=128∧hi=191)):(dec l).2=if mor l 1 lo hi && mor l 2 128 191 && mor l 3 128 191 then 4 else 1:=by
 have hx:∀ k,con l k=true→128≤byt l k∧byt l k≤191:=fun k hc=>by
  rw [← mor_con] at hc
  simp only [mor,Bool.and_eq_true,decide_eq_true_eq] at hc
  exact hc.2
 rw [mor_con,mor_con,mor_sub l 1 lo hi (by omega) (by omega)]
 unfold dec decF
 cases hc:con l 1
 ·simp only [Bool.and_false,Bool.false_and,Bool.false_eq_true,if_false]
  split <;> rfl
 ·have hx':=hx 1 hc
  cases hc2:con l 2
  ·simp only [valid_iff,Bool.and_true,Bool.and_false,Bool.false_and,Bool.false_eq_true,if_false,Bool.and_eq_true,Bool.or_eq_true,decide_eq_true_eq,beq_iff_eq]
   repeat' split
   all_goals first | rfl | (exfalso;omega)
  ·have hx2':=hx 2 hc2
   cases hc3:con l 3
   ·simp only [valid_iff,Bool.and_true,Bool.and_false,Bool.false_and,Bool.false_eq_true,if_false,Bool.and_eq_true,Bool.or_eq_true,decide_eq_true_eq,beq_iff_eq,ge_iff_le]
    repeat' split
    all_goals first | rfl | (exfalso;omega)
   ·have hx3':=hx 3 hc3
    simp only [valid_iff,Bool.and_true,Bool.true_and,Bool.and_eq_true,Bool.or_eq_true,decide_eq_true_eq,beq_iff_eq,ge_iff_le]
    repeat' split
    all_goals first | rfl | (exfalso;omega)
end Go.Proofs.YtkmmlimekachbaaGreatDoor.Tk
/-
  The document's calls more and size: how many bytes the rune at a place has: for every text and every place in it. No condition beyond the text's size.
-/
namespace Go.Proofs.YtkmmlimekachbaaGreatDoor.Tw
open Go.RowKit
theorem byt_drop (s:ByteArray) (i k:Nat) (h:i+k<s.size):Tk.byt (s.data.toList.drop i) k=(s[i+k]).toNat:=by
 have hsz:s.data.toList.length=s.size:=rfl
 unfold Tk.byt
 rw [List.getD,List.getElem?_drop,List.getElem?_eq_getElem (by omega),bytes_at s (i+k) h]
 rfl
theorem mor_in (s:ByteArray) (i k lo hi:Nat) (h:i+k<s.size):Tk.mor (s.data.toList.drop i) k lo hi=(decide (lo≤(s[i+k]).toNat) && decide ((s[i+k]).toNat≤hi)):=by
 have hsz:s.data.toList.length=s.size:=rfl
 unfold Tk.mor
 rw [byt_drop s i k h,List.length_drop,hsz,decide_eq_true (by omega),Bool.true_and]
theorem mor_out (s:ByteArray) (i k lo hi:Nat) (h:s.size≤i+k):Tk.mor (s.data.toList.drop i) k lo hi=false:=by
 have hsz:s.data.toList.length=s.size:=rfl
 unfold Tk.mor
 rw [List.length_drop,hsz,decide_eq_false (by omega),Bool.false_and]
set_option maxHeartbeats 1000000 in
theorem more_any (w:World) (s:ByteArray) (i k lo hi:Nat) (x y z:Int) (hx:x=(i:Int)+(k:Int)) (hy:y=(lo:Int)) (hz:z=(hi:Int)) :
 Calls Tryz.prog 193 #[.string s,.int .i64 x,.int .u8 y,.int .u8 z] w fun e w'=>e=.returned (.bool (Tk.mor (s.data.toList.drop i) k lo hi))∧w'=w:=by
 rw [hx,hy,hz,show (i:Int)+(k:Int)=((i+k:Nat):Int) by omega]
 by_cases h:i+k<s.size
 ·rw [mor_in s i k lo hi h]
  generalize i+k=j at *
  cases hb1:decide (lo≤(s[j]).toNat) <;> cases hb2:decide ((s[j]).toNat≤hi)
  all_goals
   go_enter Tryz.func193,Tryz.ntmps193
   go_wp2
   go_ret
   exact ⟨rfl,rfl⟩
 ·rw [mor_out s i k lo hi (by omega)]
  generalize i+k=j at *
  go_enter Tryz.func193,Tryz.ntmps193
  go_wp2
  go_ret
  exact ⟨rfl,rfl⟩
set_option maxRecDepth 100000 in
set_option maxHeartbeats 8000000 in
theorem size_any (w:World) (s:ByteArray) (i:Nat) (hs:s.size≤140737488355328) (hi:i<s.size) :
 Calls Tryz.prog 157 #[.string s,.int .i64 (i:Int)] w fun e w'=>e=.returned (.int .i64 ((Tk.dec (s.data.toList.drop i)).2:Int))∧w'=w:=by
 have KM:=show Hid (∀ (k lo hi:Nat) (x y z:Int),k≤3→x=(i:Int)+(k:Int)→y=(lo:Int)→z=(hi:Int)→Calls Tryz.prog 193 #[.string s,.int .i64 x,.int .u8 y,.int .u8 z] w fun e w'=>e=.returned (.bool (Tk.mor (s.data.toList.drop i) k lo hi))∧w'=w) from fun k lo hi x y z _ hx hy hz=>more_any w s i k lo hi x y z hx hy hz
 have HB:=show Hid (Tk.byt (s.data.toList.drop i) 0=(s[i]).toNat) from byt_drop s i 0 hi
 have hm:=toNat_lt s[i]
 have hcls:((s[i]).toNat<194)∨(244<(s[i]).toNat)∨(194≤(s[i]).toNat∧(s[i]).toNat≤223)∨(s[i]).toNat=224∨(s[i]).toNat=237∨(225≤(s[i]).toNat∧(s[i]).toNat≤239∧(s[i]).toNat≠237)∨(s[i]).toNat=240∨(241≤(s[i]).toNat∧(s[i]).toNat≤243)∨(s[i]).toNat=244:=by omega
 rcases hcls with hcl | hcl | hcl | hcl | hcl | hcl | hcl | hcl | hcl
 ·have HV:=show Hid ((Tk.dec (s.data.toList.drop i)).2=1) from Tk.size_1 _ (by rw [HB.out];exact Or.inl hcl)
  generalize (Tk.dec (s.data.toList.drop i)).2=ans at *
  have q1:decide (194≤((s[i]).toNat:Int))=false:=decide_eq_false (by omega)
  have q2:decide (((s[i]).toNat:Int)≤223)=true:=decide_eq_true (by omega)
  have q3:(((s[i]).toNat:Int) == 224)=false:=beq_eq_false_iff_ne.2 (by omega)
  have q4:(((s[i]).toNat:Int) == 237)=false:=beq_eq_false_iff_ne.2 (by omega)
  have q5:decide (225≤((s[i]).toNat:Int))=false:=decide_eq_false (by omega)
  have q6:decide (((s[i]).toNat:Int)≤239)=true:=decide_eq_true (by omega)
  have q7:(((s[i]).toNat:Int) != 237)=true:=bne_iff_ne.2 (by omega)
  have q8:(((s[i]).toNat:Int) == 240)=false:=beq_eq_false_iff_ne.2 (by omega)
  have q9:decide (241≤((s[i]).toNat:Int))=false:=decide_eq_false (by omega)
  have q10:decide (((s[i]).toNat:Int)≤243)=true:=decide_eq_true (by omega)
  have q11:(((s[i]).toNat:Int) == 244)=false:=beq_eq_false_iff_ne.2 (by omega)
  clear hcl HB
  go_enter Tryz.func157,Tryz.ntmps157
  go_wp2_with fail
  go_ret
  exact ⟨ret_int (by rw [HV.out];rfl),rfl⟩
 ·have HV:=show Hid ((Tk.dec (s.data.toList.drop i)).2=1) from Tk.size_1 _ (by rw [HB.out];exact Or.inr hcl)
  generalize (Tk.dec (s.data.toList.drop i)).2=ans at *
  have q1:decide (194≤((s[i]).toNat:Int))=true:=decide_eq_true (by omega)
  have q2:decide (((s[i]).toNat:Int)≤223)=false:=decide_eq_false (by omega)
  have q3:(((s[i]).toNat:Int) == 224)=false:=beq_eq_false_iff_ne.2 (by omega)
  have q4:(((s[i]).toNat:Int) == 237)=false:=beq_eq_false_iff_ne.2 (by omega)
  have q5:decide (225≤((s[i]).toNat:Int))=true:=decide_eq_true (by omega)
  have q6:decide (((s[i]).toNat:Int)≤239)=false:=decide_eq_false (by omega)
  have q7:(((s[i]).toNat:Int) != 237)=true:=bne_iff_ne.2 (by omega)
  have q8:(((s[i]).toNat:Int) == 240)=false:=beq_eq_false_iff_ne.2 (by omega)
  have q9:decide (241≤((s[i]).toNat:Int))=true:=decide_eq_true (by omega)
  have q10:decide (((s[i]).toNat:Int)≤243)=false:=decide_eq_false (by omega)
  have q11:(((s[i]).toNat:Int) == 244)=false:=beq_eq_false_iff_ne.2 (by omega)
  clear hcl HB
  go_enter Tryz.func157,Tryz.ntmps157
  go_wp2_with fail
  go_ret
  exact ⟨ret_int (by rw [HV.out];rfl),rfl⟩
 ·have HV:=show Hid ((Tk.dec (s.data.toList.drop i)).2=if Tk.mor (s.data.toList.drop i) 1 128 191 then 2 else 1) from Tk.size_2 _ (by rw [HB.out];exact hcl.1) (by rw [HB.out];exact hcl.2)
  generalize (Tk.dec (s.data.toList.drop i)).2=ans at *
  have q1:decide (194≤((s[i]).toNat:Int))=true:=decide_eq_true (by omega)
  have q2:decide (((s[i]).toNat:Int)≤223)=true:=decide_eq_true (by omega)
  have q3:(((s[i]).toNat:Int) == 224)=false:=beq_eq_false_iff_ne.2 (by omega)
  have q4:(((s[i]).toNat:Int) == 237)=false:=beq_eq_false_iff_ne.2 (by omega)
  have q5:decide (225≤((s[i]).toNat:Int))=false:=decide_eq_false (by omega)
  have q6:decide (((s[i]).toNat:Int)≤239)=true:=decide_eq_true (by omega)
  have q7:(((s[i]).toNat:Int) != 237)=true:=bne_iff_ne.2 (by omega)
  have q8:(((s[i]).toNat:Int) == 240)=false:=beq_eq_false_iff_ne.2 (by omega)
  have q9:decide (241≤((s[i]).toNat:Int))=false:=decide_eq_false (by omega)
  have q10:decide (((s[i]).toNat:Int)≤243)=true:=decide_eq_true (by omega)
  have q11:(((s[i]).toNat:Int) == 244)=false:=beq_eq_false_iff_ne.2 (by omega)
  clear hcl HB
  go_enter Tryz.func157,Tryz.ntmps157
  go_wp2_with fail
  refine (KM.out 1 128 191 _ _ _ (by omega) rfl rfl rfl).mono ?_
  rintro e w1 ⟨rfl,rfl⟩
  cases hm1:Tk.mor (s.data.toList.drop i) 1 128 191 with
  | true =>
   have HM1:=show Hid (Tk.mor (s.data.toList.drop i) 1 128 191=true) from hm1
   clear hm1
   go_wp2_with fail
   go_ret
   exact ⟨ret_int (by rw [HV.out,HM1.out];rfl),rfl⟩
  | false =>
   have HM1:=show Hid (Tk.mor (s.data.toList.drop i) 1 128 191=false) from hm1
   clear hm1
   go_wp2_with fail
   go_ret
   exact ⟨ret_int (by rw [HV.out,HM1.out];rfl),rfl⟩
 ·have HV:=show Hid ((Tk.dec (s.data.toList.drop i)).2=if Tk.mor (s.data.toList.drop i) 1 160 191 && Tk.mor (s.data.toList.drop i) 2 128 191 then 3 else 1) from Tk.size_3 _ 160 191 (by rw [HB.out];omega)
  generalize (Tk.dec (s.data.toList.drop i)).2=ans at *
  have q1:decide (194≤((s[i]).toNat:Int))=true:=decide_eq_true (by omega)
  have q2:decide (((s[i]).toNat:Int)≤223)=false:=decide_eq_false (by omega)
  have q3:(((s[i]).toNat:Int) == 224)=true:=beq_iff_eq.2 (by omega)
  have q4:(((s[i]).toNat:Int) == 237)=false:=beq_eq_false_iff_ne.2 (by omega)
  have q5:decide (225≤((s[i]).toNat:Int))=false:=decide_eq_false (by omega)
  have q6:decide (((s[i]).toNat:Int)≤239)=true:=decide_eq_true (by omega)
  have q7:(((s[i]).toNat:Int) != 237)=true:=bne_iff_ne.2 (by omega)
  have q8:(((s[i]).toNat:Int) == 240)=false:=beq_eq_false_iff_ne.2 (by omega)
  have q9:decide (241≤((s[i]).toNat:Int))=false:=decide_eq_false (by omega)
  have q10:decide (((s[i]).toNat:Int)≤243)=true:=decide_eq_true (by omega)
  have q11:(((s[i]).toNat:Int) == 244)=false:=beq_eq_false_iff_ne.2 (by omega)
  clear hcl HB
  go_enter Tryz.func157,Tryz.ntmps157
  go_wp2_with fail
  refine (KM.out 1 160 191 _ _ _ (by omega) rfl rfl rfl).mono ?_
  rintro e w1 ⟨rfl,rfl⟩
  cases hm1:Tk.mor (s.data.toList.drop i) 1 160 191 with
  | true =>
   have HM1:=show Hid (Tk.mor (s.data.toList.drop i) 1 160 191=true) from hm1
   clear hm1
   go_wp2_with fail
   refine (KM.out 2 128 191 _ _ _ (by omega) rfl rfl rfl).mono ?_
   rintro e w1 ⟨rfl,rfl⟩
   cases hm2:Tk.mor (s.data.toList.drop i) 2 128 191 with
   | true =>
    have HM2:=show Hid (Tk.mor (s.data.toList.drop i) 2 128 191=true) from hm2
    clear hm2
    go_wp2_with fail
    go_ret
    exact ⟨ret_int (by rw [HV.out,HM1.out,HM2.out];rfl),rfl⟩
   | false =>
    have HM2:=show Hid (Tk.mor (s.data.toList.drop i) 2 128 191=false) from hm2
    clear hm2
    go_wp2_with fail
    go_ret
    exact ⟨ret_int (by rw [HV.out,HM1.out,HM2.out];rfl),rfl⟩
  | false =>
   have HM1:=show Hid (Tk.mor (s.data.toList.drop i) 1 160 191=false) from hm1
   clear hm1
   go_wp2_with fail
   go_ret
   exact ⟨ret_int (by rw [HV.out,HM1.out];rfl),rfl⟩
 ·have HV:=show Hid ((Tk.dec (s.data.toList.drop i)).2=if Tk.mor (s.data.toList.drop i) 1 128 159 && Tk.mor (s.data.toList.drop i) 2 128 191 then 3 else 1) from Tk.size_3 _ 128 159 (by rw [HB.out];omega)
  generalize (Tk.dec (s.data.toList.drop i)).2=ans at *
  have q1:decide (194≤((s[i]).toNat:Int))=true:=decide_eq_true (by omega)
  have q2:decide (((s[i]).toNat:Int)≤223)=false:=decide_eq_false (by omega)
  have q3:(((s[i]).toNat:Int) == 224)=false:=beq_eq_false_iff_ne.2 (by omega)
  have q4:(((s[i]).toNat:Int) == 237)=true:=beq_iff_eq.2 (by omega)
  have q5:decide (225≤((s[i]).toNat:Int))=true:=decide_eq_true (by omega)
  have q6:decide (((s[i]).toNat:Int)≤239)=true:=decide_eq_true (by omega)
  have q7:(((s[i]).toNat:Int) != 237)=false:=by simp only [bne_eq_false_iff_eq];omega
  have q8:(((s[i]).toNat:Int) == 240)=false:=beq_eq_false_iff_ne.2 (by omega)
  have q9:decide (241≤((s[i]).toNat:Int))=false:=decide_eq_false (by omega)
  have q10:decide (((s[i]).toNat:Int)≤243)=true:=decide_eq_true (by omega)
  have q11:(((s[i]).toNat:Int) == 244)=false:=beq_eq_false_iff_ne.2 (by omega)
  clear hcl HB
  go_enter Tryz.func157,Tryz.ntmps157
  go_wp2_with fail
  refine (KM.out 1 128 159 _ _ _ (by omega) rfl rfl rfl).mono ?_
  rintro e w1 ⟨rfl,rfl⟩
  cases hm1:Tk.mor (s.data.toList.drop i) 1 128 159 with
  | true =>
   have HM1:=show Hid (Tk.mor (s.data.toList.drop i) 1 128 159=true) from hm1
   clear hm1
   go_wp2_with fail
   refine (KM.out 2 128 191 _ _ _ (by omega) rfl rfl rfl).mono ?_
   rintro e w1 ⟨rfl,rfl⟩
   cases hm2:Tk.mor (s.data.toList.drop i) 2 128 191 with
   | true =>
    have HM2:=show Hid (Tk.mor (s.data.toList.drop i) 2 128 191=true) from hm2
    clear hm2
    go_wp2_with fail
    go_ret
    exact ⟨ret_int (by rw [HV.out,HM1.out,HM2.out];rfl),rfl⟩
   | false =>
    have HM2:=show Hid (Tk.mor (s.data.toList.drop i) 2 128 191=false) from hm2
    clear hm2
    go_wp2_with fail
    go_ret
    exact ⟨ret_int (by rw [HV.out,HM1.out,HM2.out];rfl),rfl⟩
  | false =>
   have HM1:=show Hid (Tk.mor (s.data.toList.drop i) 1 128 159=false) from hm1
   clear hm1
   go_wp2_with fail
   go_ret
   exact ⟨ret_int (by rw [HV.out,HM1.out];rfl),rfl⟩
 ·have HV:=show Hid ((Tk.dec (s.data.toList.drop i)).2=if Tk.mor (s.data.toList.drop i) 1 128 191 && Tk.mor (s.data.toList.drop i) 2 128 191 then 3 else 1) from Tk.size_3 _ 128 191 (by rw [HB.out];omega)
  generalize (Tk.dec (s.data.toList.drop i)).2=ans at *
  have q1:decide (194≤((s[i]).toNat:Int))=true:=decide_eq_true (by omega)
  have q2:decide (((s[i]).toNat:Int)≤223)=false:=decide_eq_false (by omega)
  have q3:(((s[i]).toNat:Int) == 224)=false:=beq_eq_false_iff_ne.2 (by omega)
  have q4:(((s[i]).toNat:Int) == 237)=false:=beq_eq_false_iff_ne.2 (by omega)
  have q5:decide (225≤((s[i]).toNat:Int))=true:=decide_eq_true (by omega)
  have q6:decide (((s[i]).toNat:Int)≤239)=true:=decide_eq_true (by omega)
  have q7:(((s[i]).toNat:Int) != 237)=true:=bne_iff_ne.2 (by omega)
  have q8:(((s[i]).toNat:Int) == 240)=false:=beq_eq_false_iff_ne.2 (by omega)
  have q9:decide (241≤((s[i]).toNat:Int))=false:=decide_eq_false (by omega)
  have q10:decide (((s[i]).toNat:Int)≤243)=true:=decide_eq_true (by omega)
  have q11:(((s[i]).toNat:Int) == 244)=false:=beq_eq_false_iff_ne.2 (by omega)
  clear hcl HB
  go_enter Tryz.func157,Tryz.ntmps157
  go_wp2_with fail
  refine (KM.out 1 128 191 _ _ _ (by omega) rfl rfl rfl).mono ?_
  rintro e w1 ⟨rfl,rfl⟩
  cases hm1:Tk.mor (s.data.toList.drop i) 1 128 191 with
  | true =>
   have HM1:=show Hid (Tk.mor (s.data.toList.drop i) 1 128 191=true) from hm1
   clear hm1
   go_wp2_with fail
   refine (KM.out 2 128 191 _ _ _ (by omega) rfl rfl rfl).mono ?_
   rintro e w1 ⟨rfl,rfl⟩
   cases hm2:Tk.mor (s.data.toList.drop i) 2 128 191 with
   | true =>
    have HM2:=show Hid (Tk.mor (s.data.toList.drop i) 2 128 191=true) from hm2
    clear hm2
    go_wp2_with fail
    go_ret
    exact ⟨ret_int (by rw [HV.out,HM1.out,HM2.out];rfl),rfl⟩
   | false =>
    have HM2:=show Hid (Tk.mor (s.data.toList.drop i) 2 128 191=false) from hm2
    clear hm2
    go_wp2_with fail
    go_ret
    exact ⟨ret_int (by rw [HV.out,HM1.out,HM2.out];rfl),rfl⟩
  | false =>
   have HM1:=show Hid (Tk.mor (s.data.toList.drop i) 1 128 191=false) from hm1
   clear hm1
   go_wp2_with fail
   go_ret
   exact ⟨ret_int (by rw [HV.out,HM1.out];rfl),rfl⟩
 ·have HV:=show Hid ((Tk.dec (s.data.toList.drop i)).2=if Tk.mor (s.data.toList.drop i) 1 144 191 && Tk.mor (s.data.toList.drop i) 2 128 191 && Tk.mor (s.data.toList.drop i) 3 128 191 then 4 else 1) from Tk.size_4 _ 144 191 (by rw [HB.out];omega)
  generalize (Tk.dec (s.data.toList.drop i)).2=ans at *
  have q1:decide (194≤((s[i]).toNat:Int))=true:=decide_eq_true (by omega)
  have q2:decide (((s[i]).toNat:Int)≤223)=false:=decide_eq_false (by omega)
  have q3:(((s[i]).toNat:Int) == 224)=false:=beq_eq_false_iff_ne.2 (by omega)
  have q4:(((s[i]).toNat:Int) == 237)=false:=beq_eq_false_iff_ne.2 (by omega)
  have q5:decide (225≤((s[i]).toNat:Int))=true:=decide_eq_true (by omega)
  have q6:decide (((s[i]).toNat:Int)≤239)=false:=decide_eq_false (by omega)
  have q7:(((s[i]).toNat:Int) != 237)=true:=bne_iff_ne.2 (by omega)
  have q8:(((s[i]).toNat:Int) == 240)=true:=beq_iff_eq.2 (by omega)
  have q9:decide (241≤((s[i]).toNat:Int))=false:=decide_eq_false (by omega)
  have q10:decide (((s[i]).toNat:Int)≤243)=true:=decide_eq_true (by omega)
  have q11:(((s[i]).toNat:Int) == 244)=false:=beq_eq_false_iff_ne.2 (by omega)
  clear hcl HB
  go_enter Tryz.func157,Tryz.ntmps157
  go_wp2_with fail
  refine (KM.out 1 144 191 _ _ _ (by omega) rfl rfl rfl).mono ?_
  rintro e w1 ⟨rfl,rfl⟩
  cases hm1:Tk.mor (s.data.toList.drop i) 1 144 191 with
  | true =>
   have HM1:=show Hid (Tk.mor (s.data.toList.drop i) 1 144 191=true) from hm1
   clear hm1
   go_wp2_with fail
   refine (KM.out 2 128 191 _ _ _ (by omega) rfl rfl rfl).mono ?_
   rintro e w1 ⟨rfl,rfl⟩
   cases hm2:Tk.mor (s.data.toList.drop i) 2 128 191 with
   | true =>
    have HM2:=show Hid (Tk.mor (s.data.toList.drop i) 2 128 191=true) from hm2
    clear hm2
    go_wp2_with fail
    refine (KM.out 3 128 191 _ _ _ (by omega) rfl rfl rfl).mono ?_
    rintro e w1 ⟨rfl,rfl⟩
    cases hm3:Tk.mor (s.data.toList.drop i) 3 128 191 with
    | true =>
     have HM3:=show Hid (Tk.mor (s.data.toList.drop i) 3 128 191=true) from hm3
     clear hm3
     go_wp2_with fail
     go_ret
     exact ⟨ret_int (by rw [HV.out,HM1.out,HM2.out,HM3.out];rfl),rfl⟩
    | false =>
     have HM3:=show Hid (Tk.mor (s.data.toList.drop i) 3 128 191=false) from hm3
     clear hm3
     go_wp2_with fail
     go_ret
     exact ⟨ret_int (by rw [HV.out,HM1.out,HM2.out,HM3.out];rfl),rfl⟩
   | false =>
    have HM2:=show Hid (Tk.mor (s.data.toList.drop i) 2 128 191=false) from hm2
    clear hm2
    go_wp2_with fail
    go_ret
    exact ⟨ret_int (by rw [HV.out,HM1.out,HM2.out];rfl),rfl⟩
  | false =>
   have HM1:=show Hid (Tk.mor (s.data.toList.drop i) 1 144 191=false) from hm1
   clear hm1
   go_wp2_with fail
   go_ret
   exact ⟨ret_int (by rw [HV.out,HM1.out];rfl),rfl⟩
 ·have HV:=show Hid ((Tk.dec (s.data.toList.drop i)).2=if Tk.mor (s.data.toList.drop i) 1 128 191 && Tk.mor (s.data.toList.drop i) 2 128 191 && Tk.mor (s.data.toList.drop i) 3 128 191 then 4 else 1) from Tk.size_4 _ 128 191 (by rw [HB.out];omega)
  generalize (Tk.dec (s.data.toList.drop i)).2=ans at *
  have q1:decide (194≤((s[i]).toNat:Int))=true:=decide_eq_true (by omega)
  have q2:decide (((s[i]).toNat:Int)≤223)=false:=decide_eq_false (by omega)
  have q3:(((s[i]).toNat:Int) == 224)=false:=beq_eq_false_iff_ne.2 (by omega)
  have q4:(((s[i]).toNat:Int) == 237)=false:=beq_eq_false_iff_ne.2 (by omega)
  have q5:decide (225≤((s[i]).toNat:Int))=true:=decide_eq_true (by omega)
  have q6:decide (((s[i]).toNat:Int)≤239)=false:=decide_eq_false (by omega)
  have q7:(((s[i]).toNat:Int) != 237)=true:=bne_iff_ne.2 (by omega)
  have q8:(((s[i]).toNat:Int) == 240)=false:=beq_eq_false_iff_ne.2 (by omega)
  have q9:decide (241≤((s[i]).toNat:Int))=true:=decide_eq_true (by omega)
  have q10:decide (((s[i]).toNat:Int)≤243)=true:=decide_eq_true (by omega)
  have q11:(((s[i]).toNat:Int) == 244)=false:=beq_eq_false_iff_ne.2 (by omega)
  clear hcl HB
  go_enter Tryz.func157,Tryz.ntmps157
  go_wp2_with fail
  refine (KM.out 1 128 191 _ _ _ (by omega) rfl rfl rfl).mono ?_
  rintro e w1 ⟨rfl,rfl⟩
  cases hm1:Tk.mor (s.data.toList.drop i) 1 128 191 with
  | true =>
   have HM1:=show Hid (Tk.mor (s.data.toList.drop i) 1 128 191=true) from hm1
   clear hm1
   go_wp2_with fail
   refine (KM.out 2 128 191 _ _ _ (by omega) rfl rfl rfl).mono ?_
   rintro e w1 ⟨rfl,rfl⟩
   cases hm2:Tk.mor (s.data.toList.drop i) 2 128 191 with
   | true =>
    have HM2:=show Hid (Tk.mor (s.data.toList.drop i) 2 128 191=true) from hm2
    clear hm2
    go_wp2_with fail
    refine (KM.out 3 128 191 _ _ _ (by omega) rfl rfl rfl).mono ?_
    rintro e w1 ⟨rfl,rfl⟩
    cases hm3:Tk.mor (s.data.toList.drop i) 3 128 191 with
    | true =>
     have HM3:=show Hid (Tk.mor (s.data.toList.drop i) 3 128 191=true) from hm3
     clear hm3
     go_wp2_with fail
     go_ret
     exact ⟨ret_int (by rw [HV.out,HM1.out,HM2.out,HM3.out];rfl),rfl⟩
    | false =>
     have HM3:=show Hid (Tk.mor (s.data.toList.drop i) 3 128 191=false) from hm3
     clear hm3
     go_wp2_with fail
     go_ret
     exact ⟨ret_int (by rw [HV.out,HM1.out,HM2.out,HM3.out];rfl),rfl⟩
   | false =>
    have HM2:=show Hid (Tk.mor (s.data.toList.drop i) 2 128 191=false) from hm2
    clear hm2
    go_wp2_with fail
    go_ret
    exact ⟨ret_int (by rw [HV.out,HM1.out,HM2.out];rfl),rfl⟩
  | false =>
   have HM1:=show Hid (Tk.mor (s.data.toList.drop i) 1 128 191=false) from hm1
   clear hm1
   go_wp2_with fail
   go_ret
   exact ⟨ret_int (by rw [HV.out,HM1.out];rfl),rfl⟩
 ·have HV:=show Hid ((Tk.dec (s.data.toList.drop i)).2=if Tk.mor (s.data.toList.drop i) 1 128 143 && Tk.mor (s.data.toList.drop i) 2 128 191 && Tk.mor (s.data.toList.drop i) 3 128 191 then 4 else 1) from Tk.size_4 _ 128 143 (by rw [HB.out];omega)
  generalize (Tk.dec (s.data.toList.drop i)).2=ans at *
  have q1:decide (194≤((s[i]).toNat:Int))=true:=decide_eq_true (by omega)
  have q2:decide (((s[i]).toNat:Int)≤223)=false:=decide_eq_false (by omega)
  have q3:(((s[i]).toNat:Int) == 224)=false:=beq_eq_false_iff_ne.2 (by omega)
  have q4:(((s[i]).toNat:Int) == 237)=false:=beq_eq_false_iff_ne.2 (by omega)
  have q5:decide (225≤((s[i]).toNat:Int))=true:=decide_eq_true (by omega)
  have q6:decide (((s[i]).toNat:Int)≤239)=false:=decide_eq_false (by omega)
  have q7:(((s[i]).toNat:Int) != 237)=true:=bne_iff_ne.2 (by omega)
  have q8:(((s[i]).toNat:Int) == 240)=false:=beq_eq_false_iff_ne.2 (by omega)
  have q9:decide (241≤((s[i]).toNat:Int))=true:=decide_eq_true (by omega)
  have q10:decide (((s[i]).toNat:Int)≤243)=false:=decide_eq_false (by omega)
  have q11:(((s[i]).toNat:Int) == 244)=true:=beq_iff_eq.2 (by omega)
  clear hcl HB
  go_enter Tryz.func157,Tryz.ntmps157
  go_wp2_with fail
  refine (KM.out 1 128 143 _ _ _ (by omega) rfl rfl rfl).mono ?_
  rintro e w1 ⟨rfl,rfl⟩
  cases hm1:Tk.mor (s.data.toList.drop i) 1 128 143 with
  | true =>
   have HM1:=show Hid (Tk.mor (s.data.toList.drop i) 1 128 143=true) from hm1
   clear hm1
   go_wp2_with fail
   refine (KM.out 2 128 191 _ _ _ (by omega) rfl rfl rfl).mono ?_
   rintro e w1 ⟨rfl,rfl⟩
   cases hm2:Tk.mor (s.data.toList.drop i) 2 128 191 with
   | true =>
    have HM2:=show Hid (Tk.mor (s.data.toList.drop i) 2 128 191=true) from hm2
    clear hm2
    go_wp2_with fail
    refine (KM.out 3 128 191 _ _ _ (by omega) rfl rfl rfl).mono ?_
    rintro e w1 ⟨rfl,rfl⟩
    cases hm3:Tk.mor (s.data.toList.drop i) 3 128 191 with
    | true =>
     have HM3:=show Hid (Tk.mor (s.data.toList.drop i) 3 128 191=true) from hm3
     clear hm3
     go_wp2_with fail
     go_ret
     exact ⟨ret_int (by rw [HV.out,HM1.out,HM2.out,HM3.out];rfl),rfl⟩
    | false =>
     have HM3:=show Hid (Tk.mor (s.data.toList.drop i) 3 128 191=false) from hm3
     clear hm3
     go_wp2_with fail
     go_ret
     exact ⟨ret_int (by rw [HV.out,HM1.out,HM2.out,HM3.out];rfl),rfl⟩
   | false =>
    have HM2:=show Hid (Tk.mor (s.data.toList.drop i) 2 128 191=false) from hm2
    clear hm2
    go_wp2_with fail
    go_ret
    exact ⟨ret_int (by rw [HV.out,HM1.out,HM2.out];rfl),rfl⟩
  | false =>
   have HM1:=show Hid (Tk.mor (s.data.toList.drop i) 1 128 143=false) from hm1
   clear hm1
   go_wp2_with fail
   go_ret
   exact ⟨ret_int (by rw [HV.out,HM1.out];rfl),rfl⟩
end Go.Proofs.YtkmmlimekachbaaGreatDoor.Tw
/-
  The document's calls on and At: spots: for every text and every place. No condition beyond the text's size.
-/
namespace Go.Proofs.YtkmmlimekachbaaGreatDoor.Tw
open Go.RowKit
theorem dec_lf (s:ByteArray) (i:Nat) (hi:i<s.size):((Tk.dec (s.data.toList.drop i)).1=10) ↔ (s[i]).toNat=10:=by
 rw [← Tk.decode_eq s i (by omega)]
 by_cases h:(s[i]).toNat<128
 ·rw [decode_ascii s i hi h]
 ·have:=(decode_high s i hi (by omega)).1
  omega
set_option maxRecDepth 100000 in
set_option maxHeartbeats 2000000 in
theorem on_any (w:World) (s:ByteArray) (l c:Int) (o n:Nat) (hs:s.size≤140737488355328) (hon:o≤n) (hn:n≤s.size) :
 Calls Tryz.prog 116 #[.string s,.agg #[.int .i64 l,.int .i64 c,.int .i64 (o:Int)],.int .i64 (n:Int)] w fun e w'=>e=.returned (.agg #[.int .i64 (Tk.go (s.data.toList.drop o) (n - o) (l,c)).1,.int .i64 (Tk.go (s.data.toList.drop o) (n - o) (l,c)).2,.int .i64 (n:Int)])∧Below w.heap.size w w':=by
 have HSL:=show Hid (s.data.toList.length=s.size) from rfl
 obtain ⟨ans,hans⟩:∃ ans,ans=Tk.go (s.data.toList.drop o) (n - o) (l,c):=⟨_,rfl⟩
 rw [← hans]
 have HA:=show Hid (Tk.go (s.data.toList.drop o) (n - o) (l,c)=ans) from hans.symm
 clear hans
 have KS:=show Hid (∀ (w:World) (i:Nat),i<s.size→Calls Tryz.prog 157 #[.string s,.int .i64 (i:Int)] w fun e w'=>e=.returned (.int .i64 ((Tk.dec (s.data.toList.drop i)).2:Int))∧w'=w) from fun w i hi=>size_any w s i hs hi
 have HP1:Hid (S3 ((w.alloc (Obj.cells #[.int .i64 l,.int .i64 c,.int .i64 (o:Int)] 50)).alloc (Obj.cells #[.int .i64 0,.int .i64 0,.int .i64 0] 50)) w.heap.size l c o):=heap_alloc2_old _ _ _
 have HR1:Hid (S3 ((w.alloc (Obj.cells #[.int .i64 l,.int .i64 c,.int .i64 (o:Int)] 50)).alloc (Obj.cells #[.int .i64 0,.int .i64 0,.int .i64 0] 50)) (w.heap.size+1) 0 0 0):=heap_alloc2_new _ _ _
 have HB1:Hid (Below w.heap.size w ((w.alloc (Obj.cells #[.int .i64 l,.int .i64 c,.int .i64 (o:Int)] 50)).alloc (Obj.cells #[.int .i64 0,.int .i64 0,.int .i64 0] 50))):=below_alloc2 _ _ _
 go_enter Tryz.func116,Tryz.ntmps116
 go_wp2_with fail
 go_loopw [7] (fun i wr=>∃ (k:Nat) (l' c':Int),o≤k∧i=.int .i64 k∧k≤s.size∧Hid (Tk.go (s.data.toList.drop k) (n - k) (l',c')=ans)∧Hid (S3 wr w.heap.size l' c' o)∧Hid (S3 wr (w.heap.size+1) 0 0 0)∧Hid (Below w.heap.size w wr)) (fun i _=>s.size - (intOf i).toNat)
 case atStart=>exact ⟨o,l,c,Nat.le_refl _,rfl,by omega,HA,HP1,HR1,HB1⟩
 case round =>
  obtain ⟨k,l',c',hok,rfl,hks,HG,HP,HR,HB⟩:=hrel
  have hp0:=HP.out.c0;have hp1:=HP.out.c1;have hp2:=HP.out.c2;have hpf:=HP.out.fr
  have hr0:=HR.out.c0;have hr1:=HR.out.c1;have hr2:=HR.out.c2;have hrf:=HR.out.fr
  by_cases hlt:k<n
  ·have hl:s.data.toList.drop k≠[]:=by
    intro h
    have:=congrArg List.length h
    rw [List.length_drop,HSL.out,List.length_nil] at this
    omega
   have hdp:=Tk.dec_pos (s.data.toList.drop k)
   have hdl:=Tk.dec_le (s.data.toList.drop k) hl
   rw [List.length_drop,HSL.out] at hdl
   have hks2:k<s.size:=by omega
   have hlf:=dec_lf s k hks2
   have hg:=HG.out
   rw [Tk.go_step _ _ _ (by omega) hl,List.drop_drop,Nat.sub_sub] at hg
   have KS2:=show Hid (∀ w:World,Calls Tryz.prog 157 #[.string s,.int .i64 (k:Int)] w fun e w'=>e=.returned (.int .i64 ((Tk.dec (s.data.toList.drop k)).2:Int))∧w'=w) from fun w=>KS.out w k hks2
   clear HG HA HP1 HR1 HB1 hl
   generalize Tk.dec (s.data.toList.drop k)=dd at *
   obtain ⟨dr,dn⟩:=dd
   simp only at hdp hdl hlf hg KS2
   by_cases h10:(s[k]).toNat=10
   ·have q10:(((s[k]).toNat:Int) == 10)=true:=beq_iff_eq.2 (by omega)
    have e:Tk.beh (l',c') dr=(Tk.bump l',1):=if_pos (hlf.2 h10)
    rw [e] at hg
    have HG2:=show Hid _ from hg
    clear hg hlf h10 e
    go_wp2_with fail
    refine (KS2.out _).mono ?_
    rintro e w1 ⟨rfl,rfl⟩
    go_wp2_with fail
    go_roundw
    case rel=>exact ⟨k+dn,Tk.bump l',1,by omega,by go_num,by omega,HG2,((HP.out.s1 _).s0 _).s1 _,((HR.out.other (by omega) _).other (by omega) _).other (by omega) _,((HB.out.setCell (Nat.le_refl _) _).setCell (Nat.le_refl _) _).setCell (Nat.le_refl _) _⟩
    case measure=>simp [intOf];omega
   ·have q10:(((s[k]).toNat:Int) == 10)=false:=beq_eq_false_iff_ne.2 (by omega)
    have e:Tk.beh (l',c') dr=(l',Tk.bump c'):=if_neg (fun h=>h10 (hlf.1 h))
    rw [e] at hg
    have HG2:=show Hid _ from hg
    clear hg hlf h10 e
    go_wp2_with fail
    refine (KS2.out _).mono ?_
    rintro e w1 ⟨rfl,rfl⟩
    go_wp2_with fail
    go_roundw
    case rel=>exact ⟨k+dn,l',Tk.bump c',by omega,by go_num,by omega,HG2,HP.out.s1 _,HR.out.other (by omega) _,HB.out.setCell (Nat.le_refl _) _⟩
    case measure=>simp [intOf];omega
  ·have hg:=HG.out
   rw [show n - k=0 by omega,Tk.go_done _ _ _ (Or.inl rfl)] at hg
   subst hg
   clear HA HG HP1 HR1 HB1
   go_wp2_with fail
   have hf:=(HR.out.other (g':=w.heap.size) (k:=2) (by omega) (.int .i64 (n:Int))).s3 l' c' n
   refine bodyPost_ret (results_cell_row rfl _ _ (w.heap.size+1) _ _ _ _ rfl hf Tryz.underlying50 rfl (by kernel_rfl)) rfl ?_
   exact ⟨rfl,below_set3 (HB.out.setCell (Nat.le_refl _) _) (by omega) _ _ _⟩
end Go.Proofs.YtkmmlimekachbaaGreatDoor.Tw
