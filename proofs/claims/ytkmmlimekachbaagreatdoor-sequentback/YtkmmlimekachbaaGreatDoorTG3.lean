/-
  The calls cutSign, cutRune and cut: the token with which a text begins: for every text, where the tables stand as the program's text lays them. No condition beyond the text's size.
-/
import Derived.Test.YtkmmlimekachbaaGreatDoorTG2
import Derived.Test.YtkmmlimekachbaaGreatDoorShelfA
import Derived.Lib.OthersKept
namespace Go.Proofs.YtkmmlimekachbaaGreatDoor.Tw
open Go.RowKit
def sigV:Array Value:=(Tk.signs.map fun g=>Value.string ⟨g.toArray⟩).toArray
def Sigs (w:World):Prop:=∃ t fr,w.heap[1]?=some (.cells sigV t fr)
theorem Sigs.later {w w':World} (h:Sigs w) (hb:Below w.heap.size w w'):Sigs w':=by
 obtain ⟨t,fr,h⟩:=h
 exact ⟨t,fr,(hb.block _ (lt_of_block h)).trans h⟩
theorem run_index_signs (w:World) (sa:Array Value) (k:Nat) (v:ByteArray) (hk:k<20) (hs:sa.size=20) (h:sa[k]?=some (.string v)) :
 (Instr.index 251 (.agg sa) (.int .i64 (k:Int))).run Tryz.prog w=.ok (.string v) w:=by
 have h1:(0:Int)≤(k:Int)∧(k:Int)<20:=by omega
 have h2:sa[k]'(by omega)=.string v:=by
  rw [Array.getElem?_eq_getElem (by omega)] at h
  exact Option.some.inj h
 simp [Instr.index,run_underlying Tryz.underlying251,asIntOf,h1,part,go_sem,h,Tryz.isAgg9,Tryz.sizeOf9,hk]
set_option maxRecDepth 100000 in
set_option maxHeartbeats 2000000 in
theorem cutSign_any (w:World) (s:ByteArray) (hS:Sigs w) :
 Calls Tryz.prog 188 #[.string s] w fun e w'=>e=.returned (cutV (Tk.cutSign s.data.toList))∧Below w.heap.size w w':=by
 obtain ⟨t,fr,hS⟩:=hS
 have hS2:(w.alloc (Obj.cells #[.int .i64 0,.string ⟨#[]⟩,.int .i64 0,.int .i64 0,.int .i64 0,.int .i64 0] 108)).heap[1]?=some (.cells sigV t fr):=(Below.heap_alloc _ _ _ (lt_of_block hS)).trans hS
 have HS2:=show Hid ((w.alloc (Obj.cells #[.int .i64 0,.string ⟨#[]⟩,.int .i64 0,.int .i64 0,.int .i64 0,.int .i64 0] 108)).heap[1]?=some (.cells sigV t fr)) from hS2
 clear hS hS2
 have HX:Hid (Tk.signIn (Tk.signs.drop 0) s.data.toList=Tk.cutSign s.data.toList):=rfl
 generalize Tk.cutSign s.data.toList=ans at *
 go_enter Tryz.func188,Tryz.ntmps188
 go_wp2_with (refine wpList_load_row rfl 251 (.global 1) rfl 1 rfl t sigV fr _ HS2.out Tryz.underlying251 rfl (by kernel_rfl) ?_)
 have HG:=show Hid (∀ k (h:k<20),sigV[k]?=some (Value.string ⟨(Tk.signs[k]'h).toArray⟩)) from fun k h=>by
  simp only [sigV,List.getElem?_toArray,List.getElem?_map]
  rw [List.getElem?_eq_getElem (by exact h)]
  rfl
 have HZ:Hid (sigV.size=20):=rfl
 generalize sigV=sa at *
 go_loopw [6,8] (fun _ i wr=>∃ k:Nat,k≤20∧i=.int .i64 k∧Hid (Tk.signIn (Tk.signs.drop k) s.data.toList=ans)∧wr=w.alloc (Obj.cells #[.int .i64 0,.string ⟨#[]⟩,.int .i64 0,.int .i64 0,.int .i64 0,.int .i64 0] 108)) (fun _ i _=>20 - (intOf i).toNat)
 case atStart=>exact ⟨0,by omega,rfl,HX,rfl⟩
 case round =>
  obtain ⟨k,hk,rfl,HK,rfl⟩:=hrel
  clear HX
  by_cases hlt:k<20
  ·have hidx:=HG.out k hlt
   have hK:=HK.out
   rw [List.drop_eq_getElem_cons (show k<Tk.signs.length from hlt),Tk.signIn] at hK
   generalize Tk.signs[k]'hlt=g at *
   have hsa:=HZ.out
   have C1:=show Hid (∀ w,Calls Tryz.prog 219 #[.string s,.string ⟨g.toArray⟩] w fun e w'=>e=.returned (.bool (Lib.hasPrefix s.data.toList (⟨g.toArray⟩:ByteArray).data.toList))∧w'=w) from fun w=>Tryz.strings_HasPrefix s ⟨g.toArray⟩ w
   have HK2:=show Hid _ from hK
   have hix:=fun w=>run_index_signs w sa k _ hlt hsa hidx
   clear hK HK hidx hsa
   go_wp2_with fail
   refine (C1.out _).mono ?_
   rintro e w1 ⟨rfl,rfl⟩
   have hgl:(⟨g.toArray⟩:ByteArray).size=g.length:=by show g.toArray.size=_;simp
   cases hp:Lib.hasPrefix s.data.toList g with
   | true =>
    have hA:=HK2.out
    rw [if_pos (show g.isPrefixOf s.data.toList=true from hp)] at hA
    subst hA
    clear HK2 C1
    go_wp2_with fail
    refine bodyPost_ret (results_cell2_row rfl _ _ w.heap.size _ _ _ _ rfl (heap_alloc_new _ _) Tryz.underlying108 rfl (by kernel_rfl)) rfl ?_
    exact ⟨rfl,below_alloc _ _⟩
   | false =>
    have hA:=HK2.out
    rw [if_neg (by rw [show g.isPrefixOf s.data.toList=false from hp];simp)] at hA
    have HK3:=show Hid (Tk.signIn (Tk.signs.drop (k+1)) s.data.toList=ans) from hA
    clear HK2 hA C1
    go_wp2_with fail
    go_roundw
    case rel=>exact ⟨k+1,by omega,by go_num,HK3,trivial⟩
    case measure=>simp [intOf];omega
  ·obtain rfl:k=20:=by omega
   have hA:=HK.out
   have hA2:Tk.bad 20=ans:=hA
   subst hA2
   clear HK hA
   go_wp2_with fail
   refine bodyPost_ret (results_cell2_row rfl _ _ w.heap.size _ _ _ _ rfl (heap_alloc_new _ _) Tryz.underlying108 rfl (by kernel_rfl)) rfl ?_
   exact ⟨rfl,below_alloc _ _⟩
def Tabs (w:World):Prop:=Lib.Utf8Tabs 2 3 w
theorem Tabs.later {w w':World} (h:Tabs w) (hb:Below w.heap.size w w'):Tabs w' :=
 ⟨fun c hc=>cell_later hb (h.1 c hc),fun i hi=>⟨cell_later hb (h.2 i hi).1,cell_later hb (h.2 i hi).2⟩⟩
theorem decodeGo_eq (s:ByteArray) (h:0<s.size):Lib.decodeGo s=Tk.dec s.data.toList:=by
 have e:=Tk.decode_eq s 0 (by omega)
 rw [List.drop_zero] at e
 rw [← e]
 unfold Lib.decodeGo
 rw [if_neg (by omega)]
set_option maxHeartbeats 1000000 in
theorem cutRune_any (w:World) (s:ByteArray) (_hs:s.size≤140737488355328) (h0:0<s.size) (hT:Tabs w) :
 Calls Tryz.prog 189 #[.string s] w fun e w'=>e=.returned (cutV (Tk.cutRune s.data.toList))∧Below w.heap.size w w':=by
 have HT:=show Hid (Tabs (w.alloc (Obj.cells #[.int .i64 0,.string ⟨#[]⟩,.int .i64 0,.int .i64 0,.int .i64 0,.int .i64 0] 108))) from hT.later (below_alloc _ _)
 clear hT
 have C1:=show Hid (Calls Tryz.prog 220 #[.string s] (w.alloc (Obj.cells #[.int .i64 0,.string ⟨#[]⟩,.int .i64 0,.int .i64 0,.int .i64 0,.int .i64 0] 108)) fun e w'=>e=.returned (.tuple #[.int .i32 ((Tk.dec s.data.toList).1:Int),.int .i64 ((Tk.dec s.data.toList).2:Int)])∧Below (w.alloc (Obj.cells #[.int .i64 0,.string ⟨#[]⟩,.int .i64 0,.int .i64 0,.int .i64 0,.int .i64 0] 108)).heap.size (w.alloc (Obj.cells #[.int .i64 0,.string ⟨#[]⟩,.int .i64 0,.int .i64 0,.int .i64 0,.int .i64 0] 108)) w') from by
  have:=Tryz.utf8_DecodeRuneInString s _ HT.out
  rw [decodeGo_eq s h0] at this
  exact this
 have HX:Hid (Tk.cutRune s.data.toList=if (Tk.meaning (Tk.dec s.data.toList).1).1=0 then Tk.bad 20 else (((Tk.meaning (Tk.dec s.data.toList).1).1,(Tk.meaning (Tk.dec s.data.toList).1).2,0),(Tk.dec s.data.toList).2,0)):=rfl
 generalize Tk.cutRune s.data.toList=ans at *
 generalize Tk.dec s.data.toList=dd at *
 have C2:=show Hid (∀ w,Calls Tryz.prog 221 #[.int .i32 (dd.1:Int)] w fun e w'=>e=.returned (.tuple #[.int .i64 (Tk.meaning dd.1).1,.string ⟨(Tk.meaning dd.1).2.toArray⟩])∧w'=w) from fun w=>meaning_any w dd.1
 generalize Tk.meaning dd.1=mm at *
 obtain ⟨mk,mt⟩:=mm
 go_enter Tryz.func189,Tryz.ntmps189
 go_wp2_with fail
 refine C1.out.mono ?_
 rintro e w1 ⟨rfl,hb⟩
 have HB:=show Hid (Below w.heap.size w w1) from (below_alloc _ _).trans (hb.mono (by simp))
 have HR:=show Hid (T6 w1 w.heap.size (.int .i64 0) (.string ⟨#[]⟩) (.int .i64 0) (.int .i64 0) (.int .i64 0) (.int .i64 0)) from (hb.block _ (by simp)).trans (heap_alloc_new _ _)
 clear hb C1 HT
 go_wp2_with fail
 refine (C2.out _).mono ?_
 rintro e w1' ⟨rfl,rfl⟩
 have hc0:=HR.out.c0;have hc1:=HR.out.c1;have hc2:=HR.out.c2;have hc3:=HR.out.c3;have hc4:=HR.out.c4;have hc5:=HR.out.c5;have hcf:=HR.out.fr
 by_cases hm:mk=0
 ·subst hm
  have hA:=HX.out
  rw [if_pos rfl] at hA
  subst hA
  clear HX
  go_wp2_with fail
  refine bodyPost_ret (results_cell2_row rfl _ _ w.heap.size _ _ _ _ rfl (HR.out.s6 (.int .i64 0) (.string ⟨#[]⟩) (.int .i64 0) (.int .i64 0) (.int .i64 0) (.int .i64 0)) Tryz.underlying108 rfl (by kernel_rfl)) rfl ?_
  exact ⟨rfl,below_set6 HB.out (Nat.le_refl _) _ _ _ _ _ _⟩
 ·have hm0:(mk == 0)=false:=beq_eq_false_iff_ne.2 hm
  have hA:=HX.out
  rw [if_neg hm] at hA
  subst hA
  clear HX hm
  go_wp2_with fail
  refine bodyPost_ret (results_cell2_row rfl _ _ w.heap.size _ _ _ _ rfl (HR.out.s6 (.int .i64 mk) (.string ⟨mt.toArray⟩) (.int .i64 0) (.int .i64 0) (.int .i64 0) (.int .i64 0)) Tryz.underlying108 rfl (by kernel_rfl)) rfl ?_
  exact ⟨rfl,below_set6 HB.out (Nat.le_refl _) _ _ _ _ _ _⟩
def Laid (w:World):Prop:=Sigs w∧Tabs w
theorem Laid.later {w w':World} (h:Laid w) (hb:Below w.heap.size w w'):Laid w':=⟨h.1.later hb,h.2.later hb⟩
theorem cut_cons (c:UInt8) (r:List UInt8):Tk.cut (c :: r)=if Tk.isBeg c=true then Tk.cutName (c :: r) else if Tk.isDig c=true then Tk.cutNum (c :: r) else if c.toNat<128 then Tk.cutSign (c :: r) else Tk.cutRune (c :: r):=rfl
theorem cut_at (s:ByteArray) (h:0<s.size):Tk.cut s.data.toList=if Tk.isBeg s[0]=true then Tk.cutName s.data.toList else if Tk.isDig s[0]=true then Tk.cutNum s.data.toList else if (s[0]).toNat<128 then Tk.cutSign s.data.toList else Tk.cutRune s.data.toList:=by
 have hsz:s.data.toList.length=s.size:=rfl
 have e:s.data.toList=s[0] :: s.data.toList.drop 1:=by
  have:=List.drop_eq_getElem_cons (l:=s.data.toList) (i:=0) (by omega)
  rw [List.drop_zero,bytes_at s 0 h] at this
  exact this
 generalize s.data.toList=l at *
 rw [e,cut_cons]
def tok0:Obj:=.cells #[.int .i64 0,.string ⟨#[]⟩,.int .i64 0,.int .i64 0,.int .i64 0,.int .i64 0] 108
set_option maxHeartbeats 2000000 in
theorem cut_any (w:World) (s:ByteArray) (hs:s.size≤140737488355328) (hL:Laid w) :
 Calls Tryz.prog 149 #[.string s] w fun e w'=>e=.returned (cutV (Tk.cut s.data.toList))∧Below w.heap.size w w':=by
 have HL:=show Hid (Laid (w.alloc tok0)) from hL.later (below_alloc _ _)
 have HZ:Hid (T6 (w.alloc tok0) w.heap.size (.int .i64 0) (.string ⟨#[]⟩) (.int .i64 0) (.int .i64 0) (.int .i64 0) (.int .i64 0)):=heap_alloc_new _ _
 clear hL
 by_cases h0:0<s.size
 ·have C1:=show Hid (∀ (w:World) (c:UInt8),Calls Tryz.prog 184 #[.int .u8 (c.toNat:Int)] w fun e w'=>e=.returned (.bool (Tk.isBeg c))∧w'=w) from begins_any
  have C2:=show Hid (∀ (w:World) (c:UInt8),Calls Tryz.prog 186 #[.int .u8 (c.toNat:Int)] w fun e w'=>e=.returned (.bool (Tk.isDig c))∧w'=w) from isDigit_any
  have hem:s.toList.isEmpty=false:=by
   rw [Lib.toList_data]
   cases hd:s.data.toList with
   | nil =>
    have hsz:s.data.toList.length=s.size:=rfl
    rw [hd] at hsz
    simp at hsz
    omega
   | cons a t=>rfl
  have HX:=show Hid _ from cut_at s h0
  generalize Tk.cut s.data.toList=ans at *
  go_enter Tryz.func149,Tryz.ntmps149
  go_wp2_with fail
  refine (C1.out _ s[0]).mono ?_
  rintro e w1 ⟨rfl,rfl⟩
  cases hb:Tk.isBeg s[0] with
  | true =>
   have hA:=HX.out;rw [if_pos hb] at hA
   have CC:=show Hid (Calls Tryz.prog 185 #[.string s] (w.alloc tok0) fun e w'=>e=.returned (cutV ans)∧Below (w.alloc tok0).heap.size (w.alloc tok0) w') from by rw [hA];exact cutName_any _ s hs
   clear HX hA
   go_wp2_with fail
   refine CC.out.mono ?_
   rintro e w1 ⟨rfl,hb⟩
   have HB:=show Hid (Below w.heap.size w w1) from (below_alloc _ _).trans (hb.mono (by simp))
   have HR:=show Hid (T6 w1 w.heap.size (.int .i64 0) (.string ⟨#[]⟩) (.int .i64 0) (.int .i64 0) (.int .i64 0) (.int .i64 0)) from (hb.block _ (by simp)).trans HZ.out
   have hc0:=HR.out.c0;have hc1:=HR.out.c1;have hc2:=HR.out.c2;have hc3:=HR.out.c3;have hc4:=HR.out.c4;have hc5:=HR.out.c5;have hcf:=HR.out.fr
   clear hb CC
   obtain ⟨⟨tk,tt,ti⟩,tn,te⟩:=ans
   unfold cutV tokV
   go_wp2_with fail
   refine bodyPost_ret (results_cell2_row rfl _ _ w.heap.size _ _ _ _ rfl (HR.out.s6 (.int .i64 tk) (.string ⟨tt.toArray⟩) (.int .i64 ti) (.int .i64 0) (.int .i64 0) (.int .i64 0)) Tryz.underlying108 rfl (by kernel_rfl)) rfl ?_
   exact ⟨rfl,below_set6 HB.out (Nat.le_refl _) _ _ _ _ _ _⟩
  | false =>
   go_wp2_with fail
   refine (C2.out _ s[0]).mono ?_
   rintro e w1 ⟨rfl,rfl⟩
   cases hd:Tk.isDig s[0] with
   | true =>
    have hA:=HX.out;rw [if_neg (by rw [hb];simp),if_pos hd] at hA
    have CC:=show Hid (Calls Tryz.prog 187 #[.string s] (w.alloc tok0) fun e w'=>e=.returned (cutV ans)∧Below (w.alloc tok0).heap.size (w.alloc tok0) w') from by rw [hA];exact cutNum_any _ s hs h0
    clear HX hA
    go_wp2_with fail
    refine CC.out.mono ?_
    rintro e w1 ⟨rfl,hb⟩
    have HB:=show Hid (Below w.heap.size w w1) from (below_alloc _ _).trans (hb.mono (by simp))
    have HR:=show Hid (T6 w1 w.heap.size (.int .i64 0) (.string ⟨#[]⟩) (.int .i64 0) (.int .i64 0) (.int .i64 0) (.int .i64 0)) from (hb.block _ (by simp)).trans HZ.out
    have hc0:=HR.out.c0;have hc1:=HR.out.c1;have hc2:=HR.out.c2;have hc3:=HR.out.c3;have hc4:=HR.out.c4;have hc5:=HR.out.c5;have hcf:=HR.out.fr
    clear hb CC
    obtain ⟨⟨tk,tt,ti⟩,tn,te⟩:=ans
    unfold cutV tokV
    go_wp2_with fail
    refine bodyPost_ret (results_cell2_row rfl _ _ w.heap.size _ _ _ _ rfl (HR.out.s6 (.int .i64 tk) (.string ⟨tt.toArray⟩) (.int .i64 ti) (.int .i64 0) (.int .i64 0) (.int .i64 0)) Tryz.underlying108 rfl (by kernel_rfl)) rfl ?_
    exact ⟨rfl,below_set6 HB.out (Nat.le_refl _) _ _ _ _ _ _⟩
   | false =>
    by_cases h128:(s[0]).toNat<128
    ·have q128:decide ((((s[0]).toNat:Nat):Int)<128)=true:=decide_eq_true (by omega)
     have hA:=HX.out;rw [if_neg (by rw [hb];simp),if_neg (by rw [hd];simp),if_pos h128] at hA
     have CC:=show Hid (Calls Tryz.prog 188 #[.string s] (w.alloc tok0) fun e w'=>e=.returned (cutV ans)∧Below (w.alloc tok0).heap.size (w.alloc tok0) w') from by rw [hA];exact cutSign_any _ s HL.out.1
     clear HX hA h128
     go_wp2_with fail
     refine CC.out.mono ?_
     rintro e w1 ⟨rfl,hb⟩
     have HB:=show Hid (Below w.heap.size w w1) from (below_alloc _ _).trans (hb.mono (by simp))
     have HR:=show Hid (T6 w1 w.heap.size (.int .i64 0) (.string ⟨#[]⟩) (.int .i64 0) (.int .i64 0) (.int .i64 0) (.int .i64 0)) from (hb.block _ (by simp)).trans HZ.out
     have hc0:=HR.out.c0;have hc1:=HR.out.c1;have hc2:=HR.out.c2;have hc3:=HR.out.c3;have hc4:=HR.out.c4;have hc5:=HR.out.c5;have hcf:=HR.out.fr
     clear hb CC
     obtain ⟨⟨tk,tt,ti⟩,tn,te⟩:=ans
     unfold cutV tokV
     go_wp2_with fail
     refine bodyPost_ret (results_cell2_row rfl _ _ w.heap.size _ _ _ _ rfl (HR.out.s6 (.int .i64 tk) (.string ⟨tt.toArray⟩) (.int .i64 ti) (.int .i64 0) (.int .i64 0) (.int .i64 0)) Tryz.underlying108 rfl (by kernel_rfl)) rfl ?_
     exact ⟨rfl,below_set6 HB.out (Nat.le_refl _) _ _ _ _ _ _⟩
    ·have q128:decide ((((s[0]).toNat:Nat):Int)<128)=false:=decide_eq_false (by omega)
     have hA:=HX.out;rw [if_neg (by rw [hb];simp),if_neg (by rw [hd];simp),if_neg h128] at hA
     have CC:=show Hid (Calls Tryz.prog 189 #[.string s] (w.alloc tok0) fun e w'=>e=.returned (cutV ans)∧Below (w.alloc tok0).heap.size (w.alloc tok0) w') from by rw [hA];exact cutRune_any _ s hs h0 HL.out.2
     clear HX hA h128
     go_wp2_with fail
     refine CC.out.mono ?_
     rintro e w1 ⟨rfl,hb⟩
     have HB:=show Hid (Below w.heap.size w w1) from (below_alloc _ _).trans (hb.mono (by simp))
     have HR:=show Hid (T6 w1 w.heap.size (.int .i64 0) (.string ⟨#[]⟩) (.int .i64 0) (.int .i64 0) (.int .i64 0) (.int .i64 0)) from (hb.block _ (by simp)).trans HZ.out
     have hc0:=HR.out.c0;have hc1:=HR.out.c1;have hc2:=HR.out.c2;have hc3:=HR.out.c3;have hc4:=HR.out.c4;have hc5:=HR.out.c5;have hcf:=HR.out.fr
     clear hb CC
     obtain ⟨⟨tk,tt,ti⟩,tn,te⟩:=ans
     unfold cutV tokV
     go_wp2_with fail
     refine bodyPost_ret (results_cell2_row rfl _ _ w.heap.size _ _ _ _ rfl (HR.out.s6 (.int .i64 tk) (.string ⟨tt.toArray⟩) (.int .i64 ti) (.int .i64 0) (.int .i64 0) (.int .i64 0)) Tryz.underlying108 rfl (by kernel_rfl)) rfl ?_
     exact ⟨rfl,below_set6 HB.out (Nat.le_refl _) _ _ _ _ _ _⟩
 ·have hemp:s=⟨#[]⟩:=by
   apply ByteArray.ext
   exact Array.eq_empty_of_size_eq_zero (show s.data.size=0 from by show s.size=0;omega)
  subst hemp
  clear h0 hs
  go_enter Tryz.func149,Tryz.ntmps149
  go_wp2_with fail
  refine bodyPost_ret (results_cell2_row rfl _ _ w.heap.size _ _ _ _ rfl (heap_alloc_new _ _) Tryz.underlying108 rfl (by kernel_rfl)) rfl ?_
  exact ⟨rfl,below_alloc _ _⟩
end Go.Proofs.YtkmmlimekachbaaGreatDoor.Tw
/-
  The call At: the spot of a byte, for every text and every place. No condition beyond the text's size.
-/
namespace Go.Proofs.YtkmmlimekachbaaGreatDoor.Tw
open Go.RowKit
def S3 (w:World) (g:Nat) (a b c:Int):Prop:=w.heap[g]?=some (.cells #[.int .i64 a,.int .i64 b,.int .i64 c] 50 (0,0))
theorem S3.c0 {w:World} {g:Nat} {a b c:Int} (h:S3 w g a b c):w.cell? ⟨g,0,none⟩=some (.int .i64 a):=by rw [cell_of_row w g 0 _ _ _ h];rfl
theorem S3.c1 {w:World} {g:Nat} {a b c:Int} (h:S3 w g a b c):w.cell? ⟨g,1,none⟩=some (.int .i64 b):=by rw [cell_of_row w g 1 _ _ _ h];rfl
theorem S3.c2 {w:World} {g:Nat} {a b c:Int} (h:S3 w g a b c):w.cell? ⟨g,2,none⟩=some (.int .i64 c):=by rw [cell_of_row w g 2 _ _ _ h];rfl
theorem S3.fr {w:World} {g:Nat} {a b c:Int} (h:S3 w g a b c) (j:Nat):w.frozen? ⟨g,j,none⟩=false:=frozen_of_row w g j _ _ h
theorem S3.s0 {w:World} {g:Nat} {a b c:Int} (h:S3 w g a b c) (x:Int):S3 (w.setCell ⟨g,0,none⟩ (.int .i64 x)) g x b c:=heap_setCell_same w g 0 _ _ _ h
theorem S3.s1 {w:World} {g:Nat} {a b c:Int} (h:S3 w g a b c) (x:Int):S3 (w.setCell ⟨g,1,none⟩ (.int .i64 x)) g a x c:=heap_setCell_same w g 1 _ _ _ h
theorem S3.s2 {w:World} {g:Nat} {a b c:Int} (h:S3 w g a b c) (x:Int):S3 (w.setCell ⟨g,2,none⟩ (.int .i64 x)) g a b x:=heap_setCell_same w g 2 _ _ _ h
theorem S3.s3 {w:World} {g:Nat} {a b c:Int} (h:S3 w g a b c) (x y z:Int):S3 (((w.setCell ⟨g,0,none⟩ (.int .i64 x)).setCell ⟨g,1,none⟩ (.int .i64 y)).setCell ⟨g,2,none⟩ (.int .i64 z)) g x y z:=((h.s0 x).s1 y).s2 z
theorem S3.other {w:World} {g g' k:Nat} {a b c:Int} (h:S3 w g a b c) (hne:g≠g') (x:Value):S3 (w.setCell ⟨g',k,none⟩ x) g a b c:=(Below.heap_setCell _ _ _ _ hne).trans h
theorem S3.keep {w w':World} {g B:Nat} {a b c:Int} (h:S3 w g a b c) (hb:Below B w w') (hg:g<B):S3 w' g a b c:=(hb.block g hg).trans h
theorem below_set3 {B:Nat} {a w:World} (h:Below B a w) {g:Nat} (hg:B≤g) (x y z:Value):Below B a (((w.setCell ⟨g,0,none⟩ x).setCell ⟨g,1,none⟩ y).setCell ⟨g,2,none⟩ z):=((h.setCell hg x).setCell hg y).setCell hg z
theorem iterPos_of {w:World} {k:Nat} {s:ByteArray} {p:Nat} (h:w.heap[k]?=some (.stringIter s p)):w.iterPos k=p:=by simp [World.iterPos,h]
end Go.Proofs.YtkmmlimekachbaaGreatDoor.Tw
/-
  The cursor's calls rest, pass and skip, and commentSize: for every text and every place in it that a rune begins at. No condition beyond the text's size.
-/
namespace Go.Proofs.YtkmmlimekachbaaGreatDoor.Tw
open Go.RowKit
def C4 (w:World) (g:Nat) (s:ByteArray) (l c o:Int):Prop:=w.heap[g]?=some (.cells #[.string s,.int .i64 l,.int .i64 c,.int .i64 o] 209 (0,0))
section
variable {w w':World} {g:Nat} {s:ByteArray} {l c o:Int}
theorem C4.c0 (h:C4 w g s l c o):w.cell? ⟨g,0,none⟩=some (.string s):=by rw [cell_of_row w g 0 _ _ _ h];rfl
theorem C4.c1 (h:C4 w g s l c o):w.cell? ⟨g,1,none⟩=some (.int .i64 l):=by rw [cell_of_row w g 1 _ _ _ h];rfl
theorem C4.c2 (h:C4 w g s l c o):w.cell? ⟨g,2,none⟩=some (.int .i64 c):=by rw [cell_of_row w g 2 _ _ _ h];rfl
theorem C4.c3 (h:C4 w g s l c o):w.cell? ⟨g,3,none⟩=some (.int .i64 o):=by rw [cell_of_row w g 3 _ _ _ h];rfl
theorem C4.fr (h:C4 w g s l c o) (j:Nat):w.frozen? ⟨g,j,none⟩=false:=frozen_of_row w g j _ _ h
theorem C4.s1 (h:C4 w g s l c o) (x:Int):C4 (w.setCell ⟨g,1,none⟩ (.int .i64 x)) g s x c o:=heap_setCell_same w g 1 _ _ _ h
theorem C4.s2 (h:C4 w g s l c o) (x:Int):C4 (w.setCell ⟨g,2,none⟩ (.int .i64 x)) g s l x o:=heap_setCell_same w g 2 _ _ _ h
theorem C4.s3 (h:C4 w g s l c o) (x:Int):C4 (w.setCell ⟨g,3,none⟩ (.int .i64 x)) g s l c x:=heap_setCell_same w g 3 _ _ _ h
theorem C4.keep {B:Nat} (h:C4 w g s l c o) (hb:Below B w w') (hg:g<B):C4 w' g s l c o:=(hb.block g hg).trans h
end
theorem C4.drewN {w:World} {g:Nat} {s:ByteArray} {l c o:Int} (h:C4 w g s l c o) (n:Nat):C4 (w.drewN n) g s l c o:=h
structure Kept (g:Nat) (w w':World):Prop where
 os:w'.os=w.os
 tape:w'.tape=w.tape
 output:w'.output=w.output
 size:w.heap.size≤w'.heap.size
 block:∀ k,k<w.heap.size→k≠g→w'.heap[k]?=w.heap[k]?
theorem Kept.refl (g:Nat) (w:World):Kept g w w:=⟨rfl,rfl,rfl,Nat.le_refl _,fun _ _ _=>rfl⟩
theorem Kept.trans {g:Nat} {a b c:World} (h:Kept g a b) (k:Kept g b c):Kept g a c :=
 ⟨k.os.trans h.os,k.tape.trans h.tape,k.output.trans h.output,Nat.le_trans h.size k.size,fun i hi hne=>(k.block i (Nat.lt_of_lt_of_le hi h.size) hne).trans (h.block i hi hne)⟩
theorem Kept.of_below {g:Nat} {w w':World} (h:Below w.heap.size w w'):Kept g w w':=⟨h.os,h.tape,h.output,h.size,fun k hk _=>h.block k hk⟩
theorem Kept.drewN {g:Nat} {a w:World} (h:Kept g a w) (n:Nat):Kept g a (w.drewN n):=⟨h.os,h.tape,h.output,h.size,h.block⟩
theorem Kept.setCell {g j:Nat} {a w:World} (h:Kept g a w) (x:Value):Kept g a (w.setCell ⟨g,j,none⟩ x) :=
 h.trans ⟨rfl,rfl,rfl,by simp [World.setCell],fun k _ hne=>Below.heap_setCell _ _ _ _ hne⟩
theorem Kept.below {g B:Nat} {w w':World} (h:Kept g w w') (hg:B≤g) (hB:B≤w.heap.size):Below B w w' :=
 ⟨h.os,h.tape,h.output,h.size,fun k hk=>h.block k (by omega) (by omega)⟩
theorem Kept.iterAt {g k:Nat} {a w:World} (h:Kept g a w) (hk:a.heap.size≤k) (s:ByteArray) (p:Nat):Kept g a (w.iterAt k s p) :=
 ⟨h.os,h.tape,h.output,by rw [Lib.iterAt_size];exact h.size,fun i hi hne=>(Lib.iterAt_other _ _ _ _ _ (by omega)).trans (h.block i hi hne)⟩
theorem str_drop (s:ByteArray) (n:Nat):s.extract n s.size=⟨(s.data.toList.drop n).toArray⟩:=by
 apply ByteArray.ext
 rw [ByteArray.data_extract]
 apply Array.ext'
 rw [Array.toList_extract]
 show (s.data.toList.drop n).take (s.size - n)=_
 rw [List.take_of_length_le]
 rw [List.length_drop]
 exact Nat.le_refl _
def rst (s:ByteArray) (o:Nat):ByteArray:=⟨(s.data.toList.drop o).toArray⟩
theorem rst_list (s:ByteArray) (o:Nat):(rst s o).data.toList=s.data.toList.drop o:=by simp [rst]
theorem rst_size (s:ByteArray) (o:Nat):(rst s o).size=s.size - o:=by
 show (s.data.toList.drop o).toArray.size=_
 simp
set_option maxHeartbeats 400000 in
theorem rest_any (w:World) (g:Nat) (s:ByteArray) (l c:Int) (o:Nat) (ho:o≤s.size) (hC:C4 w g s l c o) :
 Calls Tryz.prog 150 #[.pointer (some ⟨g,0,none⟩)] w fun e w'=>e=.returned (.string (rst s o))∧∃ n,w'=w.drewN n:=by
 have h0:=hC.c0;have h3:=hC.c3
 have HE:=show Hid (s.extract o s.size=rst s o) from str_drop s o
 clear hC
 go_enter Tryz.func150,Tryz.ntmps150
 go_wp2
 go_quiet (fail)
 go_wp2
 go_ret
 exact ⟨by rw [← HE.out];rfl,_,rfl⟩
theorem index_run:∀ (l:List UInt8),Lib.indexByte l 10=if Tk.run (fun c=>c != 10) l<l.length then (Tk.run (fun c=>c != 10) l:Int) else -1
 | []=>rfl
 | b :: l=>by
  rw [Lib.indexByte,Tk.run_cons,index_run l]
  by_cases hb:b=10
  ·subst hb;simp
  ·have h1:(b == 10)=false:=beq_eq_false_iff_ne.2 hb
   have h2:(b != 10)=true:=by simp [hb]
   rw [h1,h2]
   simp only [List.length_cons,Bool.false_eq_true,if_false,if_true]
   by_cases h:Tk.run (fun c=>c != 10) l<l.length
   ·rw [if_pos h,if_pos (show Tk.run (fun c=>c != 10) l+1<l.length+1 by omega),if_neg (by rw [beq_iff_eq];omega)]
    omega
   ·rw [if_neg h,if_neg (show ¬ Tk.run (fun c=>c != 10) l+1<l.length+1 by omega)]
    rfl
set_option maxHeartbeats 400000 in
theorem comment_any (w:World) (s:ByteArray) :
 Calls Tryz.prog 183 #[.string s] w fun e w'=>e=.returned (.int .i64 (Tk.run (fun c=>c != 10) s.data.toList:Int))∧w'=w:=by
 have hsz:s.data.toList.length=s.size:=rfl
 have C1:=show Hid (Calls Tryz.prog 217 #[.string s,.int .u8 10] w fun e w'=>e=.returned (.int .i64 (if Tk.run (fun c=>c != 10) s.data.toList<s.data.toList.length then (Tk.run (fun c=>c != 10) s.data.toList:Int) else -1))∧w'=w) from by
  have:=Tryz.strings_IndexByte s 10 w
  rw [show (10:Int).toNat.toUInt8=10 from rfl,index_run] at this
  exact this
 have hle:=Tk.run_le (fun c=>c != 10) s.data.toList
 generalize Tk.run (fun c=>c != 10) s.data.toList=n at *
 rw [hsz] at C1 hle
 go_enter Tryz.func183,Tryz.ntmps183
 go_wp2_with fail
 refine C1.out.mono ?_
 rintro e w1 ⟨rfl,rfl⟩
 by_cases hn:n<s.size
 ·rw [if_pos hn]
  have hn0:decide (0≤(n:Int))=true:=decide_eq_true (by omega)
  clear C1
  go_wp2_with fail
  go_ret
  exact ⟨rfl,rfl⟩
 ·rw [if_neg hn]
  obtain rfl:n=s.size:=by omega
  clear C1 hn
  go_wp2_with fail
  go_ret
  exact ⟨rfl,rfl⟩
set_option maxRecDepth 100000 in
set_option maxHeartbeats 1000000 in
theorem pass_any (w:World) (g:Nat) (s:ByteArray) (l c:Int) (o n:Nat) (hs:s.size≤140737488355328) (ho:o≤s.size) (hC:C4 w g s l c o) (hG:Tk.Good (s.data.toList.drop o) n) :
 Calls Tryz.prog 151 #[.pointer (some ⟨g,0,none⟩),.int .i64 (n:Int)] w fun e w'=>e=.returned (.tuple #[])∧C4 w' g s (Tk.go (s.data.toList.drop o) n (l,c)).1 (Tk.go (s.data.toList.drop o) n (l,c)).2 (o+n:Nat)∧Kept g w w':=by
 have hsl:s.data.toList.length=s.size:=rfl
 have hnle:o+n≤s.size:=by have:=hG.le;rw [List.length_drop] at this;omega
 have C1:=show Hid (Calls Tryz.prog 150 #[.pointer (some ⟨g,0,none⟩)] w fun e w'=>e=.returned (.string (rst s o))∧∃ n,w'=w.drewN n) from rest_any w g s l c o ho hC
 have HC:=show Hid (C4 w g s l c o) from hC
 obtain ⟨u,hu⟩:∃ u,u=(rst s o).extract 0 n:=⟨_,rfl⟩
 have hul:u.data.toList=(s.data.toList.drop o).take n:=by rw [hu,str_take,rst_list]
 have husz:u.size=n:=by
  have e:u.data.toList.length=u.size:=rfl
  rw [← e,hul,List.length_take,List.length_drop]
  omega
 have HA:=show Hid (Tk.go (u.data.toList.drop 0) (n - 0) (l,c)=Tk.go (s.data.toList.drop o) n (l,c)) from by
  rw [List.drop_zero,Nat.sub_zero,hul]
  exact hG.same (l,c)
 have HU:=show Hid (u.size=n) from husz
 have hue:=hu.symm
 have hrsz:=rst_size s o
 have hglt:=lt_of_block hC
 clear hG hul husz hu hC
 generalize Tk.go (s.data.toList.drop o) n (l,c)=ans at *
 go_enter Tryz.func151,Tryz.ntmps151
 go_wp2_with fail
 refine C1.out.mono ?_
 rintro e w1 ⟨rfl,m,rfl⟩
 clear C1
 have hn1:n≤(rst s o).size:=by omega
 go_wp2_with fail
 have hdr:(w.drewN m).heap=w.heap:=rfl
 have HC1:=show Hid (C4 (w.drewN m) g s l c o) from HC.out
 have HK1:=show Hid (Kept g w (w.drewN m)) from ⟨rfl,rfl,rfl,Nat.le_refl _,fun _ _ _=>rfl⟩
 generalize w.drewN m=w1 at *
 have HSZ1:=show Hid (w1.heap.size=w.heap.size) from congrArg Array.size hdr
 clear hdr
 go_loopw [5] (fun _ wr=>∃ (pos:Nat) (l' c':Int),pos≤n∧Hid (Tk.go (u.data.toList.drop pos) (n - pos) (l',c')=ans)∧Hid (C4 wr g s l' c' o)∧Hid (wr.heap[w.heap.size]?=some (.stringIter u pos))∧Hid (Kept g w wr)) (fun _ wr=>n - wr.iterPos w.heap.size)
 case atStart =>
  refine ⟨0,l,c,by omega,HA,?_,?_,?_⟩
  ·exact (Below.heap_alloc _ _ _ (by rw [HSZ1.out];omega)).trans HC1.out
  ·have:=heap_alloc_new w1 (.stringIter u 0)
   rw [HSZ1.out] at this
   exact this
  ·exact HK1.out.trans (Kept.of_below (below_alloc _ _))
 case round =>
  obtain ⟨pos,l',c',hpos,HG,HCr,HI,HK⟩:=hrel
  have hlt2:w.heap.size<wr.heap.size:=lt_of_block HI.out
  have HIP:=show Hid (wr.iterPos w.heap.size=pos) from iterPos_of HI.out
  have husz:=HU.out
  by_cases hp:pos<u.size
  ·have hnx:∀ ty,(Instr.next (.pointer (some ⟨w.heap.size,0,none⟩)) true ty).run Tryz.prog wr=_:=fun ty=>Lib.run_next_any_at wr _ u pos ty HI.out hp
   have hde:=Tk.decode_eq u pos (by omega)
   rw [hde] at hnx
   have hl:u.data.toList.drop pos≠[]:=by
    intro h
    have:=congrArg List.length h
    rw [List.length_drop,List.length_nil] at this
    have h2:u.data.toList.length=u.size:=rfl
    omega
   have hdp:=Tk.dec_pos (u.data.toList.drop pos)
   have hdl:=Tk.dec_le (u.data.toList.drop pos) hl
   have hg:=HG.out
   generalize hw2:wr.iterAt w.heap.size u (pos+(Tk.dec (u.data.toList.drop pos)).2)=w2 at hnx
   have HC2:=show Hid (C4 w2 g s l' c' o) from by rw [← hw2];exact (Lib.iterAt_other _ _ _ _ _ (by omega)).trans HCr.out
   have HI2:=show Hid (w2.heap[w.heap.size]?=some (.stringIter u (pos+(Tk.dec (u.data.toList.drop pos)).2))) from by rw [← hw2];exact Lib.iterAt_heap _ _ _ _ _ HI.out
   have HK2:=show Hid (Kept g w w2) from by rw [← hw2];exact HK.out.iterAt (by omega) _ _
   rw [Tk.go_step _ _ _ (by omega) hl,List.drop_drop,Nat.sub_sub] at hg
   have HG2:=show Hid _ from hg
   have h2:u.data.toList.length=u.size:=rfl
   rw [List.length_drop] at hdl
   clear hg HG HA hw2 HI HCr HK hde hl
   generalize Tk.dec (u.data.toList.drop pos)=dd at *
   have hd0:=HC2.out.c0;have hd1:=HC2.out.c1;have hd2:=HC2.out.c2;have hd3:=HC2.out.c3
   have C1:=show Hid (Calls Tryz.prog 190 #[.agg #[.int .i64 l',.int .i64 c',.int .i64 (o:Int)],.int .i32 (dd.1:Int)] w2 fun e w'=>e=.returned (.agg #[.int .i64 (Tk.beh (l',c') dd.1).1,.int .i64 (Tk.beh (l',c') dd.1).2,.int .i64 (o:Int)])∧Below w2.heap.size w2 w') from behind_any w2 l' c' o dd.1
   have hsz:w.heap.size<w2.heap.size:=lt_of_block HI2.out
   generalize Tk.beh (l',c') dd.1=be at *
   clear husz
   go_wp2_with fail
   refine C1.out.mono ?_
   rintro e w3 ⟨rfl,hb3⟩
   have HC3:=show Hid (C4 w3 g s l' c' o) from HC2.out.keep hb3 (by omega)
   have HI3:=show Hid (w3.heap[w.heap.size]?=some (.stringIter u (pos+dd.2))) from (hb3.block _ (by omega)).trans HI2.out
   have HK3:=show Hid (Kept g w w3) from HK2.out.trans (Kept.of_below hb3)
   have he0:=HC3.out.c0;have he1:=HC3.out.c1;have he2:=HC3.out.c2;have he3:=HC3.out.c3;have hef:=HC3.out.fr
   clear hb3 C1 hd0 hd1 hd2 hd3 HC2 HI2 HK2
   go_wp2_with fail
   have hgne:w.heap.size≠g:=by omega
   have hit:∀ x y z:Value,(((w3.setCell ⟨g,1,none⟩ x).setCell ⟨g,2,none⟩ y).setCell ⟨g,3,none⟩ z).heap[w.heap.size]?=some (.stringIter u (pos+dd.2)):=fun x y z =>
    (Below.heap_setCell _ _ _ _ hgne).trans ((Below.heap_setCell _ _ _ _ hgne).trans ((Below.heap_setCell _ _ _ _ hgne).trans HI3.out))
   go_roundw
   case rel =>
    refine ⟨pos+dd.2,be.1,be.2,by have:=HU.out;omega,HG2,?_,hit _ _ _,?_⟩
    ·exact ((HC3.out.s1 _).s2 _).s3 _
    ·exact ((HK3.out.setCell _).setCell _).setCell _
   case measure =>
    rw [iterPos_of (hit _ _ _),HIP.out]
    have:=HU.out
    omega
  ·have hnx:∀ ty,(Instr.next (.pointer (some ⟨w.heap.size,0,none⟩)) true ty).run Tryz.prog wr=_:=fun ty=>Lib.run_next_end_at wr _ u pos ty HI.out hp
   have hg:=HG.out
   rw [show n - pos=0 by omega,Tk.go_done _ _ _ (Or.inl rfl)] at hg
   subst hg
   have hd0:=HCr.out.c0;have hd1:=HCr.out.c1;have hd2:=HCr.out.c2;have hd3:=HCr.out.c3;have hdf:=HCr.out.fr
   clear HA HG HI husz
   go_wp2_with fail
   have hfin:=HCr.out.s3 ((o:Int)+(n:Int))
   first | go_end0 | (refine bodyPost_ret (results_none rfl _ _ _) rfl ?_) | go_show
   refine ⟨rfl,?_,HK.out.setCell _⟩
   exact hfin
theorem drop_byte (s:ByteArray) (o:Nat) (h:o<s.size):s.data.toList.drop o=s[o] :: s.data.toList.drop (o+1):=by
 have hsz:s.data.toList.length=s.size:=rfl
 rw [List.drop_eq_getElem_cons (by omega),bytes_at s o h]
theorem skip_blank_at (s:ByteArray) (o:Nat) (h:o<s.size) (hb:Tk.isBlank s[o]=true) (p:Int × Int) :
 Tk.go (s.data.toList.drop o) (Tk.skip (s.data.toList.drop o)) p=Tk.go (s.data.toList.drop (o+1)) (Tk.skip (s.data.toList.drop (o+1))) (Tk.go (s.data.toList.drop o) 1 p)∧o+Tk.skip (s.data.toList.drop o)=o+1+Tk.skip (s.data.toList.drop (o+1))∧Tk.Good (s.data.toList.drop o) 1:=by
 have hg:Tk.Good (s.data.toList.drop o) 1:=by rw [drop_byte s o h];exact Tk.Good.blank _ _ hb
 have e:Tk.skip (s.data.toList.drop o)=1+Tk.skip (s.data.toList.drop (o+1)):=by rw [drop_byte s o h,Tk.skip_blank _ _ hb]
 refine ⟨?_,by omega,hg⟩
 rw [e,Tk.go_add hg.bnd,List.drop_drop]
theorem skip_hash_at (s:ByteArray) (o:Nat) (h:o<s.size) (hb:(s[o]).toNat=35) (p:Int × Int) (k:Nat) (hk:k=Tk.run (fun c=>c != 10) (s.data.toList.drop o)) :
 Tk.go (s.data.toList.drop o) (Tk.skip (s.data.toList.drop o)) p=Tk.go (s.data.toList.drop (o+k)) (Tk.skip (s.data.toList.drop (o+k))) (Tk.go (s.data.toList.drop o) k p)∧o+Tk.skip (s.data.toList.drop o)=o+k+Tk.skip (s.data.toList.drop (o+k))∧Tk.Good (s.data.toList.drop o) k∧1≤k∧o+k≤s.size:=by
 have hg:Tk.Good (s.data.toList.drop o) k:=by rw [hk];exact Tk.Good.comment _
 have hsz:s.data.toList.length=s.size:=rfl
 have h1:1≤k:=by rw [hk,drop_byte s o h];exact Tk.run_hash _ _ hb
 have e:Tk.skip (s.data.toList.drop o)=k+Tk.skip (s.data.toList.drop (o+k)):=by
  have:=Tk.skip_hash s[o] (s.data.toList.drop (o+1)) hb
  rw [← drop_byte s o h,← hk,List.drop_drop] at this
  exact this
 have hle:=hg.le
 rw [List.length_drop] at hle
 refine ⟨?_,by omega,hg,h1,by omega⟩
 rw [e,Tk.go_add hg.bnd,List.drop_drop]
set_option maxRecDepth 100000 in
set_option maxHeartbeats 2000000 in
theorem skip_any (w:World) (g:Nat) (s:ByteArray) (l c:Int) (o:Nat) (hs:s.size≤140737488355328) (ho:o≤s.size) (hC:C4 w g s l c o) :
 Calls Tryz.prog 148 #[.pointer (some ⟨g,0,none⟩)] w fun e w'=>e=.returned (.tuple #[])∧C4 w' g s (Tk.go (s.data.toList.drop o) (Tk.skip (s.data.toList.drop o)) (l,c)).1 (Tk.go (s.data.toList.drop o) (Tk.skip (s.data.toList.drop o)) (l,c)).2 (o+Tk.skip (s.data.toList.drop o):Nat)∧Kept g w w':=by
 have HSL:=show Hid (s.data.toList.length=s.size) from rfl
 have HC:=show Hid (C4 w g s l c o) from hC
 have HO:=show Hid (o≤s.size) from ho
 clear hC ho
 obtain ⟨ans,hans⟩:∃ ans,ans=Tk.go (s.data.toList.drop o) (Tk.skip (s.data.toList.drop o)) (l,c):=⟨_,rfl⟩
 obtain ⟨ende,hend⟩:∃ ende,ende=o+Tk.skip (s.data.toList.drop o):=⟨_,rfl⟩
 rw [← hans,← hend]
 have HA:=show Hid (Tk.go (s.data.toList.drop o) (Tk.skip (s.data.toList.drop o)) (l,c)=ans) from hans.symm
 have HN:=show Hid (o+Tk.skip (s.data.toList.drop o)=ende) from hend.symm
 clear hans hend
 go_enter Tryz.func148,Tryz.ntmps148
 go_wp2
 go_step3
 go_wp2
 go_step3
 go_wp2
 go_loopw [] (fun wr=>∃ (o':Nat) (l' c':Int),o'≤s.size∧Hid (Tk.go (s.data.toList.drop o') (Tk.skip (s.data.toList.drop o')) (l',c')=ans)∧Hid (o'+Tk.skip (s.data.toList.drop o')=ende)∧Hid (C4 wr g s l' c' o')∧Hid (Kept g w wr)) (fun wr=>s.size - (intOf ((wr.cell? ⟨g,3,none⟩).getD (.bool false))).toNat)
 case atStart=>exact ⟨o,l,c,HO.out,HA,HN,HC,Kept.refl _ _⟩
 case round =>
  obtain ⟨o',l',c',ho',HG,HE,HCr,HK⟩:=hrel
  have hd0:=HCr.out.c0;have hd1:=HCr.out.c1;have hd2:=HCr.out.c2;have hd3:=HCr.out.c3
  have HM:=show Hid ((intOf ((wr.cell? ⟨g,3,none⟩).getD (.bool false))).toNat=o') from by rw [hd3];rfl
  by_cases hlt:o'<s.size
  ·cases hbl:Tk.isBlank s[o'] with
   | true =>
    have hor:(((s[o']).toNat:Int) == 32)=true∨((((s[o']).toNat:Int) == 32)=false∧(((s[o']).toNat:Int) == 9)=true)∨((((s[o']).toNat:Int) == 32)=false∧(((s[o']).toNat:Int) == 9)=false∧(((s[o']).toNat:Int) == 10)=true)∨((((s[o']).toNat:Int) == 32)=false∧(((s[o']).toNat:Int) == 9)=false∧(((s[o']).toNat:Int) == 10)=false∧(((s[o']).toNat:Int) == 13)=true):=by
     simp only [Tk.isBlank,Bool.or_eq_true,decide_eq_true_eq] at hbl
     simp only [beq_iff_eq,beq_eq_false_iff_ne]
     omega
    have hst:=skip_blank_at s o' hlt hbl (l',c')
    have HG2:=show Hid (Tk.go (s.data.toList.drop (o'+1)) (Tk.skip (s.data.toList.drop (o'+1))) (Tk.go (s.data.toList.drop o') 1 (l',c'))=ans) from hst.1 ▸ HG.out
    have HE2:=show Hid (o'+1+Tk.skip (s.data.toList.drop (o'+1))=ende) from hst.2.1 ▸ HE.out
    have C1:=show Hid (∀ m,Calls Tryz.prog 151 #[.pointer (some ⟨g,0,none⟩),.int .i64 1] (wr.drewN m) fun e w'=>e=.returned (.tuple #[])∧C4 w' g s (Tk.go (s.data.toList.drop o') 1 (l',c')).1 (Tk.go (s.data.toList.drop o') 1 (l',c')).2 (o'+1:Nat)∧Kept g (wr.drewN m) w') from fun m=>pass_any (wr.drewN m) g s l' c' o' 1 hs ho' (HCr.out.drewN m) hst.2.2
    clear hst hbl HG HE
    generalize Tk.go (s.data.toList.drop o') 1 (l',c')=be at *
    rcases hor with q1 | ⟨q1,q2⟩ | ⟨q1,q2,q3⟩ | ⟨q1,q2,q3,q4⟩
    all_goals
     go_wp2
     go_quiet (fail)
     go_wp2
     go_quiet (fail)
     go_wp2_with fail
     refine (C1.out _).mono ?_
     rintro e w1 ⟨rfl,hc1,hk1⟩
     have HC1:=show Hid (C4 w1 g s be.1 be.2 (o'+1:Nat)) from hc1
     have HK1:=show Hid (Kept g w w1) from (HK.out.drewN _).trans hk1
     clear hc1 hk1 C1
     go_wp2_with fail
     go_roundw
     case rel=>exact ⟨o'+1,be.1,be.2,by omega,HG2,HE2,HC1,HK1⟩
     case measure=>rw [HM.out,HC1.out.c3];simp [intOf];omega
   | false =>
    have hq:(((s[o']).toNat:Int) == 32)=false∧(((s[o']).toNat:Int) == 9)=false∧(((s[o']).toNat:Int) == 10)=false∧(((s[o']).toNat:Int) == 13)=false:=by
     simp only [Tk.isBlank,Bool.or_eq_false_iff,decide_eq_false_iff_not] at hbl
     simp only [beq_eq_false_iff_ne]
     omega
    obtain ⟨q1,q2,q3,q4⟩:=hq
    by_cases h35:(s[o']).toNat=35
    ·obtain ⟨k,hk⟩:∃ k,k=Tk.run (fun c=>c != 10) (s.data.toList.drop o'):=⟨_,rfl⟩
     have hst:=skip_hash_at s o' hlt h35 (l',c') k hk
     have q5:(((s[o']).toNat:Int) == 35)=true:=by rw [h35];rfl
     have HG2:=show Hid (Tk.go (s.data.toList.drop (o'+k)) (Tk.skip (s.data.toList.drop (o'+k))) (Tk.go (s.data.toList.drop o') k (l',c'))=ans) from hst.1 ▸ HG.out
     have HE2:=show Hid (o'+k+Tk.skip (s.data.toList.drop (o'+k))=ende) from hst.2.1 ▸ HE.out
     have C0:=show Hid (∀ m,Calls Tryz.prog 150 #[.pointer (some ⟨g,0,none⟩)] (wr.drewN m) fun e w'=>e=.returned (.string (rst s o'))∧∃ n,w'=(wr.drewN m).drewN n) from fun m=>rest_any (wr.drewN m) g s l' c' o' ho' (HCr.out.drewN m)
     have C2:=show Hid (∀ w,Calls Tryz.prog 183 #[.string (rst s o')] w fun e w'=>e=.returned (.int .i64 (k:Int))∧w'=w) from fun w=>by
      have:=comment_any w (rst s o')
      rw [rst_list,← hk] at this
      exact this
     have C1:=show Hid (∀ m,Calls Tryz.prog 151 #[.pointer (some ⟨g,0,none⟩),.int .i64 (k:Int)] (wr.drewN m) fun e w'=>e=.returned (.tuple #[])∧C4 w' g s (Tk.go (s.data.toList.drop o') k (l',c')).1 (Tk.go (s.data.toList.drop o') k (l',c')).2 (o'+k:Nat)∧Kept g (wr.drewN m) w') from fun m=>pass_any (wr.drewN m) g s l' c' o' k hs ho' (HCr.out.drewN m) hst.2.2.1
     have hk1:=hst.2.2.2.1
     have hk2:=hst.2.2.2.2
     clear hst hbl HG HE h35 hk
     generalize Tk.go (s.data.toList.drop o') k (l',c')=be at *
     go_wp2
     go_quiet (fail)
     go_wp2
     go_quiet (fail)
     go_wp2_with fail
     refine (C0.out _).mono ?_
     rintro e w1 ⟨rfl,m1,rfl⟩
     go_wp2_with fail
     refine (C2.out _).mono ?_
     rintro e w2 ⟨rfl,rfl⟩
     go_wp2_with fail
     refine (C1.out _).mono ?_
     rintro e w3 ⟨rfl,hc1,hk3⟩
     have HC1:=show Hid (C4 w3 g s be.1 be.2 (o'+k:Nat)) from hc1
     have HK1:=show Hid (Kept g w w3) from (HK.out.drewN _).trans hk3
     clear hc1 hk3 C1 C2 C0
     go_wp2_with fail
     go_roundw
     case rel=>exact ⟨o'+k,be.1,be.2,hk2,HG2,HE2,HC1,HK1⟩
     case measure=>rw [HM.out,HC1.out.c3];simp [intOf];omega
    ·have q5:(((s[o']).toNat:Int) == 35)=false:=by simp only [beq_eq_false_iff_ne];omega
     have HSK:Tk.skip (s.data.toList.drop o')=0:=by rw [drop_byte s o' hlt];exact Tk.skip_else _ _ hbl h35
     have hg:=HG.out
     rw [HSK,Tk.go_done _ _ _ (Or.inl rfl)] at hg
     have he:=HE.out
     rw [HSK,Nat.add_zero] at he
     subst hg
     subst he
     clear HG HE HA HN HSK hbl h35
     go_wp2
     go_quiet (fail)
     go_wp2
     go_quiet (fail)
     go_wp2_with fail
     (rw [Exit.noGoto_normal];go_wp2;go_end0)
     exact ⟨rfl,HCr.out.drewN _,HK.out.drewN _⟩
  ·have HSK:Tk.skip (s.data.toList.drop o')=0:=by
    rw [List.drop_eq_nil_of_le (by rw [HSL.out];omega)];rfl
   have hg:=HG.out
   rw [HSK,Tk.go_done _ _ _ (Or.inl rfl)] at hg
   have he:=HE.out
   rw [HSK,Nat.add_zero] at he
   subst hg
   subst he
   clear HG HE HA HN HSK
   go_wp2
   go_quiet (fail)
   go_wp2_with fail
   (rw [Exit.noGoto_normal];go_wp2;go_end0)
   exact ⟨rfl,HCr.out.drewN _,HK.out.drewN _⟩
end Go.Proofs.YtkmmlimekachbaaGreatDoor.Tw
/-
  The call Scan: the tokens of a text, or its first fault: for every text of at most 2^40 bytes, where the tables stand as the program's text lays them.
-/
namespace Go.Proofs.YtkmmlimekachbaaGreatDoor.Tw
open Go.RowKit
def tokC (s:List UInt8) (t:Tk.Tok × Nat):List Value:=[.int .i64 t.1.1,.string ⟨t.1.2.1.toArray⟩,.int .i64 t.1.2.2,.int .i64 (Tk.spot s t.2).1,.int .i64 (Tk.spot s t.2).2,.int .i64 (t.2:Int)]
def toksC (s:List UInt8) (a:List (Tk.Tok × Nat)):List Value:=a.flatMap (tokC s)
theorem toksC_snoc (s:List UInt8) (a:List (Tk.Tok × Nat)) (t:Tk.Tok × Nat):toksC s (a ++ [t])=toksC s a ++ tokC s t:=by simp [toksC]
def F4 (w:World) (g:Nat) (e l c o:Int):Prop:=w.heap[g]?=some (.cells #[.int .i64 e,.int .i64 l,.int .i64 c,.int .i64 o] 52 (0,0))
section
variable {w w':World} {g:Nat} {e l c o:Int}
theorem F4.c0 (h:F4 w g e l c o):w.cell? ⟨g,0,none⟩=some (.int .i64 e):=by rw [cell_of_row w g 0 _ _ _ h];rfl
theorem F4.c1 (h:F4 w g e l c o):w.cell? ⟨g,1,none⟩=some (.int .i64 l):=by rw [cell_of_row w g 1 _ _ _ h];rfl
theorem F4.c2 (h:F4 w g e l c o):w.cell? ⟨g,2,none⟩=some (.int .i64 c):=by rw [cell_of_row w g 2 _ _ _ h];rfl
theorem F4.c3 (h:F4 w g e l c o):w.cell? ⟨g,3,none⟩=some (.int .i64 o):=by rw [cell_of_row w g 3 _ _ _ h];rfl
theorem F4.fr (h:F4 w g e l c o) (j:Nat):w.frozen? ⟨g,j,none⟩=false:=frozen_of_row w g j _ _ h
theorem F4.s4 (h:F4 w g e l c o) (x y z u:Int):F4 ((((w.setCell ⟨g,0,none⟩ (.int .i64 x)).setCell ⟨g,1,none⟩ (.int .i64 y)).setCell ⟨g,2,none⟩ (.int .i64 z)).setCell ⟨g,3,none⟩ (.int .i64 u)) g x y z u :=
 heap_setCell_same _ g 3 _ _ _ (heap_setCell_same _ g 2 _ _ _ (heap_setCell_same _ g 1 _ _ _ (heap_setCell_same w g 0 _ _ _ h)))
theorem F4.keep {B:Nat} (h:F4 w g e l c o) (hb:Below B w w') (hg:g<B):F4 w' g e l c o:=(hb.block g hg).trans h
end
theorem below_set4 {B:Nat} {a w:World} (h:Below B a w) {g:Nat} (hg:B≤g) (x y z u:Value):Below B a ((((w.setCell ⟨g,0,none⟩ x).setCell ⟨g,1,none⟩ y).setCell ⟨g,2,none⟩ z).setCell ⟨g,3,none⟩ u):=(((h.setCell hg x).setCell hg y).setCell hg z).setCell hg u
theorem own_kept {w w':World} {B n:Nat} {v:Value} {xs:List Value} (h:w.ownsRow B 108 6 v n xs) (hk:∀ k,v.ownBlock=some k→w'.heap[k]?=w.heap[k]?):w'.ownsRow B 108 6 v n xs:=by
 refine ⟨h.1,?_⟩
 rcases h.2 with h2 | ⟨g,cap,cur,rfl,hg,hh,r⟩
 ·exact Or.inl h2
 ·exact Or.inr ⟨g,cap,cur,rfl,hg,(hk g rfl).trans hh,r⟩
theorem own_lt {w:World} {B n:Nat} {v:Value} {xs:List Value} (h:w.ownsRow B 108 6 v n xs):∀ k,v.ownBlock=some k→B≤k∧k<w.heap.size∧∃ cur,w.heap[k]?=some (.cells cur 108 (0,0)):=by
 intro k hk
 rcases h.2 with ⟨rfl,_⟩ | ⟨g,cap,cur,rfl,hg,hh,r⟩
 ·cases hk
 ·obtain rfl:g=k:=Option.some.inj hk
  exact ⟨hg,lt_of_block hh,cur,hh⟩
theorem own_below {w w':World} {B n:Nat} {v:Value} {xs:List Value} (h:w.ownsRow B 108 6 v n xs) (hb:Below w.heap.size w w'):w'.ownsRow B 108 6 v n xs :=
 own_kept h fun k hk=>hb.block k (own_lt h k hk).2.1
theorem own_ne_c {w:World} {B n g:Nat} {v:Value} {xs:List Value} {s:ByteArray} {l c o:Int} (h:w.ownsRow B 108 6 v n xs) (hc:C4 w g s l c o):∀ k,v.ownBlock=some k→k≠g:=by
 intro k hk e
 obtain ⟨_,_,cur,hh⟩:=own_lt h k hk
 subst e
 unfold C4 at hc
 rw [hc] at hh
 simp at hh
theorem own_ne_f {w:World} {B n g:Nat} {v:Value} {xs:List Value} {e l c o:Int} (h:w.ownsRow B 108 6 v n xs) (hc:F4 w g e l c o):∀ k,v.ownBlock=some k→k≠g:=by
 intro k hk e
 obtain ⟨_,_,cur,hh⟩:=own_lt h k hk
 subst e
 unfold F4 at hc
 rw [hc] at hh
 simp at hh
def fltV (s:List UInt8) (e:Int) (o:Nat):Value:=if e=0 then .agg #[.int .i64 0,.int .i64 0,.int .i64 0,.int .i64 0] else .agg #[.int .i64 e,.int .i64 (Tk.spot s o).1,.int .i64 (Tk.spot s o).2,.int .i64 (o:Int)]
def IsScan (s:List UInt8) (r:List (Tk.Tok × Nat) × Int × Nat) (w:World) (B:Nat) (e:Ending):Prop :=
 ∃ v,e=.returned (.tuple #[v,fltV s r.2.1 r.2.2])∧w.ownsRow B 108 6 v r.1.length (toksC s r.1)
theorem info_tok:(Tryz.prog.info? 108).map (fun i=>(i.zero,i.size,i.bytes))=some (some (.agg #[.int .i64 0,.string ⟨#[]⟩,.int .i64 0,.int .i64 0,.int .i64 0,.int .i64 0]),6,56):=by kernel_rfl
def flt0:Obj:=.cells #[.int .i64 0,.int .i64 0,.int .i64 0,.int .i64 0] 52
theorem lit_newsV (w:World) (cs:Array Value) (t:TypeId) (g:Nat) (hg:g=w.heap.size):∀ j u,cs.toList[j]?=some u→(w.alloc (.cells cs t)).cell? ((⟨g,0,none⟩:Addr).add j)=some u:=by
 intro j u hu
 subst hg
 rw [Addr.add_lit,Nat.zero_add,World.cell?_alloc_new,← Array.getElem?_toList]
 exact hu
theorem tokC_one (s:List UInt8) (t:Tk.Tok × Nat):∀ u ∈ tokC s t,u.oneCell'=true:=by
 intro u hu
 simp only [tokC,List.mem_cons,List.not_mem_nil,or_false] at hu
 rcases hu with rfl | rfl | rfl | rfl | rfl | rfl <;> rfl
set_option maxRecDepth 100000 in
set_option maxHeartbeats 4000000 in
theorem scan_any (w:World) (s:ByteArray) (hs:s.size≤1099511627776) (hL:Laid w) :
 Calls Tryz.prog 109 #[.string s] w fun e w'=>IsScan s.data.toList (Tk.scan s.data.toList) w' w.heap.size e∧Below w.heap.size w w':=by
 obtain ⟨i0,hi,hz0,hz1,hz2⟩:=info_parts info_tok
 have HSL:=show Hid (s.data.toList.length=s.size) from rfl
 have HL:=show Hid (Laid w) from hL
 have HX:Hid (Tk.scanF (s.size+1) s.data.toList 0 []=Tk.scan s.data.toList):=rfl
 generalize Tk.scan s.data.toList=ans at *
 have HF:Hid (F4 (w.alloc flt0) w.heap.size 0 0 0 0):=heap_alloc_new _ _
 have C0:=show Hid (Calls Tryz.prog 147 #[] (w.alloc flt0) fun e w'=>e=.returned (.agg #[.int .i64 1,.int .i64 1,.int .i64 0])∧Below (w.alloc flt0).heap.size (w.alloc flt0) w') from start_any _
 clear hL
 go_enter Tryz.func109,Tryz.ntmps109
 go_wp2_with fail
 refine C0.out.mono ?_
 rintro e w1 ⟨rfl,hb1⟩
 have HB1:=show Hid (Below w.heap.size w w1) from (below_alloc _ _).trans (hb1.mono (by simp))
 have HF1:=show Hid (F4 w1 w.heap.size 0 0 0 0) from HF.out.keep hb1 (by simp)
 have hlt1:w.heap.size<w1.heap.size:=lt_of_block HF1.out
 clear C0 HF hb1
 go_wp2_with fail
 go_loopw [5,7,8] (fun v _ _ wr=>∃ (o f:Nat) (l c:Int) (a:List (Tk.Tok × Nat)),o≤s.size∧Hid (s.size<o+f)∧a.length≤o∧Hid (Tk.scanF f s.data.toList o a=ans)∧Hid (Tk.Bnd s.data.toList o∧Tk.spot s.data.toList o=(l,c))∧Hid (wr.ownsRow w.heap.size 108 6 v a.length (toksC s.data.toList a))∧Hid (C4 wr w1.heap.size s l c o)∧Hid (F4 wr w.heap.size 0 0 0 0)∧Hid (Below w.heap.size w wr)) (fun _ _ _ wr=>s.size - (intOf ((wr.cell? ⟨w1.heap.size,3,none⟩).getD (.bool false))).toNat)
 case atStart =>
  refine ⟨0,s.size+1,1,1,[],by omega,show s.size<0+(s.size+1) by omega,by simp,HX,⟨Tk.Bnd.nil _,Tk.go_done _ _ _ (Or.inl rfl)⟩,World.ownsRow_nil _ _ _ _,heap_alloc_new _ _,?_,?_⟩
  ·exact (Below.heap_alloc _ _ _ hlt1).trans HF1.out
  ·exact HB1.out.alloc (by omega) _
 case round =>
  obtain ⟨o,f,l,c,a,ho,HFu,hal,HS,HP,HO,HC,HFr,HB⟩:=hrel
  have HM:=show Hid ((intOf ((wr.cell? ⟨w1.heap.size,3,none⟩).getD (.bool false))).toNat=o) from by rw [HC.out.c3];rfl
  clear HX
  obtain ⟨i,hid⟩:∃ i,i=o+Tk.skip (s.data.toList.drop o):=⟨_,rfl⟩
  have hio:i≤s.size:=by
   have h1:=Tk.skip_le _ (s.data.toList.drop o) (Nat.le_refl _)
   rw [List.length_drop,HSL.out] at h1
   omega
  have hoi:o≤i:=by omega
  have CS:=skip_any wr w1.heap.size s l c o (by omega) ho HC.out
  have hsp:Tk.go (s.data.toList.drop o) (Tk.skip (s.data.toList.drop o)) (l,c)=Tk.spot s.data.toList i:=by
   rw [hid,← HP.out.2]
   exact (Tk.go_add HP.out.1 _ _).symm
  rw [hsp,← hid] at CS
  have HP2:=show Hid (Tk.Bnd s.data.toList i) from by rw [hid];exact HP.out.1.add (Tk.skip_bnd _ _ (Nat.le_refl _))
  have hst:=HS.out
  rw [show f=(f - 1)+1 by have:=HFu.out;omega,Tk.scanF_step,← hid] at hst
  have HS2:=show Hid _ from hst
  have CSH:=show Hid (Calls Tryz.prog 148 #[.pointer (some ⟨w1.heap.size,0,none⟩)] wr fun e w'=>e=.returned (.tuple #[])∧C4 w' w1.heap.size s (Tk.spot s.data.toList i).1 (Tk.spot s.data.toList i).2 (i:Nat)∧Kept w1.heap.size wr w') from CS
  have HSP:=show Hid _ from hsp
  clear hst HS CS hsp hid
  go_wp2_with fail
  refine CSH.out.mono ?_
  rintro e w2 ⟨rfl,hc2,hk2⟩
  have HC2:=show Hid (C4 w2 w1.heap.size s (Tk.spot s.data.toList i).1 (Tk.spot s.data.toList i).2 i) from hc2
  have HO2:=show Hid (w2.ownsRow w.heap.size 108 6 u5 a.length (toksC s.data.toList a)) from own_kept HO.out fun k hk=>hk2.block k (own_lt HO.out k hk).2.1 (own_ne_c HO.out HC.out k hk)
  have HF2:=show Hid (F4 w2 w.heap.size 0 0 0 0) from (hk2.block _ (lt_of_block HFr.out) (by omega)).trans HFr.out
  have HB2:=show Hid (Below w.heap.size w w2) from HB.out.trans (hk2.below (by omega) (by have:=lt_of_block HC.out;omega))
  clear CSH hc2 hk2 HO HC HFr HB
  have CR:=show Hid (Calls Tryz.prog 150 #[.pointer (some ⟨w1.heap.size,0,none⟩)] w2 fun e w'=>e=.returned (.string (rst s i))∧∃ n,w'=w2.drewN n) from rest_any w2 w1.heap.size s _ _ i hio HC2.out
  go_wp2_with fail
  refine CR.out.mono ?_
  rintro e w3 ⟨rfl,m3,rfl⟩
  have CC:=show Hid (Calls Tryz.prog 149 #[.string (rst s i)] (w2.drewN m3) fun e w'=>e=.returned (cutV (Tk.cut (s.data.toList.drop i)))∧Below (w2.drewN m3).heap.size (w2.drewN m3) w') from by
   have:=cut_any (w2.drewN m3) (rst s i) (by rw [rst_size];omega) (HL.out.later (HB2.out.trans ⟨rfl,rfl,rfl,Nat.le_refl _,fun _ _=>rfl⟩))
   rw [rst_list] at this
   exact this
  have HCG:=show Hid (s.data.toList.drop i≠[]→(Tk.cut (s.data.toList.drop i)).2.2=0→1≤(Tk.cut (s.data.toList.drop i)).2.1∧Tk.Good (s.data.toList.drop i) (Tk.cut (s.data.toList.drop i)).2.1∧(Tk.cut (s.data.toList.drop i)).1.1≠0) from Tk.cut_good _
  have HCE:=show Hid (s.data.toList.drop i=[]→(Tk.cut (s.data.toList.drop i)).1.1=0) from fun h=>by rw [h];rfl
  generalize Tk.cut (s.data.toList.drop i)=ct at *
  obtain ⟨⟨tk,tt,ti⟩,tn,te⟩:=ct
  clear CR
  go_wp2_with fail
  refine CC.out.mono ?_
  rintro e w4 ⟨rfl,hb4'⟩
  have hb4:Below w2.heap.size w2 w4:=⟨hb4'.os,hb4'.tape,hb4'.output,hb4'.size,hb4'.block⟩
  clear hb4'
  have HC4:=show Hid (C4 w4 w1.heap.size s (Tk.spot s.data.toList i).1 (Tk.spot s.data.toList i).2 i) from HC2.out.keep hb4 (lt_of_block HC2.out)
  have HO4:=show Hid (w4.ownsRow w.heap.size 108 6 u5 a.length (toksC s.data.toList a)) from own_below HO2.out hb4
  have HF4:=show Hid (F4 w4 w.heap.size 0 0 0 0) from HF2.out.keep hb4 (lt_of_block HF2.out)
  have HB4:=show Hid (Below w.heap.size w w4) from HB2.out.trans (hb4.mono (Nat.le_of_lt (lt_of_block HF2.out)))
  clear hb4 CC HC2 HO2 HF2 HB2
  unfold cutV tokV
  have hlt4:w1.heap.size<w4.heap.size:=lt_of_block HC4.out
  by_cases hte:te=0
  ·subst hte
   have hc1:=HC4.out.c1;have hc2:=HC4.out.c2;have hc3:=HC4.out.c3
   obtain ⟨sl,hsl⟩:∃ sl,sl=(Tk.spot s.data.toList i).1:=⟨_,rfl⟩
   obtain ⟨sc,hsc⟩:∃ sc,sc=(Tk.spot s.data.toList i).2:=⟨_,rfl⟩
   rw [← hsl] at hc1
   rw [← hsc] at hc2
   have HTC:=show Hid (tokC s.data.toList ((tk,tt,ti),i)=[.int .i64 tk,.string ⟨tt.toArray⟩,.int .i64 ti,.int .i64 sl,.int .i64 sc,.int .i64 (i:Int)]) from by rw [hsl,hsc];rfl
   have HSLC:=show Hid (sl=(Tk.spot s.data.toList i).1∧sc=(Tk.spot s.data.toList i).2) from ⟨hsl,hsc⟩
   clear hsl hsc
   obtain ⟨xs,hxs⟩:∃ xs,xs=toksC s.data.toList a:=⟨_,rfl⟩
   rw [← hxs] at HO4
   have HXS:=show Hid (toksC s.data.toList a=xs) from hxs.symm
   clear hxs
   have hal2:a.length≤1099511627777:=by omega
   have HN1:=show Hid (∀ u ∈ [Value.int .i64 tk,.string ⟨tt.toArray⟩,.int .i64 ti,.int .i64 sl,.int .i64 sc,.int .i64 (i:Int)],u.oneCell'=true) from by
    have:=tokC_one s.data.toList ((tk,tt,ti),i)
    rw [HTC.out] at this
    exact this
   go_wp2_with (at_builtin;refine wpList_append_own _ rfl (.tmp 28) (.tmp 30) 97 rfl w.heap.size 108 i0 _ 6 56 Tryz.underlying97 hi hz0 hz1 hz2 rfl (by decide) u5 a.length xs rfl (own_below (own_below HO4.out (below_alloc _ _)) (below_alloc _ _)) ⟨w4.heap.size+1,0,none⟩ 1 1 [.int .i64 tk,.string ⟨tt.toArray⟩,.int .i64 ti,.int .i64 sl,.int .i64 sc,.int .i64 (i:Int)] rfl rfl (lit_newsV _ _ _ _ (by simp)) HN1.out (by unfold maxLen;omega) (by omega) (by simp;omega) ?_)
   intro v' w5 hown5 hg5 _
   have hv5:u5.ownBlock≠some w4.heap.size:=fun e=>by have:=(own_lt HO4.out _ e).2.1;omega
   have hvc:u5.ownBlock≠some w1.heap.size:=fun e=>own_ne_c HO4.out HC4.out _ e rfl
   have hvf:u5.ownBlock≠some w.heap.size:=fun e=>own_ne_f HO4.out HF4.out _ e rfl
   have HT5:=show Hid (T6 w5 w4.heap.size (.int .i64 tk) (.string ⟨tt.toArray⟩) (.int .i64 ti) (.int .i64 sl) (.int .i64 sc) (.int .i64 (i:Int))) from (hg5.block _ (by simp;omega) (fun e=>hv5 e.symm)).trans (heap_alloc2_old _ _ _)
   have HC5:=show Hid (C4 w5 w1.heap.size s (Tk.spot s.data.toList i).1 (Tk.spot s.data.toList i).2 i) from (hg5.block _ (by simp;omega) (fun e=>hvc e.symm)).trans ((Below.heap_alloc _ _ _ (by simp;omega)).trans ((Below.heap_alloc _ _ _ hlt4).trans HC4.out))
   have HF5:=show Hid (F4 w5 w.heap.size 0 0 0 0) from (hg5.block _ (by simp;omega) (fun e=>hvf e.symm)).trans ((Below.heap_alloc _ _ _ (by simp;omega)).trans ((Below.heap_alloc _ _ _ (by omega)).trans HF4.out))
   have HB5:=show Hid (Below w.heap.size w w5) from ((HB4.out.alloc (by omega) _).alloc (by simp;omega) _).grown hg5 (by simp;omega) (fun k e=>(own_lt HO4.out k e).1)
   have HO5:=show Hid (w5.ownsRow w.heap.size 108 6 v' (a ++ [((tk,tt,ti),i)]).length (toksC s.data.toList (a ++ [((tk,tt,ti),i)]))) from by
    rw [toksC_snoc,HTC.out,List.length_append,List.length_singleton,HXS.out]
    exact hown5
   have ht0:=HT5.out.c0
   clear hown5 hg5 HO4 HC4 HF4 HB4 hc1 hc2 hc3 hv5 hvc hvf
   have hst:=HS2.out
   rw [if_neg (by simp)] at hst
   by_cases htk:tk=0
   ·subst htk
    rw [if_pos rfl] at hst
    subst hst
    clear HS2
    have hf0:=HF5.out.c0;have hf1:=HF5.out.c1;have hf2:=HF5.out.c2;have hf3:=HF5.out.c3;have hff:=HF5.out.fr
    obtain ⟨pv,nv,cv,hv'⟩:∃ pv nv cv,v'=.slice pv nv cv:=by
     rcases HO5.out.2 with ⟨h,_⟩ | ⟨g,cap,cur,h,_⟩
     ·exact ⟨_,_,_,h⟩
     ·exact ⟨_,_,_,h⟩
    subst hv'
    go_wp2_with fail
    refine bodyPost_ret (results_tmp_row rfl _ _ w.heap.size _ _ _ _ rfl (HF5.out.s4 0 0 0 0) Tryz.underlying52 rfl (by kernel_rfl)) rfl ?_
    refine ⟨⟨.slice pv nv cv,rfl,?_⟩,below_set4 HB5.out (Nat.le_refl _) _ _ _ _⟩
    refine own_kept HO5.out fun k hk => ?_
    have hne:=own_ne_f HO5.out HF5.out k hk
    exact (Below.heap_setCell _ _ _ _ hne).trans ((Below.heap_setCell _ _ _ _ hne).trans ((Below.heap_setCell _ _ _ _ hne).trans (Below.heap_setCell _ _ _ _ hne)))
   ·have htk0:(tk == 0)=false:=beq_eq_false_iff_ne.2 htk
    rw [if_neg htk] at hst
    have HS3:=show Hid (Tk.scanF (f - 1) s.data.toList (i+tn) (a ++ [((tk,tt,ti),i)])=ans) from hst
    have hne:s.data.toList.drop i≠[]:=fun h=>htk (HCE.out h)
    have hgd:=HCG.out hne (by first | rfl | trivial)
    have hgl:=hgd.2.1.le
    rw [List.length_drop,HSL.out] at hgl
    have htn:1≤tn:=hgd.1
    have CP:=pass_any w5 w1.heap.size s (Tk.spot s.data.toList i).1 (Tk.spot s.data.toList i).2 i tn (by omega) hio HC5.out hgd.2.1
    have hsp2:Tk.go (s.data.toList.drop i) tn ((Tk.spot s.data.toList i).1,(Tk.spot s.data.toList i).2)=Tk.spot s.data.toList (i+tn):=(Tk.go_add HP2.out _ _).symm
    rw [hsp2] at CP
    have CPH:=show Hid (Calls Tryz.prog 151 #[.pointer (some ⟨w1.heap.size,0,none⟩),.int .i64 (tn:Int)] w5 fun e w'=>e=.returned (.tuple #[])∧C4 w' w1.heap.size s (Tk.spot s.data.toList (i+tn)).1 (Tk.spot s.data.toList (i+tn)).2 (i+tn:Nat)∧Kept w1.heap.size w5 w') from CP
    have HBN:=show Hid (Tk.Bnd s.data.toList (i+tn)) from HP2.out.add hgd.2.1.bnd
    clear hst HS2 hne hgd CP hsp2 htk HCG HCE HP2
    go_wp2_with fail
    refine CPH.out.mono ?_
    rintro e w6 ⟨rfl,hc6,hk6⟩
    have HC6:=show Hid (C4 w6 w1.heap.size s (Tk.spot s.data.toList (i+tn)).1 (Tk.spot s.data.toList (i+tn)).2 (i+tn:Nat)) from hc6
    have HO6:=show Hid (w6.ownsRow w.heap.size 108 6 v' (a ++ [((tk,tt,ti),i)]).length (toksC s.data.toList (a ++ [((tk,tt,ti),i)]))) from own_kept HO5.out fun k hk=>hk6.block k (own_lt HO5.out k hk).2.1 (own_ne_c HO5.out HC5.out k hk)
    have HF6:=show Hid (F4 w6 w.heap.size 0 0 0 0) from (hk6.block _ (lt_of_block HF5.out) (by omega)).trans HF5.out
    have HB6:=show Hid (Below w.heap.size w w6) from HB5.out.trans (hk6.below (by omega) (by have:=lt_of_block HC5.out;omega))
    clear CPH hc6 hk6 HO5 HC5 HF5 HB5
    go_wp2_with fail
    go_roundw
    case rel =>
     refine ⟨i+tn,f - 1,_,_,a ++ [((tk,tt,ti),i)],by omega,?_,?_,HS3,⟨HBN.out,rfl⟩,HO6,HC6,HF6,HB6⟩
     ·show s.size<i+tn+(f - 1)
      have:=HFu.out
      omega
     ·simp;omega
    case measure =>
     rw [HM.out,HC6.out.c3]
     simp [intOf]
     omega
  ·have hte0:(te != 0)=true:=by simp [hte]
   go_wp2_with fail
   generalize hw5:w4.alloc _=w5 at *
   have HC5:=show Hid (C4 w5 w1.heap.size s (Tk.spot s.data.toList i).1 (Tk.spot s.data.toList i).2 i) from by rw [← hw5];exact (Below.heap_alloc _ _ _ hlt4).trans HC4.out
   have HF5:=show Hid (F4 w5 w.heap.size 0 0 0 0) from by rw [← hw5];exact (Below.heap_alloc _ _ _ (by omega)).trans HF4.out
   have HB5:=show Hid (Below w.heap.size w w5) from by rw [← hw5];exact HB4.out.alloc (by omega) _
   have hc1:=HC5.out.c1;have hc2:=HC5.out.c2;have hc3:=HC5.out.c3
   have hf0:=HF5.out.c0;have hf1:=HF5.out.c1;have hf2:=HF5.out.c2;have hf3:=HF5.out.c3;have hff:=HF5.out.fr
   clear hw5
   go_region
   go_wp2_with fail
   have hA:=HS2.out
   rw [if_pos hte] at hA
   subst hA
   refine bodyPost_ret (results_tmp_row rfl _ _ w.heap.size _ _ _ _ rfl (HF5.out.s4 te (Tk.spot s.data.toList i).1 (Tk.spot s.data.toList i).2 (i:Int)) Tryz.underlying52 rfl (by kernel_rfl)) rfl ?_
   refine ⟨⟨.slice none 0 0,?_,World.ownsRow_nil _ _ _ _⟩,(below_set4 HB5.out (Nat.le_refl _) _ _ _ _).drew⟩
   show _=Ending.returned (.tuple #[.slice none 0 0,fltV s.data.toList te i])
   unfold fltV
   rw [if_neg hte]
   rfl
end Go.Proofs.YtkmmlimekachbaaGreatDoor.Tw
