/-
  The law SequentBack, as the program walks it: true for every row of formulas and every sequent that a machine can hold. Where the tables stand as the program's text lays them.
-/
import Derived.Test.YtkmmlimekachbaaGreatDoorQHG
import Derived.Test.YtkmmlimekachbaaGreatDoorBK2
import Derived.Test.YtkmmlimekachbaaGreatDoorQCnt
import Derived.Test.YtkmmlimekachbaaGreatDoorQEq
namespace Go.Proofs.YtkmmlimekachbaaGreatDoor
open Go.RowKit Go.Maps
open Fm (Nd)
open Bt.Bs (Ok)
theorem seq_flt (w:World):SeqAt ((w.alloc (Obj.cells #[.int .u64 0,.int .u64 0,.int .u64 0,.int .u64 0,.int .u64 0,.int .u64 0,.int .u64 0,.int .u64 0,.int .u64 0,.int .u64 0,.int .u64 0,.int .u64 0,.int .u64 0,.int .u64 0,.int .u64 0,.int .u64 0,.int .i64 0] 27)).alloc (Obj.cells #[.int .i64 0,.int .i64 0,.int .i64 0,.int .i64 0] 52)) w.heap.size Bt.Bs.zero 0∧Fl ((w.alloc (Obj.cells #[.int .u64 0,.int .u64 0,.int .u64 0,.int .u64 0,.int .u64 0,.int .u64 0,.int .u64 0,.int .u64 0,.int .u64 0,.int .u64 0,.int .u64 0,.int .u64 0,.int .u64 0,.int .u64 0,.int .u64 0,.int .u64 0,.int .i64 0] 27)).alloc (Obj.cells #[.int .i64 0,.int .i64 0,.int .i64 0,.int .i64 0] 52)) (w.heap.size+1) 0 0 0 0∧Below w.heap.size w ((w.alloc (Obj.cells #[.int .u64 0,.int .u64 0,.int .u64 0,.int .u64 0,.int .u64 0,.int .u64 0,.int .u64 0,.int .u64 0,.int .u64 0,.int .u64 0,.int .u64 0,.int .u64 0,.int .u64 0,.int .u64 0,.int .u64 0,.int .u64 0,.int .i64 0] 27)).alloc (Obj.cells #[.int .i64 0,.int .i64 0,.int .i64 0,.int .i64 0] 52)):=⟨(Bt.heap_two w _ _).1,(Bt.heap_two w _ _).2,Bt.below_two w _ _⟩
structure LK (w W:World) (B M:Nat) (v:Value) (C:Nat) (u:Value) (t:List Nd) (r:List Nat) (g:Int):Prop where
 pr:Pair w W B M v C u t t
 sq:SeqAt W w.heap.size r g
 nt:∀ k,Ft B M v k→w.heap.size<k
theorem LK.later {w W W2:World} {B M C:Nat} {v u:Value} {t:List Nd} {r:List Nat} {g:Int} (h:LK w W B M v C u t r g) (hb:Below W.heap.size W W2):LK w W2 B M v C u t r g :=
 ⟨h.pr.later hb,h.sq.later hb h.sq.lt,h.nt⟩
theorem LK.stepT {w W W2:World} {B M C:Nat} {v u:Value} {t:List Nd} {r:List Nat} {g:Int} (h:LK w W B M v C u t r g) (ha:After W B M v t W2):∃ v',Pair w W2 B M v' C u t t∧SeqAt W2 w.heap.size r g:=by
 have hs:=h.sq.lt
 obtain ⟨v',hT,hL,hK⟩:=ha
 obtain ⟨v2,hP⟩:=h.pr.stepT ⟨v',hT,hL,hK⟩
 exact ⟨v2,hP,(hK.block _ hs fun hk=>Nat.lt_irrefl _ (h.nt _ hk)).trans h.sq⟩
set_option maxRecDepth 100000 in
set_option maxHeartbeats 4000000 in
theorem sequentBack_any (w:World) (rv:Value) (rs:List Nd) (hR:IsR w rv rs) (hg:∀ n ∈ rs,Fm.good n) (hl:rs.length * 40≤140737488351232) (hv:rv=.slice none 0 0∨∃ a n c,rv=.slice (some a) n c)
 (r:List Nat) (hr:Ok r) (gl:Int) (hL:Tw.Laid w) (hZ:Bt.Tz w) :
 Calls Tryz.prog 7 #[rv,.agg (cellsQ r gl)] w fun e w'=>e=.returned (.bool true)∧Below w.heap.size w w':=by
 have hr16:=hr.1
 have KT:=show Hid (∀ w',Below w.heap.size w w'→Calls Tryz.prog 9 #[rv] w' fun e w''=>∃ B M v C u,e=.returned (.tuple #[.pointer (some ⟨B,0,none⟩),.pointer (some ⟨C,0,none⟩)])∧Pair w' w'' B M v C u (tabOf rs) (tabOf rs)) from fun w' hb=>tables_any w' rv rs (hR.later hb) hg hl hv
 have KH:=show Hid (∀ w':World,Below w.heap.size w w'→Calls Tryz.prog 19 #[] w' fun e w''=>e=.returned (.bool true)∧Below w'.heap.size w' w'') from fun w' hb=>qheads_any w' (hL.later hb) (Bt.tz_block hZ hb)
 have KM:=show Hid (∀ (w:World) (x:Int),Calls Tryz.prog 14 #[.int .i64 x] w fun e w'=>e=.returned (.int .i64 x)∧w'=w) from qnum_any
 generalize tabOf rs=t at *
 have hsl:∃ p n cc,rv=.slice p n cc:=by
  rcases hv with rfl | ⟨a,n,cc,rfl⟩
  ·exact ⟨_,_,_,rfl⟩
  ·exact ⟨_,_,_,rfl⟩
 obtain ⟨p,n,cc,rfl⟩:=hsl
 have HZ:=show Hid (Bt.Tz w∧Tw.Laid w) from ⟨hZ,hL⟩
 have HC:=show Hid (SeqAt (w.alloc (.cells (cellsQ r gl) 27)) w.heap.size r gl∧Below w.heap.size w (w.alloc (.cells (cellsQ r gl) 27))) from ⟨seq_new w r gl,below_alloc w _⟩
 have HOK:=show Hid (Ok r) from hr
 have hSQ:sameQ r gl r gl=true:=sameQ_self r gl
 clear hR hg hl hv hL hZ hr
 go_enter Tryz.func7,Tryz.ntmps7
 go_wp2_with fail
 refine (KT.out _ HC.out.2).mono ?_
 rintro e w1 ⟨B,M,v,C,u,rfl,hP⟩
 have X1:=show Hid (LK w w1 B M v C u t r gl) from ⟨hP.base HC.out.2,HC.out.1.later hP.bel HC.out.1.lt,fun k hk=>by have:=hP.bt k hk;simp at this;omega⟩
 clear KT hP HC
 have K2:=show Hid (Calls Tryz.prog 22 #[.pointer (some ⟨B,0,none⟩),.agg (cellsQ r gl)] w1 fun e w'=>e=.returned (.tuple #[.string ⟨(printQ t r gl).1.toArray⟩,.int .i64 (printQ t r gl).2])∧Below w1.heap.size w1 w') from qprint_any w1 X1.out.pr.tb (Bt.tz_block HZ.out.1 X1.out.pr.bel) HOK.out gl
 have HP:=show Hid _ from print_back X1.out.pr.tb.ok HOK.out gl
 generalize printQ t r gl=pq at *
 obtain ⟨tx,ec⟩:=pq
 simp only at K2 HP
 go_wp2_with (refine wpList_ldQQ _ _ rfl _ rfl X1.out.sq hr16 rfl ?_)
 refine K2.out.mono ?_
 rintro e w2 ⟨rfl,hb2⟩
 have X2:=show Hid (LK w w2 B M v C u t r gl) from X1.out.later hb2
 clear hb2 K2 X1
 rcases HP.out with ⟨hec,htx⟩ | ⟨hec,hp,hle,hsc,hpa⟩
 ·subst htx
  have hec2:(ec == 0)=false:=beq_eq_false_iff_ne.2 hec
  clear HP
  go_wp2_with (go_at_call 14;refine (KM.out _ _).mono ?_;rintro e w' ⟨rfl,rfl⟩)
  refine (KH.out _ X2.out.pr.bel).mono ?_
  rintro e w5 ⟨rfl,hb5⟩
  have H5:=show Hid (Below w.heap.size w w5) from (X2.out.later hb5).pr.bel
  clear hb5
  go_wp2_with fail
  go_ret
  exact ⟨ret_bool (by simp [hec]),H5.out⟩
 ·subst hec
  have hsz:(⟨tx.toArray⟩:ByteArray).size≤65536:=by show tx.toArray.size≤_;rw [List.size_toArray];exact hle
  have hN:Calls Tryz.prog 28 #[.string ⟨tx.toArray⟩] w2 fun e w'=>e=.returned (.int .i64 (cnt (toks tx):Int))∧Below w2.heap.size w2 w':=by
   have h:=dcount_any w2 ⟨tx.toArray⟩ (by omega) (by simpa using hsc)
   simpa using h
  have KN:=show Hid _ from hN
  clear hN
  have KP:=show Hid (∀ w',LK w w' B M v C u t r gl→cnt (toks tx)≤512→Calls Tryz.prog 20 #[.pointer (some ⟨B,0,none⟩),.string ⟨tx.toArray⟩] w' fun e w''=>e=.returned (.tuple #[.agg (cellsQ r gl),.agg #[.int .i64 0,.int .i64 0,.int .i64 0,.int .i64 0]])∧After w' B M v t w'') from fun w' h hc=>by
   refine (qparse_any w' h.pr.tb ⟨tx.toArray⟩ (by omega) (HZ.out.2.later h.pr.bel)).mono ?_
   rintro e w'' ⟨rfl,ha⟩
   rw [show (⟨tx.toArray⟩:ByteArray).data.toList=tx from by simp,hpa hc] at ha ⊢
   exact ⟨rfl,ha⟩
  have hne:¬ (⟨tx.toArray⟩:ByteArray).toList=[]:=by
   rw [ByteArray.toList_eq]
   intro h
   have h3:tx=[]:=by simpa using h
   rw [h3] at hp
   simp at hp
  have HNE:=show Hid _ from hne
  have HNB:=show Hid _ from List.isEmpty_eq_false_iff.2 hne
  clear HP hsz hsc hpa hle hp hne
  generalize hcn:cnt (toks tx)=cn at *
  clear hcn
  generalize (⟨tx.toArray⟩:ByteArray)=st at *
  go_wp2_with (go_at_call 14;refine (KM.out _ _).mono ?_;rintro e w' ⟨rfl,rfl⟩)
  refine Calls.mono KN.out ?_
  rintro e w3 ⟨rfl,hb3⟩
  have X3:=show Hid (LK w w3 B M v C u t r gl) from X2.out.later hb3
  clear hb3 KN X2
  by_cases hc:512<cn
  ·have hc2:(512:Int)<(cn:Int):=by omega
   have hne:=HNE.out
   go_wp2_with (go_at_call 14;refine (KM.out _ _).mono ?_;rintro e w' ⟨rfl,rfl⟩)
   refine (KH.out _ X3.out.pr.bel).mono ?_
   rintro e w5 ⟨rfl,hb5⟩
   have H5:=show Hid (Below w.heap.size w w5) from (X3.out.later hb5).pr.bel
   clear hb5
   go_wp2_with fail
   go_ret
   exact ⟨ret_bool (by rw [HNB.out];rfl),H5.out⟩
  ·have hc2:¬ (512:Int)<(cn:Int):=by omega
   have K4:=show Hid _ from KP.out _ X3.out (by omega)
   clear KP
   go_wp2_with fail
   refine Calls.mono K4.out ?_
   rintro e w4 ⟨rfl,ha⟩
   obtain ⟨v4,hP4,hs4⟩:=X3.out.stepT ha
   have X4:=show Hid (Pair w w4 B M v4 C u t t∧SeqAt w4 w.heap.size r gl) from ⟨hP4,hs4⟩
   have HS4:=show Hid (SeqAt ((w4.alloc (Obj.cells #[.int .u64 0,.int .u64 0,.int .u64 0,.int .u64 0,.int .u64 0,.int .u64 0,.int .u64 0,.int .u64 0,.int .u64 0,.int .u64 0,.int .u64 0,.int .u64 0,.int .u64 0,.int .u64 0,.int .u64 0,.int .u64 0,.int .i64 0] 27)).alloc (Obj.cells #[.int .i64 0,.int .i64 0,.int .i64 0,.int .i64 0] 52)) w4.heap.size Bt.Bs.zero 0∧Fl ((w4.alloc (Obj.cells #[.int .u64 0,.int .u64 0,.int .u64 0,.int .u64 0,.int .u64 0,.int .u64 0,.int .u64 0,.int .u64 0,.int .u64 0,.int .u64 0,.int .u64 0,.int .u64 0,.int .u64 0,.int .u64 0,.int .u64 0,.int .u64 0,.int .i64 0] 27)).alloc (Obj.cells #[.int .i64 0,.int .i64 0,.int .i64 0,.int .i64 0] 52)) (w4.heap.size+1) 0 0 0 0∧Below w4.heap.size w4 ((w4.alloc (Obj.cells #[.int .u64 0,.int .u64 0,.int .u64 0,.int .u64 0,.int .u64 0,.int .u64 0,.int .u64 0,.int .u64 0,.int .u64 0,.int .u64 0,.int .u64 0,.int .u64 0,.int .u64 0,.int .u64 0,.int .u64 0,.int .u64 0,.int .i64 0] 27)).alloc (Obj.cells #[.int .i64 0,.int .i64 0,.int .i64 0,.int .i64 0] 52))) from seq_flt w4
   clear ha hP4 hs4 K4 X3
   go_wp2_with (refine wpList_stQA _ rfl rfl _ _ rfl _ rfl (r':=r) (g':=gl) rfl HS4.out.1 zero_len hr16 ?_)
   intro w5 hs hk
   have HF:=show Hid (Fl w5 (w4.heap.size+1) 0 0 0 0) from Fl.kp HS4.out.2.1 hk (by omega)
   go_wp2_with (refine wpList_stFA _ rfl rfl _ _ rfl _ rfl rfl HF.out ?_)
   intro w6 hf6 hk6
   have hx:=st_all HS4.out.2.2 hk hs hk6 hf6
   have X6:=show Hid (Pair w w6 B M v4 C u t t∧SeqAt w6 w.heap.size r gl∧SeqAt w6 w4.heap.size r gl∧Fl w6 (w4.heap.size+1) 0 0 0 0) from ⟨X4.out.1.later hx.2.2,X4.out.2.later hx.2.2 X4.out.2.lt,hx.1,hx.2.1⟩
   clear hx hs hk hf6 hk6 HF HS4 X4
   generalize w4.heap.size+1=k3 at *
   generalize w4.heap.size=k2 at *
   have a0:=X6.out.2.2.2.c0;have a1:=X6.out.2.2.2.c1;have a2:=X6.out.2.2.2.c2;have a3:=X6.out.2.2.2.c3
   go_wp2_with (first | (refine wpList_ldQQ _ _ rfl k2 rfl X6.out.2.2.1 hr16 rfl ?_) | (refine wpList_ldQQ _ _ rfl w.heap.size rfl X6.out.2.1 hr16 rfl ?_) | (refine wpList_eqQ _ _ _ _ rfl rfl rfl hr16 hr16 rfl ?_;rw [hSQ]))
   have K7:=show Hid (Calls Tryz.prog 18 #[.pointer (some ⟨B,0,none⟩),.pointer (some ⟨C,0,none⟩)] w6 fun e w'=>e=.returned (.bool true)∧Below w6.heap.size w6 w') from qsame_any w w6 X6.out.1
   refine K7.out.mono ?_
   rintro e w7 ⟨rfl,hb7⟩
   have H7:=show Hid (Below w.heap.size w w7) from (X6.out.1.later hb7).bel
   clear hb7 K7 X6 a0 a1 a2 a3
   go_wp2_with fail
   refine (KH.out _ H7.out).mono ?_
   rintro e w8 ⟨rfl,hb8⟩
   have H8:=show Hid (Below w.heap.size w w8) from H7.out.trans (hb8.mono H7.out.size)
   clear hb8 H7
   go_wp2_with fail
   go_ret
   exact ⟨rfl,H8.out⟩
end Go.Proofs.YtkmmlimekachbaaGreatDoor
