/-
  Small laws that the walks lean on; the calls start and behind. No condition.
-/
import Derived.Test.YtkmmlimekachbaaGreatDoorProg
import Derived.Test.YtkmmlimekachbaaGreatDoorTG1
import Derived.WalkKit
import Derived.WalkLawsBesides
import Derived.WalkSpells
import Derived.ProofKit
import Derived.BigQuiet
import Derived.Laws.BitsAllLaws
import Derived.Laws.RangeAny
namespace Go.Proofs.YtkmmlimekachbaaGreatDoor.Tw
open Go.RowKit
theorem ret_int {k:IntKind} {a b:Int} (h:a=b):Ending.returned (.int k a)=.returned (.int k b):=by rw [h]
theorem val_int {k:IntKind} {a b:Int} (h:a=b):Value.int k a=.int k b:=by rw [h]
theorem ret_bool {a b:Bool} (h:a=b):Ending.returned (.bool a)=.returned (.bool b):=by rw [h]
theorem below_alloc (w:World) (o:Obj):Below w.heap.size w (w.alloc o):=(Below.refl _ _).alloc (Nat.le_refl _) _
theorem toNat_lt (c:UInt8):c.toNat<256:=c.toNat_lt
theorem results_cell2_row {P:Program} {fn:Func} {p t2 t3:Tmp} {ty:TypeId} (h:fn.results=#[.cell p ty,.tmp t2,.tmp t3]) (tmps:Array Value) (w:World) (g:Nat) (t:TypeId) (cs:Array Value) (fr:Nat × Nat) (d:TypeDesc)
 (hp:tmps.getD p undef=.pointer (some ⟨g,0,none⟩)) (hg:w.heap[g]?=some (.cells cs t fr))
 (hu:P.underlying ty=some d) (hd:(match d with | .struct _ | .array _ _=>true | _=>false)=true) (hi:(P.info? ty).map (·.size)=some cs.size) :
 (results fn tmps).run P w=.ok (.tuple #[.agg cs,tmps.getD t2 undef,tmps.getD t3 undef]) w:=by
 have hp':tmps[p]?.getD undef=.pointer (some ⟨g,0,none⟩):=by simpa using hp
 simp [results,h,hp',asAddr,run_loadVar_row w g t ty cs fr d hg hu hd hi,Result.andThen]
theorem results_tmp_row {P:Program} {fn:Func} {p t2:Tmp} {ty:TypeId} (h:fn.results=#[.tmp t2,.cell p ty]) (tmps:Array Value) (w:World) (g:Nat) (t:TypeId) (cs:Array Value) (fr:Nat × Nat) (d:TypeDesc)
 (hp:tmps.getD p undef=.pointer (some ⟨g,0,none⟩)) (hg:w.heap[g]?=some (.cells cs t fr))
 (hu:P.underlying ty=some d) (hd:(match d with | .struct _ | .array _ _=>true | _=>false)=true) (hi:(P.info? ty).map (·.size)=some cs.size) :
 (results fn tmps).run P w=.ok (.tuple #[tmps.getD t2 undef,.agg cs]) w:=by
 have hp':tmps[p]?.getD undef=.pointer (some ⟨g,0,none⟩):=by simpa using hp
 simp [results,h,hp',asAddr,run_loadVar_row w g t ty cs fr d hg hu hd hi,Result.andThen]
theorem below_alloc2 (w:World) (o o':Obj):Below w.heap.size w ((w.alloc o).alloc o'):=((Below.refl _ _).alloc (Nat.le_refl _) _).alloc (by simp) _
def T6 (w:World) (g:Nat) (a0 a1 a2 a3 a4 a5:Value):Prop:=w.heap[g]?=some (.cells #[a0,a1,a2,a3,a4,a5] 108 (0,0))
section
variable {w w':World} {g:Nat} {a0 a1 a2 a3 a4 a5:Value}
theorem T6.c0 (h:T6 w g a0 a1 a2 a3 a4 a5):w.cell? ⟨g,0,none⟩=some a0:=by rw [cell_of_row w g 0 _ _ _ h];rfl
theorem T6.c1 (h:T6 w g a0 a1 a2 a3 a4 a5):w.cell? ⟨g,1,none⟩=some a1:=by rw [cell_of_row w g 1 _ _ _ h];rfl
theorem T6.c2 (h:T6 w g a0 a1 a2 a3 a4 a5):w.cell? ⟨g,2,none⟩=some a2:=by rw [cell_of_row w g 2 _ _ _ h];rfl
theorem T6.c3 (h:T6 w g a0 a1 a2 a3 a4 a5):w.cell? ⟨g,3,none⟩=some a3:=by rw [cell_of_row w g 3 _ _ _ h];rfl
theorem T6.c4 (h:T6 w g a0 a1 a2 a3 a4 a5):w.cell? ⟨g,4,none⟩=some a4:=by rw [cell_of_row w g 4 _ _ _ h];rfl
theorem T6.c5 (h:T6 w g a0 a1 a2 a3 a4 a5):w.cell? ⟨g,5,none⟩=some a5:=by rw [cell_of_row w g 5 _ _ _ h];rfl
theorem T6.fr (h:T6 w g a0 a1 a2 a3 a4 a5) (j:Nat):w.frozen? ⟨g,j,none⟩=false:=frozen_of_row w g j _ _ h
theorem T6.s0 (h:T6 w g a0 a1 a2 a3 a4 a5) (x:Value):T6 (w.setCell ⟨g,0,none⟩ x) g x a1 a2 a3 a4 a5:=heap_setCell_same w g 0 _ _ _ h
theorem T6.s1 (h:T6 w g a0 a1 a2 a3 a4 a5) (x:Value):T6 (w.setCell ⟨g,1,none⟩ x) g a0 x a2 a3 a4 a5:=heap_setCell_same w g 1 _ _ _ h
theorem T6.s2 (h:T6 w g a0 a1 a2 a3 a4 a5) (x:Value):T6 (w.setCell ⟨g,2,none⟩ x) g a0 a1 x a3 a4 a5:=heap_setCell_same w g 2 _ _ _ h
theorem T6.s3 (h:T6 w g a0 a1 a2 a3 a4 a5) (x:Value):T6 (w.setCell ⟨g,3,none⟩ x) g a0 a1 a2 x a4 a5:=heap_setCell_same w g 3 _ _ _ h
theorem T6.s4 (h:T6 w g a0 a1 a2 a3 a4 a5) (x:Value):T6 (w.setCell ⟨g,4,none⟩ x) g a0 a1 a2 a3 x a5:=heap_setCell_same w g 4 _ _ _ h
theorem T6.s5 (h:T6 w g a0 a1 a2 a3 a4 a5) (x:Value):T6 (w.setCell ⟨g,5,none⟩ x) g a0 a1 a2 a3 a4 x:=heap_setCell_same w g 5 _ _ _ h
def set6 (w:World) (g:Nat) (x0 x1 x2 x3 x4 x5:Value):World:=(((((w.setCell ⟨g,0,none⟩ x0).setCell ⟨g,1,none⟩ x1).setCell ⟨g,2,none⟩ x2).setCell ⟨g,3,none⟩ x3).setCell ⟨g,4,none⟩ x4).setCell ⟨g,5,none⟩ x5
theorem T6.s6 (h:T6 w g a0 a1 a2 a3 a4 a5) (x0 x1 x2 x3 x4 x5:Value):T6 (set6 w g x0 x1 x2 x3 x4 x5) g x0 x1 x2 x3 x4 x5:=(((((h.s0 x0).s1 x1).s2 x2).s3 x3).s4 x4).s5 x5
theorem T6.other {k g':Nat} (h:T6 w g a0 a1 a2 a3 a4 a5) (hne:g≠g') (x:Value):T6 (w.setCell ⟨g',k,none⟩ x) g a0 a1 a2 a3 a4 a5:=(Below.heap_setCell _ _ _ _ hne).trans h
theorem T6.keep {B:Nat} (h:T6 w g a0 a1 a2 a3 a4 a5) (hb:Below B w w') (hg:g<B):T6 w' g a0 a1 a2 a3 a4 a5:=(hb.block g hg).trans h
end
theorem below_set6 {B:Nat} {a w:World} (h:Below B a w) {g:Nat} (hg:B≤g) (x0 x1 x2 x3 x4 x5:Value):Below B a (set6 w g x0 x1 x2 x3 x4 x5):=(((((h.setCell hg x0).setCell hg x1).setCell hg x2).setCell hg x3).setCell hg x4).setCell hg x5
set_option maxHeartbeats 400000 in
theorem start_any (w:World) :
 Calls Tryz.prog 147 #[] w fun e w'=>e=.returned (.agg #[.int .i64 1,.int .i64 1,.int .i64 0])∧Below w.heap.size w w':=by
 go_enter Tryz.func147,Tryz.ntmps147
 go_wp2
 refine bodyPost_ret (results_cell_row rfl _ _ w.heap.size _ _ _ _ rfl (heap_alloc_new _ _) Tryz.underlying50 rfl (by kernel_rfl)) rfl ?_
 exact ⟨rfl,below_alloc _ _⟩
set_option maxHeartbeats 400000 in
theorem behind_any (w:World) (l c o:Int) (r:Nat) :
 Calls Tryz.prog 190 #[.agg #[.int .i64 l,.int .i64 c,.int .i64 o],.int .i32 (r:Int)] w fun e w'=>e=.returned (.agg #[.int .i64 (Tk.beh (l,c) r).1,.int .i64 (Tk.beh (l,c) r).2,.int .i64 o])∧Below w.heap.size w w':=by
 by_cases hr:r=10
 ·subst hr
  go_enter Tryz.func190,Tryz.ntmps190
  go_wp2
  refine bodyPost_ret (results_cell_row rfl _ _ (w.heap.size+1) _ _ _ _ rfl (heap_alloc2_new _ _ _) Tryz.underlying50 rfl (by kernel_rfl)) rfl ?_
  exact ⟨rfl,below_alloc2 _ _ _⟩
 ·have hne:((r:Int) == 10)=false:=by simp;omega
  have e:Tk.beh (l,c) r=(l,Tk.bump c):=if_neg hr
  rw [e]
  clear hr e
  go_enter Tryz.func190,Tryz.ntmps190
  go_wp2
  refine bodyPost_ret (results_cell_row rfl _ _ (w.heap.size+1) _ _ _ _ rfl (heap_alloc2_new _ _ _) Tryz.underlying50 rfl (by kernel_rfl)) rfl ?_
  exact ⟨rfl,below_alloc2 _ _ _⟩
end Go.Proofs.YtkmmlimekachbaaGreatDoor.Tw
/-
  The calls isDigit, beginsName, withinName, meaning: for every byte, every rune. No condition.
-/
namespace Go.Proofs.YtkmmlimekachbaaGreatDoor.Tw
open Go.RowKit
set_option maxHeartbeats 400000 in
theorem isDigit_any (w:World) (c:UInt8) :
 Calls Tryz.prog 186 #[.int .u8 (c.toNat:Int)] w fun e w'=>e=.returned (.bool (Tk.isDig c))∧w'=w:=by
 have HX:Hid (Tk.isDig c=(decide (48≤c.toNat) && decide (c.toNat≤57))):=rfl
 generalize Tk.isDig c=ans at *
 have hm:=toNat_lt c
 generalize c.toNat=m at *
 have q48:decide (48≤(m:Int))=decide (48≤m):=decide_eq_decide.2 (by omega)
 have q57:decide ((m:Int)≤57)=decide (m≤57):=decide_eq_decide.2 (by omega)
 generalize decide (48≤m)=b1 at *
 generalize decide (m≤57)=b2 at *
 go_enter Tryz.func186,Tryz.ntmps186
 cases b1 <;> cases b2
 all_goals
  go_wp2
  go_ret
  exact ⟨ret_bool (by rw [HX.out];rfl),rfl⟩
set_option maxHeartbeats 1000000 in
theorem begins_any (w:World) (c:UInt8) :
 Calls Tryz.prog 184 #[.int .u8 (c.toNat:Int)] w fun e w'=>e=.returned (.bool (Tk.isBeg c))∧w'=w:=by
 have HX:Hid (Tk.isBeg c=((decide (97≤c.toNat) && decide (c.toNat≤122)) || (decide (65≤c.toNat) && decide (c.toNat≤90)) || decide (c.toNat=95))):=rfl
 generalize Tk.isBeg c=ans at *
 have hm:=toNat_lt c
 generalize c.toNat=m at *
 have q97:decide (97≤(m:Int))=decide (97≤m):=decide_eq_decide.2 (by omega)
 have q122:decide ((m:Int)≤122)=decide (m≤122):=decide_eq_decide.2 (by omega)
 have q65:decide (65≤(m:Int))=decide (65≤m):=decide_eq_decide.2 (by omega)
 have q90:decide ((m:Int)≤90)=decide (m≤90):=decide_eq_decide.2 (by omega)
 have q95:((m:Int) == 95)=decide (m=95):=by rw [Bool.eq_iff_iff];simp;omega
 generalize decide (97≤m)=b1 at *
 generalize decide (m≤122)=b2 at *
 generalize decide (65≤m)=b3 at *
 generalize decide (m≤90)=b4 at *
 generalize decide (m=95)=b5 at *
 go_enter Tryz.func184,Tryz.ntmps184
 cases b1 <;> cases b2 <;> cases b3 <;> cases b4 <;> cases b5
 all_goals
  go_wp2
  go_ret
  exact ⟨ret_bool (by rw [HX.out];rfl),rfl⟩
set_option maxHeartbeats 1000000 in
theorem within_any (w:World) (c:UInt8) :
 Calls Tryz.prog 218 #[.int .u8 (c.toNat:Int)] w fun e w'=>e=.returned (.bool (Tk.isIn c))∧w'=w:=by
 have HX:Hid (Tk.isIn c=(Tk.isBeg c || Tk.isDig c || decide (c.toNat=39))):=rfl
 have C1:=show Hid (Calls Tryz.prog 184 #[.int .u8 (c.toNat:Int)] w fun e w'=>e=.returned (.bool (Tk.isBeg c))∧w'=w) from begins_any w c
 have C2:=show Hid (Calls Tryz.prog 186 #[.int .u8 (c.toNat:Int)] w fun e w'=>e=.returned (.bool (Tk.isDig c))∧w'=w) from isDigit_any w c
 generalize Tk.isIn c=ans at *
 generalize Tk.isBeg c=b1 at *
 generalize Tk.isDig c=b2 at *
 have hm:=toNat_lt c
 generalize c.toNat=m at *
 have q39:((m:Int) == 39)=decide (m=39):=by rw [Bool.eq_iff_iff];simp;omega
 generalize decide (m=39)=b3 at *
 go_enter Tryz.func218,Tryz.ntmps218
 go_wp2_with fail
 refine C1.out.mono ?_
 rintro e w1 ⟨rfl,rfl⟩
 cases b1 with
 | true =>
  cases b3 <;>
  ·go_wp2
   go_ret
   exact ⟨ret_bool (by rw [HX.out];rfl),rfl⟩
 | false =>
  go_wp2_with fail
  refine C2.out.mono ?_
  rintro e w1 ⟨rfl,rfl⟩
  cases b2 <;> cases b3 <;>
  ·go_wp2
   go_ret
   exact ⟨ret_bool (by rw [HX.out];rfl),rfl⟩
set_option maxHeartbeats 1000000 in
theorem meaning_any (w:World) (r:Nat) :
 Calls Tryz.prog 221 #[.int .i32 (r:Int)] w fun e w'=>e=.returned (.tuple #[.int .i64 (Tk.meaning r).1,.string ⟨(Tk.meaning r).2.toArray⟩])∧w'=w:=by
 have q1:((r:Int) == 172)=decide (r=172):=by rw [Bool.eq_iff_iff];simp;omega
 have q2:((r:Int) == 8743)=decide (r=8743):=by rw [Bool.eq_iff_iff];simp;omega
 have q3:((r:Int) == 8744)=decide (r=8744):=by rw [Bool.eq_iff_iff];simp;omega
 have q4:((r:Int) == 8594)=decide (r=8594):=by rw [Bool.eq_iff_iff];simp;omega
 have q5:((r:Int) == 8596)=decide (r=8596):=by rw [Bool.eq_iff_iff];simp;omega
 have q6:((r:Int) == 8866)=decide (r=8866):=by rw [Bool.eq_iff_iff];simp;omega
 have q7:((r:Int) == 8804)=decide (r=8804):=by rw [Bool.eq_iff_iff];simp;omega
 have q8:((r:Int) == 8868)=decide (r=8868):=by rw [Bool.eq_iff_iff];simp;omega
 have q9:((r:Int) == 8869)=decide (r=8869):=by rw [Bool.eq_iff_iff];simp;omega
 have HX:Hid (Tk.meaning r=if decide (r=172)=true then (3,[126]) else if decide (r=8743)=true then (3,[38]) else if decide (r=8744)=true then (3,[124]) else if decide (r=8594)=true then (3,[45,62]) else if decide (r=8596)=true then (3,[60,45,62])
  else if decide (r=8866)=true then (3,[124,45]) else if decide (r=8804)=true then (3,[60,61]) else if decide (r=8868)=true then (1,[116,114,117,101]) else if decide (r=8869)=true then (1,[102,97,108,115,101]) else (0,[])):=by
  show Tk.meaning r=_
  simp only [decide_eq_true_eq];rfl
 generalize Tk.meaning r=ans at *
 generalize decide (r=172)=b1 at *
 generalize decide (r=8743)=b2 at *
 generalize decide (r=8744)=b3 at *
 generalize decide (r=8594)=b4 at *
 generalize decide (r=8596)=b5 at *
 generalize decide (r=8866)=b6 at *
 generalize decide (r=8804)=b7 at *
 generalize decide (r=8868)=b8 at *
 generalize decide (r=8869)=b9 at *
 go_enter Tryz.func221,Tryz.ntmps221
 cases b1 with
 | true=>go_wp2;go_ret2;exact ⟨by rw [HX.out];rfl,rfl⟩
 | false=>cases b2 with
  | true=>go_wp2;go_ret2;exact ⟨by rw [HX.out];rfl,rfl⟩
  | false=>cases b3 with
   | true=>go_wp2;go_ret2;exact ⟨by rw [HX.out];rfl,rfl⟩
   | false=>cases b4 with
    | true=>go_wp2;go_ret2;exact ⟨by rw [HX.out];rfl,rfl⟩
    | false=>cases b5 with
     | true=>go_wp2;go_ret2;exact ⟨by rw [HX.out];rfl,rfl⟩
     | false=>cases b6 with
      | true=>go_wp2;go_ret2;exact ⟨by rw [HX.out];rfl,rfl⟩
      | false=>cases b7 with
       | true=>go_wp2;go_ret2;exact ⟨by rw [HX.out];rfl,rfl⟩
       | false=>cases b8 with
        | true=>go_wp2;go_ret2;exact ⟨by rw [HX.out];rfl,rfl⟩
        | false=>cases b9 with
         | true=>go_wp2;go_ret2;exact ⟨by rw [HX.out];rfl,rfl⟩
         | false=>go_wp2;go_ret2;exact ⟨by rw [HX.out];rfl,rfl⟩
end Go.Proofs.YtkmmlimekachbaaGreatDoor.Tw
/-
  The call cutName: the name with which a text begins: for every text. No condition beyond the text's size.
-/
namespace Go.Proofs.YtkmmlimekachbaaGreatDoor.Tw
open Go.RowKit
def tokV (t:Tk.Tok):Array Value:=#[.int .i64 t.1,.string ⟨t.2.1.toArray⟩,.int .i64 t.2.2,.int .i64 0,.int .i64 0,.int .i64 0]
def cutV (c:Tk.Cut):Value:=.tuple #[.agg (tokV c.1),.int .i64 (c.2.1:Int),.int .i64 c.2.2]
theorem run_at (f:UInt8→Bool) (l:List UInt8) (k:Nat) (h:k<l.length) (hf:f l[k]=true):Tk.run f (l.drop k)=Tk.run f (l.drop (k+1))+1:=by
 rw [List.drop_eq_getElem_cons h,Tk.run_cons,if_pos hf]
theorem run_not (f:UInt8→Bool) (l:List UInt8) (k:Nat) (h:k<l.length) (hf:f l[k]=false):Tk.run f (l.drop k)=0:=by
 rw [List.drop_eq_getElem_cons h,Tk.run_cons,if_neg (by rw [hf];simp)]
theorem bytes_at (s:ByteArray) (k:Nat) (h:k<s.size):s.data.toList[k]'h=s[k]'h:=by
 show s.data.toList[k]=s.data[k]
 simp
theorem str_take (s:ByteArray) (n:Nat):s.extract 0 n=⟨(s.data.toList.take n).toArray⟩:=by
 apply ByteArray.ext
 rw [ByteArray.data_extract]
 apply Array.ext'
 simp [Array.toList_extract]
set_option maxHeartbeats 1000000 in
theorem cutName_any (w:World) (s:ByteArray) (hs:s.size≤140737488355328) :
 Calls Tryz.prog 185 #[.string s] w fun e w'=>e=.returned (cutV (Tk.cutName s.data.toList))∧Below w.heap.size w w':=by
 have hsz:s.data.toList.length=s.size:=rfl
 have HSZ:=show Hid (s.data.toList.length=s.size) from hsz
 clear hsz
 have HX:Hid (0+Tk.run Tk.isIn (s.data.toList.drop 0)=Tk.run Tk.isIn s.data.toList):=by rw [List.drop_zero];exact Nat.zero_add _
 obtain ⟨n,hn⟩:∃ n,n=Tk.run Tk.isIn s.data.toList:=⟨_,rfl⟩
 have HA:=show Hid (Tk.cutName s.data.toList=if 31<n then Tk.bad 22 else ((1,s.data.toList.take n,0),n,0)) from by rw [hn];rfl
 rw [← hn] at HX
 have HN:=show Hid (n≤s.size) from by rw [hn];exact Tk.run_le _ _
 clear hn
 generalize Tk.cutName s.data.toList=ans at *
 have C1:=show Hid (∀ (w:World) (c:UInt8),Calls Tryz.prog 218 #[.int .u8 (c.toNat:Int)] w fun e w'=>e=.returned (.bool (Tk.isIn c))∧w'=w) from within_any
 go_enter Tryz.func185,Tryz.ntmps185
 go_wp2_with fail
 go_loopw [5] (fun i wr=>∃ k:Nat,k≤s.size∧i=.int .i64 k∧Hid (k+Tk.run Tk.isIn (s.data.toList.drop k)=n)∧wr=w.alloc (Obj.cells #[.int .i64 0,.string ⟨#[]⟩,.int .i64 0,.int .i64 0,.int .i64 0,.int .i64 0] 108)) (fun i _=>s.size - (intOf i).toNat)
 case atStart=>exact ⟨0,by omega,rfl,HX,rfl⟩
 case round =>
  obtain ⟨k,hk,rfl,HK,rfl⟩:=hrel
  clear HX
  by_cases hlt:k<s.size
  ·cases hin:Tk.isIn s[k] with
   | true =>
    have HK2:=show Hid (k+1+Tk.run Tk.isIn (s.data.toList.drop (k+1))=n) from by
     have:=HK.out
     rw [run_at _ _ _ (by rw [HSZ.out];exact hlt) (by rw [bytes_at s k hlt];exact hin)] at this
     show _=_
     omega
    have HIN:=show Hid (Tk.isIn s[k]=true) from hin
    clear HK hin
    go_wp2_with fail
    refine (C1.out _ s[k]).mono ?_
    rintro e w1 ⟨rfl,rfl⟩
    rw [HIN.out]
    go_wp2_with fail
    go_roundw
    case rel=>exact ⟨k+1,by omega,by go_num,HK2,trivial⟩
    case measure=>simp [intOf];omega
   | false =>
    have HIN:=show Hid (Tk.isIn s[k]=false) from hin
    have hkn:k=n:=by
     have:=HK.out
     rw [run_not _ _ _ (by rw [HSZ.out];exact hlt) (by rw [bytes_at s k hlt];exact hin)] at this
     omega
    subst hkn
    clear HK hin
    go_wp2_with fail
    refine (C1.out _ s[k]).mono ?_
    rintro e w1 ⟨rfl,rfl⟩
    rw [HIN.out]
    by_cases h31:31<k
    ·have hA:=HA.out
     rw [if_pos h31] at hA
     subst hA
     clear HA
     go_wp2_with fail
     refine bodyPost_ret (results_cell2_row rfl _ _ w.heap.size _ _ _ _ rfl (heap_alloc_new _ _) Tryz.underlying108 rfl (by kernel_rfl)) rfl ?_
     exact ⟨rfl,below_alloc _ _⟩
    ·have hA:=HA.out
     rw [if_neg h31] at hA
     subst hA
     clear HA
     have HT:=show Hid (s.extract 0 k=⟨(s.data.toList.take k).toArray⟩) from str_take s k
     go_wp2_with fail
     refine bodyPost_ret (results_cell2_row rfl _ _ w.heap.size _ _ _ _ rfl (heap_alloc_new _ _) Tryz.underlying108 rfl (by kernel_rfl)) rfl ?_
     exact ⟨by rw [HT.out];rfl,below_alloc _ _⟩
  ·have hkn:k=n:=by
    have:=HK.out
    rw [List.drop_eq_nil_of_le (by rw [HSZ.out];omega)] at this
    exact this
   subst hkn
   clear HK
   by_cases h31:31<k
   ·have hA:=HA.out
    rw [if_pos h31] at hA
    subst hA
    clear HA
    go_wp2_with fail
    refine bodyPost_ret (results_cell2_row rfl _ _ w.heap.size _ _ _ _ rfl (heap_alloc_new _ _) Tryz.underlying108 rfl (by kernel_rfl)) rfl ?_
    exact ⟨rfl,below_alloc _ _⟩
   ·have hA:=HA.out
    rw [if_neg h31] at hA
    subst hA
    clear HA
    have HT:=show Hid (s.extract 0 k=⟨(s.data.toList.take k).toArray⟩) from str_take s k
    go_wp2_with fail
    refine bodyPost_ret (results_cell2_row rfl _ _ w.heap.size _ _ _ _ rfl (heap_alloc_new _ _) Tryz.underlying108 rfl (by kernel_rfl)) rfl ?_
    exact ⟨by rw [HT.out];rfl,below_alloc _ _⟩
end Go.Proofs.YtkmmlimekachbaaGreatDoor.Tw
/-
  The call cutNumber: the number with which a text begins: for every text that begins with a digit. No condition beyond the text's size.
-/
namespace Go.Proofs.YtkmmlimekachbaaGreatDoor.Tw
open Go.RowKit
theorem val_append (a:Nat) (l r:List UInt8):Tk.val a (l ++ r)=Tk.val (Tk.val a l) r:=List.foldl_append
theorem val_ge:∀ (r:List UInt8) (a:Nat),a≤Tk.val a r
 | [],_=>Nat.le_refl _
 | c :: r,a=>by
  have h:=val_ge r (10 * a+(c.toNat - 48))
  show a≤Tk.val (10 * a+(c.toNat - 48)) r
  omega
theorem val_take_le (l:List UInt8) (m n:Nat) (h:m≤n):Tk.val 0 (l.take m)≤Tk.val 0 (l.take n):=by
 have e:l.take n=l.take m ++ (l.take n).drop m:=by
  conv=>lhs;rw [← List.take_append_drop m (l.take n)]
  rw [List.take_take,Nat.min_eq_left h]
 rw [e,val_append]
 exact val_ge _ _
theorem val_snoc (l:List UInt8) (k:Nat) (h:k<l.length):Tk.val 0 (l.take (k+1))=10 * Tk.val 0 (l.take k)+((l[k]).toNat - 48):=by
 rw [List.take_succ_eq_append_getElem h,val_append]
 rfl
theorem inAt_lt (s:ByteArray) (k:Nat) (h:k<s.size):Tk.inAt s.data.toList k=Tk.isIn s[k]:=by
 unfold Tk.inAt
 have hsz:s.data.toList.length=s.size:=rfl
 rw [List.getElem?_eq_getElem (by omega)]
 simp only
 rw [bytes_at s k h]
theorem inAt_ge (s:ByteArray) (k:Nat) (h:s.size≤k):Tk.inAt s.data.toList k=false:=by
 unfold Tk.inAt
 have hsz:s.data.toList.length=s.size:=rfl
 rw [List.getElem?_eq_none (by omega)]
theorem head_48 (s:ByteArray) (h:0<s.size):(s.data.toList[0]?=some 48) ↔ ((s[0]).toNat=48):=by
 have hsz:s.data.toList.length=s.size:=rfl
 rw [List.getElem?_eq_getElem (by omega),bytes_at s 0 h,Option.some.injEq,← UInt8.toNat_inj]
 rfl
theorem isDig_iff (c:UInt8):Tk.isDig c=true ↔ 48≤c.toNat∧c.toNat≤57:=by simp [Tk.isDig]
set_option maxHeartbeats 2000000 in
theorem cutNum_any (w:World) (s:ByteArray) (hs:s.size≤140737488355328) (h0:0<s.size) :
 Calls Tryz.prog 187 #[.string s] w fun e w'=>e=.returned (cutV (Tk.cutNum s.data.toList))∧Below w.heap.size w w':=by
 have hsz:s.data.toList.length=s.size:=rfl
 have HSZ:=show Hid (s.data.toList.length=s.size) from hsz
 clear hsz
 have HX:Hid (0+Tk.run Tk.isDig (s.data.toList.drop 0)=Tk.run Tk.isDig s.data.toList):=by rw [List.drop_zero];exact Nat.zero_add _
 obtain ⟨n,hn⟩:∃ n,n=Tk.run Tk.isDig s.data.toList:=⟨_,rfl⟩
 have HA:=show Hid (Tk.cutNum s.data.toList=if 999999999<Tk.val 0 (s.data.toList.take n)∨(s.data.toList[0]?=some 48∧1<n)∨Tk.inAt s.data.toList n=true then Tk.bad 21 else ((2,[],(Tk.val 0 (s.data.toList.take n):Int)),n,0)) from by rw [hn];rfl
 rw [← hn] at HX
 have HN:=show Hid (n≤s.size) from by rw [hn];exact Tk.run_le _ _
 clear hn
 have HA1:=show Hid (999999999<Tk.val 0 (s.data.toList.take n)→Tk.cutNum s.data.toList=Tk.bad 21) from fun h=>by rw [HA.out,if_pos (Or.inl h)]
 have HA2:=show Hid ((s[0]).toNat=48→1<n→Tk.cutNum s.data.toList=Tk.bad 21) from fun h h'=>by rw [HA.out,if_pos (Or.inr (Or.inl ⟨(head_48 s h0).2 h,h'⟩))]
 have HA3:=show Hid (Tk.inAt s.data.toList n=true→Tk.cutNum s.data.toList=Tk.bad 21) from fun h=>by rw [HA.out,if_pos (Or.inr (Or.inr h))]
 have HA4:=show Hid (Tk.val 0 (s.data.toList.take n)≤999999999→(s[0]).toNat≠48∨n≤1→Tk.inAt s.data.toList n=false→Tk.cutNum s.data.toList=((2,[],(Tk.val 0 (s.data.toList.take n):Int)),n,0)) from fun h h' h''=>by
  rw [HA.out,if_neg]
  rintro (h1 | h1 | h1)
  ·omega
  ·rcases h' with h' | h'
   ·exact h' ((head_48 s h0).1 h1.1)
   ·omega
  ·rw [h''] at h1;cases h1
 clear HA
 generalize Tk.cutNum s.data.toList=ans at *
 have C1:=show Hid (∀ (w:World) (c:UInt8),Calls Tryz.prog 186 #[.int .u8 (c.toNat:Int)] w fun e w'=>e=.returned (.bool (Tk.isDig c))∧w'=w) from isDigit_any
 have C2:=show Hid (∀ (w:World) (c:UInt8),Calls Tryz.prog 218 #[.int .u8 (c.toNat:Int)] w fun e w'=>e=.returned (.bool (Tk.isIn c))∧w'=w) from within_any
 go_enter Tryz.func187,Tryz.ntmps187
 go_wp2_with fail
 go_loopw [5,6] (fun v i wr=>∃ k V:Nat,k≤s.size∧V≤999999999∧i=.int .i64 k∧v=.int .i64 (V:Int)∧Hid (Tk.val 0 (s.data.toList.take k)=V)∧Hid (k+Tk.run Tk.isDig (s.data.toList.drop k)=n)∧wr=w.alloc (Obj.cells #[.int .i64 0,.string ⟨#[]⟩,.int .i64 0,.int .i64 0,.int .i64 0,.int .i64 0] 108)) (fun _ i _=>s.size - (intOf i).toNat)
 case atStart=>exact ⟨0,0,by omega,by omega,rfl,rfl,rfl,HX,rfl⟩
 case round =>
  obtain ⟨k,V,hk,hV,rfl,rfl,HV,HK,rfl⟩:=hrel
  clear HX
  by_cases hlt:k<s.size
  ·cases hin:Tk.isDig s[k] with
   | true =>
    have HK2:=show Hid (k+1+Tk.run Tk.isDig (s.data.toList.drop (k+1))=n) from by
     have:=HK.out
     rw [run_at _ _ _ (by rw [HSZ.out];exact hlt) (by rw [bytes_at s k hlt];exact hin)] at this
     show _=_
     omega
    have HV2:=show Hid (Tk.val 0 (s.data.toList.take (k+1))=10 * V+((s[k]).toNat - 48)) from by
     have:=val_snoc s.data.toList k (by rw [HSZ.out];exact hlt)
     rw [HV.out,bytes_at s k hlt] at this
     exact this
    have hd:=(isDig_iff _).1 hin
    obtain ⟨d,hdd⟩:∃ d,(s[k]).toNat - 48=d:=⟨_,rfl⟩
    have hx:(((s[k]).toNat:Int) - 48) % 256=(d:Int):=by omega
    have hd9:d≤9:=by omega
    rw [hdd] at HV2
    have HIN:=show Hid (Tk.isDig s[k]=true) from hin
    clear HK hin hd hdd
    go_wp2_with fail
    refine (C1.out _ s[k]).mono ?_
    rintro e w1 ⟨rfl,rfl⟩
    rw [HIN.out]
    clear HIN
    by_cases hbig:999999999<10 * V+d
    ·have hle:=val_take_le s.data.toList (k+1) n (by have:=HK2.out;omega)
     rw [HV2.out] at hle
     have hA:=HA1.out (by omega)
     subst hA
     have hbig2:decide (999999999<10 * (V:Int)+(d:Int))=true:=decide_eq_true (by omega)
     clear HA1 HA2 HA3 HA4 hle HV2 HK2 hbig
     go_wp2_with fail
     refine bodyPost_ret (results_cell2_row rfl _ _ w.heap.size _ _ _ _ rfl (heap_alloc_new _ _) Tryz.underlying108 rfl (by kernel_rfl)) rfl ?_
     exact ⟨rfl,below_alloc _ _⟩
    ·have hbig2:decide (999999999<10 * (V:Int)+(d:Int))=false:=decide_eq_false (by omega)
     have hV2:10 * V+d≤999999999:=by omega
     clear hbig
     go_wp2_with fail
     go_roundw
     case rel=>exact ⟨k+1,10 * V+d,by omega,hV2,by go_num,val_int (by omega),HV2,HK2,trivial⟩
     case measure=>simp [intOf];omega
   | false =>
    have hkn:k=n:=by
     have:=HK.out
     rw [run_not _ _ _ (by rw [HSZ.out];exact hlt) (by rw [bytes_at s k hlt];exact hin)] at this
     omega
    subst hkn
    have HIN:=show Hid (Tk.isDig s[k]=false) from hin
    clear HK hin
    go_wp2_with fail
    refine (C1.out _ s[k]).mono ?_
    rintro e w1 ⟨rfl,rfl⟩
    rw [HIN.out]
    clear HIN
    rw [HV.out,inAt_lt s k hlt] at HA4
    rw [inAt_lt s k hlt] at HA3
    by_cases h48:(s[0]).toNat=48∧1<k
    ·have hA:=HA2.out h48.1 h48.2
     subst hA
     have q48:((((s[0]'h0).toNat:Nat):Int) == 48)=true:=beq_iff_eq.2 (by omega)
     have q1:=h48.2
     clear h48
     clear HA1 HA2 HA3 HA4
     go_wp2_with fail
     refine bodyPost_ret (results_cell2_row rfl _ _ w.heap.size _ _ _ _ rfl (heap_alloc_new _ _) Tryz.underlying108 rfl (by kernel_rfl)) rfl ?_
     exact ⟨rfl,below_alloc _ _⟩
    ·have H48:=show Hid ((s[0]).toNat≠48∨k≤1) from by
      show (s[0]).toNat≠48∨k≤1
      omega
     have hor:((((s[0]'h0).toNat:Nat):Int) == 48)=false∨(((((s[0]'h0).toNat:Nat):Int) == 48)=true∧decide (1<(k:Int))=false):=by
      by_cases h:(s[0]).toNat=48
      ·exact Or.inr ⟨beq_iff_eq.2 (by omega),decide_eq_false (by omega)⟩
      ·exact Or.inl (beq_eq_false_iff_ne.2 (by omega))
     clear h48
     cases hin:Tk.isIn s[k] with
     | true =>
      have hA:=HA3.out hin
      subst hA
      have HIN:=show Hid (Tk.isIn s[k]=true) from hin
      clear HA1 HA2 HA3 HA4 hin
      rcases hor with q48 | ⟨q48,q1⟩
      all_goals
       go_wp2_with fail
       refine (C2.out _ s[k]).mono ?_
       rintro e w1 ⟨rfl,rfl⟩
       rw [HIN.out]
       go_wp2_with fail
       refine bodyPost_ret (results_cell2_row rfl _ _ w.heap.size _ _ _ _ rfl (heap_alloc_new _ _) Tryz.underlying108 rfl (by kernel_rfl)) rfl ?_
       exact ⟨rfl,below_alloc _ _⟩
     | false =>
      have hA:=HA4.out hV H48.out hin
      subst hA
      have HIN:=show Hid (Tk.isIn s[k]=false) from hin
      clear HA1 HA2 HA3 HA4 hin
      rcases hor with q48 | ⟨q48,q1⟩
      all_goals
       go_wp2_with fail
       refine (C2.out _ s[k]).mono ?_
       rintro e w1 ⟨rfl,rfl⟩
       rw [HIN.out]
       go_wp2_with fail
       refine bodyPost_ret (results_cell2_row rfl _ _ w.heap.size _ _ _ _ rfl (heap_alloc_new _ _) Tryz.underlying108 rfl (by kernel_rfl)) rfl ?_
       exact ⟨rfl,below_alloc _ _⟩
  ·have hkn:k=n:=by
    have:=HK.out
    rw [List.drop_eq_nil_of_le (by rw [HSZ.out];omega)] at this
    exact this
   subst hkn
   clear HK
   rw [HV.out,inAt_ge s k (by omega)] at HA4
   by_cases h48:(s[0]).toNat=48∧1<k
   ·have hA:=HA2.out h48.1 h48.2
    subst hA
    have q48:((((s[0]'h0).toNat:Nat):Int) == 48)=true:=beq_iff_eq.2 (by omega)
    have q1:=h48.2
    clear h48
    clear HA1 HA2 HA3 HA4
    go_wp2_with fail
    refine bodyPost_ret (results_cell2_row rfl _ _ w.heap.size _ _ _ _ rfl (heap_alloc_new _ _) Tryz.underlying108 rfl (by kernel_rfl)) rfl ?_
    exact ⟨rfl,below_alloc _ _⟩
   ·have H48:=show Hid ((s[0]).toNat≠48∨k≤1) from by
     show (s[0]).toNat≠48∨k≤1
     omega
    have hor:((((s[0]'h0).toNat:Nat):Int) == 48)=false∨(((((s[0]'h0).toNat:Nat):Int) == 48)=true∧decide (1<(k:Int))=false):=by
     by_cases h:(s[0]).toNat=48
     ·exact Or.inr ⟨beq_iff_eq.2 (by omega),decide_eq_false (by omega)⟩
     ·exact Or.inl (beq_eq_false_iff_ne.2 (by omega))
    have hA:=HA4.out hV H48.out rfl
    subst hA
    clear h48 HA1 HA2 HA3 HA4
    rcases hor with q48 | ⟨q48,q1⟩
    all_goals
     go_wp2_with fail
     refine bodyPost_ret (results_cell2_row rfl _ _ w.heap.size _ _ _ _ rfl (heap_alloc_new _ _) Tryz.underlying108 rfl (by kernel_rfl)) rfl ?_
     exact ⟨rfl,below_alloc _ _⟩
end Go.Proofs.YtkmmlimekachbaaGreatDoor.Tw
