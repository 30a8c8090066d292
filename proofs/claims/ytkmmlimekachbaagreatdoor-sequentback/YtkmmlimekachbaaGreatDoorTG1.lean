/-
  What the layer token reckons, as plain functions on lists of bytes; nothing of the program is named here. No condition.
-/
import Derived.WalkKit
import Derived.Laws.RangeAny
import Derived.Lib.Strings
set_option linter.unusedSimpArgs false
namespace Go.Proofs.YtkmmlimekachbaaGreatDoor.Tk
def decF (b:Nat→Nat) (c:Nat→Bool):Nat × Nat :=
 if b 0<0x80 then (b 0,1)
 else if b 0 / 32 == 6 && c 1 then
  if (b 0 % 32) * 64+b 1 % 64 ≥ 0x80 then ((b 0 % 32) * 64+b 1 % 64,2) else (65533,1)
 else if b 0 / 16 == 14 && c 1 && c 2 then
  if (b 0 % 16) * 4096+(b 1 % 64) * 64+b 2 % 64 ≥ 0x800 && Utf8.valid (((b 0 % 16) * 4096+(b 1 % 64) * 64+b 2 % 64:Nat):Int) then ((b 0 % 16) * 4096+(b 1 % 64) * 64+b 2 % 64,3) else (65533,1)
 else if b 0 / 8 == 30 && c 1 && c 2 && c 3 then
  if (b 0 % 8) * 262144+(b 1 % 64) * 4096+(b 2 % 64) * 64+b 3 % 64 ≥ 0x10000 && Utf8.valid (((b 0 % 8) * 262144+(b 1 % 64) * 4096+(b 2 % 64) * 64+b 3 % 64:Nat):Int) then ((b 0 % 8) * 262144+(b 1 % 64) * 4096+(b 2 % 64) * 64+b 3 % 64,4) else (65533,1)
 else (65533,1)
def byt (l:List UInt8) (k:Nat):Nat:=(l.getD k 0).toNat
def con (l:List UInt8) (k:Nat):Bool:=decide (k<l.length) && byt l k / 64 == 2
def dec (l:List UInt8):Nat × Nat:=decF (byt l) (con l)
theorem decF_congr (b b':Nat→Nat) (c c':Nat→Bool) (h0:b 0=b' 0) (h1:c 1=c' 1) (e1:c 1=true→b 1=b' 1) (h2:c 1=true→c 2=c' 2) (e2:c 1=true→c 2=true→b 2=b' 2)
 (h3:c 1=true→c 2=true→c 3=c' 3) (e3:c 1=true→c 2=true→c 3=true→b 3=b' 3):decF b c=decF b' c':=by
 unfold decF
 rw [← h0,← h1]
 cases hc1:c 1 with
 | false=>simp
 | true =>
  rw [← e1 hc1,← h2 hc1]
  cases hc2:c 2 with
  | false=>simp
  | true =>
   rw [← e2 hc1 hc2,← h3 hc1 hc2]
   cases hc3:c 3 with
   | false=>simp
   | true=>rw [← e3 hc1 hc2 hc3]
theorem get_drop (s:ByteArray) (i k:Nat):s.get! (i+k)=(s.data.toList.drop i).getD k 0:=by
 cases s with | mk a =>
 show a[i+k]! = _
 simp [List.getD,getElem!_def,List.getElem?_drop]
 cases a[i+k]? <;> rfl
theorem decode_eq (s:ByteArray) (i:Nat) (hi:i≤s.size):Utf8.decode s i=dec (s.data.toList.drop i):=by
 have hs:s.data.toList.length=s.size:=rfl
 have hl:∀ k,(i+k<s.size)=(k<(s.data.toList.drop i).length):=fun k=>by
  rw [List.length_drop,hs];apply propext;omega
 have hb:∀ k,(s.get! (i+k)).toNat=byt (s.data.toList.drop i) k:=fun k=>by rw [get_drop];rfl
 have hc:∀ k,(decide (i+k<s.size) && byt (s.data.toList.drop i) k / 64 == 2)=con (s.data.toList.drop i) k:=fun k=>by
  unfold con
  congr 1
  exact decide_eq_decide.2 (by rw [hl k])
 unfold Utf8.decode dec decF
 simp only [hb,hc,Utf8.runeError]
theorem dec_pos (l:List UInt8):1≤(dec l).2:=by
 simp only [dec,decF]
 repeat' split
 all_goals simp
theorem dec_le4 (l:List UInt8):(dec l).2≤4:=by
 simp only [dec,decF]
 repeat' split
 all_goals simp
theorem dec_ascii (l:List UInt8) (c:UInt8) (h:l[0]?=some c) (hc:c.toNat<128):dec l=(c.toNat,1):=by
 simp [dec,decF,byt,List.getD,h,hc]
theorem con_lt {l:List UInt8} {k:Nat} (h:con l k=true):k<l.length:=by
 simp only [con,Bool.and_eq_true,decide_eq_true_eq] at h
 exact h.1
theorem dec_le (l:List UInt8) (h:l≠[]):(dec l).2≤l.length:=by
 have h1:1≤l.length:=by cases l with | nil=>exact absurd rfl h | cons a t=>simp
 have h2:=@con_lt l 1
 have h3:=@con_lt l 2
 have h4:=@con_lt l 3
 simp only [dec,decF]
 repeat' split
 all_goals simp_all
 all_goals omega
theorem byt_take (l:List UInt8) (n k:Nat) (hk:k<n):byt (l.take n) k=byt l k:=by simp [byt,List.getD,List.getElem?_take,hk]
theorem con_take (l:List UInt8) (n k:Nat) (hk:k<n):con (l.take n) k=con l k:=by
 simp only [con,byt_take l n k hk,List.length_take]
 congr 1
 exact decide_eq_decide.2 (by omega)
theorem con_take_ge (l:List UInt8) (n k:Nat) (hk:n≤k):con (l.take n) k=false:=by
 cases h:con (l.take n) k with
 | false=>rfl
 | true =>
  have:=con_lt h
  rw [List.length_take] at this
  omega
theorem dec_cut (l:List UInt8) (n:Nat) (hn:1≤n) (hc:con l n=false):dec (l.take n)=dec l:=by
 have step:∀ k,1≤k→(∀ j,1≤j→j<k→con l j=true)→con l k=con (l.take n) k:=fun k hk hj=>by
  by_cases h:k<n
  ·exact (con_take l n k h).symm
  ·rw [con_take_ge l n k (by omega)]
   rcases Nat.lt_or_ge n k with h' | h'
   ·have:=hj n hn h'
    rw [hc] at this;cases this
   ·obtain rfl:k=n:=by omega
    exact hc
 have lt:∀ k,con l k=true→(∀ j,1≤j→j<k→con l j=true)→k<n:=fun k hk hj=>by
  rcases Nat.lt_or_ge k n with h | h
  ·exact h
  ·rcases Nat.lt_or_ge n k with h' | h'
   ·have:=hj n hn h'
    rw [hc] at this;cases this
   ·obtain rfl:k=n:=by omega
    rw [hc] at hk;cases hk
 have J1:∀ j,1≤j→j<1→con l j=true:=fun j h1 h2=>by omega
 have J2:con l 1=true→∀ j,1≤j→j<2→con l j=true:=fun h j h1 h2=>by
  obtain rfl:j=1:=by omega
  exact h
 have J3:con l 1=true→con l 2=true→∀ j,1≤j→j<3→con l j=true:=fun h h' j h1 h2=>by
  rcases (show j=1∨j=2 by omega) with rfl | rfl
  ·exact h
  ·exact h'
 exact (decF_congr _ _ _ _ (byt_take l n 0 (by omega)).symm (step 1 (by omega) J1) (fun h=>(byt_take l n 1 (lt 1 h J1)).symm) (fun h=>step 2 (by omega) (J2 h)) (fun h h'=>(byt_take l n 2 (lt 2 h' (J2 h))).symm)
  (fun h h'=>step 3 (by omega) (J3 h h')) (fun h h' h''=>(byt_take l n 3 (lt 3 h'' (J3 h h'))).symm)).symm
theorem dec_self (l:List UInt8):dec (l.take (dec l).2)=dec l:=by
 have hp:=dec_pos l
 have h4:=dec_le4 l
 by_cases h1:(dec l).2=1
 ·rw [h1]
  have e0:=byt_take l 1 0 (by omega)
  have c1:=con_take_ge l 1 1 (by omega)
  revert h1
  unfold dec decF
  rw [e0,c1]
  simp only [Bool.and_false,Bool.false_and]
  repeat' split
  all_goals simp_all
 ·generalize hw:(dec l).2=n at *
  have e0:=byt_take l n 0 (by omega)
  have e1:=byt_take l n 1 (by omega)
  have c1:=con_take l n 1 (by omega)
  rcases (show n=2∨n=3∨n=4 by omega) with rfl | rfl | rfl
  ·have c2:=con_take_ge l 2 2 (by omega)
   have c3:=con_take_ge l 2 3 (by omega)
   revert hw
   unfold dec decF
   rw [e0,e1,c1,c2,c3]
   simp only [Bool.and_false,Bool.false_and]
   repeat' split
   all_goals simp_all
  ·have e2:=byt_take l 3 2 (by omega)
   have c2:=con_take l 3 2 (by omega)
   have c3:=con_take_ge l 3 3 (by omega)
   revert hw
   unfold dec decF
   rw [e0,e1,e2,c1,c2,c3]
   simp only [Bool.and_false,Bool.false_and]
   repeat' split
   all_goals simp_all
  ·have e2:=byt_take l 4 2 (by omega)
   have c2:=con_take l 4 2 (by omega)
   have e3:=byt_take l 4 3 (by omega)
   have c3:=con_take l 4 3 (by omega)
   unfold dec decF
   rw [e0,e1,e2,e3,c1,c2,c3]
end Go.Proofs.YtkmmlimekachbaaGreatDoor.Tk
/-
  Spots, and the tokens of a text, as plain functions on lists of bytes; nothing of the program is named here. No condition.
-/
set_option linter.unusedSimpArgs false
namespace Go.Proofs.YtkmmlimekachbaaGreatDoor.Tk
def bump (x:Int):Int:=RowKit.wrap64 (x+1)
def beh (p:Int × Int) (r:Nat):Int × Int:=if r=10 then (bump p.1,1) else (p.1,bump p.2)
def goF:Nat→List UInt8→Nat→Int × Int→Int × Int
 | 0,_,_,p=>p
 | f+1,l,n,p=>if n=0∨l=[] then p else goF f (l.drop (dec l).2) (n - (dec l).2) (beh p (dec l).1)
def go (l:List UInt8) (n:Nat) (p:Int × Int):Int × Int:=goF l.length l n p
theorem goF_fuel:∀ (f g:Nat) (l:List UInt8) (n:Nat) (p:Int × Int),l.length≤f→l.length≤g→goF f l n p=goF g l n p
 | 0,0,_,_,_,_,_=>rfl
 | 0,g+1,l,n,p,h,_=>by
  obtain rfl:l=[]:=List.eq_nil_of_length_eq_zero (by omega)
  simp [goF]
 | f+1,0,l,n,p,_,h=>by
  obtain rfl:l=[]:=List.eq_nil_of_length_eq_zero (by omega)
  simp [goF]
 | f+1,g+1,l,n,p,h,h'=>by
  unfold goF
  split
  ·rfl
  ·have hp:=dec_pos l
   exact goF_fuel f g _ _ _ (by rw [List.length_drop];omega) (by rw [List.length_drop];omega)
theorem go_done (l:List UInt8) (n:Nat) (p:Int × Int) (h:n=0∨l=[]):go l n p=p:=by
 unfold go
 cases l with
 | nil=>rfl
 | cons a t =>
  show goF (t.length+1) _ _ _=_
  unfold goF
  rw [if_pos h]
theorem go_step (l:List UInt8) (n:Nat) (p:Int × Int) (h:1≤n) (hl:l≠[]):go l n p=go (l.drop (dec l).2) (n - (dec l).2) (beh p (dec l).1):=by
 unfold go
 cases l with
 | nil=>exact absurd rfl hl
 | cons a t =>
  have hp:=dec_pos (a :: t)
  show goF (t.length+1) _ _ _=_
  rw [goF,if_neg (by simp;omega)]
  exact goF_fuel _ _ _ _ _ (by rw [List.length_drop];simp;omega) (Nat.le_refl _)
theorem go_take:∀ (m:Nat) (l:List UInt8) (n:Nat) (p:Int × Int),n≤m→(∀ k,k<n→dec ((l.drop k).take (n - k))=dec (l.drop k))→go (l.take n) n p=go l n p
 | 0,l,n,p,h,_=>by
  obtain rfl:n=0:=by omega
  rw [go_done _ _ _ (Or.inl rfl),go_done _ _ _ (Or.inl rfl)]
 | m+1,l,n,p,h,H=>by
  by_cases h0:n=0
  ·subst h0
   rw [go_done _ _ _ (Or.inl rfl),go_done _ _ _ (Or.inl rfl)]
  ·by_cases hl:l=[]
   ·subst hl
    simp
   ·have hl':l.take n≠[]:=by
     cases l with
     | nil=>exact absurd rfl hl
     | cons a t=>cases n with | zero=>exact absurd rfl h0 | succ n=>simp
    have e:=H 0 (by omega)
    rw [List.drop_zero,Nat.sub_zero] at e
    have hp:=dec_pos l
    rw [go_step _ _ _ (by omega) hl',go_step l _ _ (by omega) hl,e,List.drop_take]
    refine go_take m _ _ _ (by omega) fun k hk => ?_
    have:=H ((dec l).2+k) (by omega)
    rw [List.drop_drop]
    rw [show n - (dec l).2 - k=n - ((dec l).2+k) by omega]
    exact this
theorem go_take_ascii (l:List UInt8) (n:Nat) (p:Int × Int) (h:∀ c ∈ l.take n,c.toNat<128):go (l.take n) n p=go l n p:=by
 refine go_take n l n p (Nat.le_refl _) fun k hk => ?_
 cases hc:l[k]? with
 | none =>
  have:l.length≤k:=by simpa using hc
  rw [List.drop_eq_nil_of_le this];simp
 | some c =>
  have hm:c ∈ l.take n:=List.mem_of_getElem? (i:=k) (by rw [List.getElem?_take,if_pos hk];exact hc)
  have h1:=h c hm
  rw [dec_ascii _ c (by rw [List.getElem?_take,if_pos (by omega),List.getElem?_drop];exact hc) h1,dec_ascii _ c (by rw [List.getElem?_drop];exact hc) h1]
theorem con_drop (l:List UInt8) (k n:Nat):con (l.drop k) n=con l (k+n):=by
 simp only [con,byt,List.getD,List.getElem?_drop,List.length_drop]
 congr 1
 exact decide_eq_decide.2 (by omega)
theorem go_take_cut (l:List UInt8) (n:Nat) (p:Int × Int) (h:con l n=false):go (l.take n) n p=go l n p:=by
 refine go_take n l n p (Nat.le_refl _) fun k hk=>dec_cut _ _ (by omega) ?_
 rw [con_drop,show k+(n - k)=n by omega]
 exact h
theorem go_take_rune (l:List UInt8) (p:Int × Int) (hl:l≠[]):go (l.take (dec l).2) (dec l).2 p=go l (dec l).2 p:=by
 have hp:=dec_pos l
 have hl':l.take (dec l).2≠[]:=by
  cases l with
  | nil=>exact absurd rfl hl
  | cons a t =>
   intro h
   have:=congrArg List.length h
   rw [List.length_take] at this
   simp at this
   omega
 rw [go_step _ _ _ (by omega) hl',go_step l _ _ (by omega) hl,dec_self,Nat.sub_self,go_done _ _ _ (Or.inl rfl),go_done _ _ _ (Or.inl rfl)]
inductive Bnd:List UInt8→Nat→Prop
 | nil (l:List UInt8):Bnd l 0
 | step (l:List UInt8) (n:Nat) (hl:l≠[]) (h:Bnd (l.drop (dec l).2) n):Bnd l ((dec l).2+n)
theorem go_add {l:List UInt8} {a:Nat} (h:Bnd l a):∀ (b:Nat) (p:Int × Int),go l (a+b) p=go (l.drop a) b (go l a p):=by
 induction h with
 | nil l=>intro b p;rw [Nat.zero_add,List.drop_zero,go_done l 0 p (Or.inl rfl)]
 | step l n hl h ih =>
  intro b p
  have hp:=dec_pos l
  rw [go_step l _ _ (by omega) hl,go_step l ((dec l).2+n) _ (by omega) hl,Nat.add_assoc,Nat.add_sub_cancel_left,Nat.add_sub_cancel_left,ih,List.drop_drop]
theorem Bnd.add {l:List UInt8} {a:Nat} (h:Bnd l a):∀ {b:Nat},Bnd (l.drop a) b→Bnd l (a+b):=by
 induction h with
 | nil l=>intro b h;rw [Nat.zero_add];exact h
 | step l n hl h ih =>
  intro b hb
  rw [Nat.add_assoc]
  exact Bnd.step l _ hl (ih (by rw [List.drop_drop];exact hb))
theorem Bnd.ascii:∀ (n:Nat) (l:List UInt8),n≤l.length→(∀ c ∈ l.take n,c.toNat<128)→Bnd l n
 | 0,l,_,_=>Bnd.nil l
 | n+1,[],h,_=>absurd h (by simp)
 | n+1,a :: t,h,H=>by
  have e:=dec_ascii (a :: t) a rfl (H a (by simp))
  have:=Bnd.step (a :: t) n (by simp) (by rw [e];exact Bnd.ascii n t (by simpa using h) fun c hc=>H c (by simp [hc]))
  rw [e,Nat.add_comm] at this
  exact this
theorem Bnd.rune (l:List UInt8) (hl:l≠[]):Bnd l (dec l).2:=Bnd.step l 0 hl (Bnd.nil _)
theorem dec_con (l:List UInt8) (k:Nat) (h1:1≤k) (h2:k<(dec l).2):con l k=true:=by
 have h4:=dec_le4 l
 revert h2
 simp only [dec,decF]
 repeat' split
 all_goals simp_all
 all_goals intro h2
 all_goals (have:k=1∨k=2∨k=3:=by omega)
 all_goals rcases this with rfl | rfl | rfl
 all_goals first | omega | simp_all
theorem Bnd.cut:∀ (m n:Nat) (l:List UInt8),n≤m→n≤l.length→con l n=false→Bnd l n
 | 0,n,l,hm,_,_=>by obtain rfl:n=0:=by omega
                    exact Bnd.nil l
 | m+1,n,l,hm,hn,hc=>by
  by_cases h0:n=0
  ·subst h0;exact Bnd.nil l
  ·have hl:l≠[]:=by intro h;subst h;simp at hn;exact h0 hn
   have hp:=dec_pos l
   have hle:(dec l).2≤n:=by
    rcases Nat.lt_or_ge n (dec l).2 with h | h
    ·have:=dec_con l n (by omega) h
     rw [hc] at this;cases this
    ·exact h
   have:=Bnd.step l (n - (dec l).2) hl (Bnd.cut m _ _ (by omega) (by rw [List.length_drop];omega) (by rw [con_drop,show (dec l).2+(n - (dec l).2)=n by omega];exact hc))
   rwa [show (dec l).2+(n - (dec l).2)=n by omega] at this
theorem Bnd.le {l:List UInt8} {n:Nat} (h:Bnd l n):n≤l.length:=by
 induction h with
 | nil l=>omega
 | step l n hl h ih =>
  have:=dec_le l hl
  rw [List.length_drop] at ih
  omega
def isDig (c:UInt8):Bool:=decide (48≤c.toNat) && decide (c.toNat≤57)
def isBeg (c:UInt8):Bool:=(decide (97≤c.toNat) && decide (c.toNat≤122)) || (decide (65≤c.toNat) && decide (c.toNat≤90)) || decide (c.toNat=95)
def isIn (c:UInt8):Bool:=isBeg c || isDig c || decide (c.toNat=39)
def isBlank (c:UInt8):Bool:=decide (c.toNat=32) || decide (c.toNat=9) || decide (c.toNat=10) || decide (c.toNat=13)
abbrev Tok:=Int × List UInt8 × Int
abbrev Cut:=Tok × Nat × Int
def bad (e:Int):Cut:=((0,[],0),0,e)
def signs:List (List UInt8):=[[60,45,62],[60,61],[61,62],[45,62],[124,45],[126],[38],[124],[40],[41],[91],[93],[123],[125],[44],[46],[58],[59],[61],[47]]
def meaning (r:Nat):Int × List UInt8 :=
 if r=172 then (3,[126]) else if r=8743 then (3,[38]) else if r=8744 then (3,[124]) else if r=8594 then (3,[45,62]) else if r=8596 then (3,[60,45,62])
 else if r=8866 then (3,[124,45]) else if r=8804 then (3,[60,61]) else if r=8868 then (1,[116,114,117,101]) else if r=8869 then (1,[102,97,108,115,101]) else (0,[])
def val (a:Nat) (l:List UInt8):Nat:=l.foldl (fun a c=>10 * a+(c.toNat - 48)) a
def run (f:UInt8→Bool) (l:List UInt8):Nat:=(l.takeWhile f).length
def cutName (l:List UInt8):Cut:=if 31<run isIn l then bad 22 else ((1,l.take (run isIn l),0),run isIn l,0)
def inAt (l:List UInt8) (k:Nat):Bool:=match l[k]? with | none=>false | some c=>isIn c
def cutNum (l:List UInt8):Cut :=
 if 999999999<val 0 (l.take (run isDig l))∨(l[0]?=some 48∧1<run isDig l)∨inAt l (run isDig l)=true then bad 21
 else ((2,[],(val 0 (l.take (run isDig l)):Int)),run isDig l,0)
def signIn:List (List UInt8)→List UInt8→Cut
 | [],_=>bad 20
 | g :: r,l=>if g.isPrefixOf l then ((3,g,0),g.length,0) else signIn r l
def cutSign (l:List UInt8):Cut:=signIn signs l
def cutRune (l:List UInt8):Cut:=if (meaning (dec l).1).1=0 then bad 20 else (((meaning (dec l).1).1,(meaning (dec l).1).2,0),(dec l).2,0)
def cut (l:List UInt8):Cut :=
 match l with
 | []=>((0,[],0),0,0)
 | c :: _=>if isBeg c then cutName l else if isDig c then cutNum l else if c.toNat<128 then cutSign l else cutRune l
def skipF:Nat→List UInt8→Nat
 | 0,_=>0
 | _+1,[]=>0
 | f+1,c :: r=>if isBlank c then 1+skipF f r else if c.toNat=35 then run (fun c=>c != 10) (c :: r)+skipF f ((c :: r).drop (run (fun c=>c != 10) (c :: r))) else 0
def skip (l:List UInt8):Nat:=skipF l.length l
theorem run_le (f:UInt8→Bool) (l:List UInt8):run f l≤l.length:=by
 unfold run
 exact (List.takeWhile_sublist f).length_le
theorem run_cons (f:UInt8→Bool) (c:UInt8) (r:List UInt8):run f (c :: r)=if f c then run f r+1 else 0:=by
 unfold run
 rw [List.takeWhile_cons]
 split <;> simp
theorem take_run (f:UInt8→Bool):∀ (l:List UInt8),l.take (run f l)=l.takeWhile f
 | []=>rfl
 | c :: r=>by
  rw [run_cons,List.takeWhile_cons]
  split
  ·rw [List.take_succ_cons,take_run f r]
  ·rfl
theorem skipF_fuel:∀ (f g:Nat) (l:List UInt8),l.length≤f→l.length≤g→skipF f l=skipF g l
 | 0,0,_,_,_=>rfl
 | 0,g+1,l,h,_=>by
  obtain rfl:l=[]:=List.eq_nil_of_length_eq_zero (by omega)
  simp [skipF]
 | f+1,0,l,_,h=>by
  obtain rfl:l=[]:=List.eq_nil_of_length_eq_zero (by omega)
  simp [skipF]
 | f+1,g+1,[],_,_=>rfl
 | f+1,g+1,c :: r,h,h'=>by
  simp only [List.length_cons] at h h'
  unfold skipF
  split
  ·rw [skipF_fuel f g r (by omega) (by omega)]
  ·split
   ·rename_i hc
    have h1:1≤run (fun c=>c != 10) (c :: r):=by
     rw [run_cons,if_pos]
     ·omega
     ·simp only [bne_iff_ne,ne_eq];intro e;subst e;exact absurd hc (by decide)
    rw [skipF_fuel f g _ (by rw [List.length_drop,List.length_cons];omega) (by rw [List.length_drop,List.length_cons];omega)]
   ·rfl
theorem skip_nil:skip []=0:=rfl
theorem skip_blank (c:UInt8) (r:List UInt8) (h:isBlank c=true):skip (c :: r)=1+skip r:=by
 unfold skip
 show skipF (r.length+1) _=_
 rw [skipF,if_pos h]
theorem run_hash (c:UInt8) (r:List UInt8) (h:c.toNat=35):1≤run (fun c=>c != 10) (c :: r):=by
 rw [run_cons,if_pos]
 ·omega
 ·simp only [bne_iff_ne,ne_eq];intro e;subst e;exact absurd h (by decide)
theorem skip_hash (c:UInt8) (r:List UInt8) (h:c.toNat=35):skip (c :: r)=run (fun c=>c != 10) (c :: r)+skip ((c :: r).drop (run (fun c=>c != 10) (c :: r))):=by
 have hb:isBlank c=false:=by simp [isBlank,h]
 have h1:=run_hash c r h
 unfold skip
 show skipF (r.length+1) _=_
 rw [skipF,if_neg (by rw [hb];simp),if_pos h]
 congr 1
 exact skipF_fuel _ _ _ (by rw [List.length_drop,List.length_cons];omega) (Nat.le_refl _)
theorem skip_else (c:UInt8) (r:List UInt8) (h:isBlank c=false) (h':c.toNat≠35):skip (c :: r)=0:=by
 unfold skip
 show skipF (r.length+1) _=_
 rw [skipF,if_neg (by rw [h];simp),if_neg h']
theorem skip_le:∀ (m:Nat) (l:List UInt8),l.length≤m→skip l≤l.length
 | _,[],_=>by rw [skip_nil];omega
 | 0,c :: r,h=>absurd h (by simp)
 | m+1,c :: r,h=>by
  simp only [List.length_cons] at h ⊢
  cases hb:isBlank c with
  | true =>
   rw [skip_blank c r hb]
   have:=skip_le m r (by omega)
   omega
  | false =>
   by_cases hc:c.toNat=35
   ·rw [skip_hash c r hc]
    have h1:=run_hash c r hc
    have h2:=run_le (fun c=>c != 10) (c :: r)
    have:=skip_le m ((c :: r).drop (run (fun c=>c != 10) (c :: r))) (by rw [List.length_drop,List.length_cons];omega)
    rw [List.length_drop,List.length_cons] at this
    simp only [List.length_cons] at h2
    omega
   ·rw [skip_else c r hb hc];omega
def scanF:Nat→List UInt8→Nat→List (Tok × Nat)→List (Tok × Nat) × Int × Nat
 | 0,_,_,_=>([],0,0)
 | f+1,s,o,a =>
  let i:=o+skip (s.drop o)
  let c:=cut (s.drop i)
  if c.2.2≠0 then ([],c.2.2,i) else if c.1.1=0 then (a ++ [(c.1,i)],0,0) else scanF f s (i+c.2.1) (a ++ [(c.1,i)])
def scan (s:List UInt8):List (Tok × Nat) × Int × Nat:=scanF (s.length+1) s 0 []
def spot (s:List UInt8) (o:Nat):Int × Int:=go s o (1,1)
end Go.Proofs.YtkmmlimekachbaaGreatDoor.Tk
/-
  Each token, each blank and each comment is whole runes; a scan ends. Plain; nothing of the program is named here. No condition.
-/
set_option linter.unusedSimpArgs false
namespace Go.Proofs.YtkmmlimekachbaaGreatDoor.Tk
structure Good (l:List UInt8) (n:Nat):Prop where
 le:n≤l.length
 bnd:Bnd l n
 same:∀ p,go (l.take n) n p=go l n p
theorem Good.ascii (l:List UInt8) (n:Nat) (hn:n≤l.length) (h:∀ c ∈ l.take n,c.toNat<128):Good l n :=
 ⟨hn,Bnd.ascii n l hn h,fun p=>go_take_ascii l n p h⟩
theorem Good.cut (l:List UInt8) (n:Nat) (hn:n≤l.length) (h:con l n=false):Good l n :=
 ⟨hn,Bnd.cut n n l (Nat.le_refl _) hn h,fun p=>go_take_cut l n p h⟩
theorem Good.rune (l:List UInt8) (hl:l≠[]):Good l (dec l).2:=⟨dec_le l hl,Bnd.rune l hl,fun p=>go_take_rune l p hl⟩
theorem isDig_lt {c:UInt8} (h:isDig c=true):c.toNat<128:=by
 simp only [isDig,Bool.and_eq_true,decide_eq_true_eq] at h;omega
theorem isBeg_lt {c:UInt8} (h:isBeg c=true):c.toNat<128:=by
 simp only [isBeg,Bool.or_eq_true,Bool.and_eq_true,decide_eq_true_eq] at h;omega
theorem isIn_lt {c:UInt8} (h:isIn c=true):c.toNat<128:=by
 simp only [isIn,Bool.or_eq_true,decide_eq_true_eq] at h
 rcases h with (h | h) | h
 ·exact isBeg_lt h
 ·exact isDig_lt h
 ·omega
theorem all_run (f:UInt8→Bool) (l:List UInt8):∀ c ∈ l.take (run f l),f c=true:=by
 rw [take_run]
 intro c hc
 exact List.all_takeWhile (p:=f) (l:=l) |> List.all_eq_true.1 |> fun h=>h c hc
theorem Good.run (f:UInt8→Bool) (hf:∀ c,f c=true→c.toNat<128) (l:List UInt8):Good l (run f l) :=
 Good.ascii l _ (run_le f l) fun c hc=>hf c (all_run f l c hc)
theorem run_stop (f:UInt8→Bool):∀ (l:List UInt8) (c:UInt8),l[Tk.run f l]?=some c→f c=false
 | [],c,h=>by simp at h
 | a :: r,c,h=>by
  rw [run_cons] at h
  cases ha:f a with
  | true =>
   rw [ha,if_pos rfl,List.getElem?_cons_succ] at h
   exact run_stop f r c h
  | false =>
   rw [ha] at h
   simp at h
   subst h
   exact ha
theorem Good.comment (l:List UInt8):Good l (Tk.run (fun c=>c != 10) l):=by
 refine Good.cut l _ (run_le _ l) ?_
 cases h:l[Tk.run (fun c=>c != 10) l]? with
 | none =>
  have:l.length≤Tk.run (fun c=>c != 10) l:=by simpa using h
  have h2:¬ Tk.run (fun c=>c != 10) l<l.length:=by omega
  simp [con,h2]
 | some c =>
  have:=run_stop _ l c h
  have hc:c=10:=by simpa using this
  subst hc
  simp [con,byt,List.getD,h]
theorem Good.blank (c:UInt8) (r:List UInt8) (h:isBlank c=true):Good (c :: r) 1 :=
 Good.ascii _ 1 (by simp) fun d hd=>by
  simp at hd
  subst hd
  simp only [isBlank,Bool.or_eq_true,decide_eq_true_eq] at h
  omega
theorem sign_good (l:List UInt8):∀ (gs:List (List UInt8)),(∀ g ∈ gs,g≠[]∧∀ c ∈ g,c.toNat<128)→(signIn gs l).2.2=0→1≤(signIn gs l).2.1∧Good l (signIn gs l).2.1∧(signIn gs l).1.1=3
 | [],_,h=>absurd h (by simp [signIn,bad])
 | g :: gs,H,h=>by
  unfold signIn at h ⊢
  split
  ·rename_i hp
   have hp':=List.isPrefixOf_iff_prefix.1 hp
   have hg:=H g (by simp)
   refine ⟨?_,Good.ascii l _ hp'.length_le ?_,rfl⟩
   ·have:=List.length_pos_iff.2 hg.1
    exact this
   ·show ∀ c ∈ l.take g.length,_
    rw [← List.prefix_iff_eq_take.1 hp']
    exact hg.2
  ·rename_i hp
   rw [if_neg hp] at h
   exact sign_good l gs (fun g hg=>H g (by simp [hg])) h
theorem signs_ok:∀ g ∈ signs,g≠[]∧∀ c ∈ g,c.toNat<128:=by decide
theorem cut_good (l:List UInt8) (hl:l≠[]) (h:(cut l).2.2=0):1≤(cut l).2.1∧Good l (cut l).2.1∧(cut l).1.1≠0:=by
 cases l with
 | nil=>exact absurd rfl hl
 | cons c r =>
  unfold cut at h ⊢
  simp only at h ⊢
  split at h
  ·rename_i hb
   rw [if_pos hb]
   have hin:isIn c=true:=by simp [isIn,hb]
   unfold cutName at h ⊢
   split at h
   ·exact absurd h (by simp [bad])
   ·rename_i h31
    rw [if_neg h31]
    refine ⟨?_,Good.run isIn (fun c=>isIn_lt) _,by simp⟩
    show 1≤Tk.run isIn (c :: r)
    rw [run_cons,if_pos hin]
    omega
  ·rename_i hb
   rw [if_neg hb]
   split at h
   ·rename_i hd
    rw [if_pos hd]
    unfold cutNum at h ⊢
    split at h
    ·exact absurd h (by simp [bad])
    ·rename_i hn
     rw [if_neg hn]
     refine ⟨?_,Good.run isDig (fun c=>isDig_lt) _,by simp⟩
     show 1≤Tk.run isDig (c :: r)
     rw [run_cons,if_pos hd]
     omega
   ·rename_i hd
    rw [if_neg hd]
    split at h
    ·rename_i hc
     rw [if_pos hc]
     have:=sign_good (c :: r) signs signs_ok h
     exact ⟨this.1,this.2.1,by unfold cutSign;rw [this.2.2];decide⟩
    ·rename_i hc
     rw [if_neg hc]
     unfold cutRune at h ⊢
     split at h
     ·exact absurd h (by simp [bad])
     ·rename_i hm
      rw [if_neg hm]
      exact ⟨dec_pos _,Good.rune _ hl,hm⟩
theorem skip_bnd:∀ (m:Nat) (l:List UInt8),l.length≤m→Bnd l (skip l)
 | _,[],_=>Bnd.nil _
 | 0,c :: r,h=>absurd h (by simp)
 | m+1,c :: r,h=>by
  simp only [List.length_cons] at h
  cases hb:isBlank c with
  | true =>
   rw [skip_blank c r hb]
   exact (Good.blank c r hb).bnd.add (skip_bnd m r (by omega))
  | false =>
   by_cases hc:c.toNat=35
   ·rw [skip_hash c r hc]
    have h1:=run_hash c r hc
    exact (Good.comment (c :: r)).bnd.add (skip_bnd m _ (by rw [List.length_drop,List.length_cons];omega))
   ·rw [skip_else c r hb hc];exact Bnd.nil _
theorem scanF_step (f:Nat) (s:List UInt8) (o:Nat) (a:List (Tok × Nat)):scanF (f+1) s o a =
 if (cut (s.drop (o+skip (s.drop o)))).2.2≠0 then ([],(cut (s.drop (o+skip (s.drop o)))).2.2,o+skip (s.drop o))
 else if (cut (s.drop (o+skip (s.drop o)))).1.1=0 then (a ++ [((cut (s.drop (o+skip (s.drop o)))).1,o+skip (s.drop o))],0,0)
 else scanF f s (o+skip (s.drop o)+(cut (s.drop (o+skip (s.drop o)))).2.1) (a ++ [((cut (s.drop (o+skip (s.drop o)))).1,o+skip (s.drop o))]):=rfl
end Go.Proofs.YtkmmlimekachbaaGreatDoor.Tk
/-
  What stands ahead of a fault is a text without one. Plain; nothing of the program is named here. No condition.
-/
set_option linter.unusedSimpArgs false
namespace Go.Proofs.YtkmmlimekachbaaGreatDoor.Tk
theorem dec_ext (x:List UInt8) (r n:Nat) (h:dec (x.take n)=(r,n)) (hr:r≠65533):dec x=(r,n):=by
 have hb:∀ k,k<n→byt (x.take n) k=byt x k:=fun k hk=>byt_take x n k hk
 have hc:∀ k,k<n→con (x.take n) k=con x k:=fun k hk=>con_take x n k hk
 have hn:1≤n:=by have:=dec_pos (x.take n);rw [h] at this;exact this
 have h4:n≤4:=by have:=dec_le4 (x.take n);rw [h] at this;exact this
 have h0:=hb 0 (by omega)
 rcases (show n=1∨n=2∨n=3∨n=4 by omega) with rfl | rfl | rfl | rfl
 ·revert h
  unfold dec decF
  rw [h0]
  repeat' split
  all_goals simp_all
  all_goals (intros;omega)
 ·have h1:=hb 1 (by omega)
  have c1:=hc 1 (by omega)
  revert h
  unfold dec decF
  rw [h0,h1,c1]
  repeat' split
  all_goals simp_all
 ·have h1:=hb 1 (by omega)
  have c1:=hc 1 (by omega)
  have h2:=hb 2 (by omega)
  have c2:=hc 2 (by omega)
  revert h
  unfold dec decF
  rw [h0,h1,c1,h2,c2]
  repeat' split
  all_goals simp_all
 ·have h1:=hb 1 (by omega)
  have c1:=hc 1 (by omega)
  have h2:=hb 2 (by omega)
  have c2:=hc 2 (by omega)
  have h3:=hb 3 (by omega)
  have c3:=hc 3 (by omega)
  rw [← h]
  unfold dec decF
  rw [h0,h1,c1,h2,c2,h3,c3]
theorem dec_take_ge (l:List UInt8) (m:Nat) (hm:(dec l).2≤m) (hr:(dec l).1≠65533):dec (l.take m)=dec l:=by
 have h:=dec_self l
 have e:(l.take m).take (dec l).2=l.take (dec l).2:=by rw [List.take_take,Nat.min_eq_left hm]
 rw [← e] at h
 exact dec_ext (l.take m) (dec l).1 (dec l).2 h hr
theorem run_take (f:UInt8→Bool):∀ (l:List UInt8) (m:Nat),run f (l.take m)=min m (run f l)
 | [],m=>by simp [run]
 | c :: r,0=>by simp [run]
 | c :: r,m+1=>by
  rw [List.take_succ_cons,run_cons,run_cons]
  split
  ·rw [run_take f r m];omega
  ·omega
theorem skip_take:∀ (k:Nat) (l:List UInt8) (m:Nat),l.length≤k→skip l≤m→skip (l.take m)=skip l
 | _,[],m,_,_=>by simp
 | 0,c :: r,m,h,_=>absurd h (by simp)
 | k+1,c :: r,m,h,hm=>by
  simp only [List.length_cons] at h
  cases hb:isBlank c with
  | true =>
   rw [skip_blank c r hb] at hm ⊢
   obtain ⟨m',rfl⟩:∃ m',m=m'+1:=⟨m - 1,by omega⟩
   rw [List.take_succ_cons,skip_blank c _ hb,skip_take k r m' (by omega) (by omega)]
  | false =>
   by_cases hc:c.toNat=35
   ·have h1:=run_hash c r hc
    rw [skip_hash c r hc] at hm ⊢
    obtain ⟨m',rfl⟩:∃ m',m=m'+1:=⟨m - 1,by omega⟩
    rw [List.take_succ_cons,skip_hash c _ hc,← List.take_succ_cons,run_take,Nat.min_eq_right (by omega),List.drop_take]
    rw [skip_take k _ _ (by rw [List.length_drop,List.length_cons];omega) (by omega)]
   ·rw [skip_else c r hb hc]
    cases m with
    | zero=>rfl
    | succ m=>rw [List.take_succ_cons,skip_else c _ hb hc]
theorem pre_take (g l:List UInt8) (m:Nat) (h:g.length≤m):g.isPrefixOf (l.take m)=g.isPrefixOf l:=by
 rw [Bool.eq_iff_iff,List.isPrefixOf_iff_prefix,List.isPrefixOf_iff_prefix]
 constructor
 ·intro hp
  exact hp.trans (List.take_prefix m l)
 ·intro hp
  rw [List.prefix_iff_eq_take] at hp ⊢
  rw [List.take_take,Nat.min_eq_left h]
  exact hp
theorem pre_take_le (g l:List UInt8) (m:Nat) (h:g.isPrefixOf l=false):g.isPrefixOf (l.take m)=false:=by
 cases hp:g.isPrefixOf (l.take m) with
 | false=>rfl
 | true =>
  rw [List.isPrefixOf_iff_prefix] at hp
  have:=List.isPrefixOf_iff_prefix.2 (hp.trans (List.take_prefix m l))
  rw [h] at this;cases this
theorem sign_take (l:List UInt8) (m:Nat):∀ gs:List (List UInt8),(signIn gs l).2.2=0→(signIn gs l).2.1≤m→signIn gs (l.take m)=signIn gs l
 | [],h,_=>absurd h (by simp [signIn,bad])
 | g :: gs,h,hm=>by
  cases hp:g.isPrefixOf l with
  | true =>
   unfold signIn at h hm ⊢
   rw [if_pos hp] at h hm ⊢
   rw [if_pos (by rw [pre_take g l m hm];exact hp)]
  | false =>
   unfold signIn at h hm ⊢
   rw [if_neg (by rw [hp];simp)] at h hm
   rw [if_neg (by rw [pre_take_le g l m hp];simp),if_neg (by rw [hp];simp)]
   exact sign_take l m gs h hm
theorem cut_take (l:List UInt8) (m:Nat) (h:(cut l).2.2=0) (hm:(cut l).2.1≤m) (hl:l≠[]):cut (l.take m)=cut l:=by
 have hg:=cut_good l hl h
 cases l with
 | nil=>exact absurd rfl hl
 | cons c r =>
  obtain ⟨m',rfl⟩:∃ m',m=m'+1:=⟨m - 1,by omega⟩
  have e:∀ x:Cut,(cut ((c :: r).take (m'+1))=x)=((if isBeg c=true then cutName ((c :: r).take (m'+1)) else if isDig c=true then cutNum ((c :: r).take (m'+1)) else if c.toNat<128 then cutSign ((c :: r).take (m'+1)) else cutRune ((c :: r).take (m'+1)))=x):=fun x=>rfl
  have e2:cut (c :: r)=(if isBeg c=true then cutName (c :: r) else if isDig c=true then cutNum (c :: r) else if c.toNat<128 then cutSign (c :: r) else cutRune (c :: r)):=rfl
  rw [e]
  rw [e2] at h hm ⊢
  cases hb:isBeg c with
  | true =>
   rw [hb] at h hm
   simp only [if_true] at h hm ⊢
   unfold cutName at h hm ⊢
   by_cases h31:31<run isIn (c :: r)
   ·rw [if_pos h31] at h;exact absurd h (by simp [bad])
   ·rw [if_neg h31] at hm ⊢
    rw [run_take,Nat.min_eq_right hm,if_neg h31,List.take_take,Nat.min_eq_left hm]
  | false =>
   rw [hb] at h hm
   simp only [Bool.false_eq_true,if_false] at h hm ⊢
   cases hd:isDig c with
   | true =>
    rw [hd] at h hm
    simp only [if_true] at h hm ⊢
    unfold cutNum at h hm ⊢
    by_cases hbad:999999999<val 0 ((c :: r).take (run isDig (c :: r)))∨((c :: r)[0]?=some 48∧1<run isDig (c :: r))∨inAt (c :: r) (run isDig (c :: r))=true
    ·rw [if_pos hbad] at h;exact absurd h (by simp [bad])
    ·rw [if_neg hbad] at hm ⊢
     have hm':run isDig (c :: r)≤m'+1:=hm
     rw [run_take,Nat.min_eq_right hm',List.take_take,Nat.min_eq_left hm',if_neg]
     rintro (h1 | h1 | h1)
     ·exact hbad (Or.inl h1)
     ·exact hbad (Or.inr (Or.inl ⟨by have:=h1.1;rw [List.take_succ_cons] at this;exact this,h1.2⟩))
     ·refine hbad (Or.inr (Or.inr ?_))
      unfold inAt at h1 ⊢
      rw [List.getElem?_take] at h1
      split at h1
      ·cases h1
      ·rename_i d hd2
       split at hd2
       ·rw [hd2];exact h1
       ·cases hd2
   | false =>
    rw [hd] at h hm
    simp only [Bool.false_eq_true,if_false] at h hm ⊢
    by_cases h128:c.toNat<128
    ·rw [if_pos h128] at h hm ⊢
     rw [if_pos h128]
     exact sign_take (c :: r) (m'+1) signs h hm
    ·rw [if_neg h128] at h hm ⊢
     rw [if_neg h128]
     unfold cutRune at h hm ⊢
     by_cases hz:(meaning (dec (c :: r)).1).1=0
     ·rw [if_pos hz] at h;exact absurd h (by simp [bad])
     ·rw [if_neg hz] at hm
      have hne:(dec (c :: r)).1≠65533:=by
       intro h';rw [h'] at hz;exact hz rfl
      rw [dec_take_ge (c :: r) (m'+1) hm hne]
theorem cut_end (l:List UInt8) (h:(cut l).2.2=0) (hk:(cut l).1.1=0):l=[]:=by
 by_cases hl:l=[]
 ·exact hl
 ·exact absurd hk (cut_good l hl h).2.2
theorem scanF_fuel:∀ (f g:Nat) (s:List UInt8) (o:Nat) (a:List (Tok × Nat)),s.length<o+f→s.length<o+g→o≤s.length→scanF f s o a=scanF g s o a
 | 0,_,s,o,a,h,_,ho=>absurd h (by omega)
 | _+1,0,s,o,a,_,h,ho=>absurd h (by omega)
 | f+1,g+1,s,o,a,h,h',ho=>by
  rw [scanF_step,scanF_step]
  by_cases h1:(cut (s.drop (o+skip (s.drop o)))).2.2≠0
  ·rw [if_pos h1,if_pos h1]
  ·rw [if_neg h1,if_neg h1]
   by_cases h2:(cut (s.drop (o+skip (s.drop o)))).1.1=0
   ·rw [if_pos h2,if_pos h2]
   ·rw [if_neg h2,if_neg h2]
    have hl:s.drop (o+skip (s.drop o))≠[]:=fun e=>h2 (by rw [e];rfl)
    have hg:=cut_good _ hl (Decidable.not_not.1 h1)
    have hle:=hg.2.1.le
    rw [List.length_drop] at hle
    have hlt:o+skip (s.drop o)<s.length:=by
     rcases Nat.lt_or_ge (o+skip (s.drop o)) s.length with h3 | h3
     ·exact h3
     ·exact absurd (List.drop_eq_nil_of_le h3) hl
    exact scanF_fuel f g s _ _ (by omega) (by omega) (by omega)
theorem scanF_first:∀ (f:Nat) (s:List UInt8) (o:Nat) (a a':List (Tok × Nat)),o≤s.length→s.length<o+f→(scanF f s o a).2.1≠0 →
 o≤(scanF f s o a).2.2∧(scanF f s o a).2.2≤s.length∧(scanF f (s.take (scanF f s o a).2.2) o a').2.1=0
 | 0,s,o,a,a',ho,hf,_=>absurd hf (by omega)
 | f+1,s,o,a,a',ho,hf,he=>by
  have hsk:=skip_le _ (s.drop o) (Nat.le_refl _)
  rw [List.length_drop] at hsk
  rw [scanF_step] at he ⊢
  by_cases h1:(cut (s.drop (o+skip (s.drop o)))).2.2≠0
  ·rw [if_pos h1] at he ⊢
   refine ⟨by simp only;omega,by simp only;omega,?_⟩
   simp only
   rw [scanF_step]
   have e1:(s.take (o+skip (s.drop o))).drop o=(s.drop o).take (skip (s.drop o)):=by rw [List.drop_take,Nat.add_sub_cancel_left]
   rw [e1,skip_take _ (s.drop o) _ (Nat.le_refl _) (Nat.le_refl _)]
   have e2:(s.take (o+skip (s.drop o))).drop (o+skip (s.drop o))=[]:=List.drop_eq_nil_of_le (by rw [List.length_take];omega)
   rw [e2,if_neg (by decide),if_pos (show (cut []).1.1=0 from rfl)]
  ·rw [if_neg h1] at he ⊢
   by_cases h2:(cut (s.drop (o+skip (s.drop o)))).1.1=0
   ·rw [if_pos h2] at he;exact absurd rfl he
   ·rw [if_neg h2] at he ⊢
    have hl:s.drop (o+skip (s.drop o))≠[]:=fun e=>h2 (by rw [e];rfl)
    have h1':=Decidable.not_not.1 h1
    have hg:=cut_good _ hl h1'
    have hle:=hg.2.1.le
    rw [List.length_drop] at hle
    have hlt:o+skip (s.drop o)<s.length:=by
     rcases Nat.lt_or_ge (o+skip (s.drop o)) s.length with h3 | h3
     ·exact h3
     ·exact absurd (List.drop_eq_nil_of_le h3) hl
    generalize hcc:cut (s.drop (o+skip (s.drop o)))=cc at *
    generalize ha2:a ++ [(cc.1,o+skip (s.drop o))]=a2 at *
    have ih:=scanF_first f s (o+skip (s.drop o)+cc.2.1) a2 (a' ++ [(cc.1,o+skip (s.drop o))]) (by omega) (by omega) he
    generalize scanF f s (o+skip (s.drop o)+cc.2.1) a2=res at *
    obtain ⟨i1,i2,i3⟩:=ih
    refine ⟨by omega,i2,?_⟩
    rw [scanF_step]
    have e1:(s.take res.2.2).drop o=(s.drop o).take (res.2.2 - o):=List.drop_take
    rw [e1,skip_take _ (s.drop o) _ (Nat.le_refl _) (by omega)]
    have e2:(s.take res.2.2).drop (o+skip (s.drop o))=(s.drop (o+skip (s.drop o))).take (res.2.2 - (o+skip (s.drop o))):=List.drop_take
    rw [e2,cut_take _ _ (by rw [hcc];exact h1') (by rw [hcc];omega) hl,hcc,if_neg (by rw [h1'];simp),if_neg h2]
    exact i3
theorem scan_first (s:List UInt8) (h:(scan s).2.1≠0):(scan s).2.2≤s.length∧(scan (s.take (scan s).2.2)).2.1=0:=by
 have:=scanF_first (s.length+1) s 0 [] [] (by omega) (by omega) h
 refine ⟨this.2.1,?_⟩
 have h3:=this.2.2
 have hl:(s.take (scan s).2.2).length≤s.length:=by rw [List.length_take];omega
 rw [scanF_fuel (s.length+1) ((s.take (scan s).2.2).length+1) _ 0 [] (by unfold scan at hl;omega) (by unfold scan at hl ⊢;omega) (by omega)] at h3
 exact h3
end Go.Proofs.YtkmmlimekachbaaGreatDoor.Tk
/-
  How many tokens a text has, how long they are, and the last of them. Plain; nothing of the program is named here. No condition.
-/
namespace Go.Proofs.YtkmmlimekachbaaGreatDoor.Tk
theorem sign_text (l:List UInt8):∀ gs:List (List UInt8),(∀ g ∈ gs,g.length≤31)→(signIn gs l).1.2.1.length≤31
 | [],_=>by simp [signIn,bad]
 | g :: gs,h=>by
  unfold signIn
  split
  ·exact h g (by simp)
  ·exact sign_text l gs fun x hx=>h x (by simp [hx])
theorem meaning_text (r:Nat):(meaning r).2.length≤31:=by
 unfold meaning
 repeat' split
 all_goals simp
theorem cut_text (l:List UInt8):(cut l).1.2.1.length≤31:=by
 unfold cut
 split
 ·simp
 ·split
  ·unfold cutName
   split
   ·simp [bad]
   ·show (List.take _ _).length≤31
    rw [List.length_take]
    omega
  ·split
   ·unfold cutNum
    split <;> simp [bad]
   ·split
    ·exact sign_text _ _ (by decide)
    ·unfold cutRune
     split
     ·simp [bad]
     ·exact meaning_text _
theorem scanF_all:∀ (f:Nat) (s:List UInt8) (o:Nat) (a:List (Tok × Nat)),o≤s.length→s.length<o+f→(∀ t ∈ a,t.1.2.1.length≤31) →
 (scanF f s o a).1.length≤a.length+(s.length - o)+1∧(∀ t ∈ (scanF f s o a).1,t.1.2.1.length≤31)∧((scanF f s o a).2.1=0→∃ pre o',(scanF f s o a).1=pre ++ [(((0:Int),[],(0:Int)),o')])
 | 0,s,o,a,ho,hf,_=>absurd hf (by omega)
 | f+1,s,o,a,ho,hf,ha=>by
  have hsk:=skip_le _ (s.drop o) (Nat.le_refl _)
  rw [List.length_drop] at hsk
  rw [scanF_step]
  have ha2:∀ t ∈ a ++ [((cut (s.drop (o+skip (s.drop o)))).1,o+skip (s.drop o))],t.1.2.1.length≤31:=by
   intro t ht
   rcases List.mem_append.1 ht with h | h
   ·exact ha t h
   ·simp only [List.mem_singleton] at h
    subst h
    exact cut_text _
  by_cases h1:(cut (s.drop (o+skip (s.drop o)))).2.2≠0
  ·rw [if_pos h1]
   exact ⟨by simp,by simp,fun h=>absurd h h1⟩
  ·rw [if_neg h1]
   by_cases h2:(cut (s.drop (o+skip (s.drop o)))).1.1=0
   ·rw [if_pos h2]
    refine ⟨by simp,ha2,fun _=>⟨a,o+skip (s.drop o),?_⟩⟩
    rw [cut_end _ (Decidable.not_not.1 h1) h2]
    rfl
   ·rw [if_neg h2]
    have hl:s.drop (o+skip (s.drop o))≠[]:=fun e=>h2 (by rw [e];rfl)
    have hg:=cut_good _ hl (Decidable.not_not.1 h1)
    have hle:=hg.2.1.le
    rw [List.length_drop] at hle
    have hlt:o+skip (s.drop o)<s.length:=by
     rcases Nat.lt_or_ge (o+skip (s.drop o)) s.length with h3 | h3
     ·exact h3
     ·exact absurd (List.drop_eq_nil_of_le h3) hl
    have h:=scanF_all f s (o+skip (s.drop o)+(cut (s.drop (o+skip (s.drop o)))).2.1) _ (by omega) (by omega) ha2
    refine ⟨?_,h.2.1,h.2.2⟩
    have h3:=h.1
    rw [List.length_append,List.length_singleton] at h3
    omega
theorem scan_all (s:List UInt8):(scan s).1.length≤s.length+1∧(∀ t ∈ (scan s).1,t.1.2.1.length≤31)∧((scan s).2.1=0→∃ pre o',(scan s).1=pre ++ [(((0:Int),[],(0:Int)),o')]):=by
 have h:=scanF_all (s.length+1) s 0 [] (by omega) (by omega) (by simp)
 refine ⟨?_,h.2.1,h.2.2⟩
 have h1:=h.1
 simp only [List.length_nil,Nat.zero_add,Nat.sub_zero] at h1
 exact h1
end Go.Proofs.YtkmmlimekachbaaGreatDoor.Tk
