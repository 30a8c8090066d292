import Derived.Test.YtkejippimkjjaaaGreatDoorZG6
import Derived.Test.YtkejippimkjjaaaGreatDoorRG1
import Derived.Test.YtkejippimkjjaaaGreatDoorBG5
set_option linter.unusedSimpArgs false
set_option maxRecDepth 100000
set_option maxHeartbeats 2000000
namespace Go.Proofs.YtkejippimkjjaaaGreatDoor
open Go.RowKit Go.Shelf Go.Maps
open Fm (Nd)
open Bt.Bs (Ok wd)
theorem kH {r:List Nat} {n:Nat} (h:n<1024):(Bt.gF r (n:Int)).1=Bt.Bs.put r n:=by
 unfold Bt.gF
 rw[if_pos ⟨by omega,by omega⟩]
 simp
theorem uO {r:List Nat} (hr:Ok r) {n:Nat} (hn:n<1024):(Bt.Bs.put r n=r) ↔ Bt.Bs.has r n=true:=by
 constructor
 ·intro h
  have:=Bt.Bs.jL hr hn n
  rw[h] at this
  simpa using this
 ·intro h
  have ho:Ok (Bt.Bs.put r n):=by have:=dN hr (n:Int);rwa [kH hn] at this
  refine Bt.Bs.Ea ho hr fun m _ => ?_
  rw[Bt.Bs.jL hr hn]
  by_cases e:m=n
  ·subst e;rw[h];rfl
  ·simp[e]
theorem rY {r:List Nat} (hr:Ok r) {n:Nat} (hn:n<1024):dM r (n:Int)=Bt.Bs.bX r (n:Int):=by
 unfold dM Bt.Bs.bX
 rw[kH hn,Int.toNat_natCast]
 have h1:decide ((0:Int)<=(n:Int))=true:=by simp
 have h2:decide ((n:Int)<1024)=true:=by simp;omega
 rw[h1,h2,Bool.true_and,Bool.true_and,Bool.eq_iff_iff,decide_eq_true_iff]
 exact uO hr hn
theorem kids {t:List Nd} (hO:Fm.Ok t) {i:Nat} (hi:i<t.length) (hj:t[i].k=3\/t[i].k=4\/t[i].k=5):∃ x y:Nat,t[i].l=x/\t[i].r=y/\x<i/\y<i:=by
 have h:=hO.Ee i hi
 unfold Fm.check at h
 cases hs:Fm.shaped (t.take i) t[i] with
 | false=>rw[hs,if_neg Bool.false_ne_true] at h;omega
 | true=>
  unfold Fm.shaped at hs
  have n1:¬ t[i].k=1:=by omega
  have n2:¬ t[i].k=2:=by omega
  rw[if_neg n1,if_neg n2] at hs
  split at hs
  ·simp only[Bool.and_eq_true] at hs
   have h1:=Fm.bJ.1 hs.1.2
   have h2:=Fm.bJ.1 hs.2
   have hl:(t.take i).length=i:=by rw[List.length_take];omega
   rw[hl] at h1 h2
   exact⟨t[i].l.toNat,t[i].r.toNat,by omega,by omega,by omega,by omega⟩
  ·cases hs
theorem aY {t:List Nd} {i:Nat} (hi:i<t.length):aB t (i:Int)=t[i]:=by
 unfold aB
 rw[if_pos (Fm.bJ.2 ⟨by omega,by omega⟩)]
 simp[List.getD,hi]
theorem jD {t:List Nd} {r:List Nat} {g ru:Int} {i:Nat} (hi:i<t.length):findF t r g ru (i:Int)=((decide (1<=ru) && decide (ru<=13)) && mR r g (ru - 1).toNat (dx t (i:Int))):=by
 unfold findF
 rw[Fm.bJ.2 ⟨by omega,by omega⟩,Bool.true_and]
theorem bU {t:List Nd} {i:Nat} (hi:i<t.length):dx t (i:Int)=⟨i,t[i].k,t[i].l,t[i].r,if t[i].k=5 then (aB t t[i].l).k else 0,if t[i].k=5 then (aB t t[i].l).l else 0,if t[i].k=5 then (aB t t[i].l).r else 0⟩:=by
 unfold dx
 rw[aY hi]
theorem imp_eq (b:Bool) (k q n:Int) (hn:n≠0):((if k=5 then q else 0) == n && b)=(b && (k == 5) && (q == n)):=by
 by_cases h:k=5
 ·rw[if_pos h]
  subst h
  cases b <;> cases (q == n) <;> rfl
 ·rw[if_neg h]
  have h1:((0:Int) == n)=false:=by simpa using fun e=>hn e.symm
  have h2:(k == 5)=false:=by simpa using h
  rw[h1,h2]
  cases b <;> rfl
theorem oC {r:List Nat} (hr:Ok r) (n:Int):aA r [n,n]=aA r [n]:=by
 unfold aA aA aA
 unfold Bt.gF
 by_cases h:0<=n/\n<1024
 ·rw[if_pos h,if_pos h]
  have h2:n.toNat<1024:=by omega
  exact(uO (Bt.Bs.kP hr n.toNat) h2).2 (by rw[Bt.Bs.jL hr h2];simp)
 ·rw[if_neg h,if_neg h]
theorem uP {t:List Nd} {a b:Int} (ha:Fm.has t a=true) (hb:Fm.has t b=true):(Fm.put t (ay 5 a b)).2.1=0\/(Fm.put t (ay 5 a b)).2.1=30:=by
 have hc:Fm.check t (ay 5 a b)=0:=by
  unfold Fm.check Fm.shaped ay
  simp[Fm.jn,ha,hb]
  rfl
 unfold Fm.put
 rw[if_pos hc]
 split
 ·exact Or.inl rfl
 ·split
  ·exact Or.inr rfl
  ·exact Or.inl rfl
theorem RI {t:List Nd} {n:Nd} (h:(Fm.put t n).2.1=0):Fm.has (Fm.put t n).2.2 (Fm.put t n).1=true:=by
 rw[Fm.bJ]
 unfold Fm.put at *
 split at h
 ·rename_i hc
  rw[if_pos hc]
  split at h
  ·rename_i hm
   rw[if_pos hm]
   have:=List.idxOf_lt_length_iff.2 hm
   simp only
   omega
  ·rename_i hm
   rw[if_neg hm]
   split at h
   ·exact absurd h (by simp)
   ·rename_i hx
    rw[if_neg hx]
    simp
    omega
 ·rename_i hc
  exact absurd h hc
theorem wX {t:List Nd} {n:Nd} {a:Int} (h:Fm.has t a=true):Fm.has (Fm.put t n).2.2 a=true:=by
 have h1:=Fm.bJ.1 h
 have h2:=(Fm.vM t n).1
 exact Fm.bJ.2 ⟨h1.1,by omega⟩
theorem jf {t:List Nd} {r:List Nat} {g:Int} {i:Nat} (hi:i<t.length) (ru k:Int) (hk:(ru=4/\k=1)\/(ru=5/\k=2)\/(ru=6/\k=3)\/(ru=7/\k=4)\/(ru=13/\k=5)) (h:findF t r g ru (i:Int)=true):t[i].k=5/\(aB t t[i].l).k=k:=by
 rw[jD hi,bU hi] at h
 have aux:∀ q n:Int,n≠0->((if t[i].k=5 then q else 0) == n)=true->t[i].k=5/\q=n:=fun q n hn h=>by
  by_cases h5:t[i].k=5
  ·rw[if_pos h5] at h
   exact⟨h5,by simpa using h⟩
  ·rw[if_neg h5] at h
   exact absurd (by simpa using h) (fun e:(0:Int)=n=>hn e.symm)
 rcases hk with ⟨rfl,rfl⟩ | ⟨rfl,rfl⟩ | ⟨rfl,rfl⟩ | ⟨rfl,rfl⟩ | ⟨rfl,rfl⟩
 ·have h2:((((if t[i].k=5 then (aB t t[i].l).k else 0) == 1) && dM r (i:Int)) && dM r t[i].l)=true:=h
  simp only[Bool.and_eq_true] at h2
  exact aux _ 1 (by decide) h2.1.1
 ·have h2:(((if t[i].k=5 then (aB t t[i].l).k else 0) == 2) && dM r (i:Int))=true:=h
  simp only[Bool.and_eq_true] at h2
  exact aux _ 2 (by decide) h2.1
 ·have h2:(((if t[i].k=5 then (aB t t[i].l).k else 0) == 3) && dM r (i:Int))=true:=h
  simp only[Bool.and_eq_true] at h2
  exact aux _ 3 (by decide) h2.1
 ·have h2:(((if t[i].k=5 then (aB t t[i].l).k else 0) == 4) && dM r (i:Int))=true:=h
  simp only[Bool.and_eq_true] at h2
  exact aux _ 4 (by decide) h2.1
 ·have h2:(((if t[i].k=5 then (aB t t[i].l).k else 0) == 5) && dM r (i:Int))=true:=h
  simp only[Bool.and_eq_true] at h2
  exact aux _ 5 (by decide) h2.1
theorem jm {t:List Nd} {r:List Nat} {g:Int} {i:Nat} (hi:i<t.length) (ru k:Int) (hk:(ru=3/\k=3)\/(ru=8/\k=5)\/(ru=9/\k=3)\/(ru=10/\k=4)\/(ru=11/\k=4)\/(ru=12/\k=4)) (h:findF t r g ru (i:Int)=true):t[i].k=k:=by
 rw[jD hi,bU hi] at h
 rcases hk with ⟨rfl,rfl⟩ | ⟨rfl,rfl⟩ | ⟨rfl,rfl⟩ | ⟨rfl,rfl⟩ | ⟨rfl,rfl⟩ | ⟨rfl,rfl⟩
 ·have h2:((t[i].k == 3) && dM r (i:Int))=true:=h
  simp only[Bool.and_eq_true,beq_iff_eq] at h2
  exact h2.1
 ·have h2:((t[i].k == 5) && ((i:Int) == g))=true:=h
  simp only[Bool.and_eq_true,beq_iff_eq] at h2
  exact h2.1
 ·have h2:((t[i].k == 3) && ((i:Int) == g))=true:=h
  simp only[Bool.and_eq_true,beq_iff_eq] at h2
  exact h2.1
 ·have h2:((t[i].k == 4) && dM r (i:Int))=true:=h
  simp only[Bool.and_eq_true,beq_iff_eq] at h2
  exact h2.1
 ·have h2:((t[i].k == 4) && ((i:Int) == g))=true:=h
  simp only[Bool.and_eq_true,beq_iff_eq] at h2
  exact h2.1
 ·have h2:((t[i].k == 4) && ((i:Int) == g))=true:=h
  simp only[Bool.and_eq_true,beq_iff_eq] at h2
  exact h2.1
theorem iD {t:List Nd} {r:List Nat} {g ru main:Int} (hz:d9 t r g=0) (hf:findF t r g ru main=true):aH t r g ru main=if (jC (ru - 1).toNat t r g (dx t main)).2.2=true then ([],t,30) else ((jC (ru - 1).toNat t r g (dx t main)).1,(jC (ru - 1).toNat t r g (dx t main)).2.1,0):=by
 unfold aH
 rw[if_neg (by simp[hz]),if_neg (by simp[hf])]
theorem qy {t:List Nd} {i:Nat} (hi:i<t.length) (h5:t[i].k=5) {xl:Nat} (hx:t[i].l=xl) (hxt:xl<t.length):dx t (i:Int)=⟨i,5,xl,t[i].r,t[xl].k,t[xl].l,t[xl].r⟩:=by
 rw[bU hi,hx,aY hxt,h5,if_pos rfl,if_pos rfl,if_pos rfl]
theorem oW {t:List Nd} {r:List Nat} (hr:Ok r) (g ru main:Int):(∀ s ∈ (aH t r g ru main).1,Ok s.1)/\(aH t r g ru main).1.length<=2:=by
 unfold aH
 repeat' split
 all_goals try exact⟨fun s h=>(by cases h),by simp⟩
 have hrs:∀ x:Int,Ok (Bt.aQ r x):=fun x=>cZ hr x
 have hw:∀ (q:List Nat) (l:List Int),Ok q->Ok (aA q l):=fun q l h=>gP l h
 unfold jC
 split <;> refine⟨fun s h => ?_,by simp⟩ <;> simp at h
 case h_1=>subst h;exact hw _ _ (hrs _)
 case h_2=>subst h;exact hw _ _ (hrs _)
 case h_3=>subst h;exact hrs _
 case h_4=>subst h;exact hw _ _ (hrs _)
 case h_5=>subst h;exact hw _ _ (hrs _)
 case h_6=>subst h;exact hw _ _ hr
 case h_7=>rcases h with h | h <;> subst h <;> exact hr
 case h_8=>rcases h with h | h <;> subst h <;> exact hw _ _ (hrs _)
 case h_9=>subst h;exact hr
 case h_10=>subst h;exact hr
 case h_11=>rcases h with h | h <;> subst h <;> exact hw _ _ (hrs _)
theorem vP (w:World) {b o:Nat} {n:Nd} (h:fH w b o n):(Instr.loadAt 54 (.pointer (some ⟨b,o,none⟩))).run Tryz.prog w=.ok (.agg (bq n).toArray) w :=
 run_loadAt_mid (P:=Tryz.prog) w b o 54 (bq n) _ (fun j v hv=>by
  match j,hv with
  | 0,hv=>rw[Nat.add_zero,h.c0];exact hv
  | 1,hv=>rw[h.c1];exact hv
  | 2,hv=>rw[h.c2];exact hv
  | 3,hv=>rw[h.c3];exact hv) Tryz.underlying54 rfl (by rw[eF];rfl)
theorem cK {ops:Array Oper} {rest:List Oper} {o:Oper} {a:Act} {Q:Exit->Act->World->Prop} (w:World) (hg:Region.wanted o (yielded ops a.tmps)=true) (x:Operand) (hop:o.op=Op.load 54 x) (b k:Nat) (hx:a.eval x=.pointer (some ⟨b,k,none⟩)) {n:Nd} (h:fH w b k n)
 (hK:wpList Tryz.prog ops Q rest (a.put o.dst (.agg (bq n).toArray)) w):wpList Tryz.prog ops Q (o :: rest) a w:=by
 refine Bt.wpList_want hg fun K' hK' => ?_
 have hrun:=vP w h
 unfold Oper.wp
 simp[execOp,hop,hx,hrun,Result.andThen]
 exact hK' _ _ hK
theorem dR (n:Nd):(bq n).toArray.all (·.oneCell')=true:=by simp[bq,Value.oneCell']
def eB (t:List Nd) (r:List Nat) (g:Int):Bool:=((Bt.Bs.nums r).map fun n:Nat=>(n:Int)).all (Fm.has t) && Fm.has t g
theorem oZ {t:List Nd} {r:List Nat} (hr:Ok r) (g:Int):d9 t r g=if eB t r g then 0 else 31:=by
 unfold d9 eB
 have hn:(Bt.qV r (t.length:Int)).isSome = !((Bt.Bs.nums r).map fun n:Nat=>(n:Int)).all (Fm.has t):=by
  unfold Bt.qV
  rw[Int.toNat_natCast]
  cases h:Bt.Bs.next r t.length with
  | none=>
   have h2:=Bt.Bs.Ij hr h
   have:((Bt.Bs.nums r).map fun n:Nat=>(n:Int)).all (Fm.has t)=true:=by
    rw[List.all_eq_true]
    intro x hx
    obtain⟨n,hn,rfl⟩:=List.mem_map.1 hx
    have h3:=(Bt.Bs.om.1 hn).2
    rw[Fm.bJ]
    refine⟨by omega,?_⟩
    by_cases hlt:n<t.length
    ·omega
    ·rw[h2 n (by omega)] at h3
     cases h3
   rw[this]
   rfl
  | some m=>
   obtain⟨h1,h2,h3,_⟩:=Bt.Bs.next_lt h
   have:((Bt.Bs.nums r).map fun n:Nat=>(n:Int)).all (Fm.has t)=false:=by
    rw[List.all_eq_false]
    refine⟨(m:Int),List.mem_map.2 ⟨m,Bt.Bs.om.2 ⟨h2,h3⟩,rfl⟩,?_⟩
    rw[Fm.bJ]
    omega
   rw[this]
   rfl
 rw[hn]
 cases ((Bt.Bs.nums r).map fun n:Nat=>(n:Int)).all (Fm.has t) <;> cases Fm.has t g <;> rfl
structure CK (w W:World) (r:List Nat) (g:Int):Prop where
 seq:aX W w.heap.size r g
 au:Below w.heap.size w W
theorem CK.later {w W W':World} {r:List Nat} {g:Int} (h:CK w W r g) (hb:Below W.heap.size W W'):CK w W' r g:=⟨h.seq.later hb h.seq.lt,h.au.trans (hb.mono h.au.size)⟩
theorem GN (w:World) {c:Nat} {u:Value} {t:List Nd} (hT:Tr w c u t) {r:List Nat} (hr:Ok r) (g:Int) :
 Calls Tryz.prog 17 #[.pointer (some ⟨c,0,none⟩),.agg (ak r g)] w fun e w'=>e=.returned (.bool (eB t r g))/\Below w.heap.size w w':=by
 have hl:=hr.1
 have hnl:(Bt.Bs.nums r).length<=1024:=Bt.Bs.DJ r
 have KL:=show Hid (∀ w',Calls Tryz.prog 32 #[.agg (Bt.aD r)] w' fun e w''=>∃ p cc,e=.returned (.slice p (Bt.Bs.nums r).length cc)/\(∀ k (hk:k<(Bt.Bs.nums r).length),∃ b o,p=some ⟨b,o,none⟩/\w''.cell? ⟨b,o+k,none⟩=some (.int .i64 (((Bt.Bs.nums r)[k]:Nat):Int)))/\Below w'.heap.size w' w'') from fun w'=>(Bt.Ip w' hr).mono fun e w'' ⟨v,he,ho,hb⟩=>by
  obtain⟨p,cc,hv,_,hcell⟩:=ho.gQ hnl
  rw[List.length_map] at hv
  refine⟨p,cc,by rw[he,hv],fun k hk => ?_,hb⟩
  obtain⟨b,o,hp,hc⟩:=hcell k (by simpa using hk)
  exact⟨b,o,hp,by simpa using hc⟩
 have KH:=show Hid (∀ w' x,Below w.heap.size w w'->Calls Tryz.prog 33 #[.pointer (some ⟨c,0,none⟩),.int .i64 x] w' fun e w''=>e=.returned (.bool (Fm.has t x))/\w''=w') from fun w' x hb=>cB w' (hT.later hb) x
 have HA:=show Hid (∀ k (hk:k<(Bt.Bs.nums r).length),Fm.has t (((Bt.Bs.nums r)[k]:Nat):Int)=false->eB t r g=false) from fun k hk h=>by
  unfold eB
  rw[Bool.and_eq_false_iff]
  left
  rw[List.all_eq_false]
  exact⟨_,List.mem_map.2 ⟨_,List.getElem_mem hk,rfl⟩,by rw[h];simp⟩
 have HE:=show Hid ((∀ k (hk:k<(Bt.Bs.nums r).length),Fm.has t (((Bt.Bs.nums r)[k]:Nat):Int)=true)->eB t r g=Fm.has t g) from fun h=>by
  unfold eB
  have h2:((Bt.Bs.nums r).map fun n:Nat=>(n:Int)).all (Fm.has t)=true:=by
   rw[List.all_eq_true]
   intro x hx
   obtain⟨n,hn,rfl⟩:=List.mem_map.1 hx
   obtain⟨k,hk,rfl⟩:=List.mem_iff_getElem.1 hn
   exact h k hk
  rw[h2,Bool.true_and]
 have HC:=show Hid (CK w (w.alloc (.cells (ak r g) 27)) r g) from⟨OM w r g,av w _⟩
 clear hT hr
 generalize eB t r g=rq at *
 generalize Bt.Bs.nums r=l at *
 go_enter Tryz.func17,Tryz.ntmps17
 go_wp2_with (refine xJ _ _ rfl _ rfl HC.out.seq hl rfl ?_)
 refine(KL.out _).mono ?_
 rintro e w1 ⟨p,cc,rfl,hcell,hb1⟩
 have H1:=show Hid (CK w w1 r g) from HC.out.later hb1
 have HL:=show Hid (∀ k (hk:k<l.length),∃ b o,p=some ⟨b,o,none⟩/\w1.cell? ⟨b,o+k,none⟩=some (.int .i64 ((l[k]:Nat):Int))) from hcell
 clear hcell hb1 HC KL
 go_wp2_with fail
 go_loopw [6] (fun iv wr=>∃ k:Nat,k<=l.length/\iv=.int .i64 (k:Int)/\wr=w1/\Hid (∀ j (hj:j<l.length),j<k->Fm.has t ((l[j]:Nat):Int)=true)) (fun iv _=>l.length - (intOf iv).toNat)
 case atStart=>exact⟨0,by omega,rfl,rfl,fun j _ h=>by omega⟩
 case round=>
  obtain⟨k,hk,rfl,hwr,HI⟩:=hrel
  subst wr
  by_cases hlt:k<l.length
  ·have hki:(k:Int)<(l.length:Int):=by omega
   obtain⟨b,o,rfl,hc⟩:=HL.out k hlt
   have KX:=show Hid _ from KH.out w1 ((l[k]:Nat):Int) H1.out.au
   cases hx:Fm.has t ((l[k]:Nat):Int)
   ·have hq:=HA.out k hlt hx
    rw[hx] at KX
    generalize ((l[k]:Nat):Int)=x at *
    subst hq
    clear HA HE HI KH HL
    go_wp2_with fail
    refine Calls.mono KX.out ?_
    rintro e w' ⟨rfl,hw'⟩
    subst w'
    clear KX
    go_wp2_with fail
    go_ret
    exact⟨rfl,H1.out.au⟩
   ·have HI2:=show Hid (∀ j (hj:j<l.length),j<k+1->Fm.has t ((l[j]:Nat):Int)=true) from fun j hj h=>by
     by_cases e:j=k
     ·subst e;exact hx
     ·exact HI.out j hj (by omega)
    rw[hx] at KX
    generalize ((l[k]:Nat):Int)=x at *
    clear HA HE HI KH HL
    go_wp2_with fail
    refine Calls.mono KX.out ?_
    rintro e w' ⟨rfl,hw'⟩
    subst w'
    clear KX
    go_wp2_with fail
    go_roundw
    case rel=>exact⟨k+1,by omega,by go_num,by simp,HI2⟩
    case measure=>first|(simp[intOf];done)|(simp[intOf];omega)
  ·have hki:¬ (k:Int)<(l.length:Int):=by omega
   have hq:=HE.out (fun j hj=>HI.out j hj (by omega))
   subst hq
   have c0:=H1.out.seq.goal hl
   have KX:=show Hid _ from KH.out w1 g H1.out.au
   clear HA HE HI KH HL
   go_wp2_with fail
   refine Calls.mono KX.out ?_
   rintro e w' ⟨rfl,hw'⟩
   subst w'
   clear KX
   go_wp2_with fail
   go_ret
   exact⟨rfl,H1.out.au⟩
structure Ext (t t1:List Nd):Prop where
 len:t.length<=t1.length
 pq:∀ j:Nat,j<t.length->aB t1 (j:Int)=aB t (j:Int)
theorem Ext.refl (t:List Nd):Ext t t:=⟨Nat.le_refl _,fun _ _=>rfl⟩
theorem Ext.trans {t t1 t2:List Nd} (h:Ext t t1) (h':Ext t1 t2):Ext t t2:=⟨Nat.le_trans h.len h'.len,fun j hj=>(h'.pq j (Nat.lt_of_lt_of_le hj h.len)).trans (h.pq j hj)⟩
theorem uQ {t:List Nd} {n:Nd} (h:(Fm.put t n).2.1=0):∃ f:Nat,(Fm.put t n).1=f/\f<(Fm.put t n).2.2.length/\aB (Fm.put t n).2.2 (f:Int)=n/\Ext t (Fm.put t n).2.2:=by
 unfold Fm.put at *
 split at h
 ·rename_i hc
  rw[if_pos hc]
  split at h
  ·rename_i hm
   rw[if_pos hm]
   have hlt:=List.idxOf_lt_length_iff.2 hm
   refine⟨t.idxOf n,rfl,hlt,?_,Ext.refl t⟩
   rw[aY hlt]
   simp
  ·rename_i hm
   rw[if_neg hm]
   split at h
   ·exact absurd h (by simp)
   ·rename_i hx
    rw[if_neg hx]
    refine⟨t.length,rfl,by simp,?_,by simp,fun j hj => ?_⟩
    ·rw[aY (by simp)]
     simp
    ·rw[aY (by simp;omega),aY hj]
     simp[hj]
 ·rename_i hc
  exact absurd h hc
inductive PC (t:List Nd) (r:List Nat) (g:Int) (i:Nat):Int->List SQ->List Nd->Prop
 | bot (hk:(aB t (i:Int)).k=2) (hm:Bt.Bs.has r i=true):PC t r g i 1 [] t
 | same (hg:g=(i:Int)) (hm:Bt.Bs.has r i=true):PC t r g i 2 [] t
 | BR (x y:Nat) (hn:aB t (i:Int)=ay 3 x y) (hx:x<i) (hy:y<i) (hm:Bt.Bs.has r i=true):PC t r g i 3 [(Bt.Bs.put (Bt.Bs.put (Bt.Bs.drop r i) x) y,g)] t
 | atom (x y:Nat) (hn:aB t (i:Int)=ay 5 x y) (hx:x<i) (hy:y<i) (hm:Bt.Bs.has r i=true) (ha:Bt.Bs.has r x=true):PC t r g i 4 [(Bt.Bs.put (Bt.Bs.drop r i) y,g)] t
 | JE (x y:Nat) (hn:aB t (i:Int)=ay 5 x y) (hx:x<i) (hy:y<i) (hm:Bt.Bs.has r i=true) (hk:(aB t (x:Int)).k=2):PC t r g i 5 [(Bt.Bs.drop r i,g)] t
 | yX (x y c d:Nat) (hn:aB t (i:Int)=ay 5 x y) (hx:x<i) (hy:y<i) (hm:Bt.Bs.has r i=true) (hn2:aB t (x:Int)=ay 3 c d) (hc:c<x) (hd:d<x) (f1 f2:Nat) (t1 t2:List Nd) (e1:Ext t t1) (e2:Ext t1 t2) (h1:f1<t1.length) (h2:f2<t2.length) (n1:aB t1 (f1:Int)=ay 5 d y) (n2:aB t2 (f2:Int)=ay 5 c f1):PC t r g i 6 [(Bt.Bs.put (Bt.Bs.drop r i) f2,g)] t2
 | EF (x y c d:Nat) (hn:aB t (i:Int)=ay 5 x y) (hx:x<i) (hy:y<i) (hm:Bt.Bs.has r i=true) (hn2:aB t (x:Int)=ay 4 c d) (hc:c<x) (hd:d<x) (f1 f2:Nat) (t1 t2:List Nd) (e1:Ext t t1) (e2:Ext t1 t2) (h1:f1<t1.length) (h2:f2<t2.length) (n1:aB t1 (f1:Int)=ay 5 c y) (n2:aB t2 (f2:Int)=ay 5 d y):PC t r g i 7 [(Bt.Bs.put (Bt.Bs.put (Bt.Bs.drop r i) f1) f2,g)] t2
 | BS (x y:Nat) (hn:aB t (i:Int)=ay 5 x y) (hx:x<i) (hy:y<i) (hg:g=(i:Int)):PC t r g i 8 [(Bt.Bs.put r x,(y:Int))] t
 | BU (x y:Nat) (hn:aB t (i:Int)=ay 3 x y) (hx:x<i) (hy:y<i) (hg:g=(i:Int)):PC t r g i 9 [(r,(x:Int)),(r,(y:Int))] t
 | JF (x y:Nat) (hn:aB t (i:Int)=ay 4 x y) (hx:x<i) (hy:y<i) (hm:Bt.Bs.has r i=true):PC t r g i 10 [(Bt.Bs.put (Bt.Bs.drop r i) x,g),(Bt.Bs.put (Bt.Bs.drop r i) y,g)] t
 | yY (x y:Nat) (hn:aB t (i:Int)=ay 4 x y) (hx:x<i) (hy:y<i) (hg:g=(i:Int)):PC t r g i 11 [(r,(x:Int))] t
 | yZ (x y:Nat) (hn:aB t (i:Int)=ay 4 x y) (hx:x<i) (hy:y<i) (hg:g=(i:Int)):PC t r g i 12 [(r,(y:Int))] t
 | wY (x y c d:Nat) (hn:aB t (i:Int)=ay 5 x y) (hx:x<i) (hy:y<i) (hm:Bt.Bs.has r i=true) (hn2:aB t (x:Int)=ay 5 c d) (hc:c<x) (hd:d<x) (f1:Nat) (t1:List Nd) (e1:Ext t t1) (h1:f1<t1.length) (n1:aB t1 (f1:Int)=ay 5 d y):PC t r g i 13 [(Bt.Bs.put (Bt.Bs.drop r i) f1,(x:Int)),(Bt.Bs.put (Bt.Bs.drop r i) y,g)] t1
theorem fT {t:List Nd} (hO:Fm.Ok t) {i:Nat} (hi:i<t.length) {k:Int} (hk:t[i].k=k) (h3:k=3\/k=4\/k=5):∃ x y:Nat,aB t (i:Int)=ay k x y/\x<i/\y<i/\t[i].l=x/\t[i].r=y:=by
 subst hk
 obtain⟨x,y,hx,hy,lx,ly⟩:=kids hO hi h3
 have hs:t[i].s=⟨#[]⟩:=by
  have hc:=Fm.qC (hO.Ee i hi)
  unfold Fm.shaped at hc
  rw[if_neg (by omega),if_neg (by omega)] at hc
  split at hc
  ·simp only[Bool.and_eq_true,beq_iff_eq] at hc
   have h0:=hc.1.1
   have:t[i].s.data=#[]:=Array.eq_empty_of_size_eq_zero h0
   cases hh:t[i].s with
   | mk d=>rw[hh] at this;simp only at this;rw[this]
  ·cases hc
 refine⟨x,y,?_,lx,ly,hx,hy⟩
 rw[aY hi]
 unfold ay
 rw[<- hx,<- hy,<- hs]
theorem iH {r:List Nat} {n:Nat} (h:n<1024):Bt.aQ r (n:Int)=Bt.Bs.drop r n:=by
 unfold Bt.aQ
 rw[if_pos ⟨by omega,by omega⟩]
 simp
theorem qo {r:List Nat} {n:Nat} (h:n<1024):aA r [(n:Int)]=Bt.Bs.put r n:=by
 have e:aA r [(n:Int)]=(Bt.gF r (n:Int)).1:=by rw[aA,aA]
 rw[e,kH h]
theorem NU {r:List Nat} {n m:Nat} (h:n<1024) (h':m<1024):aA r [(n:Int),(m:Int)]=Bt.Bs.put (Bt.Bs.put r n) m:=by
 rw[aA,kH h,qo h']
theorem Pg {r:List Nat} (hr:Ok r) {n:Nat} (hn:n<1024) (h:dM r (n:Int)=true):Bt.Bs.has r n=true:=by
 rw[rY hr hn] at h
 unfold Bt.Bs.bX at h
 simp only[Bool.and_eq_true] at h
 simpa using h.2
theorem rZ {t:List Nd} (hO:Fm.Ok t) {r:List Nat} (hr:Ok r) {g ru main:Int} (hz:d9 t r g=0) (hf:findF t r g ru main=true) (h0:(aH t r g ru main).2.2=0) :
 ∃ i:Nat,main=i/\i<t.length/\PC t r g i ru (aH t r g ru main).1 (aH t r g ru main).2.1/\Fm.Ok (aH t r g ru main).2.1:=by
 have hh:Fm.has t main=true:=by
  unfold findF at hf
  simp only[Bool.and_eq_true] at hf
  exact hf.1.1
 have BQ:=uN hf
 have hpos:1<=ru:=by
  unfold findF at hf
  simp only[Bool.and_eq_true,decide_eq_true_eq] at hf
  exact hf.1.2.1
 have h1:=Fm.bJ.1 hh
 obtain⟨i,rfl⟩:∃ i:Nat,main=i:=⟨main.toNat,by omega⟩
 have hi:i<t.length:=by omega
 have hlen:=hO.len
 have hfm:=hf
 rw[jD hi] at hfm
 simp only[Bool.and_eq_true] at hfm
 have hfs:=hfm.2
 have YA:∀ {t1:List Nd},Fm.Ok t1->∀ f:Nat,f<t1.length->f<1024:=fun h f hf=>Nat.lt_of_lt_of_le hf h.len
 refine⟨i,rfl,hi,?_⟩
 rw[iD hz hf] at h0 |-
 have nZ:ru=1\/ru=2\/ru=3\/ru=4\/ru=5\/ru=6\/ru=7\/ru=8\/ru=9\/ru=10\/ru=11\/ru=12\/ru=13:=by omega
 have hL:∀ n:Nat,n<t.length->dM r (n:Int)=true->Bt.Bs.has r n=true:=fun n hn h=>Pg hr (by omega) h
 rcases nZ with rfl | rfl | rfl | rfl | rfl | rfl | rfl | rfl | rfl | rfl | rfl | rfl | rfl
 ·rw[bU hi] at hfs
  have h2:((t[i].k == 2) && dM r (i:Int))=true:=hfs
  simp only[Bool.and_eq_true,beq_iff_eq] at h2
  exact⟨.bot (by rw[aY hi];exact h2.1) (hL i hi h2.2),hO⟩
 ·rw[bU hi] at hfs
  have h2:(((i:Int) == g) && dM r (i:Int))=true:=hfs
  simp only[Bool.and_eq_true,beq_iff_eq] at h2
  exact⟨.same h2.1.symm (hL i hi h2.2),hO⟩
 ·obtain⟨x,y,hn,hx,hy,ex,ey⟩:=fT hO hi (jm hi 3 3 (by omega) hf) (by omega)
  rw[bU hi] at hfs |-
  have h2:((t[i].k == 3) && dM r (i:Int))=true:=hfs
  simp only[Bool.and_eq_true,beq_iff_eq] at h2
  rw[ex,ey]
  show PC t r g i 3 [(aA (Bt.aQ r (i:Int)) [(x:Int),(y:Int)],g)] t/\Fm.Ok t
  rw[iH (by omega),NU (by omega) (by omega)]
  exact⟨.BR x y hn hx hy (hL i hi h2.2),hO⟩
 ·obtain⟨x,y,hn,hx,hy,ex,ey⟩:=fT hO hi (jf hi 4 1 (by omega) hf).1 (by omega)
  rw[bU hi] at hfs |-
  rw[ex] at hfs
  have h2:((((if t[i].k=5 then (aB t (x:Int)).k else 0) == 1) && dM r (i:Int)) && dM r (x:Int))=true:=hfs
  simp only[Bool.and_eq_true] at h2
  rw[ex,ey]
  show PC t r g i 4 [(aA (Bt.aQ r (i:Int)) [(y:Int)],g)] t/\Fm.Ok t
  rw[iH (by omega),qo (by omega)]
  exact⟨.atom x y hn hx hy (hL i hi h2.1.2) (hL x (by omega) h2.2),hO⟩
 ·obtain⟨hk5,hk2⟩:=jf hi 5 2 (by omega) hf
  obtain⟨x,y,hn,hx,hy,ex,ey⟩:=fT hO hi hk5 (by omega)
  rw[bU hi] at hfs |-
  rw[ex] at hk2
  have h2:(((if t[i].k=5 then (aB t t[i].l).k else 0) == 2) && dM r (i:Int))=true:=hfs
  simp only[Bool.and_eq_true] at h2
  show PC t r g i 5 [(Bt.aQ r (i:Int),g)] t/\Fm.Ok t
  rw[iH (by omega)]
  exact⟨.JE x y hn hx hy (hL i hi h2.2) hk2,hO⟩
 ·obtain⟨hk5,hk2⟩:=jf hi 6 3 (by omega) hf
  obtain⟨x,y,hn,hx,hy,ex,ey⟩:=fT hO hi hk5 (by omega)
  rw[ex,aY (show x<t.length by omega)] at hk2
  obtain⟨c,d,hn2,hc,hd,ec,ed⟩:=fT hO (show x<t.length by omega) hk2 (by omega)
  have h2:(((if t[i].k=5 then (aB t t[i].l).k else 0) == 3) && dM r (i:Int))=true:=by rw[bU hi] at hfs;exact hfs
  simp only[Bool.and_eq_true] at h2
  rw[qy hi hk5 ex (show x<t.length by omega),ec,ed,ey] at h0 |-
  have e0:(if ((false || ((Fm.put t (ay 5 (d:Int) (y:Int))).2.1 != 0)) || ((Fm.put (Fm.put t (ay 5 (d:Int) (y:Int))).2.2 (ay 5 (c:Int) (Fm.put t (ay 5 (d:Int) (y:Int))).1)).2.1 != 0))=true then (([]:List SQ),t,(30:Int)) else ([(aA (Bt.aQ r (i:Int)) [(Fm.put (Fm.put t (ay 5 (d:Int) (y:Int))).2.2 (ay 5 (c:Int) (Fm.put t (ay 5 (d:Int) (y:Int))).1)).1],g)],(Fm.put (Fm.put t (ay 5 (d:Int) (y:Int))).2.2 (ay 5 (c:Int) (Fm.put t (ay 5 (d:Int) (y:Int))).1)).2.2,0)).2.2=0:=h0
  have hb:((false || ((Fm.put t (ay 5 (d:Int) (y:Int))).2.1 != 0)) || ((Fm.put (Fm.put t (ay 5 (d:Int) (y:Int))).2.2 (ay 5 (c:Int) (Fm.put t (ay 5 (d:Int) (y:Int))).1)).2.1 != 0))=false:=by
   cases hq:((false || ((Fm.put t (ay 5 (d:Int) (y:Int))).2.1 != 0)) || ((Fm.put (Fm.put t (ay 5 (d:Int) (y:Int))).2.2 (ay 5 (c:Int) (Fm.put t (ay 5 (d:Int) (y:Int))).1)).2.1 != 0))
   ·rfl
   ·rw[hq,if_pos rfl] at e0
    exact absurd (show(30:Int)=0 from e0) (by decide)
  show PC t r g i 6 (if _=true then (([]:List SQ),t,(30:Int)) else _).1 (if _=true then (([]:List SQ),t,(30:Int)) else _).2.1/\Fm.Ok (if _=true then (([]:List SQ),t,(30:Int)) else _).2.1
  rw[if_neg (by rw[show(jC ((6:Int) - 1).toNat t r g ⟨(i:Int),5,(x:Int),(y:Int),t[x].k,(c:Int),(d:Int)⟩).2.2=_ from hb];decide)]
  simp only[Bool.false_or,Bool.or_eq_false_iff,bne_eq_false_iff_eq] at hb
  obtain⟨f1,e1,l1,n1,x1⟩:=uQ hb.1
  have gH:Fm.Ok (Fm.put t (ay 5 (d:Int) (y:Int))).2.2:=Fm.oN hO (iB (by omega) (by omega) (Fm.eU (by omega) (by omega)) (Fm.eU (by omega) (by omega)))
  have hl1:=gH.len
  obtain⟨f2,e2,l2,n2,x2⟩:=uQ hb.2
  have hO2:Fm.Ok (Fm.put (Fm.put t (ay 5 (d:Int) (y:Int))).2.2 (ay 5 (c:Int) (Fm.put t (ay 5 (d:Int) (y:Int))).1)).2.2:=Fm.oN gH (iB (by omega) (by omega) (Fm.eU (by omega) (by omega)) (Fm.eU (by omega) (by omega)))
  have hl2:=hO2.len
  show PC t r g i 6 [(aA (Bt.aQ r (i:Int)) [(Fm.put (Fm.put t (ay 5 (d:Int) (y:Int))).2.2 (ay 5 (c:Int) (Fm.put t (ay 5 (d:Int) (y:Int))).1)).1],g)] (Fm.put (Fm.put t (ay 5 (d:Int) (y:Int))).2.2 (ay 5 (c:Int) (Fm.put t (ay 5 (d:Int) (y:Int))).1)).2.2/\_
  rw[e2,iH (by omega),qo (by omega)]
  exact⟨.yX x y c d hn hx hy (hL i hi h2.2) hn2 hc hd f1 f2 _ _ x1 x2 l1 l2 n1 (by rw[n2,e1]),hO2⟩
 ·obtain⟨hk5,hk2⟩:=jf hi 7 4 (by omega) hf
  obtain⟨x,y,hn,hx,hy,ex,ey⟩:=fT hO hi hk5 (by omega)
  rw[ex,aY (show x<t.length by omega)] at hk2
  obtain⟨c,d,hn2,hc,hd,ec,ed⟩:=fT hO (show x<t.length by omega) hk2 (by omega)
  have h2:(((if t[i].k=5 then (aB t t[i].l).k else 0) == 4) && dM r (i:Int))=true:=by rw[bU hi] at hfs;exact hfs
  simp only[Bool.and_eq_true] at h2
  rw[qy hi hk5 ex (show x<t.length by omega),ec,ed,ey] at h0 |-
  have e0:(if ((false || ((Fm.put t (ay 5 (c:Int) (y:Int))).2.1 != 0)) || ((Fm.put (Fm.put t (ay 5 (c:Int) (y:Int))).2.2 (ay 5 (d:Int) (y:Int))).2.1 != 0))=true then (([]:List SQ),t,(30:Int)) else ([(aA (Bt.aQ r (i:Int)) [(Fm.put t (ay 5 (c:Int) (y:Int))).1,(Fm.put (Fm.put t (ay 5 (c:Int) (y:Int))).2.2 (ay 5 (d:Int) (y:Int))).1],g)],(Fm.put (Fm.put t (ay 5 (c:Int) (y:Int))).2.2 (ay 5 (d:Int) (y:Int))).2.2,0)).2.2=0:=h0
  have hb:((false || ((Fm.put t (ay 5 (c:Int) (y:Int))).2.1 != 0)) || ((Fm.put (Fm.put t (ay 5 (c:Int) (y:Int))).2.2 (ay 5 (d:Int) (y:Int))).2.1 != 0))=false:=by
   cases hq:((false || ((Fm.put t (ay 5 (c:Int) (y:Int))).2.1 != 0)) || ((Fm.put (Fm.put t (ay 5 (c:Int) (y:Int))).2.2 (ay 5 (d:Int) (y:Int))).2.1 != 0))
   ·rfl
   ·rw[hq,if_pos rfl] at e0
    exact absurd (show(30:Int)=0 from e0) (by decide)
  show PC t r g i 7 (if _=true then (([]:List SQ),t,(30:Int)) else _).1 (if _=true then (([]:List SQ),t,(30:Int)) else _).2.1/\Fm.Ok (if _=true then (([]:List SQ),t,(30:Int)) else _).2.1
  rw[if_neg (by rw[show(jC ((7:Int) - 1).toNat t r g ⟨(i:Int),5,(x:Int),(y:Int),t[x].k,(c:Int),(d:Int)⟩).2.2=_ from hb];decide)]
  simp only[Bool.false_or,Bool.or_eq_false_iff,bne_eq_false_iff_eq] at hb
  obtain⟨f1,e1,l1,n1,x1⟩:=uQ hb.1
  have gH:Fm.Ok (Fm.put t (ay 5 (c:Int) (y:Int))).2.2:=Fm.oN hO (iB (by omega) (by omega) (Fm.eU (by omega) (by omega)) (Fm.eU (by omega) (by omega)))
  have hl1:=gH.len
  obtain⟨f2,e2,l2,n2,x2⟩:=uQ hb.2
  have hO2:Fm.Ok (Fm.put (Fm.put t (ay 5 (c:Int) (y:Int))).2.2 (ay 5 (d:Int) (y:Int))).2.2:=Fm.oN gH (iB (by omega) (by omega) (Fm.eU (by omega) (by omega)) (Fm.eU (by omega) (by omega)))
  have hl2:=hO2.len
  show PC t r g i 7 [(aA (Bt.aQ r (i:Int)) [(Fm.put t (ay 5 (c:Int) (y:Int))).1,(Fm.put (Fm.put t (ay 5 (c:Int) (y:Int))).2.2 (ay 5 (d:Int) (y:Int))).1],g)] (Fm.put (Fm.put t (ay 5 (c:Int) (y:Int))).2.2 (ay 5 (d:Int) (y:Int))).2.2/\_
  rw[e1,e2,iH (by omega),NU (by omega) (by omega)]
  exact⟨.EF x y c d hn hx hy (hL i hi h2.2) hn2 hc hd f1 f2 _ _ x1 x2 l1 l2 n1 n2,hO2⟩
 ·obtain⟨x,y,hn,hx,hy,ex,ey⟩:=fT hO hi (jm hi 8 5 (by omega) hf) (by omega)
  rw[bU hi] at hfs |-
  have h2:((t[i].k == 5) && ((i:Int) == g))=true:=hfs
  simp only[Bool.and_eq_true,beq_iff_eq] at h2
  rw[ex,ey]
  show PC t r g i 8 [(aA r [(x:Int)],(y:Int))] t/\Fm.Ok t
  rw[qo (by omega)]
  exact⟨.BS x y hn hx hy h2.2.symm,hO⟩
 ·obtain⟨x,y,hn,hx,hy,ex,ey⟩:=fT hO hi (jm hi 9 3 (by omega) hf) (by omega)
  rw[bU hi] at hfs |-
  have h2:((t[i].k == 3) && ((i:Int) == g))=true:=hfs
  simp only[Bool.and_eq_true,beq_iff_eq] at h2
  rw[ex,ey]
  exact⟨.BU x y hn hx hy h2.2.symm,hO⟩
 ·obtain⟨x,y,hn,hx,hy,ex,ey⟩:=fT hO hi (jm hi 10 4 (by omega) hf) (by omega)
  rw[bU hi] at hfs |-
  have h2:((t[i].k == 4) && dM r (i:Int))=true:=hfs
  simp only[Bool.and_eq_true,beq_iff_eq] at h2
  rw[ex,ey]
  show PC t r g i 10 [(aA (Bt.aQ r (i:Int)) [(x:Int)],g),(aA (Bt.aQ r (i:Int)) [(y:Int)],g)] t/\Fm.Ok t
  rw[iH (by omega),qo (by omega),qo (by omega)]
  exact⟨.JF x y hn hx hy (hL i hi h2.2),hO⟩
 ·obtain⟨x,y,hn,hx,hy,ex,ey⟩:=fT hO hi (jm hi 11 4 (by omega) hf) (by omega)
  rw[bU hi] at hfs |-
  have h2:((t[i].k == 4) && ((i:Int) == g))=true:=hfs
  simp only[Bool.and_eq_true,beq_iff_eq] at h2
  rw[ex,ey]
  exact⟨.yY x y hn hx hy h2.2.symm,hO⟩
 ·obtain⟨x,y,hn,hx,hy,ex,ey⟩:=fT hO hi (jm hi 12 4 (by omega) hf) (by omega)
  rw[bU hi] at hfs |-
  have h2:((t[i].k == 4) && ((i:Int) == g))=true:=hfs
  simp only[Bool.and_eq_true,beq_iff_eq] at h2
  rw[ex,ey]
  exact⟨.yZ x y hn hx hy h2.2.symm,hO⟩
 ·obtain⟨hk5,hk2⟩:=jf hi 13 5 (by omega) hf
  obtain⟨x,y,hn,hx,hy,ex,ey⟩:=fT hO hi hk5 (by omega)
  rw[ex,aY (show x<t.length by omega)] at hk2
  obtain⟨c,d,hn2,hc,hd,ec,ed⟩:=fT hO (show x<t.length by omega) hk2 (by omega)
  have h2:(((if t[i].k=5 then (aB t t[i].l).k else 0) == 5) && dM r (i:Int))=true:=by rw[bU hi] at hfs;exact hfs
  simp only[Bool.and_eq_true] at h2
  rw[qy hi hk5 ex (show x<t.length by omega),ec,ed,ey] at h0 |-
  have e0:(if (false || ((Fm.put t (ay 5 (d:Int) (y:Int))).2.1 != 0))=true then (([]:List SQ),t,(30:Int)) else ([(aA (Bt.aQ r (i:Int)) [(Fm.put t (ay 5 (d:Int) (y:Int))).1],(x:Int)),(aA (Bt.aQ r (i:Int)) [(y:Int)],g)],(Fm.put t (ay 5 (d:Int) (y:Int))).2.2,0)).2.2=0:=h0
  have hb:(false || ((Fm.put t (ay 5 (d:Int) (y:Int))).2.1 != 0))=false:=by
   cases hq:(false || ((Fm.put t (ay 5 (d:Int) (y:Int))).2.1 != 0))
   ·rfl
   ·rw[hq,if_pos rfl] at e0
    exact absurd (show(30:Int)=0 from e0) (by decide)
  show PC t r g i 13 (if _=true then (([]:List SQ),t,(30:Int)) else _).1 (if _=true then (([]:List SQ),t,(30:Int)) else _).2.1/\Fm.Ok (if _=true then (([]:List SQ),t,(30:Int)) else _).2.1
  rw[if_neg (by rw[show(jC ((13:Int) - 1).toNat t r g ⟨(i:Int),5,(x:Int),(y:Int),t[x].k,(c:Int),(d:Int)⟩).2.2=_ from hb];decide)]
  simp only[Bool.false_or,bne_eq_false_iff_eq] at hb
  obtain⟨f1,e1,l1,n1,x1⟩:=uQ hb
  have gH:Fm.Ok (Fm.put t (ay 5 (d:Int) (y:Int))).2.2:=Fm.oN hO (iB (by omega) (by omega) (Fm.eU (by omega) (by omega)) (Fm.eU (by omega) (by omega)))
  have hl1:=gH.len
  show PC t r g i 13 [(aA (Bt.aQ r (i:Int)) [(Fm.put t (ay 5 (d:Int) (y:Int))).1],(x:Int)),(aA (Bt.aQ r (i:Int)) [(y:Int)],g)] (Fm.put t (ay 5 (d:Int) (y:Int))).2.2/\_
  rw[e1,iH (by omega),qo (by omega),qo (by omega)]
  exact⟨.wY x y c d hn hx hy (hL i hi h2.2) hn2 hc hd f1 _ x1 l1 n1,gH⟩
def YB (n:Nd) (f:Nat->Bool) (j:Nat):Prop:=(n.k=2->f j=false)/\(n.k=3->f j=(f n.l.toNat && f n.r.toNat))/\(n.k=4->f j=(f n.l.toNat || f n.r.toNat))/\(n.k=5->f j=(!f n.l.toNat || f n.r.toNat))
def tq (t:List Nd) (f:Nat->Bool):Prop:=∀ j:Nat,j<t.length->YB (aB t (j:Int)) f j
theorem tq.ext {t t1:List Nd} {f:Nat->Bool} (h:tq t1 f) (e:Ext t t1):tq t f:=fun j hj=>by
 have:=h j (Nat.lt_of_lt_of_le hj e.len)
 rwa [e.pq j hj] at this
theorem tq.and {t:List Nd} {f:Nat->Bool} (h:tq t f) {j x y:Nat} (hj:j<t.length) (hn:aB t (j:Int)=ay 3 x y):f j=(f x && f y):=by
 have h1:=(h j hj).2.1
 rw[hn] at h1
 exact h1 rfl
theorem tq.or {t:List Nd} {f:Nat->Bool} (h:tq t f) {j x y:Nat} (hj:j<t.length) (hn:aB t (j:Int)=ay 4 x y):f j=(f x || f y):=by
 have h1:=(h j hj).2.2.1
 rw[hn] at h1
 exact h1 rfl
theorem tq.imp {t:List Nd} {f:Nat->Bool} (h:tq t f) {j x y:Nat} (hj:j<t.length) (hn:aB t (j:Int)=ay 5 x y):f j=(!f x || f y):=by
 have h1:=(h j hj).2.2.2
 rw[hn] at h1
 exact h1 rfl
def tt (f:Nat->Bool) (r:List Nat):Prop:=∀ n,n<1024->Bt.Bs.has r n=true->f n=true
theorem kY {r:List Nat} (hr:Ok r) {n:Nat} (hn:n<1024):Ok (Bt.Bs.drop r n):=by
 have:=cZ hr (n:Int)
 rwa [iH hn] at this
def ZN (f:Nat->Bool) (s:SQ):Prop:=tt f s.1/\f s.2.toNat=false
def ZO (f:Nat->Bool) (s:SQ):Bool:=(Bt.Bs.nums s.1).all f && !f s.2.toNat
section
variable {t:List Nd} {r:List Nat} {g:Int} {i:Nat} {ru:Int} {l:List SQ} {t':List Nd} {f:Nat->Bool}
theorem uR (h:PC t r g i ru l t'):Ext t t':=by
 cases h with
 | yX x y c d hn hx hy hm hn2 hc hd f1 f2 t1 t2 e1 e2=>exact e1.trans e2
 | EF x y c d hn hx hy hm hn2 hc hd f1 f2 t1 t2 e1 e2=>exact e1.trans e2
 | wY x y c d hn hx hy hm hn2 hc hd f1 t1 e1=>exact e1
 | _=>exact Ext.refl t
def eD (n:Nat) (s:SQ):Prop:=(∀ m,m<1024->Bt.Bs.has s.1 m=true->m<n)/\0<=s.2/\s.2<n
theorem jN {t:List Nd} {s:SQ}:eB t s.1 s.2=true ↔ eD t.length s:=by
 unfold eB eD
 rw[Bool.and_eq_true,List.all_eq_true,Fm.bJ]
 refine and_congr ⟨fun h m hm hh => ?_,fun h x hx => ?_⟩ Iff.rfl
 ·have:=Fm.bJ.1 (h (m:Int) (List.mem_map.2 ⟨m,Bt.Bs.om.2 ⟨hm,hh⟩,rfl⟩))
  omega
 ·obtain⟨m,hm,rfl⟩:=List.mem_map.1 hx
  have:=Bt.Bs.om.1 hm
  exact Fm.bJ.2 ⟨by omega,by have:=h m this.1 this.2;omega⟩
theorem kr {n m:Nat} {r:List Nat} {g:Int} (hr:Ok r) (hm:m<1024) (hn:m<n) (h:eD n (r,g)):eD n (Bt.Bs.put r m,g):=⟨fun j hj hh=>by
 have hh:Bt.Bs.has (Bt.Bs.put r m) j=true:=hh
 rw[Bt.Bs.jL hr hm,Bool.or_eq_true,decide_eq_true_eq] at hh
 rcases hh with hh | rfl
 ·exact h.1 j hj hh
 ·exact hn,h.2⟩
theorem Mc {n m:Nat} {r:List Nat} {g:Int} (hr:Ok r) (hm:m<1024) (h:eD n (r,g)):eD n (Bt.Bs.drop r m,g):=⟨fun j hj hh=>by
 have hh:Bt.Bs.has (Bt.Bs.drop r m) j=true:=hh
 rw[Bt.Bs.mP hr hm,Bool.and_eq_true] at hh
 exact h.1 j hj hh.1,h.2⟩
theorem oD {n:Nat} {r:List Nat} {g g':Int} (h:eD n (r,g)) (h0:0<=g') (h1:g'<n):eD n (r,g'):=⟨h.1,h0,h1⟩
theorem Md (nG:Fm.Ok t') (hr:Ok r) (hi:i<t.length) (h:PC t r g i ru l t') (hq:eD t.length (r,g)):eD t'.length (r,g)/\∀ s ∈ l,eD t'.length s:=by
 have hlen:=nG.len
 have hxl:=(uR h).len
 have hd:=kY hr (show i<1024 by omega)
 have hq':eD t'.length (r,g):=⟨fun m hm hh=>Nat.lt_of_lt_of_le (hq.1 m hm hh) hxl,hq.2.1,by have:=hq.2.2;simp only at this |-;omega⟩
 refine⟨hq',?_⟩
 have q8:=Mc hr (show i<1024 by omega) hq'
 cases h with
 | bot hk hm=>intro s hs;cases hs
 | same hg hm=>intro s hs;cases hs
 | BR x y hn hx hy hm=>
  intro s hs
  obtain rfl:=List.mem_singleton.1 hs
  exact kr (Bt.Bs.kP hd _) (by omega) (by omega) (kr hd (by omega) (by omega) q8)
 | atom x y hn hx hy hm ha=>
  intro s hs
  obtain rfl:=List.mem_singleton.1 hs
  exact kr hd (by omega) (by omega) q8
 | JE x y hn hx hy hm hk=>
  intro s hs
  obtain rfl:=List.mem_singleton.1 hs
  exact q8
 | yX x y c d hn hx hy hm hn2 hc hdd f1 f2 t1 t2 e1 e2 l1 l2 n1 n2=>
  intro s hs
  obtain rfl:=List.mem_singleton.1 hs
  exact kr hd (by omega) (by omega) q8
 | EF x y c d hn hx hy hm hn2 hc hdd f1 f2 t1 t2 e1 e2 l1 l2 n1 n2=>
  intro s hs
  obtain rfl:=List.mem_singleton.1 hs
  have:=e2.len
  exact kr (Bt.Bs.kP hd _) (by omega) (by omega) (kr hd (by omega) (by omega) q8)
 | BS x y hn hx hy hg=>
  intro s hs
  obtain rfl:=List.mem_singleton.1 hs
  exact oD (kr hr (by omega) (by omega) hq') (by omega) (by omega)
 | BU x y hn hx hy hg=>
  intro s hs
  rcases List.mem_cons.1 hs with rfl | hs
  ·exact oD hq' (by omega) (by omega)
  ·obtain rfl:=List.mem_singleton.1 hs
   exact oD hq' (by omega) (by omega)
 | JF x y hn hx hy hm=>
  intro s hs
  rcases List.mem_cons.1 hs with rfl | hs
  ·exact kr hd (by omega) (by omega) q8
  ·obtain rfl:=List.mem_singleton.1 hs
   exact kr hd (by omega) (by omega) q8
 | yY x y hn hx hy hg=>
  intro s hs
  obtain rfl:=List.mem_singleton.1 hs
  exact oD hq' (by omega) (by omega)
 | yZ x y hn hx hy hg=>
  intro s hs
  obtain rfl:=List.mem_singleton.1 hs
  exact oD hq' (by omega) (by omega)
 | wY x y c d hn hx hy hm hn2 hc hdd f1 t1 e1 l1 n1=>
  intro s hs
  rcases List.mem_cons.1 hs with rfl | hs
  ·exact oD (kr hd (by omega) (by omega) q8) (by omega) (by omega)
  ·obtain rfl:=List.mem_singleton.1 hs
   exact kr hd (by omega) (by omega) q8
end
end Go.Proofs.YtkejippimkjjaaaGreatDoor
