import Derived.Test.YtkpbpecikibohaaGreatDoorProg
import Derived.Test.YtkpbpecikibohaaGreatDoorPG
import Derived.WalkKit
import Derived.WalkLawsBesides
import Derived.WalkSpells
import Derived.ProofKit
import Derived.BigQuiet
import Derived.Laws.RangeAny
import Derived.Maps.OwnSet
import Derived.Maps.AppendAt
import Derived.DeepKeys4
import Derived.Deep.RegionLaw
set_option linter.unusedSimpArgs false
set_option maxRecDepth 100000
set_option maxHeartbeats 4000000
namespace Go.Proofs.YtkpbpecikibohaaGreatDoor
open Go.RowKit Go.Maps
open Fm (Nd)
theorem qQ {k:IntKind} {a b:Int} (h:a=b):Ending.returned (.int k a)=.returned (.int k b):=by rw[h]
theorem gB {k:IntKind} {a b:Int} (h:a=b):Value.int k a=.int k b:=by rw[h]
theorem eB {a b:Bool} (h:a=b):Ending.returned (.bool a)=.returned (.bool b):=by rw[h]
theorem ak (w:World) (o:Obj):Below w.heap.size w (w.alloc o):=(Below.refl _ _).alloc (Nat.le_refl _) _
theorem lt_of_block {w:World} {g:Nat} {o:Obj} (h:w.heap[g]?=some o):g<w.heap.size:=(Array.getElem?_eq_some_iff.1 h).1
theorem laidOut:laidOutB Tryz.prog=true:=by kernel_rfl
def gQ (n:Nd):List Value:=[.int .i64 n.k,.string n.s,.int .i64 n.l,.int .i64 n.r]
def dY (n:Nd):Value:=.agg #[.int .i64 n.k,.string n.s,.int .i64 n.l,.int .i64 n.r]
def cellsOf (t:List Nd):List Value:=t.flatMap gQ
theorem FY (n:Nd):∀ u ∈ gQ n,u.oneCell'=true:=by
 intro u hu
 simp only[gQ,List.mem_cons,List.not_mem_nil,or_false] at hu
 rcases hu with rfl | rfl | rfl | rfl <;> rfl
theorem E9 (t:List Nd):∀ u ∈ cellsOf t,u.oneCell'=true:=by
 intro u hu
 obtain⟨n,_,hn⟩:=List.mem_flatMap.1 hu
 exact FY n u hn
theorem vC (t:List Nd) (n:Nd):cellsOf (t ++ [n])=cellsOf t ++ gQ n:=by simp[cellsOf]
theorem jg (t:List Nd):(cellsOf t).length=t.length * 4:=by
 induction t with
 | nil=>rfl
 | cons n r ih=>show(gQ n ++ cellsOf r).length=_;rw[List.length_append,ih,List.length_cons];show 4+_=_;omega
theorem nP:∀ (t:List Nd) (k j:Nat) (hk:k<t.length),j<4->(cellsOf t)[k * 4+j]?=(gQ t[k])[j]?
 | [],k,j,hk,_=>absurd hk (by simp)
 | n :: t,0,j,hk,hj=>by
  show(gQ n ++ cellsOf t)[0 * 4+j]?=_
  rw[List.getElem?_append_left (by show 0 * 4+j<4;omega),Nat.zero_mul,Nat.zero_add]
  rfl
 | n :: t,k+1,j,hk,hj=>by
  have hl:(gQ n).length=4:=rfl
  show(gQ n ++ cellsOf t)[(k+1) * 4+j]?=_
  rw[List.getElem?_append_right (by rw[hl];omega),hl,show(k+1) * 4+j - 4=k * 4+j by omega]
  rw[nP t k j (by simpa using hk) hj]
  rfl
theorem Cn (t:List Nd) (m:Nat) (h:m<=t.length):(cellsOf t).take (m * 4)=cellsOf (t.take m):=by
 have e:cellsOf t=cellsOf (t.take m) ++ cellsOf (t.drop m):=by
  show _=(t.take m).flatMap gQ ++ (t.drop m).flatMap gQ
  rw[<- List.flatMap_append,List.take_append_drop]
  rfl
 rw[e]
 have hl:(cellsOf (t.take m)).length=m * 4:=by rw[jg,List.length_take,Nat.min_eq_left h]
 rw[<- hl]
 exact List.take_left
structure FZ (w:World) (b o:Nat) (n:Nd):Prop where
 c0:w.cell? ⟨b,o,none⟩=some (.int .i64 n.k)
 c1:w.cell? ⟨b,o+1,none⟩=some (.string n.s)
 c2:w.cell? ⟨b,o+2,none⟩=some (.int .i64 n.l)
 c3:w.cell? ⟨b,o+3,none⟩=some (.int .i64 n.r)
def lH (w:World) (v:Value) (t:List Nd):Prop :=
 ∃ p c,v=.slice p t.length c/\t.length<=c/\c<=9223372036854775807/\(0<t.length->∃ b o,p=some ⟨b,o,none⟩/\∀ k (hk:k<t.length),FZ w b (o+k * 4) t[k])
def Rw (w:World) (v:Value) (t:List Nd):Prop :=
 (v=.slice none 0 0/\t=[])\/∃ g cap cur,v=.slice (some ⟨g,0,none⟩) t.length cap/\w.heap[g]?=some (.cells cur 67 (0,0))/\t.length<=cap/\cap<=maxLen/\cap * 4<=cur.size/\cur.toList.take (t.length * 4)=cellsOf t
theorem JW (w:World):Rw w (.slice none 0 0) []:=Or.inl ⟨rfl,rfl⟩
theorem Rw.Ga {w:World} {v:Value} {t:List Nd} (h:Rw w v t):lH w v t:=by
 rcases h with ⟨rfl,rfl⟩ | ⟨g,cap,cur,rfl,hh,h1,h2,h3,h4⟩
 ·exact⟨none,0,rfl,by simp,by omega,fun hp=>by simp at hp⟩
 ·refine⟨_,cap,rfl,h1,by unfold maxLen at h2;omega,fun _=>⟨g,0,rfl,fun k hk => ?_⟩⟩
  have hc:∀ j,j<4->w.cell? ⟨g,k * 4+j,none⟩=(gQ t[k])[j]?:=fun j hj=>by
   rw[cell_of_row w g _ cur _ _ hh,<- nP t k j hk hj,<- h4,List.getElem?_take,if_pos (by omega)]
   simp
  rw[Nat.zero_add]
  exact⟨hc 0 (by omega),hc 1 (by omega),hc 2 (by omega),hc 3 (by omega)⟩
theorem Rw.lt {w:World} {v:Value} {t:List Nd} (h:Rw w v t):∀ k,v.ownBlock=some k->k<w.heap.size/\∃ cur,w.heap[k]?=some (.cells cur 67 (0,0)):=by
 intro k hk
 rcases h with ⟨rfl,rfl⟩ | ⟨g,cap,cur,rfl,hh,_⟩
 ·cases hk
 ·obtain rfl:g=k:=Option.some.inj hk
  exact⟨lt_of_block hh,cur,hh⟩
theorem Rw.keep {w w':World} {v:Value} {t:List Nd} (h:Rw w v t) (hk:∀ k,v.ownBlock=some k->w'.heap[k]?=w.heap[k]?):Rw w' v t:=by
 rcases h with ⟨rfl,rfl⟩ | ⟨g,cap,cur,rfl,hh,r⟩
 ·exact Or.inl ⟨rfl,rfl⟩
 ·exact Or.inr ⟨g,cap,cur,rfl,(hk g rfl).trans hh,r⟩
theorem lH.later {w w':World} {v:Value} {t:List Nd} (h:lH w v t) (hb:Below w.heap.size w w'):lH w' v t:=by
 obtain⟨p,c,hv,h1,h2,h3⟩:=h
 refine⟨p,c,hv,h1,h2,fun hp => ?_⟩
 obtain⟨b,o,vD,hc⟩:=h3 hp
 refine⟨b,o,vD,fun k hk => ?_⟩
 have h:=hc k hk
 have hlt:b<w.heap.size:=World.block_lt_of_cell? w _ h.c0
 exact⟨(hb.cell (p:=⟨b,_,none⟩) hlt).trans h.c0,(hb.cell (p:=⟨b,_,none⟩) hlt).trans h.c1,(hb.cell (p:=⟨b,_,none⟩) hlt).trans h.c2,(hb.cell (p:=⟨b,_,none⟩) hlt).trans h.c3⟩
structure Kp (S:Nat->Prop) (w w':World):Prop where
 os:w'.os=w.os
 tape:w'.tape=w.tape
 output:w'.output=w.output
 size:w.heap.size<=w'.heap.size
 block:∀ k,k<w.heap.size->¬ S k->w'.heap[k]?=w.heap[k]?
theorem Kp.refl (S:Nat->Prop) (w:World):Kp S w w:=⟨rfl,rfl,rfl,Nat.le_refl _,fun _ _ _=>rfl⟩
theorem Kp.of_below {S:Nat->Prop} {w w':World} (h:Below w.heap.size w w'):Kp S w w':=⟨h.os,h.tape,h.output,h.size,fun k hk _=>h.block k hk⟩
theorem Kp.trans {S S':Nat->Prop} {a b c:World} (h:Kp S a b) (k:Kp S' b c) (hS:∀ i,S' i->S i\/a.heap.size<=i):Kp S a c :=
 ⟨k.os.trans h.os,k.tape.trans h.tape,k.output.trans h.output,Nat.le_trans h.size k.size,fun i hi hn=>(k.block i (Nat.lt_of_lt_of_le hi h.size) (fun h'=>by rcases hS i h' with h1 | h1;exact hn h1;omega)).trans (h.block i hi hn)⟩
theorem Kp.below {S:Nat->Prop} {w w':World} {B:Nat} (h:Kp S w w') (hB:B<=w.heap.size) (hS:∀ k,S k->B<=k):Below B w w' :=
 ⟨h.os,h.tape,h.output,h.size,fun k hk=>h.block k (by omega) (fun h'=>by have:=hS k h';omega)⟩
theorem Kp.drew {S:Nat->Prop} {w w':World} (h:Kp S w w'):Kp S w w'.drew:=⟨h.os,h.tape,h.output,h.size,h.block⟩
def dh (H:Nat) (v v':Value):Prop:=∀ k,v'.ownBlock=some k->v.ownBlock=some k\/H<=k
theorem dh.refl (H:Nat) (v:Value):dh H v v:=fun _ h=>Or.inl h
theorem dh.trans {H H':Nat} {a b c:Value} (h:dh H a b) (k:dh H' b c) (hH:H<=H'):dh H a c:=fun i hi=>by
 rcases k i hi with h1 | h1
 ·exact h i h1
 ·exact Or.inr (by omega)
def kl (n:Nd):Lit:=.string (keyBytes [.int .i64 n.k,.string n.s.data.toList,.int .i64 n.l,.int .i64 n.r])
theorem law:Keyed Tryz.prog 67:=Keyed.of_law (deep_law_laid (m:=2) laidOut (by omega) (of_decide_eq_true (by kernel_rfl)) (by kernel_rfl) (by kernel_rfl))
theorem Co {x:Int} (h:Fm.i64 x):(Lit.int .i64 x).wf=true:=WalkArith.wf_i64 (by have:=h.1;have:=h.2;omega)
theorem uE:Tryz.prog.cellsOf 67=4:=by kernel_rfl
theorem yK:Tryz.prog.cellsOf 65=1:=by kernel_rfl
theorem rU:Tryz.prog.cellsOf 3=1:=by kernel_rfl
theorem AB:Tryz.prog.cellsOf 9=1:=by kernel_rfl
theorem Ij (d:Nat) {n:Nd} (h0:(Lit.int .i64 n.k).wf=true) (h1:n.s.size<=maxLen) (h2:(Lit.int .i64 n.l).wf=true) (h3:(Lit.int .i64 n.r).wf=true) :
 Tryz.prog.keyLits (d+1+1) 67 [.int .i64 n.k,.string n.s,.int .i64 n.l,.int .i64 n.r]=some [.int .i64 n.k,.string n.s.data.toList,.int .i64 n.l,.int .i64 n.r]:=by
 simp[Program.keyLits,Tryz.underlying67,Tryz.underlying65,Tryz.underlying9,Tryz.underlying3,uE,yK,rU,AB,h0,h1,h2,h3]
theorem pF {n:Nd} (h:Fm.good n):keyOf Tryz.prog 67 (dY n)=some (kl n):=by
 have h0:=Co h.1
 have h2:=Co h.2.2.1
 have h3:=Co h.2.2.2
 have h1:n.s.size<=maxLen:=by have:=h.2.1;unfold maxLen;omega
 have hts:Tryz.prog.types.size+1=276+1+1:=by kernel_rfl
 have hkt:Tryz.prog.keyType 67=true:=by kernel_rfl
 unfold keyOf
 simp only[Tryz.underlying67,hkt,Bool.true_and]
 rw[if_pos (by simp[Value.formed,dY,Tryz.underlying67,uE])]
 rw[hts]
 show(Tryz.prog.keyLits (276+1+1) 67 [.int .i64 n.k,.string n.s,.int .i64 n.l,.int .i64 n.r]).map _=_
 rw[Ij 276 h0 h1 h2 h3]
 rfl
theorem key_inj {a b:Nd} (ha:Fm.good a) (hb:Fm.good b) (h:kl a=kl b):a=b:=by
 have e:=law.inj (pF ha) (h ▸ pF hb)
 unfold dY at e
 obtain⟨k,s,l,r⟩:=a
 obtain⟨k',s',l',r'⟩:=b
 simp at e
 obtain⟨rfl,rfl,rfl,rfl⟩:=e
 rfl
structure Tied (D:DataW Unit) (t:List Nd):Prop where
 map:IsMap D
 tidy:Tidy D
 size:Maps.size D=t.length
 has:∀ n,Fm.good n->Maps.has D (kl n)=decide (n ∈ t)
 num:∀ n,Fm.good n->n ∈ t->∀ z,D.atKey (kl n) z=.lit (.int .i64 (t.idxOf n:Int))
abbrev mQ (w:World) (m:Nat) (D:DataW Unit):Prop:=w.ownsMap Tryz.prog 67 (plainElem Tryz.prog 3) m (Maps.size D) D
theorem Cq {w:World} {m n:Nat} {D:DataW Unit} (h:w.ownsMap Tryz.prog 67 (plainElem Tryz.prog 3) m n D):mQ w m D:=by
 obtain⟨es,clock,hb,F,_,rfl⟩:=h
 refine⟨es,clock,hb,F,?_,rfl⟩
 simp[Maps.size,length_sorted]
theorem Tg {n:Nd} (h:Fm.good n):WideAt.IsKeyLit (kl n):=law.key (pF h)
theorem Ny:Tied (.map []) []:=⟨isMap_empty,tidy_empty,rfl,fun n _=>by simp[Maps.has],fun n _ h=>by cases h⟩
theorem Tied.put {D:DataW Unit} {t:List Nd} (h:Tied D t) {n:Nd} (hn:Fm.good n) (hm:n ∉ t):Tied (D.put (kl n) (.lit (.int .i64 (t.length:Int)))) (t ++ [n]):=by
 have hk:=Tg hn
 have hh:Maps.has D (kl n)=false:=by rw[h.has n hn];simp[hm]
 refine⟨h.map.put _ _,h.tidy.put hk _,?_,fun x hx => ?_,fun x hx hmem z => ?_⟩
 ·rw[size_put h.tidy,hh,h.size];simp
 ·by_cases e:x=n
  ·subst e
   rw[has_put_same h.map hk]
   simp
  ·rw[has_put_other (fun e'=>e (key_inj hx hn e')),h.has x hx]
   simp[e]
 ·by_cases e:x=n
  ·subst e
   rw[atKey_put_same h.map hk,List.idxOf_append,if_neg hm]
   simp
  ·rw[atKey_put_other (fun e'=>e (key_inj hx hn e'))]
   have hxt:x ∈ t:=by
    rcases List.mem_append.1 hmem with h' | h'
    ·exact h'
    ·exact absurd (by simpa using h') e
   rw[h.num x hx hxt,List.idxOf_append,if_pos hxt]
structure Tb (w:World) (b m:Nat) (v:Value) (t:List Nd):Prop where
 tab:w.heap[b]?=some (.cells #[v,.map (some m)] 131 (0,0))
 row:Rw w v t
 map:∃ D,mQ w m D/\Tied D t
 ok:Fm.Ok t
structure Tr (w:World) (c:Nat) (u:Value) (t:List Nd):Prop where
 tab:w.heap[c]?=some (.cells #[u] 89 (0,0))
 row:Rw w u t
 ok:Fm.Ok t
def Ft (b m:Nat) (v:Value) (k:Nat):Prop:=k=b\/k=m\/v.ownBlock=some k
def Fr (c:Nat) (u:Value) (k:Nat):Prop:=k=c\/u.ownBlock=some k
def After (w:World) (b m:Nat) (v:Value) (t':List Nd) (w':World):Prop:=∃ v',Tb w' b m v' t'/\dh w.heap.size v v'/\Kp (Ft b m v) w w'
def bZ (w:World) (c:Nat) (u:Value) (t':List Nd) (w':World):Prop:=∃ u',Tr w' c u' t'/\dh w.heap.size u u'/\Kp (Fr c u) w w'
section
variable {w w':World} {b m c:Nat} {v u:Value} {t t':List Nd}
theorem Tb.c0 (h:Tb w b m v t):w.cell? ⟨b,0,none⟩=some v:=by rw[cell_of_row w b 0 _ _ _ h.tab];rfl
theorem Tb.c1 (h:Tb w b m v t):w.cell? ⟨b,1,none⟩=some (.map (some m)):=by rw[cell_of_row w b 1 _ _ _ h.tab];rfl
theorem Tb.fr (h:Tb w b m v t) (j:Nat):w.frozen? ⟨b,j,none⟩=false:=frozen_of_row w b j _ _ h.tab
theorem Tr.c0 (h:Tr w c u t):w.cell? ⟨c,0,none⟩=some u:=by rw[cell_of_row w c 0 _ _ _ h.tab];rfl
theorem Tr.fr (h:Tr w c u t) (j:Nat):w.frozen? ⟨c,j,none⟩=false:=frozen_of_row w c j _ _ h.tab
theorem Tb.mlt (h:Tb w b m v t):m<w.heap.size:=by obtain⟨D,hD,_⟩:=h.map;exact hD.lt
theorem Tb.blt (h:Tb w b m v t):b<w.heap.size:=lt_of_block h.tab
theorem Tr.oG (h:Tr w c u t):c<w.heap.size:=lt_of_block h.tab
theorem Tb.bm (h:Tb w b m v t):b≠m:=by
 obtain⟨D,⟨es,cl,hb,_⟩,_⟩:=h.map
 intro e
 subst e
 rw[h.tab] at hb
 cases hb
theorem Tb.vb (h:Tb w b m v t):v.ownBlock≠some b:=by
 intro e
 obtain⟨_,cur,hh⟩:=h.row.lt b e
 rw[h.tab] at hh
 simp at hh
theorem Tb.vm (h:Tb w b m v t):v.ownBlock≠some m:=by
 intro e
 obtain⟨_,cur,hh⟩:=h.row.lt m e
 obtain⟨D,⟨es,cl,hb,_⟩,_⟩:=h.map
 rw[hh] at hb
 cases hb
theorem Tr.uc (h:Tr w c u t):u.ownBlock≠some c:=by
 intro e
 obtain⟨_,cur,hh⟩:=h.row.lt c e
 rw[h.tab] at hh
 simp at hh
theorem Tb.keep (h:Tb w b m v t) (hk:∀ k,Ft b m v k->w'.heap[k]?=w.heap[k]?):Tb w' b m v t:=by
 refine⟨(hk b (Or.inl rfl)).trans h.tab,h.row.keep fun k e=>hk k (Or.inr (Or.inr e)),?_,h.ok⟩
 obtain⟨D,⟨es,cl,hb,r⟩,hT⟩:=h.map
 exact⟨D,⟨es,cl,(hk m (Or.inr (Or.inl rfl))).trans hb,r⟩,hT⟩
theorem Tr.keep (h:Tr w c u t) (hk:∀ k,Fr c u k->w'.heap[k]?=w.heap[k]?):Tr w' c u t :=
 ⟨(hk c (Or.inl rfl)).trans h.tab,h.row.keep fun k e=>hk k (Or.inr e),h.ok⟩
theorem Tb.foot (h:Tb w b m v t):∀ k,Ft b m v k->k<w.heap.size:=by
 rintro k (rfl | rfl | e)
 ·exact h.blt
 ·exact h.mlt
 ·exact(h.row.lt k e).1
theorem Tr.foot (h:Tr w c u t):∀ k,Fr c u k->k<w.heap.size:=by
 rintro k (rfl | e)
 ·exact h.oG
 ·exact(h.row.lt k e).1
theorem Tb.later (h:Tb w b m v t) (hb:Below w.heap.size w w'):Tb w' b m v t:=h.keep fun k hk=>hb.block k (h.foot k hk)
theorem Tr.later (h:Tr w c u t) (hb:Below w.heap.size w w'):Tr w' c u t:=h.keep fun k hk=>hb.block k (h.foot k hk)
theorem Tb.drew (h:Tb w b m v t):Tb w.drew b m v t:=h.keep fun _ _=>rfl
theorem Tr.drew (h:Tr w c u t):Tr w.drew c u t:=h.keep fun _ _=>rfl
theorem After.of_below (h:Tb w b m v t) (hb:Below w.heap.size w w'):After w b m v t w':=⟨v,h.later hb,dh.refl _ _,Kp.of_below hb⟩
theorem bZ.of_below (h:Tr w c u t) (hb:Below w.heap.size w w'):bZ w c u t w':=⟨u,h.later hb,dh.refl _ _,Kp.of_below hb⟩
theorem After.trans {w1 w2:World} {v1:Value} (h1:dh w.heap.size v v1) (hk:Kp (Ft b m v) w w1) (h2:After w1 b m v1 t' w2):After w b m v t' w2:=by
 obtain⟨v2,ht,hl,hk2⟩:=h2
 refine⟨v2,ht,h1.trans hl hk.size,hk.trans hk2 ?_⟩
 rintro i (e | e | e)
 ·exact Or.inl (Or.inl e)
 ·exact Or.inl (Or.inr (Or.inl e))
 ·rcases h1 i e with h | h
  ·exact Or.inl (Or.inr (Or.inr h))
  ·exact Or.inr h
theorem After.kF {w1 w2:World} (h:After w1 b m v t' w2) (hb:Below w.heap.size w w1):After w b m v t' w2:=After.trans (dh.refl _ _) (Kp.of_below hb) h
theorem bZ.trans {w1 w2:World} {u1:Value} (h1:dh w.heap.size u u1) (hk:Kp (Fr c u) w w1) (h2:bZ w1 c u1 t' w2):bZ w c u t' w2:=by
 obtain⟨v2,ht,hl,hk2⟩:=h2
 refine⟨v2,ht,h1.trans hl hk.size,hk.trans hk2 ?_⟩
 rintro i (e | e)
 ·exact Or.inl (Or.inl e)
 ·rcases h1 i e with h | h
  ·exact Or.inl (Or.inr h)
  ·exact Or.inr h
theorem bZ.kF {w1 w2:World} (h:bZ w1 c u t' w2) (hb:Below w.heap.size w w1):bZ w c u t' w2:=bZ.trans (dh.refl _ _) (Kp.of_below hb) h
end
theorem lI (w:World) (cs:Array Value) (t:TypeId) (g:Nat) (hg:g=w.heap.size):∀ j u,cs.toList[j]?=some u->(w.alloc (.cells cs t)).cell? ((⟨g,0,none⟩:Addr).add j)=some u:=by
 intro j u hu
 subst hg
 rw[Addr.add_lit,Nat.zero_add,World.cell?_alloc_new,<- Array.getElem?_toList]
 exact hu
theorem AJ:(Tryz.prog.info? 67).map (fun i=>(i.zero,i.size,i.bytes))=some (some (.agg #[.int .i64 0,.string ⟨#[]⟩,.int .i64 0,.int .i64 0]),4,40):=by kernel_rfl
theorem BP (w:World) (ty:TypeId) {v:Value} {t:List Nd} (hR:Rw w v t) (hl:t.length<=1048576) (n:Nd) (a:Addr) (hn:∀ j u,(gQ n)[j]?=some u->w.cell? (a.add j)=some u) :
 ∃ v' w',(Builtin.append_ #[22,22] ty #[v,.slice (some a) 1 1]).run Tryz.prog w=.ok v' w'/\Rw w' v' (t ++ [n])/\w.grownBy w' v.ownBlock/\dh w.heap.size v v':=by
 obtain⟨i,hi,hz0,hz1,hz2⟩:=info_parts AJ
 have hgen:∀ (old:Nat),old<t.length+1->∀ (row:Option Nat),
  Rw (w.drew.alloc (.cells ((cellsOf t).toArray ++ (gQ n).toArray ++ Builtin.zeroCells (Value.cells (.agg #[.int .i64 0,.string ⟨#[]⟩,.int .i64 0,.int .i64 0])) (grownCap w (t.length+1) old 67 - (t.length+1))) 67))
   (.slice (some ⟨w.heap.size,0,none⟩) (t.length+1) (grownCap w (t.length+1) old 67)) (t ++ [n]) /\
  w.grownBy (w.drew.alloc (.cells ((cellsOf t).toArray ++ (gQ n).toArray ++ Builtin.zeroCells (Value.cells (.agg #[.int .i64 0,.string ⟨#[]⟩,.int .i64 0,.int .i64 0])) (grownCap w (t.length+1) old 67 - (t.length+1))) 67)) row:=by
  intro old ho row
  have hge:=grownCap_ge w (t.length+1) old 67
  have hcm:grownCap w (t.length+1) old 67<=maxLen:=grownCap_le_maxLen w (t.length+1) old 67 (by unfold maxLen;omega)
  refine⟨Or.inr ⟨w.heap.size,_,_,by rw[List.length_append,List.length_singleton],heap_alloc_new w.drew _,by rw[List.length_append,List.length_singleton];exact hge,hcm,?_,?_⟩,⟨rfl,rfl,rfl,by simp,fun k hk _=>Below.heap_alloc w.drew _ k hk⟩⟩
  ·simp only[Array.size_append,List.size_toArray,size_zeroCells,jg]
   show _<=t.length * 4+4+_ * 4
   omega
  ·simp only[Array.toList_append,List.append_assoc]
   rw[vC,<- List.append_assoc,List.length_append,List.length_singleton]
   have hlen:(cellsOf t ++ gQ n).length=(t.length+1) * 4:=by rw[List.length_append,jg];show _+4=_;omega
   rw[<- hlen]
   exact List.take_left
 rcases hR with ⟨rfl,rfl⟩ | ⟨g,cap,cur,rfl,hg,hnc,hcm,hcs,htake⟩
 ·have hr:=run_append_nil (P:=Tryz.prog) w 22 ty 67 i _ Tryz.underlying22 hi hz0 a 1 1 (gQ n) (by rw[hz1];rfl) hn (by omega) (by omega) (by rw[hz2];omega)
  have hgr:=hgen 0 (by omega) none
  exact⟨_,_,hr,hgr.1,hgr.2,fun k hk=>Or.inr (by simp[Value.ownBlock] at hk;omega)⟩
 ·by_cases hroom:t.length+1<=cap
  ·have hr:=run_append_room (P:=Tryz.prog) w 22 ty 67 i Tryz.underlying22 hi g t.length cap cur hg a 1 1 (gQ n) (by rw[hz1];rfl) hn (FY n) hroom (by rw[hz1];show _+4<=_;omega)
   rw[hz1] at hr
   refine⟨_,_,hr,Or.inr ⟨g,cap,_,by rw[List.length_append,List.length_singleton],setRow_heap w g cur _ 67 _ hg,by rw[List.length_append,List.length_singleton];exact hroom,hcm,?_,?_⟩,⟨rfl,rfl,rfl,by simp,fun k _ hk=>setRow_other w g k _ (fun e=>hk (by simp[Value.ownBlock,e]))⟩,fun k hk=>Or.inl hk⟩
   ·have:(gQ n).length=4:=rfl
    simp only[List.size_toArray,List.length_append,List.length_take,List.length_drop,Array.length_toList]
    omega
   ·rw[htake,vC,List.length_append,List.length_singleton]
    have hlen:(cellsOf t ++ gQ n).length=(t.length+1) * 4:=by rw[List.length_append,jg];show _+4=_;omega
    rw[<- hlen]
    exact List.take_left
  ·have holds:∀ j u,(cellsOf t)[j]?=some u->w.cell? ((⟨g,0,none⟩:Addr).add j)=some u:=by
    intro j u hu
    have hadd:(⟨g,0,none⟩:Addr).add j=⟨g,j,none⟩:=by unfold Addr.add;split <;> simp_all
    rw[hadd,cell_of_row w g j cur _ _ hg]
    rw[<- htake,List.getElem?_take] at hu
    split at hu
    ·simpa using hu
    ·cases hu
   have hr:=run_append_grow (P:=Tryz.prog) w 22 ty 67 i _ Tryz.underlying22 hi hz0 ⟨g,0,none⟩ t.length cap (cellsOf t) (by rw[hz1];exact jg t) holds a 1 1 (gQ n) (by rw[hz1];rfl) hn (by omega) (by omega) (growslice_fits (by omega) (by rw[hz2];omega))
   have hgr:=hgen cap (by omega) (some g)
   exact⟨_,_,hr,hgr.1,hgr.2,fun k hk=>Or.inr (by simp[Value.ownBlock] at hk;omega)⟩
theorem jo {ops:Array Oper} {o:Oper} {a:Act} {w:World} {K:Act->World->Prop} {Q:Exit->Act->World->Prop} {E:Prop}
 (hg:o.guard=none) (s x:Operand) (hop:o.op=Op.call { callee:=Callee.builtin Builtin.append,args:=#[s,x],argTypes:=#[22,22] })
 (v:Value) (t:List Nd) (hs:a.eval s=v) (hR:Rw w v t) (hl:t.length<=1048576) (n:Nd) (ad:Addr) (hx:a.eval x=.slice (some ad) 1 1) (hn:∀ j u,(gQ n)[j]?=some u->w.cell? (ad.add j)=some u)
 (hK:∀ v' w',Rw w' v' (t ++ [n])->w.grownBy w' v.ownBlock->dh w.heap.size v v'->K (a.put o.dst v') w') :
 if Region.wanted o (yielded ops a.tmps)=true then Oper.wp Tryz.prog o a w K Q else E:=by
 have hw:Region.wanted o (yielded ops a.tmps)=true:=by simp[Region.wanted,hg]
 rw[if_pos hw]
 obtain⟨v',w',hrun,r1,r2,r3⟩:=BP w o.type hR hl n ad hn
 unfold Oper.wp
 simp[execOp,hop,resolve,invoke,builtin,hs,hx,hrun,Result.andThen]
 exact hK v' w' r1 r2 r3
end Go.Proofs.YtkpbpecikibohaaGreatDoor
namespace Go.Proofs.YtkpbpecikibohaaGreatDoor
open Go.RowKit
open Fm (Nd)
theorem Gb (c:UInt8):Fm.gP c=(decide (97<=(c.toNat:Int)/\(c.toNat:Int)<=122) || decide (65<=(c.toNat:Int)/\(c.toNat:Int)<=90)):=by
 unfold Fm.gP
 simp only[UInt8.le_iff_toNat_le]
 rw[Bool.eq_iff_iff]
 simp
 omega
theorem vE (w:World) (c:UInt8) :
 Calls Tryz.prog 148 #[.int .u8 c.toNat] w fun e w'=>e=.returned (.bool (Fm.gP c))/\w'=w:=by
 have h:=Gb c
 have hc:=c.toNat_lt
 generalize c.toNat=x at *
 generalize Fm.gP c=r at *
 have H:=show Hid _ from h
 clear h
 go_enter Tryz.func148,Tryz.ntmps148
 go_wp2
 all_goals (go_ret;refine⟨eB ?_,rfl⟩;rw[H.out,Bool.eq_iff_iff];simp only[Bool.or_eq_true,decide_eq_true_eq,true_iff,Bool.false_eq_true,false_iff];omega)
theorem Gc (c:UInt8):Fm.lq c=(Fm.gP c || decide (48<=(c.toNat:Int)/\(c.toNat:Int)<=57) || decide ((c.toNat:Int)=95) || decide ((c.toNat:Int)=39)):=by
 unfold Fm.lq
 simp only[UInt8.le_iff_toNat_le]
 rw[Bool.eq_iff_iff]
 simp only[Bool.or_eq_true,Bool.and_eq_true,decide_eq_true_eq,beq_iff_eq,<- UInt8.toNat_inj]
 have e1:UInt8.toNat 48=48:=rfl
 have e2:UInt8.toNat 57=57:=rfl
 have e3:UInt8.toNat 95=95:=rfl
 have e4:UInt8.toNat 39=39:=rfl
 rw[e1,e2,e3,e4]
 generalize Fm.gP c=r
 cases r <;> simp <;> omega
theorem zS (w:World) (c:UInt8) :
 Calls Tryz.prog 149 #[.int .u8 c.toNat] w fun e w'=>e=.returned (.bool (Fm.lq c))/\w'=w:=by
 have K1:=show Hid (∀ w:World,Calls Tryz.prog 148 #[.int .u8 c.toNat] w fun e w'=>e=.returned (.bool (Fm.gP c))/\w'=w) from fun w=>vE w c
 have h:=Gc c
 have hc:=c.toNat_lt
 generalize c.toNat=x at *
 generalize Fm.lq c=r at *
 generalize Fm.gP c=q at *
 have H:=show Hid _ from h
 clear h
 cases q
 all_goals
  go_enter Tryz.func149,Tryz.ntmps149
  go_wp2_with (go_at_call 148;refine(K1.out _).mono ?_;rintro e w' ⟨rfl,rfl⟩)
 all_goals (go_ret;refine⟨eB ?_,rfl⟩;rw[H.out,Bool.eq_iff_iff];simp only[Bool.or_eq_true,decide_eq_true_eq,true_iff,Bool.false_eq_true,false_or,true_or,beq_iff_eq];try omega)
theorem Fa (w:World) (s:ByteArray) :
 Calls Tryz.prog 150 #[.string s] w fun e w'=>e=.returned (.bool (Fm.fP.contains s.data.toList))/\w'=w:=by
 go_enter Tryz.func150,Tryz.ntmps150
 go_wp2
 all_goals go_ret
 all_goals (refine⟨eB ?_,rfl⟩;rw[<- ByteArray.toList_eq];simp_all [Fm.fP])
theorem qR {s:ByteArray} (h:s.size=0\/31<s.size\/∃ h:0<s.size,Fm.gP s[0]=false):Fm.word s.data.toList=false:=by
 have hl:s.data.toList.length=s.size:=rfl
 unfold Fm.word
 rcases h with h | h | ⟨h0,h⟩
 ·rw[hl,h];rfl
 ·rw[hl,show decide (s.size<=31)=false by simp;omega];simp
 ·have e:s.data.toList.headD 0=s[0]:=by
   rw[List.headD_eq_head?_getD,List.head?_eq_getElem?]
   rw[Array.getElem?_toList,Array.getElem?_eq_getElem h0]
   rfl
  rw[e,h];simp
theorem Cr {s:ByteArray} (k:Nat) (hk:k<s.size) (h1:1<=k) (h:Fm.lq s[k]=false):Fm.word s.data.toList=false:=by
 have hm:s[k] ∈ s.data.toList.tail:=by
  rw[List.mem_iff_getElem]
  refine⟨k - 1,?_,?_⟩
  ·rw[List.length_tail];show k - 1<s.size - 1;omega
  ·rw[List.getElem_tail]
   have e:k - 1+1=k:=by omega
   simp only[e]
   rfl
 unfold Fm.word
 have:s.data.toList.tail.all Fm.lq=false:=by
  rw[List.all_eq_false]
  exact⟨_,hm,by simp[h]⟩
 rw[this];simp
theorem Ct {s:ByteArray} (h0:0<s.size) (h1:s.size<=31) (hL:Fm.gP s[0]=true) (h:∀ j (hj:j<s.size),1<=j->Fm.lq s[j]=true):Fm.word s.data.toList = !Fm.fP.contains s.data.toList:=by
 have hl:s.data.toList.length=s.size:=rfl
 have e:s.data.toList.headD 0=s[0]:=by
  rw[List.headD_eq_head?_getD,List.head?_eq_getElem?]
  rw[Array.getElem?_toList,Array.getElem?_eq_getElem h0]
  rfl
 have ht:s.data.toList.tail.all Fm.lq=true:=by
  rw[List.all_eq_true]
  intro x hx
  obtain⟨j,hj,rfl⟩:=List.mem_iff_getElem.1 hx
  rw[List.length_tail] at hj
  rw[List.getElem_tail]
  exact h (j+1) (by have:s.data.toList.length=s.size:=rfl;omega) (by omega)
 unfold Fm.word
 rw[e,hL,ht,hl,decide_eq_true h1,bne_iff_ne.2 (by omega)]
 simp
theorem Cu (w:World) (s:ByteArray) (hs:s.size<=140737488351232) :
 Calls Tryz.prog 103 #[.string s] w fun e w'=>e=.returned (.bool (Fm.word s.data.toList))/\w'=w:=by
 have hls:s.toList=s.data.toList:=ByteArray.toList_eq s
 have HT:=show Hid (∀ w:World,Calls Tryz.prog 150 #[.string s] w fun e w'=>e=.returned (.bool (Fm.fP.contains s.data.toList))/\w'=w) from fun w=>Fa w s
 have HL:=show Hid (∀ (c:UInt8) (w:World),Calls Tryz.prog 148 #[.int .u8 c.toNat] w fun e w'=>e=.returned (.bool (Fm.gP c))/\w'=w) from fun c w=>vE w c
 have HN:=show Hid (∀ (c:UInt8) (w:World),Calls Tryz.prog 149 #[.int .u8 c.toNat] w fun e w'=>e=.returned (.bool (Fm.lq c))/\w'=w) from fun c w=>zS w c
 by_cases h0:s.size=0
 ·have hw:=qR (Or.inl h0)
  have he:(s.toList == [])=true:=by rw[hls];simp;exact Array.eq_empty_of_size_eq_zero h0
  rw[hw]
  clear hls hw
  go_enter Tryz.func103,Tryz.ntmps103
  go_wp2_with fail
  go_ret
  exact⟨rfl,rfl⟩
 ·have he:(s.toList == [])=false:=by
   rw[hls]
   simp
   intro e
   apply h0
   show s.data.size=0
   rw[e];rfl
  by_cases h1:31<s.size
  ·have hw:=qR (Or.inr (Or.inl h1))
   rw[hw]
   clear hls hw
   go_enter Tryz.func103,Tryz.ntmps103
   go_wp2_with fail
   go_ret
   exact⟨rfl,rfl⟩
  ·have hp:0<s.size:=by omega
   cases hc:Fm.gP s[0]
   ·have hw:=qR (Or.inr (Or.inr ⟨hp,hc⟩))
    rw[hw]
    clear hls hw
    go_enter Tryz.func103,Tryz.ntmps103
    go_wp2_with fail
    refine(HL.out _ _).mono ?_
    rintro e w' ⟨rfl,rfl⟩
    rw[hc]
    go_wp2_with fail
    go_ret
    exact⟨rfl,rfl⟩
   ·have HW:=show Hid ((∀ j (hj:j<s.size),1<=j->Fm.lq s[j]=true)->Fm.word s.data.toList = !Fm.fP.contains s.data.toList) from Ct hp (by omega) hc
    have HF:=show Hid (∀ k (hk:k<s.size),1<=k->Fm.lq s[k]=false->Fm.word s.data.toList=false) from fun k hk h1 h=>Cr k hk h1 h
    clear hls
    generalize Fm.fP.contains s.data.toList=tk at *
    go_enter Tryz.func103,Tryz.ntmps103
    go_wp2_with fail
    refine(HL.out _ _).mono ?_
    rintro e w' ⟨rfl,rfl⟩
    rw[hc]
    go_wp2_with fail
    go_loop [3] (fun i=>∃ k:Nat,1<=k/\k<=s.size/\i=.int .i64 k/\Hid (∀ j (hj:j<s.size),1<=j->j<k->Fm.lq s[j]=true)) (fun i=>s.size - (intOf i).toNat)
    case atStart=>exact⟨1,by omega,by omega,rfl,fun j hj h1 h2=>by omega⟩
    case round=>
     obtain⟨k,hk1,hk,rfl,HI⟩:=hrel
     by_cases hlt:k<s.size
     ·have hki:(k:Int)<(s.size:Int):=by omega
      go_wp2_with fail
      refine(HN.out _ _).mono ?_
      rintro e w' ⟨rfl,rfl⟩
      cases hn:Fm.lq s[k]
      ·go_wp2_with fail
       go_ret
       exact⟨eB (HF.out k hlt hk1 hn).symm,rfl⟩
      ·go_wp2_with fail
       go_round
       case rel=>exact⟨k+1,by omega,by omega,by go_num,fun j hj h1 h2=>by
        by_cases e:j=k
        ·subst e;exact hn
        ·exact HI.out j hj h1 (by omega)⟩
       case measure=>simp[intOf];omega
     ·go_wp2_with fail
      refine(HT.out _).mono ?_
      rintro e w' ⟨rfl,rfl⟩
      go_wp2_with fail
      go_ret
      exact⟨eB (HW.out fun j hj h1=>HI.out j hj h1 (by omega)).symm,rfl⟩
theorem run_eq_map (w:World) (d:Nat) (p:Option Nat):(Op.equalIn (d+1) 129 (.map p) (.map none)).run Tryz.prog w=.ok p.isNone w:=by
 cases p <;> simp[Op.equalIn,run_underlying Tryz.underlying129]
theorem Fb (w:World) (p:Option Nat):(binOp .neq 129 (.map p) (.map none)).run Tryz.prog w=.ok (.bool p.isSome) w:=by
 simp only[binOp]
 have e:(Op.equal 129 (.map p) (.map none)).run Tryz.prog w=.ok p.isNone w:=by
  exact run_eq_map w 9999 p
 simp[e]
theorem Cv (w:World) (b:Nat) (p:Option Nat) (hc:w.cell? ⟨b,1,none⟩=some (.map p)) :
 Calls Tryz.prog 63 #[.pointer (some ⟨b,0,none⟩)] w fun e w'=>e=.returned (.bool p.isSome)/\w'=w:=by
 have hq:=fun w=>Fb w p
 generalize p.isSome=r at *
 go_enter Tryz.func63,Tryz.ntmps63
 go_wp2
 go_ret
 exact⟨rfl,rfl⟩
theorem oI (w:World) {b m:Nat} {v:Value} {t:List Nd} (h:Tb w b m v t) :
 Calls Tryz.prog 63 #[.pointer (some ⟨b,0,none⟩)] w fun e w'=>e=.returned (.bool true)/\w'=w:=Cv w b (some m) h.c1
theorem Rw.form {w:World} {v:Value} {t:List Nd} (h:Rw w v t):∃ p c,v=.slice p t.length c:=by
 obtain⟨p,c,hv,_⟩:=h.Ga
 exact⟨p,c,hv⟩
theorem has_eq (t:List Nd) (i:Int):Fm.has t i=(decide (0<=i) && decide (i<t.length)):=rfl
theorem zU (w:World) {b m:Nat} {v:Value} {t:List Nd} (h:Tb w b m v t) (i:Int) :
 Calls Tryz.prog 104 #[.pointer (some ⟨b,0,none⟩),.int .i64 i] w fun e w'=>e=.returned (.bool (Fm.has t i))/\w'=w:=by
 have K:=show Hid (∀ w',w'=w->Calls Tryz.prog 63 #[.pointer (some ⟨b,0,none⟩)] w' fun e w''=>e=.returned (.bool true)/\w''=w') from fun w' e=>by subst e;exact oI _ h
 have h0:=h.c0
 obtain⟨p,c,rfl⟩:=h.row.form
 have HE:=show Hid _ from has_eq t i
 generalize Fm.has t i=r at *
 have hl:=h.ok.len
 clear h
 generalize t.length=n at *
 by_cases hi:0<=i
 all_goals
  go_enter Tryz.func104,Tryz.ntmps104
  go_wp2_with (go_at_call 63;refine(K.out _ rfl).mono ?_;rintro e w' ⟨rfl,rfl⟩)
  go_ret
  exact⟨eB (by rw[HE.out,Bool.eq_iff_iff];simp;try omega),rfl⟩
theorem Cw (w:World) (b:Nat) (i:Int) (hc:w.cell? ⟨b,1,none⟩=some (.map none)) :
 Calls Tryz.prog 104 #[.pointer (some ⟨b,0,none⟩),.int .i64 i] w fun e w'=>e=.returned (.bool false)/\w'=w:=by
 have K:=Cv w b none hc
 go_enter Tryz.func104,Tryz.ntmps104
 go_wp2_with (go_at_call 63;refine K.mono ?_;rintro e w' ⟨rfl,rfl⟩)
 go_ret
 exact⟨rfl,rfl⟩
theorem AL (w:World) (k:Int) :
 Calls Tryz.prog 147 #[.int .i64 k] w fun e w'=>e=.returned (.bool (Fm.jn k))/\w'=w:=by
 have HE:=show Hid (Fm.jn k=(k == 3 || k == 4 || k == 5)) from rfl
 generalize Fm.jn k=r at *
 go_enter Tryz.func147,Tryz.ntmps147
 go_wp2
 all_goals (go_ret;refine⟨eB ?_,rfl⟩;have hE:=HE.out;subst hE;simp_all)
theorem Qc (w:World) {a b:Nd} (ha:Fm.good a) (hb:Fm.good b):(Op.equalIn 10000 67 (dY a) (dY b)).run Tryz.prog w=.ok (decide (a=b)) w:=by
 obtain⟨r,hr,hiff⟩:=run_equal_deep (P:=Tryz.prog) w (m:=2) (by omega) (k:=67) (by kernel_rfl) (by kernel_rfl) (pF ha) (pF hb)
 have e:r=decide (a=b):=by
  rw[Bool.eq_iff_iff,hiff]
  simp
  exact⟨fun h=>key_inj ha hb h,fun h=>by rw[h]⟩
 rw[<- e]
 exact hr
theorem AO (s:ByteArray):(s.toList == [])=(s.size == 0):=by
 rw[ByteArray.toList_eq]
 obtain⟨⟨l⟩⟩:=s
 show(l == [])=(l.length == 0)
 cases l <;> rfl
theorem Ti (n:Nd) (hk:n.k=2):decide (n=Fm.bot)=(n.s.size == 0 && n.l == 0 && n.r == 0):=by
 obtain⟨k,⟨⟨s⟩⟩,l,r⟩:=n
 simp only at hk
 subst hk
 show decide (_=(⟨2,⟨⟨[]⟩⟩,0,0⟩:Nd))=(s.length == 0 && l == 0 && r == 0)
 rw[Bool.eq_iff_iff]
 cases s <;> simp
theorem qF (w:World) {b m:Nat} {v:Value} {t:List Nd} (h:Tb w b m v t) (n:Nd) (hn:Fm.good n) :
 Calls Tryz.prog 102 #[.pointer (some ⟨b,0,none⟩),dY n] w fun e w'=>e=.returned (.bool (Fm.shaped t n))/\Below w.heap.size w w':=by
 have heq:=fun w=>Qc w hn Fm.Nv
 have hbe:=Ti n
 have hsn:=AO n.s
 have HS:=show Hid (Fm.shaped t n=if n.k=1 then n.l == 0 && n.r == 0 else if n.k=2 then n.s.size == 0 && n.l == 0 && n.r == 0 else if Fm.jn n.k then n.s.size == 0 && Fm.has t n.l && Fm.has t n.r else false) from rfl
 have KH:=show Hid (∀ w',Below w.heap.size w w'->∀ i:Int,Calls Tryz.prog 104 #[.pointer (some ⟨b,0,none⟩),.int .i64 i] w' fun e w''=>e=.returned (.bool (Fm.has t i))/\w''=w') from fun w' hb i=>zU w' (h.later hb) i
 have KJ:=show Hid (∀ (k:Int) (w:World),Calls Tryz.prog 147 #[.int .i64 k] w fun e w'=>e=.returned (.bool (Fm.jn k))/\w'=w) from fun k w=>AL w k
 have HB:=show Hid (∀ o,Below w.heap.size w (w.alloc o)) from fun o=>ak w o
 generalize Fm.shaped t n=r at *
 obtain⟨q0,hq0⟩:∃ q0,q0=decide (n=Fm.bot):=⟨_,rfl⟩
 rw[<- hq0] at hbe heq
 clear hq0
 unfold dY Fm.bot at *
 obtain⟨k,s,l,q⟩:=n
 simp only at heq hbe hsn HS |-
 generalize s.size=sz at *
 clear h hn
 by_cases h1:k=1
 ·subst h1
  have hr:=HS.out
  rw[if_pos rfl] at hr
  have HR:=show Hid _ from hr
  clear hr HS heq hbe
  by_cases h0:l=0
  all_goals
   go_enter Tryz.func102,Tryz.ntmps102
   go_wp2_with fail
   go_ret
   exact⟨eB (by rw[HR.out];simp_all),HB.out _⟩
 ·by_cases h2:k=2
  ·subst h2
   have hr:=HS.out
   rw[if_neg h1,if_pos rfl,<- hbe rfl] at hr
   have HR:=show Hid _ from hr
   clear hr HS hbe
   go_enter Tryz.func102,Tryz.ntmps102
   go_wp2_with fail
   go_ret
   exact⟨eB (by rw[HR.out]),HB.out _⟩
  ·have hr:=HS.out
   rw[if_neg h1,if_neg h2] at hr
   have HR:=show Hid _ from hr
   clear hr HS heq hbe
   have hk1:(k == 1)=false:=beq_eq_false_iff_ne.2 h1
   have hk2:(k == 2)=false:=beq_eq_false_iff_ne.2 h2
   clear h1 h2
   go_enter Tryz.func102,Tryz.ntmps102
   go_wp2_with fail
   refine(KJ.out _ _).mono ?_
   rintro e w1 ⟨rfl,rfl⟩
   cases hj:Fm.jn k
   ·go_wp2_with fail
    go_ret
    exact⟨eB (by rw[HR.out,hj];simp),HB.out _⟩
   ·rw[hj] at HR
    cases hz:(sz == 0)
    ·rw[hz] at HR hsn
     go_wp2_with fail
     go_ret
     exact⟨eB (by rw[HR.out];simp),HB.out _⟩
    ·rw[hz] at HR hsn
     go_wp2_with fail
     refine(KH.out _ (HB.out _) _).mono ?_
     rintro e w1 ⟨rfl,rfl⟩
     cases hl:Fm.has t l
     ·go_wp2_with fail
      go_ret
      exact⟨eB (by rw[HR.out,hl];simp),HB.out _⟩
     ·go_wp2_with fail
      refine(KH.out _ (HB.out _) _).mono ?_
      rintro e w1 ⟨rfl,rfl⟩
      go_wp2_with fail
      go_ret
      exact⟨eB (by rw[HR.out,hl];simp),HB.out _⟩
theorem Nz (t:List Nd) (n:Nd):Fm.check t n=if Fm.shaped t n then (if n.k=1 then (if Fm.word n.s.data.toList then 0 else 32) else 0) else 31:=rfl
theorem pG (w:World) {b m:Nat} {v:Value} {t:List Nd} (h:Tb w b m v t) (n:Nd) (hn:Fm.good n) :
 Calls Tryz.prog 72 #[.pointer (some ⟨b,0,none⟩),dY n] w fun e w'=>e=.returned (.int .i64 (Fm.check t n))/\Below w.heap.size w w':=by
 have HE:=show Hid _ from Nz t n
 have KS:=show Hid (∀ w',Below w.heap.size w w'->Calls Tryz.prog 102 #[.pointer (some ⟨b,0,none⟩),dY n] w' fun e w''=>e=.returned (.bool (Fm.shaped t n))/\Below w'.heap.size w' w'') from fun w' hb=>qF w' (h.later hb) n hn
 have KW:=show Hid (∀ w':World,Calls Tryz.prog 103 #[.string n.s] w' fun e w''=>e=.returned (.bool (Fm.word n.s.data.toList))/\w''=w') from fun w'=>Cu w' n.s hn.2.1
 generalize Fm.check t n=r at *
 generalize Fm.shaped t n=sh at *
 generalize Fm.word n.s.data.toList=wd at *
 have HB:=show Hid (Below w.heap.size w (w.alloc (Obj.cells #[.int .i64 n.k,.string n.s,.int .i64 n.l,.int .i64 n.r] 67))) from ak w _
 have HA:=show Hid (FZ (w.alloc (Obj.cells #[.int .i64 n.k,.string n.s,.int .i64 n.l,.int .i64 n.r] 67)) w.heap.size 0 n) from⟨by rw[cell_of_row _ _ 0 _ _ _ (heap_alloc_new _ _)];rfl,by rw[cell_of_row _ _ 1 _ _ _ (heap_alloc_new _ _)];rfl,by rw[cell_of_row _ _ 2 _ _ _ (heap_alloc_new _ _)];rfl,by rw[cell_of_row _ _ 3 _ _ _ (heap_alloc_new _ _)];rfl⟩
 unfold dY at *
 obtain⟨k,s,l,q⟩:=n
 simp only at HE KS KW HB HA |-
 clear h hn
 go_enter Tryz.func72,Tryz.ntmps72
 go_wp2_with fail
 refine(KS.out _ HB.out).mono ?_
 rintro e w1 ⟨rfl,hb1⟩
 have hlt:w.heap.size<(w.alloc (Obj.cells #[.int .i64 k,.string s,.int .i64 l,.int .i64 q] 67)).heap.size:=by simp
 have c0:=(hb1.cell (p:=⟨w.heap.size,0,none⟩) hlt).trans HA.out.c0
 have c1:=(hb1.cell (p:=⟨w.heap.size,1,none⟩) hlt).trans HA.out.c1
 have HB1:=show Hid (Below w.heap.size w w1) from HB.out.trans (hb1.mono (by simp))
 simp only at c0 c1
 clear hb1 hlt HA HB KS
 cases sh
 ·go_wp2_with fail
  go_ret
  exact⟨qQ (by rw[HE.out];simp),HB1.out⟩
 ·by_cases h1:k=1
  ·subst h1
   go_wp2_with fail
   refine(KW.out _).mono ?_
   rintro e w2 ⟨rfl,rfl⟩
   cases wd
   all_goals
    go_wp2_with fail
    go_ret
    exact⟨qQ (by rw[HE.out];simp),HB1.out⟩
  ·have hk1:(k == 1)=false:=beq_eq_false_iff_ne.2 h1
   go_wp2_with fail
   go_ret
   exact⟨qQ (by rw[HE.out];simp[h1]),HB1.out⟩
end Go.Proofs.YtkpbpecikibohaaGreatDoor
namespace Go.Proofs.YtkpbpecikibohaaGreatDoor
open Go.RowKit Go.Maps
open Fm (Nd)
theorem Cx (w:World):(zeroValue 3).run Tryz.prog w=.ok (.int .i64 0) w:=by kernel_rfl
def numOf (t:List Nd) (n:Nd):Int:=if n ∈ t then (t.idxOf n:Int) else 0
theorem QV {w:World} {m:Nat} {D:DataW Unit} {t:List Nd} (h:mQ w m D) (hT:Tied D t) {n:Nd} (hn:Fm.good n) :
 (Instr.lookup 129 (.map (some m)) (dY n) true).run Tryz.prog w=.ok (.tuple #[.int .i64 (numOf t n),.bool (decide (n ∈ t))]) w:=by
 obtain⟨v,ps,hrun,hv⟩:=h.look_ok law Tryz.underlying129 (Cx w) (plainElem_int Tryz.underlying3 (by decide)) (pF hn)
 obtain⟨c,rfl,hc,_⟩:=plainElem_int_inv Tryz.underlying3 hv
 rw[hrun,hT.has n hn]
 have e:c=numOf t n:=by
  unfold numOf
  have h1:=congrArg Prod.fst hc
  simp only at h1
  by_cases hm:n ∈ t
  ·rw[hT.num n hn hm] at h1
   rw[if_pos hm]
   simpa using h1.symm
  ·rw[atKey_of_not_has (by rw[hT.has n hn];simp[hm])] at h1
   rw[if_neg hm]
   simpa using h1.symm
 rw[e]
theorem QW {w:World} {b m:Nat} {v:Value} {t:List Nd} (h:Tb w b m v t) {n:Nd} (hn:Fm.good n) :
 (Instr.lookup 129 (.map (some m)) (dY n) true).run Tryz.prog w=.ok (.tuple #[.int .i64 (numOf t n),.bool (decide (n ∈ t))]) w:=by
 obtain⟨D,hD,hT⟩:=h.map
 exact QV hD hT hn
structure Half (w w2:World) (b m:Nat) (v v':Value) (t t':List Nd):Prop where
 tab:w2.heap[b]?=some (.cells #[v',.map (some m)] 131 (0,0))
 row:Rw w2 v' t'
 map:∃ D,mQ w2 m D/\Tied D t
 lies:dh w.heap.size v v'
 kept:Kp (Ft b m v) w w2
theorem QX {w W w':World} {b m:Nat} {v v':Value} {t t':List Nd} (h:Tb w b m v t) (hW:Below w.heap.size w W) (hg:W.grownBy w' v.ownBlock) (hr:Rw w' v' t') (hl:dh W.heap.size v v') :
 Half w (w'.setCell ⟨b,0,none⟩ v') b m v v' t t':=by
 have hb:w'.heap[b]?=some (.cells #[v,.map (some m)] 131 (0,0)):=(hg.block b (Nat.lt_of_lt_of_le h.blt hW.size) (fun e=>h.vb e.symm)).trans ((hW.block b h.blt).trans h.tab)
 have hne:v'.ownBlock≠some b:=fun e=>by
  obtain⟨_,cur,hh⟩:=hr.lt b e
  rw[hb] at hh
  simp at hh
 have hsz:=hW.size
 refine⟨heap_setCell_same w' b 0 _ _ _ hb,hr.keep fun k hk=>Below.heap_setCell _ _ _ _ (fun e=>hne (hk.trans (congrArg some e))),?_,fun k hk=>(hl k hk).imp id (fun h'=>by omega),?_⟩
 ·obtain⟨D,⟨es,cl,hm,r⟩,hT⟩:=h.map
  refine⟨D,⟨es,cl,?_,r⟩,hT⟩
  rw[Below.heap_setCell _ _ _ _ (fun e=>h.bm e.symm)]
  exact(hg.block m (Nat.lt_of_lt_of_le h.mlt hW.size) (fun e=>h.vm e.symm)).trans ((hW.block m h.mlt).trans hm)
 ·refine⟨hg.os.trans hW.os,hg.tape.trans hW.tape,hg.output.trans hW.output,Nat.le_trans hW.size (Nat.le_trans hg.size (by simp[World.setCell])),fun k hk hn => ?_⟩
  rw[Below.heap_setCell _ _ _ _ (fun e=>hn (Or.inl e))]
  exact(hg.block k (Nat.lt_of_lt_of_le hk hW.size) (fun e=>hn (Or.inr (Or.inr e.symm)))).trans (hW.block k hk)
theorem NA {w w2:World} {b m:Nat} {v v':Value} {t:List Nd} {n:Nd} (h:Half w w2 b m v v' t (t ++ [n])) (hn:Fm.good n) (hm:n ∉ t) (ht:t.length<1024) (hok:Fm.Ok (t ++ [n])) :
 ∃ w3,(Instr.mapUpdate 129 (.map (some m)) (dY n) (.int .i64 (t.length:Int))).run Tryz.prog w2.drew=.ok () w3/\After w b m v (t ++ [n]) w3:=by
 obtain⟨D,hD,hT⟩:=h.map
 obtain⟨w3,hrun,hown,hturn⟩:=World.ownsMap.store (w:=w2.drew) hD law Tryz.underlying129 (by rw[hT.size];unfold maxLen;omega) (pF hn) (plainElem_int (a:=(t.length:Int)) Tryz.underlying3 (WalkArith.wf_i64 (by omega)))
 refine⟨w3,hrun,v',?_,h.lies,h.kept.trans (S':=fun k=>k=m) ⟨hturn.grown.os,hturn.grown.tape,hturn.grown.output,hturn.grown.size,fun k hk hne=>hturn.grown.block k hk (fun e=>hne (by simpa using e))⟩ (fun i hi=>Or.inl (Or.inr (Or.inl hi)))⟩
 have ZY:b≠m:=by
  obtain⟨es,cl,hb,_⟩:=hD
  intro e
  subst e
  rw[h.tab] at hb
  cases hb
 have Z0:v'.ownBlock≠some m:=by
  intro e
  obtain⟨_,cur,hh⟩:=h.row.lt m e
  obtain⟨es,cl,hb,_⟩:=hD
  rw[hh] at hb
  cases hb
 refine⟨(hturn.grown.block b (lt_of_block h.tab) (fun e=>ZY (by simpa using e))).trans h.tab,h.row.keep fun k hk=>hturn.grown.block k (h.row.lt k hk).1 (fun e=>Z0 (by rw[hk,e])),⟨_,Cq hown,hT.put hn hm⟩,hok⟩
theorem put_eq (t:List Nd) (n:Nd):Fm.put t n=if Fm.check t n=0 then (if n ∈ t then ((t.idxOf n:Int),0,t) else if 1024<=t.length then (0,30,t) else ((t.length:Int),0,t ++ [n])) else (0,Fm.check t n,t):=rfl
theorem wN (w:World) {b m:Nat} {v:Value} {t:List Nd} (h:Tb w b m v t) (n:Nd) (hn:Fm.good n) :
 Calls Tryz.prog 37 #[.pointer (some ⟨b,0,none⟩),dY n] w fun e w'=>e=.returned (.tuple #[.int .i64 (Fm.put t n).1,.int .i64 (Fm.put t n).2.1])/\After w b m v (Fm.put t n).2.2 w':=by
 have HE:=show Hid _ from put_eq t n
 have gW:=show Hid (Tb w b m v t) from h
 have HN:=show Hid (Fm.good n) from hn
 have KM:=show Hid (∀ w',Below w.heap.size w w'->Calls Tryz.prog 63 #[.pointer (some ⟨b,0,none⟩)] w' fun e w''=>e=.returned (.bool true)/\w''=w') from fun w' hb=>oI w' (h.later hb)
 have KC:=show Hid (∀ w',Below w.heap.size w w'->Calls Tryz.prog 72 #[.pointer (some ⟨b,0,none⟩),dY n] w' fun e w''=>e=.returned (.int .i64 (Fm.check t n))/\Below w'.heap.size w' w'') from fun w' hb=>pG w' (h.later hb) n hn
 have HRR:=show Hid (Fm.check t n=0->n ∉ t->¬ 1024<=t.length->Fm.put t n=((t.length:Int),0,t ++ [n])) from fun h1 h2 h3=>Fm.FX h1 h2 (by omega)
 have lJ:=show Hid (Fm.check t n=0->n ∉ t->¬ 1024<=t.length->Fm.Ok (t ++ [n])) from fun h1 h2 h3=>by
  have h4:=Fm.qU h.ok hn
  rw[HRR.out h1 h2 h3] at h4
  exact h4
 clear HRR
 generalize Fm.put t n=r at *
 generalize Fm.check t n=ck at *
 obtain⟨w0,hw0⟩:∃ w0,w0=w.alloc (Obj.cells #[.int .i64 n.k,.string n.s,.int .i64 n.l,.int .i64 n.r] 67):=⟨_,rfl⟩
 have HB:=show Hid (Below w.heap.size w w0) from by rw[hw0];exact ak w _
 have HR:=show Hid (w0.heap[w.heap.size]?=some (.cells #[.int .i64 n.k,.string n.s,.int .i64 n.l,.int .i64 n.r] 67 (0,0))) from by rw[hw0];exact heap_alloc_new w _
 have HL:=show Hid (∀ w1:World,Below w.heap.size w w1->(Instr.lookup 129 (.map (some m)) (dY n) true).run Tryz.prog w1=.ok (.tuple #[.int .i64 (numOf t n),.bool (decide (n ∈ t))]) w1) from fun w1 hb=>QW (h.later hb) hn
 unfold dY at *
 obtain⟨p,c,rfl⟩:=h.row.form
 obtain⟨k,s,l,q⟩:=n
 simp only at HE KC HL HR hw0 |-
 have hlen:=h.ok.len
 clear h hn
 go_enter Tryz.func37,Tryz.ntmps37
 go_wp2_with fail
 rw[<- hw0]
 clear hw0
 refine(KM.out _ HB.out).mono ?_
 rintro e w' ⟨rfl,hw'⟩
 subst w'
 have d0:w0.cell? ⟨w.heap.size,0,none⟩=some (.int .i64 k):=by rw[cell_of_row _ _ 0 _ _ _ HR.out];rfl
 have d1:w0.cell? ⟨w.heap.size,1,none⟩=some (.string s):=by rw[cell_of_row _ _ 1 _ _ _ HR.out];rfl
 have d2:w0.cell? ⟨w.heap.size,2,none⟩=some (.int .i64 l):=by rw[cell_of_row _ _ 2 _ _ _ HR.out];rfl
 have d3:w0.cell? ⟨w.heap.size,3,none⟩=some (.int .i64 q):=by rw[cell_of_row _ _ 3 _ _ _ HR.out];rfl
 go_wp2_with fail
 refine(KC.out _ HB.out).mono ?_
 rintro e w1 ⟨rfl,hb1⟩
 have hlt:w.heap.size<w0.heap.size:=lt_of_block HR.out
 have HB1:=show Hid (Below w.heap.size w w1) from HB.out.trans (hb1.mono (by omega))
 have HR1:=show Hid (w1.heap[w.heap.size]?=some (.cells #[.int .i64 k,.string s,.int .i64 l,.int .i64 q] 67 (0,0))) from(hb1.block _ hlt).trans HR.out
 have HT1:=show Hid (Tb w1 b m (.slice p t.length c) t) from gW.out.later HB1.out
 have hlt1:w.heap.size<w1.heap.size:=lt_of_block HR1.out
 clear hb1 hlt HR HB d0 d1 d2 d3 KM KC
 by_cases hc:ck=0
 ·subst hc
  have hr:=HE.out
  rw[if_pos rfl] at hr
  have HE2:=show Hid _ from hr
  have d0:w1.cell? ⟨w.heap.size,0,none⟩=some (.int .i64 k):=by rw[cell_of_row _ _ 0 _ _ _ HR1.out];rfl
  have d1:w1.cell? ⟨w.heap.size,1,none⟩=some (.string s):=by rw[cell_of_row _ _ 1 _ _ _ HR1.out];rfl
  have d2:w1.cell? ⟨w.heap.size,2,none⟩=some (.int .i64 l):=by rw[cell_of_row _ _ 2 _ _ _ HR1.out];rfl
  have d3:w1.cell? ⟨w.heap.size,3,none⟩=some (.int .i64 q):=by rw[cell_of_row _ _ 3 _ _ _ HR1.out];rfl
  have c0:=HT1.out.c0
  have c1:=HT1.out.c1
  have hlk:=HL.out w1 HB1.out
  have Tj:=HL.out w1.drew HB1.out.drew
  clear hr HE
  obtain⟨dm,jw⟩:∃ dm,dm=decide ((⟨k,s,l,q⟩:Nd) ∈ t):=⟨_,rfl⟩
  obtain⟨nu,hnu⟩:∃ nu,nu=numOf t (⟨k,s,l,q⟩:Nd):=⟨_,rfl⟩
  rw[<- jw,<- hnu] at hlk Tj
  have HD:=show Hid (dm=decide ((⟨k,s,l,q⟩:Nd) ∈ t)/\nu=numOf t (⟨k,s,l,q⟩:Nd)) from⟨jw,hnu⟩
  clear jw hnu HL
  go_wp2_with fail
  go_region
  cases dm
  ·have tu:=show Hid ((⟨k,s,l,q⟩:Nd) ∉ t) from of_decide_eq_false HD.out.1.symm
   have hr:=HE2.out
   rw[if_neg tu.out] at hr
   have jY:=show Hid _ from hr
   clear hr HE2 HD hlk Tj
   by_cases hfull:1024<=t.length
   ·have hr:=jY.out
    rw[if_pos hfull] at hr
    subst hr
    have hfi:(1024:Int)<=(t.length:Int):=by omega
    go_wp2_with fail
    go_ret2
    exact⟨rfl,After.of_below gW.out HB1.out.drew⟩
   ·have hr:=jY.out
    rw[if_neg hfull] at hr
    subst hr
    have hfi:(t.length:Int)<1024:=by omega
    have tC:=show Hid (Fm.Ok (t ++ [(⟨k,s,l,q⟩:Nd)])) from lJ.out (by first|rfl | trivial) tu.out hfull
    clear jY
    have HRW:=show Hid (∀ o,Rw (w1.drew.drew.alloc o) (.slice p t.length c) t) from fun o=>HT1.out.row.keep fun k hk=>Below.heap_alloc w1.drew.drew _ _ (HT1.out.row.lt k hk).1
    have hf0:=HT1.out.fr
    have j3:=show Hid (∀ (o:Obj) (w':World),(w1.drew.drew.alloc o).grownBy w' (Value.slice p t.length c).ownBlock->w'.heap[b]?=w1.heap[b]?) from fun o w' hg=>(hg.block b (by have:=HT1.out.blt;simp;omega) (fun e=>HT1.out.vb e.symm)).trans (Below.heap_alloc w1.drew.drew _ _ HT1.out.blt)
    have HST:=show Hid (∀ w':World,(w1.drew.drew.alloc (Obj.cells #[.int .i64 k,.string s,.int .i64 l,.int .i64 q] 67)).grownBy w' (Value.slice p t.length c).ownBlock->∀ (j:Nat) (x:Value),w1.cell? ⟨b,j,none⟩=some x->w'.cell? ⟨b,j,none⟩=some x) from fun w' hg j x hx=>(World.cell?_of_block (w:=w1) (j3.out _ w' hg)).trans hx
    have kL:=show Hid (∀ w':World,(w1.drew.drew.alloc (Obj.cells #[.int .i64 k,.string s,.int .i64 l,.int .i64 q] 67)).grownBy w' (Value.slice p t.length c).ownBlock->∀ (j:Nat),w'.frozen? ⟨b,j,none⟩=false) from fun w' hg j=>(World.frozen?_of_block (w:=w1) (a:=⟨b,j,none⟩) (j3.out _ w' hg)).trans (HT1.out.fr j)
    have c0a:(w1.alloc (Obj.cells #[.int .i64 k,.string s,.int .i64 l,.int .i64 q] 67)).cell? ⟨b,0,none⟩=some (.slice p t.length c):=(World.cell?_of_block (w:=w1) (Below.heap_alloc w1 _ _ HT1.out.blt)).trans c0
    go_wp2_with fail
    go_region_law (refine jo rfl (.tmp 41) (.tmp 43) rfl (.slice p t.length c) t rfl (HRW.out _) (by omega) ⟨k,s,l,q⟩ ⟨w1.heap.size,0,none⟩ rfl (lI _ _ _ _ rfl) ?_;intro v' w' hrw hgr pI;obtain⟨p',c',hv'⟩:=hrw.form;subst hv';have f0:w'.cell? ⟨b,0,none⟩=some (.slice p t.length c):=HST.out w' hgr 0 _ c0;have f1:w'.frozen? ⟨b,0,none⟩=false:=kL.out w' hgr 0)
    all_goals
     have X:=QX HT1.out (by exact⟨rfl,rfl,rfl,by simp,fun k hk=>Below.heap_alloc w1 _ _ hk⟩) hgr hrw pI
     rw[show(t ++ [(⟨k,s,l,q⟩:Nd)]).length=t.length+1 by simp] at X
     generalize w'.setCell ⟨b,0,none⟩ (.slice p' (t.length+1) c')=w2 at *
     clear hrw hgr pI f0 f1 c0a kL HST j3 hf0 HRW
     have hbx:w2.heap[w.heap.size]?=some (.cells #[.int .i64 k,.string s,.int .i64 l,.int .i64 q] 67 (0,0)):=(X.kept.block _ hlt1 (by
      rintro(e | e | e)
      ·have:=gW.out.blt;omega
      ·have:=gW.out.mlt;omega
      ·have:=(gW.out.row.lt _ e).1;omega)).trans HR1.out
     have e0:w2.cell? ⟨w.heap.size,0,none⟩=some (.int .i64 k):=by rw[cell_of_row _ _ 0 _ _ _ hbx];rfl
     have e1:w2.cell? ⟨w.heap.size,1,none⟩=some (.string s):=by rw[cell_of_row _ _ 1 _ _ _ hbx];rfl
     have e2:w2.cell? ⟨w.heap.size,2,none⟩=some (.int .i64 l):=by rw[cell_of_row _ _ 2 _ _ _ hbx];rfl
     have e3:w2.cell? ⟨w.heap.size,3,none⟩=some (.int .i64 q):=by rw[cell_of_row _ _ 3 _ _ _ hbx];rfl
     have g1:w2.cell? ⟨b,1,none⟩=some (.map (some m)):=by rw[cell_of_row _ _ 1 _ _ _ X.tab];rfl
     obtain⟨w3,hup,Gf⟩:=NA X HN.out tu.out (by omega) tC.out
     have pJ:=show Hid (After w b m (.slice p t.length c) (t ++ [(⟨k,s,l,q⟩:Nd)]) w3) from Gf.kF HB1.out
     unfold dY at hup
     simp only at hup
     clear hbx X Gf
     go_wp2_with fail
     go_region
     go_wp2_with fail
     go_ret2
     exact⟨rfl,pJ.out⟩
  ·have hm1:(⟨k,s,l,q⟩:Nd) ∈ t:=of_decide_eq_true HD.out.1.symm
   have hm2:=HD.out.2
   unfold numOf at hm2
   rw[if_pos hm1] at hm2
   have hr:=HE2.out
   rw[if_pos hm1,<- hm2] at hr
   subst hr
   clear hm2
   go_wp2_with fail
   go_ret2
   exact⟨rfl,After.of_below gW.out HB1.out.drew⟩
 ·have hr:=HE.out
  rw[if_neg hc] at hr
  subst hr
  have hc0:(ck != 0)=true:=by simp[hc]
  go_wp2_with fail
  go_ret2
  exact⟨rfl,After.of_below gW.out HB1.out⟩
def aH (k a b:Int):Nd:=⟨k,⟨#[]⟩,a,b⟩
theorem JX {x:Int} (h0:0<=x) (h1:x<=1024):Fm.i64 x:=Fm.eT h0 h1
theorem lZ {k a b:Int} (h0:0<=k) (h1:k<=1024) (ha:Fm.i64 a) (hb:Fm.i64 b):Fm.good (aH k a b):=Fm.AA k a b (JX h0 h1) ha hb
section
variable (w:World) {b m:Nat} {v:Value} {t:List Nd}
theorem QY (h:Tb w b m v t) (x y:Int) (hx:Fm.i64 x) (hy:Fm.i64 y) :
 Calls Tryz.prog 156 #[.pointer (some ⟨b,0,none⟩),.int .i64 x,.int .i64 y] w fun e w'=>e=.returned (.tuple #[.int .i64 (Fm.put t (aH 5 x y)).1,.int .i64 (Fm.put t (aH 5 x y)).2.1])/\After w b m v (Fm.put t (aH 5 x y)).2.2 w':=by
 have K:=show Hid (Calls Tryz.prog 37 #[.pointer (some ⟨b,0,none⟩),.agg #[.int .i64 5,.string ⟨#[]⟩,.int .i64 x,.int .i64 y]] w fun e w'=>e=.returned (.tuple #[.int .i64 (Fm.put t (aH 5 x y)).1,.int .i64 (Fm.put t (aH 5 x y)).2.1])/\After w b m v (Fm.put t (aH 5 x y)).2.2 w') from wN w h (aH 5 x y) (lZ (by omega) (by omega) hx hy)
 generalize Fm.put t (aH 5 x y)=r at *
 clear h
 go_enter Tryz.func156,Tryz.ntmps156
 go_wp2_with fail
 refine K.out.mono ?_
 rintro e w1 ⟨rfl,ha⟩
 have HA:=show Hid _ from ha
 clear ha K
 go_wp2_with fail
 go_ret2
 exact⟨rfl,HA.out⟩
theorem QZ :
 Calls Tryz.prog 36 #[] w fun e w'=>e=.returned (.pointer (some ⟨w.heap.size+1,0,none⟩))/\Tb w' (w.heap.size+1) w.heap.size (.slice none 0 0) []/\Below w.heap.size w w':=by
 have hmm:=@run_makeMap Tryz.prog
 go_enter Tryz.func36,Tryz.ntmps36
 go_wp2
 go_ret
 refine⟨rfl,⟨?_,JW _,⟨.map [],?_,Ny⟩,Fm.JV⟩,?_⟩
 ·exact heap_alloc2_new _ _ _
 ·exact(World.ownsMap_made w Tryz.prog 67 (plainElem Tryz.prog 3)).alloc _
 ·exact((Below.refl _ _).alloc (Nat.le_refl _) _).alloc (by simp) _
end
section
variable (w:World) {b m:Nat} {v:Value} {t:List Nd}
theorem wO (h:Tb w b m v t) :
 Calls Tryz.prog 30 #[.pointer (some ⟨b,0,none⟩)] w fun e w'=>e=.returned (.int .i64 (t.length:Int))/\w'=w:=by
 have KM:=show Hid (∀ w',w'=w->Calls Tryz.prog 63 #[.pointer (some ⟨b,0,none⟩)] w' fun e w''=>e=.returned (.bool true)/\w''=w') from fun w' e=>by subst e;exact oI _ h
 have c0:=h.c0
 obtain⟨p,c,rfl⟩:=h.row.form
 clear h
 go_enter Tryz.func30,Tryz.ntmps30
 go_wp2_with fail
 refine(KM.out _ rfl).mono ?_
 rintro e w1 ⟨rfl,hw1⟩
 subst w1
 go_wp2_with fail
 go_ret
 exact⟨rfl,rfl⟩
theorem results_cell_tmp {P:Program} {fn:Func} {p t2:Tmp} {ty:TypeId} (h:fn.results=#[.cell p ty,.tmp t2]) (tmps:Array Value) (w:World) (g:Nat) (t:TypeId) (cs:Array Value) (fr:Nat × Nat) (d:TypeDesc)
 (hp:tmps.getD p undef=.pointer (some ⟨g,0,none⟩)) (hg:w.heap[g]?=some (.cells cs t fr))
 (hu:P.underlying ty=some d) (hd:(match d with | .struct _ | .array _ _=>true | _=>false)=true) (hi:(P.info? ty).map (·.size)=some cs.size) :
 (results fn tmps).run P w=.ok (.tuple #[.agg cs,tmps.getD t2 undef]) w:=by
 have hp':tmps[p]?.getD undef=.pointer (some ⟨g,0,none⟩):=by simpa using hp
 simp[results,h,hp',asAddr,run_loadVar_row w g t ty cs fr d hg hu hd hi,Result.andThen]
def ay (t:List Nd) (i:Int):Nd:=if Fm.has t i then t.getD i.toNat Fm.z else Fm.z
def N4 (w:World) (g:Nat) (n:Nd):Prop:=w.heap[g]?=some (.cells #[.int .i64 n.k,.string n.s,.int .i64 n.l,.int .i64 n.r] 67 (0,0))
section
variable {w:World} {g:Nat} {n:Nd}
theorem N4.c0 (h:N4 w g n):w.cell? ⟨g,0,none⟩=some (.int .i64 n.k):=by rw[cell_of_row w g 0 _ _ _ h];rfl
theorem N4.c1 (h:N4 w g n):w.cell? ⟨g,1,none⟩=some (.string n.s):=by rw[cell_of_row w g 1 _ _ _ h];rfl
theorem N4.c2 (h:N4 w g n):w.cell? ⟨g,2,none⟩=some (.int .i64 n.l):=by rw[cell_of_row w g 2 _ _ _ h];rfl
theorem N4.c3 (h:N4 w g n):w.cell? ⟨g,3,none⟩=some (.int .i64 n.r):=by rw[cell_of_row w g 3 _ _ _ h];rfl
theorem N4.fr (h:N4 w g n) (j:Nat):w.frozen? ⟨g,j,none⟩=false:=frozen_of_row w g j _ _ h
theorem N4.set (h:N4 w g n) (a:Nd):N4 ((((w.setCell ⟨g,0,none⟩ (.int .i64 a.k)).setCell ⟨g,1,none⟩ (.string a.s)).setCell ⟨g,2,none⟩ (.int .i64 a.l)).setCell ⟨g,3,none⟩ (.int .i64 a.r)) g a :=
 heap_setCell_same _ g 3 _ _ _ (heap_setCell_same _ g 2 _ _ _ (heap_setCell_same _ g 1 _ _ _ (heap_setCell_same w g 0 _ _ _ h)))
end
theorem yL {B:Nat} {a w:World} (h:Below B a w) {g:Nat} (hg:B<=g) (x y z u:Value):Below B a ((((w.setCell ⟨g,0,none⟩ x).setCell ⟨g,1,none⟩ y).setCell ⟨g,2,none⟩ z).setCell ⟨g,3,none⟩ u):=(((h.setCell hg x).setCell hg y).setCell hg z).setCell hg u
theorem uF (h:Tb w b m v t) (i:Int) :
 Calls Tryz.prog 76 #[.pointer (some ⟨b,0,none⟩),.int .i64 i] w fun e w'=>e=.returned (.tuple #[dY (ay t i),.bool (Fm.has t i)])/\Below w.heap.size w w':=by
 obtain⟨w0,hw0⟩:∃ w0,w0=w.alloc (Obj.cells #[.int .i64 0,.string ⟨#[]⟩,.int .i64 0,.int .i64 0] 67):=⟨_,rfl⟩
 have HB:=show Hid (Below w.heap.size w w0) from by rw[hw0];exact ak w _
 have HR:=show Hid (N4 w0 w.heap.size Fm.z) from by rw[hw0];exact heap_alloc_new w _
 have KH:=show Hid (∀ w',Below w.heap.size w w'->Calls Tryz.prog 104 #[.pointer (some ⟨b,0,none⟩),.int .i64 i] w' fun e w''=>e=.returned (.bool (Fm.has t i))/\w''=w') from fun w' hb=>zU w' (h.later hb) i
 have HN:=show Hid (ay t i=if Fm.has t i then t.getD i.toNat Fm.z else Fm.z) from rfl
 have HT:=show Hid (Tb w0 b m v t) from h.later HB.out
 generalize ay t i=nd at *
 cases hh:Fm.has t i
 ·have hr:=HN.out
  rw[hh] at hr
  simp only[Bool.false_eq_true,if_false] at hr
  subst hr
  rw[hh] at KH
  clear h HT
  go_enter Tryz.func76,Tryz.ntmps76
  go_wp2_with fail
  rw[<- hw0]
  clear hw0
  refine(KH.out _ HB.out).mono ?_
  rintro e w' ⟨rfl,hw'⟩
  subst w'
  have d0:=HR.out.c0;have d1:=HR.out.c1;have d2:=HR.out.c2;have d3:=HR.out.c3;have df:=HR.out.fr
  go_wp2_with fail
  refine bodyPost_ret (results_cell_tmp rfl _ _ w.heap.size _ _ _ _ rfl (HR.out.set Fm.z) Tryz.underlying67 rfl (by kernel_rfl)) rfl ?_
  exact⟨rfl,yL HB.out (Nat.le_refl _) _ _ _ _⟩
 ·obtain⟨hi0,hi1⟩:=Fm.dJ.1 hh
  obtain⟨j,rfl⟩:∃ j:Nat,i=j:=⟨i.toNat,by omega⟩
  have hj:j<t.length:=by omega
  have hr:=HN.out
  rw[hh] at hr
  simp only[if_true,Int.toNat_natCast] at hr
  rw[List.getD_eq_getElem?_getD,List.getElem?_eq_getElem hj,Option.getD_some] at hr
  rw[hh] at KH
  obtain⟨p,c,hv,hc1,hc2,hat⟩:=HT.out.row.Ga
  obtain⟨g,o,rfl,mG⟩:=hat (by omega)
  have hA:=mG j hj
  rw[<- hr] at hA
  have a0:=hA.c0;have a1:=hA.c1;have a2:=hA.c2;have a3:=hA.c3
  have c0:=HT.out.c0
  rw[hv] at c0
  clear h HT hat mG hA hr HN hv
  go_enter Tryz.func76,Tryz.ntmps76
  go_wp2_with fail
  rw[<- hw0]
  clear hw0
  refine(KH.out _ HB.out).mono ?_
  rintro e w' ⟨rfl,hw'⟩
  subst w'
  have d0:=HR.out.c0;have d1:=HR.out.c1;have d2:=HR.out.c2;have d3:=HR.out.c3;have df:=HR.out.fr
  go_wp2_with fail
  refine bodyPost_ret (results_cell_tmp rfl _ _ w.heap.size _ _ _ _ rfl (HR.out.set nd) Tryz.underlying67 rfl (by kernel_rfl)) rfl ?_
  exact⟨rfl,yL HB.out (Nat.le_refl _) _ _ _ _⟩
end
end Go.Proofs.YtkpbpecikibohaaGreatDoor
