import Derived.Test.YtkpbpecikibohaaGreatDoorKG2
import Derived.Test.YtkpbpecikibohaaGreatDoorZSeq
import Derived.Test.YtkpbpecikibohaaGreatDoorZH1
import Derived.Test.YtkpbpecikibohaaGreatDoorZG6
import Derived.Laws.ResultCell
import Derived.Maps.AppendAt
set_option linter.unusedSimpArgs false
namespace Go.Proofs.YtkpbpecikibohaaGreatDoor
open Go.RowKit Go.Shelf Go.Maps
open Fm (Nd)
open Bt.Bs (Ok wd)
def gq (s:SQ):Prop:=Ok s.1/\Fm.i64 s.2
def JI (s:SQ):List Lit:=s.1.map (fun x:Nat=>Lit.int .u64 (x:Int)) ++ [.int .i64 s.2]
def Ez (s:SQ):Lit:=.string (keyBytes (JI s))
theorem JJ:Keyed Tryz.prog 53:=Keyed.of_law (deep_law_laid (m:=3) laidOut (by omega) (of_decide_eq_true (by kernel_rfl)) (by kernel_rfl) (by kernel_rfl))
theorem mapM_some {α β:Type} {f:α->Option β} {g:α->β}:∀ (l:List α),(∀ x ∈ l,f x=some (g x))->l.mapM f=some (l.map g)
 | [],_=>by simp
 | x :: l,h=>by
  rw[List.mapM_cons,h x (List.mem_cons_self ..),mapM_some l (fun y hy=>h y (List.mem_cons_of_mem _ hy))]
  rfl
theorem BH:Tryz.prog.cellsOf 53=17:=by kernel_rfl
theorem zJ:Tryz.prog.cellsOf 51=16:=by kernel_rfl
theorem PG : (Tryz.prog.fieldsOf 53).toList.map (fun f => (f.name, f.type, f.offset)) = [("Left", 51, 0), ("Goal", 3, 16)] := by kernel_rfl
theorem EA:Tryz.prog.underlying 53=some (.struct (Tryz.prog.fieldsOf 53)):=by kernel_rfl
theorem wf_u64 {x:Nat} (h:x<18446744073709551616):(Lit.int .u64 (x:Int)).wf=true:=by
 have h1:IntKind.u64.min=0:=by decide
 have h2:IntKind.u64.max=18446744073709551615:=by decide
 simp[Lit.wf,h1,h2]
 omega
theorem FT (d:Nat) {x:Nat} (h:x<18446744073709551616):Tryz.prog.keyLits (d+1) 49 [.int .u64 (x:Int)]=some [.int .u64 (x:Int)]:=by
 simp[Program.keyLits,Tryz.underlying49,wf_u64 h]
theorem oW {r:List Nat} (h:r.length=16):(Bt.bP r).length=16:=by simp[Bt.bP,h]
theorem drop_take {α:Type} {l:List α} {i:Nat} (h:i<l.length):(l.drop i).take 1=[l[i]]:=by
 rw[List.drop_eq_getElem_cons h,List.take_succ_cons,List.take_zero]
theorem EB (d:Nat) {r:List Nat} (hr:Ok r):Tryz.prog.keyLits (d+1+1) 51 (Bt.bP r)=some (r.map fun x:Nat=>Lit.int .u64 (x:Int)):=by
 have hl:=hr.1
 have hlb:(Bt.bP r).length=16:=oW hl
 unfold Program.keyLits
 simp only[Bt.l6,hlb,zJ,if_true,Bt.z8,Nat.mul_one]
 rw[mapM_some (g:=fun i=>[Lit.int .u64 ((wd r i:Nat):Int)]) (List.range 16) (fun i hi=>by
  have hi:=List.mem_range.1 hi
  rw[drop_take (by rw[hlb];exact hi)]
  have e:(Bt.bP r)[i]'(by rw[hlb];exact hi)=.int .u64 ((wd r i:Nat):Int):=by
   simp[Bt.bP,wd,List.getD,hl,hi]
  rw[e]
  refine FT d (hr.2 _ ?_)
  simp[wd,List.getD,hl,hi])]
 match r,hl with
 | [_,_,_,_,_,_,_,_,_,_,_,_,_,_,_,_],_=>rfl
theorem FU (d:Nat) {s:SQ} (h:gq s):Tryz.prog.keyLits (d+1+1+1) 53 (au s.1 s.2).toList=some (JI s):=by
 have hl:=h.1.1
 have hlb:(Bt.bP s.1).length=16:=oW hl
 have hlc:(au s.1 s.2).toList=Bt.bP s.1 ++ [.int .i64 s.2]:=rfl
 obtain⟨f1,f2,hfs,⟨m1,t1,o1⟩,m2,t2,o2⟩:=zo PG
 unfold Program.keyLits
 simp only[EA]
 rw[if_pos ⟨by rw[hlc,List.length_append,hlb,BH];rfl,by
  rw[<- Array.all_toList,hfs]
  simp[m1,m2]⟩,hfs]
 rw[mapM_some (g:=fun f:Field=>if f.offset=0 then s.1.map (fun x:Nat=>Lit.int .u64 (x:Int)) else [.int .i64 s.2]) [f1,f2] (fun f hf=>by
  rcases List.mem_cons.1 hf with rfl | hf
  ·rw[t1,o1,if_pos rfl,zJ,hlc,List.drop_zero]
   rw[List.take_append_of_le_length (by omega),List.take_of_length_le (by omega)]
   exact EB d h.1
  ·obtain rfl:=List.mem_singleton.1 hf
   rw[t2,o2,if_neg (by omega),rU,hlc,List.drop_append_of_le_length (by omega),List.drop_of_length_le (by omega),List.nil_append]
   have:=Co h.2
   simp[Program.keyLits,Tryz.underlying3,this])]
 simp[o1,o2,JI]
theorem uj {s:SQ} (h:gq s):keyOf Tryz.prog 53 (.agg (au s.1 s.2))=some (Ez s):=by
 have hts:Tryz.prog.types.size+1=276 - 1+1+1+1:=by kernel_rfl
 have hkt:Tryz.prog.keyType 53=true:=by kernel_rfl
 unfold keyOf
 simp only[EA,hkt,Bool.true_and]
 rw[if_pos (by simp[Value.formed,EA,BH,iM h.1.1])]
 rw[hts]
 show(Tryz.prog.keyLits _ 53 (au s.1 s.2).toList).map _=_
 rw[FU _ h]
 rfl
theorem EC {a b:SQ} (ha:gq a) (hb:gq b) (h:Ez a=Ez b):a=b:=by
 have e:=JJ.inj (uj ha) (h ▸ uj hb)
 have e:au a.1 a.2=au b.1 b.2:=by injection e
 have e:Bt.bP a.1 ++ [Value.int .i64 a.2]=Bt.bP b.1 ++ [Value.int .i64 b.2]:=by
  have:=congrArg Array.toList e
  exact this
 obtain⟨e1,e2⟩:=List.append_inj' e rfl
 have e2:a.2=b.2:=by simpa using e2
 have e1:a.1=b.1:=by
  unfold Bt.bP at e1
  refine(List.map_inj_right (fun x y hxy => ?_)).1 e1
  injection hxy with _ h
  omega
 exact Prod.ext e1 e2
structure mU (D:DataW Unit) (st:List Stp):Prop where
 map:IsMap D
 tidy:Tidy D
 size:Maps.size D<=st.length
 has:∀ s,gq s->Maps.has D (Ez s)=(look st s).isSome
 num:∀ s p,gq s->look st s=some p->∀ z,D.atKey (Ez s) z=.lit (.int .i64 (p:Int))
abbrev lG (w:World) (m:Nat) (D:DataW Unit):Prop:=w.ownsMap Tryz.prog 53 (plainElem Tryz.prog 3) m (Maps.size D) D
theorem BI {w:World} {m n:Nat} {D:DataW Unit} (h:w.ownsMap Tryz.prog 53 (plainElem Tryz.prog 3) m n D):lG w m D:=by
 obtain⟨es,clock,hb,F,_,rfl⟩:=h
 refine⟨es,clock,hb,F,?_,rfl⟩
 simp[Maps.size,length_sorted]
theorem SG {s:SQ} (h:gq s):WideAt.IsKeyLit (Ez s):=JJ.key (uj h)
theorem M9:mU (.map []) []:=⟨isMap_empty,tidy_empty,Nat.le_refl _,fun s _=>by simp[Maps.has,look_nil],fun s p _ h=>by cases h⟩
theorem mU.put {D:DataW Unit} {st:List Stp} (h:mU D st) {x:Stp} (hx:gq x.s):mU (D.put (Ez x.s) (.lit (.int .i64 (st.length:Int)))) (st ++ [x]):=by
 have hk:=SG hx
 refine⟨h.map.put _ _,h.tidy.put hk _,?_,fun s hs => ?_,fun s p hs hp z => ?_⟩
 ·rw[size_put h.tidy]
  have:=h.size
  rw[List.length_append,List.length_singleton]
  split <;> omega
 ·rw[qg]
  by_cases e:x.s=s
  ·subst e
   rw[has_put_same h.map hk,if_pos rfl]
   rfl
  ·rw[has_put_other (fun e'=>e (EC hx hs e'.symm)),h.has s hs,if_neg e]
 ·rw[qg] at hp
  by_cases e:x.s=s
  ·subst e
   rw[if_pos rfl] at hp
   cases hp
   rw[atKey_put_same h.map hk]
  ·rw[if_neg e] at hp
   rw[atKey_put_other (fun e'=>e (EC hx hs e'.symm))]
   exact h.num s p hs hp z
theorem Xr {w:World} {m:Nat} {D:DataW Unit} {st:List Stp} (h:lG w m D) (hT:mU D st) {s:SQ} (hs:gq s) :
 (Instr.lookup 96 (.map (some m)) (.agg (au s.1 s.2)) true).run Tryz.prog w=.ok (.tuple #[.int .i64 (((look st s).getD 0:Nat):Int),.bool (look st s).isSome]) w:=by
 obtain⟨v,ps,hrun,hv⟩:=h.look_ok JJ Tryz.underlying96 (Cx w) (plainElem_int Tryz.underlying3 (by decide)) (uj hs)
 obtain⟨c,rfl,hc,_⟩:=plainElem_int_inv Tryz.underlying3 hv
 rw[hrun,hT.has s hs]
 have e:c=(((look st s).getD 0:Nat):Int):=by
  have h1:=congrArg Prod.fst hc
  simp only at h1
  cases hl:look st s with
  | some p=>
   rw[hT.num s p hs hl] at h1
   simpa using h1.symm
  | none=>
   rw[atKey_of_not_has (by rw[hT.has s hs,hl];rfl)] at h1
   simpa using h1.symm
 rw[e]
theorem SH {w:World} {m:Nat} {D:DataW Unit} {st:List Stp} (h:lG w m D) (hT:mU D st) (hl:st.length<=1048576) {x:Stp} (hx:gq x.s) :
 ∃ w',(Instr.mapUpdate 96 (.map (some m)) (.agg (au x.s.1 x.s.2)) (.int .i64 (st.length:Int))).run Tryz.prog w=.ok () w'/\(∃ D',lG w' m D'/\mU D' (st ++ [x]))/\Kp (fun k=>k=m) w w':=by
 obtain⟨w3,hrun,hown,hturn⟩:=World.ownsMap.store (w:=w) h JJ Tryz.underlying96 (by have:=hT.size;unfold maxLen;omega) (uj hx) (plainElem_int (a:=(st.length:Int)) Tryz.underlying3 (WalkArith.wf_i64 (by omega)))
 exact⟨w3,hrun,⟨_,BI hown,hT.put hx⟩,⟨hturn.grown.os,hturn.grown.tape,hturn.grown.output,hturn.grown.size,fun k hk hne=>hturn.grown.block k hk (fun e=>hne (by simpa using e))⟩⟩
def kW (l:List Nat):List Value:=l.map fun k:Nat=>Value.int .i64 (k:Int)
def iU (x:Stp) (kv:Value):List Value:=Bt.bP x.s.1 ++ [.int .i64 x.s.2,.bool x.pv,.int .i64 x.ru,.int .i64 x.mn,kv]
def bF (x:Stp) (kv:Value):Array Value:=(iU x kv).toArray
theorem rQ {x:Stp} (h:x.s.1.length=16) (kv:Value):(iU x kv).length=21:=by simp[iU,Bt.bP,h]
theorem dO {x:Stp} (h:x.s.1.length=16) (kv:Value):(bF x kv).size=21:=by simp[bF,rQ h]
def oC:List Stp->List Value->List Value
 | x :: st,kv :: kvs=>iU x kv ++ oC st kvs
 | _,_=>[]
theorem BJ (x:Stp) (kv:Value):∀ (st:List Stp) (kvs:List Value),kvs.length=st.length->oC (st ++ [x]) (kvs ++ [kv])=oC st kvs ++ iU x kv
 | [],[],_=>by simp[oC]
 | y :: st,k :: kvs,h=>by
  show iU y k ++ oC (st ++ [x]) (kvs ++ [kv])=_
  rw[BJ x kv st kvs (by simpa using h),<- List.append_assoc]
  rfl
 | [],_ :: _,h=>by simp at h
 | _ :: _,[],h=>by simp at h
theorem Ho:∀ (st:List Stp) (kvs:List Value),(∀ x ∈ st,x.s.1.length=16)->∀ (i j:Nat) (x:Stp) (kv:Value),st[i]?=some x->kvs[i]?=some kv->j<21->(oC st kvs)[i * 21+j]?=(iU x kv)[j]?
 | y :: st,k :: kvs,hl,0,j,x,kv,hx,hk,hj=>by
  simp at hx hk
  subst hx
  subst hk
  show(iU y k ++ _)[0 * 21+j]?=_
  rw[List.getElem?_append_left (by rw[rQ (hl y (List.mem_cons_self ..))];omega)]
  simp
 | y :: st,k :: kvs,hl,i+1,j,x,kv,hx,hk,hj=>by
  show(iU y k ++ _)[(i+1) * 21+j]?=_
  rw[List.getElem?_append_right (by rw[rQ (hl y (List.mem_cons_self ..))];omega),rQ (hl y (List.mem_cons_self ..)),show(i+1) * 21+j - 21=i * 21+j by omega]
  exact Ho st kvs (fun z hz=>hl z (List.mem_cons_of_mem _ hz)) i j x kv (by simpa using hx) (by simpa using hk) hj
 | [],_,_,_,_,_,_,hx,_,_=>by simp at hx
 | _ :: _,[],_,_,_,_,_,_,hk,_=>by simp at hk
theorem Hq {x:Stp} (h:x.s.1.length=16) (kv:Value):(iU x kv)[17]?=some (.bool x.pv):=by
 have hl:(Bt.bP x.s.1).length=16:=oW h
 unfold iU
 rw[List.getElem?_append_right (by omega),hl]
 rfl
theorem SK {x:Stp} (h:x.s.1.length=16) (kv:Value):(iU x kv)[20]?=some kv:=by
 have hl:(Bt.bP x.s.1).length=16:=oW h
 unfold iU
 rw[List.getElem?_append_right (by omega),hl]
 rfl
theorem nD {w:World} {base n:Nat} {e:TypeId} {v:Value} {xs:List Value} (h:w.ownsRow base e 1 v n xs):v.oneCell'=true:=by
 rcases h.2 with ⟨rfl,_⟩ | ⟨g,cap,cur,rfl,_⟩ <;> rfl
theorem ED (x:Stp) {kv:Value} (hk:kv.oneCell'=true):∀ u ∈ iU x kv,u.oneCell'=true:=by
 intro u hu
 unfold iU Bt.bP at hu
 rcases List.mem_append.1 hu with hu | hu
 ·obtain⟨n,_,rfl⟩:=List.mem_map.1 hu
  rfl
 ·simp only[List.mem_cons,List.not_mem_nil,or_false] at hu
  rcases hu with rfl | rfl | rfl | rfl | rfl
  ·rfl
  ·rfl
  ·rfl
  ·rfl
  ·exact hk
theorem EG (x:Stp) {kv:Value} (hk:kv.oneCell'=true):(bF x kv).all (·.oneCell')=true:=by
 rw[Array.all_eq_true_iff_forall_mem]
 intro u hu
 exact ED x hk u (by simpa[bF] using hu)
structure qh (w:World) (base:Nat) (sv:Value) (st:List Stp) (kvs:List Value):Prop where
 ok:∀ x ∈ st,Ok x.s.1
 len:kvs.length=st.length
 row:w.ownsRow base 102 21 sv st.length (oC st kvs)
 kid:∀ (i:Nat) (x:Stp) (kv:Value),st[i]?=some x->kvs[i]?=some kv->w.ownsRow base 3 1 kv x.kd.length (kW x.kd)
def Kb (kvs:List Value) (k:Nat):Prop:=∃ u ∈ kvs,u.ownBlock=some k
section
variable {w w':World} {base:Nat} {sv:Value} {st:List Stp} {kvs:List Value}
theorem qh.kb (h:qh w base sv st kvs) {k:Nat} (hk:Kb kvs k):base<=k/\k<w.heap.size/\∃ cur,w.heap[k]?=some (.cells cur 3 (0,0)):=by
 obtain⟨u,hu,e⟩:=hk
 obtain⟨i,hi,rfl⟩:=List.mem_iff_getElem.1 hu
 have hi2:i<st.length:=by rw[<- h.len];exact hi
 exact aP (h.kid i _ _ (List.getElem?_eq_getElem hi2) (List.getElem?_eq_getElem hi)) k e
theorem qh.keep (h:qh w base sv st kvs) (h1:∀ k,sv.ownBlock=some k->w'.heap[k]?=w.heap[k]?) (h2:∀ k,Kb kvs k->w'.heap[k]?=w.heap[k]?):qh w' base sv st kvs :=
 ⟨h.ok,h.len,bD h.row h1,fun i x kv hx hv=>bD (h.kid i x kv hx hv) fun k e=>h2 k ⟨kv,List.mem_of_getElem? hv,e⟩⟩
theorem qh.blk (h:qh w base sv st kvs) {k:Nat} (e:sv.ownBlock=some k):base<=k/\k<w.heap.size/\∃ cur,w.heap[k]?=some (.cells cur 102 (0,0)):=aP h.row k e
theorem qh.form (h:qh w base sv st kvs):∃ p c,sv=.slice p st.length c:=by
 rcases h.row.2 with ⟨rfl,h0⟩ | ⟨g,cap,cur,rfl,_⟩
 ·exact⟨none,0,by rw[h0]⟩
 ·exact⟨_,_,rfl⟩
theorem qh.pv (h:qh w base sv st kvs) {i:Nat} {x:Stp} (hx:st[i]?=some x):∃ g cap,sv=.slice (some ⟨g,0,none⟩) st.length cap/\w.cell? ⟨g,i * 21+17,none⟩=some (.bool x.pv):=by
 have hi:=(List.getElem?_eq_some_iff.1 hx).1
 have hl:=h.len
 rcases h.row.2 with ⟨rfl,h0⟩ | ⟨g,cap,cur,rfl,_,hh,h1,h2,h3,h4⟩
 ·omega
 ·refine⟨g,cap,rfl,?_⟩
  have hki:i<kvs.length:=by omega
  have e:=Ho st kvs (fun y hy=>(h.ok y hy).1) i 17 x kvs[i] hx (List.getElem?_eq_getElem hki) (by omega)
  rw[Hq (h.ok x (List.mem_of_getElem? hx)).1,<- h4,List.getElem?_take,if_pos (by omega)] at e
  rw[cell_of_row w g _ cur _ _ hh]
  simpa using e
end
theorem um (w:World) (base:Nat):qh w base (.slice none 0 0) [] []:=⟨fun x hx=>(by cases hx),rfl,⟨rfl,Or.inl ⟨rfl,rfl⟩⟩,fun i x kv hx=>by simp at hx⟩
theorem Xt:(Tryz.prog.info? 102).map (fun i=>(i.zero,i.size,i.bytes))=some (some (.agg (bF ⟨(Bt.Bs.zero,0),false,0,0,[]⟩ (.slice none 0 0))),21,184):=by kernel_rfl
theorem wK:(Tryz.prog.info? 102).map (·.size)=some 21:=by kernel_rfl
def fF:Stp:=⟨(Bt.Bs.zero,0),false,0,0,[]⟩
theorem uo (w:World):(zeroValue 102).run Tryz.prog w=.ok (.agg (bF fF (.slice none 0 0))) w:=by kernel_rfl
def qE (rb pm b m:Nat) (v sv:Value) (k:Nat):Prop:=k=rb\/k=pm\/sv.ownBlock=some k\/Ft b m v k
structure Rn (w:World) (base rb pm b m:Nat) (v sv:Value) (kvs:List Value) (B:Nat) (R:Rs):Prop where
 run:Cl w rb #[.pointer (some ⟨b,0,none⟩),.int .i64 (B:Int),.int .i64 (R.vs:Int),sv,.map (some pm)] 98
 tb:Tb w b m v R.t
 tz:Bt.Tz w
 gy:qh w base sv R.st kvs
 map:∃ D,lG w pm D/\mU D R.st
 bs:base<=rb/\base<=pm/\base<=w.heap.size
 ng:¬ qE rb pm b m v sv 2
 nQ:pm≠m
theorem zK {w w':World} {S:Nat->Prop} (h:Bt.Tz w) (hk:Kp S w w') (hn:¬ S 2):Bt.Tz w':=fun j hj=>by
 have hlt:=Bt.qL h
 have h1:=hk.block _ hlt hn
 have h2:=h j hj
 unfold World.cell? at h2 |-
 simp only at h2 |-
 rw[h1]
 exact h2
theorem kZ {w:World} {m:Nat} {D:DataW Unit} (h:lG w m D):∃ es cl,w.heap[m]?=some (.map es cl):=by
 obtain⟨es,cl,hb,_⟩:=h
 exact⟨es,cl,hb⟩
theorem uq {w w':World} {m:Nat} {D:DataW Unit} (h:lG w m D) (hb:w'.heap[m]?=w.heap[m]?):lG w' m D:=by
 obtain⟨es,cl,h1,r⟩:=h
 exact⟨es,cl,hb.trans h1,r⟩
section
variable {w w':World} {base rb pm b m:Nat} {v sv:Value} {kvs:List Value} {B:Nat} {R:Rs}
theorem Rn.PK (h:Rn w base rb pm b m v sv kvs B R):pm<w.heap.size:=by
 obtain⟨D,hD,_⟩:=h.map
 obtain⟨es,cl,h1⟩:=kZ hD
 exact lt_of_block h1
theorem Rn.foot (h:Rn w base rb pm b m v sv kvs B R):∀ k,qE rb pm b m v sv k->k<w.heap.size:=by
 rintro k (rfl | rfl | e | e)
 ·exact h.run.lt
 ·exact h.PK
 ·exact(h.gy.blk e).2.1
 ·exact h.tb.foot k e
theorem Rn.other (h:Rn w base rb pm b m v sv kvs B R) {k:Nat} {cs:Array Value} {T:TypeId} {fr:Nat × Nat} (hk:w.heap[k]?=some (.cells cs T fr)) (h1:T≠98) (h2:T≠131) (h3:T≠67) (h4:T≠102\/sv.ownBlock≠some k):¬ qE rb pm b m v sv k:=by
 rintro(rfl | rfl | e | e)
 ·have:=h.run
  unfold Cl at this
  rw[hk] at this
  injection this with this
  injection this with _ e _
  exact h1 e
 ·obtain⟨D,hD,_⟩:=h.map
  obtain⟨es,cl,h5⟩:=kZ hD
  rw[hk] at h5
  cases h5
 ·rcases h4 with h4 | h4
  ·obtain⟨_,_,cur,hc⟩:=h.gy.blk e
   rw[hk] at hc
   injection hc with hc
   injection hc with _ e2 _
   exact h4 e2
  ·exact h4 e
 ·exact jm hk h2 h3 h.tb e
theorem Rn.keep (h:Rn w base rb pm b m v sv kvs B R) (hs:w.heap.size<=w'.heap.size) (h1:∀ k,qE rb pm b m v sv k->w'.heap[k]?=w.heap[k]?) (h2:∀ k,Kb kvs k->w'.heap[k]?=w.heap[k]?) (hz:Bt.Tz w'):Rn w' base rb pm b m v sv kvs B R:=by
 obtain⟨D,hD,hT⟩:=h.map
 exact⟨(h1 rb (Or.inl rfl)).trans h.run,h.tb.keep fun k hk=>h1 k (Or.inr (Or.inr (Or.inr hk))),hz,h.gy.keep (fun k e=>h1 k (Or.inr (Or.inr (Or.inl e)))) h2,⟨D,uq hD (h1 pm (Or.inr (Or.inl rfl))),hT⟩,⟨h.bs.1,h.bs.2.1,Nat.le_trans h.bs.2.2 hs⟩,h.ng,h.nQ⟩
theorem Rn.later (h:Rn w base rb pm b m v sv kvs B R) (hb:Below w.heap.size w w'):Rn w' base rb pm b m v sv kvs B R:=h.keep hb.size (fun k hk=>hb.block k (h.foot k hk)) (fun k hk=>hb.block k (h.gy.kb hk).2.1) (Bt.iY h.tz hb)
theorem Rn.drew (h:Rn w base rb pm b m v sv kvs B R):Rn w.drew base rb pm b m v sv kvs B R:=h.keep (Nat.le_refl _) (fun _ _=>rfl) (fun _ _=>rfl) h.tz
end
theorem Rn.BK {w:World} {base rb pm b m:Nat} {v sv:Value} {kvs:List Value} {B:Nat} {R:Rs} (h:Rn w base rb pm b m v sv kvs B R) {k:Nat} (hk:Kb kvs k):¬ qE rb pm b m v sv k:=by
 obtain⟨_,_,cur,hc⟩:=h.gy.kb hk
 exact h.other hc (by decide) (by decide) (by decide) (Or.inl (by decide))
structure gJ (w w':World) (rb pm b m:Nat) (v sv:Value) (kvs:List Value) (v' bH:Value) (bI:List Value):Prop where
 lv:dh w.heap.size v v'
 ls:dh w.heap.size sv bH
 lk:∀ k,Kb bI k->Kb kvs k\/w.heap.size<=k
 kp:Kp (qE rb pm b m v sv) w w'
section
variable {w w' w2:World} {base rb pm b m:Nat} {v sv v' bH v2 V6:Value} {kvs bI V7:List Value} {B:Nat} {R R':Rs}
theorem gJ.refl (w:World) (rb pm b m:Nat) (v sv:Value) (kvs:List Value):gJ w w rb pm b m v sv kvs v sv kvs:=⟨dh.refl _ _,dh.refl _ _,fun _ h=>Or.inl h,Kp.refl _ _⟩
theorem gJ.of_below (hb:Below w.heap.size w w'):gJ w w' rb pm b m v sv kvs v sv kvs:=⟨dh.refl _ _,dh.refl _ _,fun _ h=>Or.inl h,Kp.of_below hb⟩
theorem gJ.foot (h:gJ w w' rb pm b m v sv kvs v' bH bI) {k:Nat} (hk:qE rb pm b m v' bH k):qE rb pm b m v sv k\/w.heap.size<=k:=by
 rcases hk with e | e | e | e
 ·exact Or.inl (Or.inl e)
 ·exact Or.inl (Or.inr (Or.inl e))
 ·rcases h.ls k e with h1 | h1
  ·exact Or.inl (Or.inr (Or.inr (Or.inl h1)))
  ·exact Or.inr h1
 ·rcases e with e | e | e
  ·exact Or.inl (Or.inr (Or.inr (Or.inr (Or.inl e))))
  ·exact Or.inl (Or.inr (Or.inr (Or.inr (Or.inr (Or.inl e)))))
  ·rcases h.lv k e with h1 | h1
   ·exact Or.inl (Or.inr (Or.inr (Or.inr (Or.inr (Or.inr h1)))))
   ·exact Or.inr h1
theorem gJ.trans (h:gJ w w' rb pm b m v sv kvs v' bH bI) (k:gJ w' w2 rb pm b m v' bH bI v2 V6 V7):gJ w w2 rb pm b m v sv kvs v2 V6 V7 :=
 ⟨h.lv.trans k.lv h.kp.size,h.ls.trans k.ls h.kp.size,fun i hi=>by
  rcases k.lk i hi with h1 | h1
  ·exact h.lk i h1
  ·exact Or.inr (Nat.le_trans h.kp.size h1),h.kp.trans k.kp fun _ hi=>h.foot hi⟩
theorem gJ.ng (h:gJ w w' rb pm b m v sv kvs v' bH bI) (hz:Bt.Tz w) (hn:¬ qE rb pm b m v sv 2):¬ qE rb pm b m v' bH 2:=fun hk=>by
 rcases h.foot hk with h1 | h1
 ·exact hn h1
 ·have:=Bt.qL hz
  omega
theorem gJ.cl (h:gJ w w' rb pm b m v sv kvs v' bH bI) {k:Nat} {cs:Array Value} {T:TypeId} (hc:Cl w k cs T) (hn:¬ qE rb pm b m v sv k):Cl w' k cs T:=(h.kp.block k hc.lt hn).trans hc
theorem Rn.table (h:Rn w base rb pm b m v sv kvs B R) {t':List Nd} (ha:After w b m v t' w'):∃ v',Rn w' base rb pm b m v' sv kvs B ⟨t',R.st,R.vs⟩/\gJ w w' rb pm b m v sv kvs v' sv kvs:=by
 obtain⟨v',hT,hl,hk⟩:=ha
 have hA:gJ w w' rb pm b m v sv kvs v' sv kvs:=⟨hl,dh.refl _ _,fun _ h=>Or.inl h,⟨hk.os,hk.tape,hk.output,hk.size,fun k hlt hn=>hk.block k hlt (fun hf=>hn (Or.inr (Or.inr (Or.inr hf))))⟩⟩
 have hz:Bt.Tz w':=zK h.tz hk (fun hf=>h.ng (Or.inr (Or.inr (Or.inr hf))))
 obtain⟨D,hD,hTd⟩:=h.map
 have hpm:w'.heap[pm]?=w.heap[pm]?:=hk.block pm h.PK (fun hf=>by
  obtain⟨es,cl,h5⟩:=kZ hD
  rcases hf with rfl | rfl | e
  ·rw[h.tb.tab] at h5;cases h5
  ·exact absurd rfl h.nQ
  ·obtain⟨_,cur,hh⟩:=h.tb.row.lt pm e
   rw[h5] at hh;cases hh)
 refine⟨v',⟨(hk.block rb h.run.lt (fun hf=>jm h.run (by decide) (by decide) h.tb hf)).trans h.run,hT,hz,h.gy.keep (fun k e => ?_) (fun k hb => ?_),⟨D,uq hD hpm,hTd⟩,⟨h.bs.1,h.bs.2.1,Nat.le_trans h.bs.2.2 hk.size⟩,hA.ng h.tz h.ng,h.nQ⟩,hA⟩
 ·obtain⟨_,_,cur,hc⟩:=h.gy.blk e
  exact hk.block k (lt_of_block hc) (fun hf=>jm hc (by decide) (by decide) h.tb hf)
 ·obtain⟨_,_,cur,hc⟩:=h.gy.kb hb
  exact hk.block k (lt_of_block hc) (fun hf=>jm hc (by decide) (by decide) h.tb hf)
theorem Rn.own (h:Rn w base rb pm b m v sv kvs B R) {k:Nat} (hn:¬ qE rb pm b m v sv k) (hb:¬ Kb kvs k) (hz:k≠2) (hk:dn k w w'):Rn w' base rb pm b m v sv kvs B R :=
 h.keep hk.size (fun i hi=>hk.block i (h.foot i hi) (fun e=>hn (e ▸ hi))) (fun i hi=>hk.block i (h.gy.kb hi).2.1 (fun e=>hb (e ▸ hi))) (zK h.tz hk (fun e=>hz e.symm))
theorem qh.BK {st:List Stp} (h:qh w base sv st kvs) {k:Nat} {cs:Array Value} {T:TypeId} {fr:Nat × Nat} (hc:w.heap[k]?=some (.cells cs T fr)) (hT:T≠3):¬ Kb kvs k:=fun hk=>by
 obtain⟨_,_,cur,h2⟩:=h.kb hk
 rw[hc] at h2
 injection h2 with h2
 injection h2 with _ e2 _
 exact hT e2
end
theorem PL {x:Stp} (h:x.s.1.length=16) (kv u:Value) (l:List Nat):(bF x kv).setIfInBounds 20 u=bF { x with kd:=l } u:=by
 have hl:(Bt.bP x.s.1).length=16:=oW h
 unfold bF iU
 rw[List.setIfInBounds_toArray,List.set_append_right _ _ (by omega),hl]
 rfl
theorem PN {x:Stp} (h:x.s.1.length=16) (kv:Value) (p:Bool):(bF x kv).setIfInBounds 17 (.bool p)=bF { x with pv:=p } kv:=by
 have hl:(Bt.bP x.s.1).length=16:=oW h
 unfold bF iU
 rw[List.setIfInBounds_toArray,List.set_append_right _ _ (by omega),hl]
 rfl
theorem BL {w:World} {b:Nat} {x:Stp} (h:x.s.1.length=16) {kv:Value} (hc:Cl w b (bF x kv) 102):w.cell? ⟨b,20,none⟩=some kv/\w.cell? ⟨b,17,none⟩=some (.bool x.pv):=by
 rw[hc.cell,hc.cell]
 unfold bF
 rw[List.getElem?_toArray,List.getElem?_toArray]
 exact⟨SK h kv,Hq h kv⟩
theorem gH {fn:Func} {p q:Tmp} (h:fn.results=#[.cell p 102,.tmp q]) (tmps:Array Value) (w:World) (b:Nat) {cs:Array Value} (hp:tmps.getD p undef=.pointer (some ⟨b,0,none⟩)) (hc:Cl w b cs 102) (hs:cs.size=21) :
 (results fn tmps).run Tryz.prog w=.ok (.tuple #[.agg cs,tmps.getD q undef]) w:=by
 rw[_root_.Go.results_cell_tmp h,hp]
 simp[asAddr,run_loadVar_row w b 102 102 cs (0,0) _ hc Tryz.underlying102 rfl (by rw[wK,hs]),Result.andThen]
theorem SL (w:World):(zeroValue 53).run Tryz.prog w=.ok (.agg (au Bt.Bs.zero 0)) w:=by kernel_rfl
theorem Xu (w:World):(Instr.build 102 #[]).run Tryz.prog w=.ok (.agg (bF fF (.slice none 0 0))) w:=by kernel_rfl
theorem PO (w:World) (r0 r1 r2 r3 r4 r5 r6 r7 r8 r9 bS bW dB dD dF dP:Nat) (g ru mn:Int):(Instr.build 102 #[(0,.agg (au [r0,r1,r2,r3,r4,r5,r6,r7,r8,r9,bS,bW,dB,dD,dF,dP] g)),(2,.int .i64 ru),(3,.int .i64 mn)]).run Tryz.prog w=.ok (.agg (bF ⟨([r0,r1,r2,r3,r4,r5,r6,r7,r8,r9,bS,bW,dB,dD,dF,dP],g),false,ru,mn,[]⟩ (.slice none 0 0))) w:=by kernel_rfl
theorem PU (w:World) (r0 r1 r2 r3 r4 r5 r6 r7 r8 r9 bS bW dB dD dF dP:Nat) (g ru:Int):(Instr.build 102 #[(0,.agg (au [r0,r1,r2,r3,r4,r5,r6,r7,r8,r9,bS,bW,dB,dD,dF,dP] g)),(2,.int .i64 ru)]).run Tryz.prog w=.ok (.agg (bF ⟨([r0,r1,r2,r3,r4,r5,r6,r7,r8,r9,bS,bW,dB,dD,dF,dP],g),false,ru,0,[]⟩ (.slice none 0 0))) w:=by kernel_rfl
theorem QB (w:World) {r:List Nat} (hr:r.length=16) (g ru mn:Int):(Instr.build 102 #[(0,.agg (au r g)),(2,.int .i64 ru),(3,.int .i64 mn)]).run Tryz.prog w=.ok (.agg (bF ⟨(r,g),false,ru,mn,[]⟩ (.slice none 0 0))) w:=by
 match r,hr with
 | [r0,r1,r2,r3,r4,r5,r6,r7,r8,r9,bS,bW,dB,dD,dF,dP],_=>exact PO ..
theorem Xv (w:World) {r:List Nat} (hr:r.length=16) (g ru:Int):(Instr.build 102 #[(0,.agg (au r g)),(2,.int .i64 ru)]).run Tryz.prog w=.ok (.agg (bF ⟨(r,g),false,ru,0,[]⟩ (.slice none 0 0))) w:=by
 match r,hr with
 | [r0,r1,r2,r3,r4,r5,r6,r7,r8,r9,bS,bW,dB,dD,dF,dP],_=>exact PU ..
theorem Tk (w:World) (n:Int):(Instr.buildSlice 37 1 #[(0,.int .i64 n)]).run Tryz.prog w=.ok (.slice (some ⟨w.heap.size,0,none⟩) 1 1) (w.alloc (.cells #[.int .i64 n] 3)):=by kernel_rfl
section
variable {ops:Array Oper} {rest:List Oper} {o:Oper} {a:Act} {Q:Exit->Act->World->Prop} {w:World}
theorem oD (hg:o.guard=none) (hop:o.op=Op.build 102 #[]) (hK:wpList Tryz.prog ops Q rest (a.put o.dst (.agg (bF fF (.slice none 0 0)))) w):wpList Tryz.prog ops Q (o :: rest) a w:=by
 refine wpList_plain hg fun K' hK' => ?_
 have hrun:=Xu w
 unfold Oper.wp
 simp[execOp,hop,hrun,Result.andThen]
 exact hK' _ _ hK
theorem EH (hg:o.guard=none) (x y z:Operand) (hop:o.op=Op.build 102 #[(0,x),(2,y),(3,z)]) {r:List Nat} {g ru mn:Int} (hx:a.eval x=.agg (au r g)) (hy:a.eval y=.int .i64 ru) (hz:a.eval z=.int .i64 mn) (hr:r.length=16)
 (hK:wpList Tryz.prog ops Q rest (a.put o.dst (.agg (bF ⟨(r,g),false,ru,mn,[]⟩ (.slice none 0 0)))) w):wpList Tryz.prog ops Q (o :: rest) a w:=by
 refine wpList_plain hg fun K' hK' => ?_
 have hrun:=QB w hr g ru mn
 unfold Oper.wp
 simp[execOp,hop,hx,hy,hz,hrun,Result.andThen]
 exact hK' _ _ hK
theorem EI (hg:o.guard=none) (x y:Operand) (hop:o.op=Op.build 102 #[(0,x),(2,y)]) {r:List Nat} {g ru:Int} (hx:a.eval x=.agg (au r g)) (hy:a.eval y=.int .i64 ru) (hr:r.length=16)
 (hK:wpList Tryz.prog ops Q rest (a.put o.dst (.agg (bF ⟨(r,g),false,ru,0,[]⟩ (.slice none 0 0)))) w):wpList Tryz.prog ops Q (o :: rest) a w:=by
 refine wpList_plain hg fun K' hK' => ?_
 have hrun:=Xv w hr g ru
 unfold Oper.wp
 simp[execOp,hop,hx,hy,hrun,Result.andThen]
 exact hK' _ _ hK
theorem jM (hg:o.guard=none) (x:Operand) (hop:o.op=Op.buildSlice 37 1 #[(0,x)]) (n:Int) (hx:a.eval x=.int .i64 n)
 (hK:∀ w' q,New w w' q #[.int .i64 n] 3->wpList Tryz.prog ops Q rest (a.put o.dst (.slice (some ⟨q,0,none⟩) 1 1)) w'):wpList Tryz.prog ops Q (o :: rest) a w:=by
 refine wpList_plain hg fun K' hK' => ?_
 have hrun:=Tk w n
 unfold Oper.wp
 simp[execOp,hop,hx,hrun,Result.andThen]
 exact hK' _ _ (hK _ _ (bE w _ _))
theorem SN {b j:Nat} {cs:Array Value} {T0:TypeId} (h:Cl w b cs T0) (hj:j<cs.size) (p:Option Addr) (n c:Nat):(Instr.storeAt 37 (.pointer (some ⟨b,j,none⟩)) (.slice p n c)).run Tryz.prog w=.ok () (w.setCell ⟨b,j,none⟩ (.slice p n c)):=by
 have hc:=h.cell j
 rw[Array.getElem?_eq_getElem hj] at hc
 have hf:=h.fr j
 go_simp
theorem SS {b j:Nat} {cs:Array Value} {T0:TypeId} (h:Cl w b cs T0) (hj:j<cs.size) (p:Bool):(Instr.storeAt 4 (.pointer (some ⟨b,j,none⟩)) (.bool p)).run Tryz.prog w=.ok () (w.setCell ⟨b,j,none⟩ (.bool p)):=by
 have hc:=h.cell j
 rw[Array.getElem?_eq_getElem hj] at hc
 have hf:=h.fr j
 go_simp
theorem sW (w:World) (b i:Nat) (v:Value):dn b w (w.setCell ⟨b,i,none⟩ v):=⟨rfl,rfl,rfl,by simp[World.setCell],fun k _ hk=>Below.heap_setCell _ _ _ _ hk⟩
theorem uT (hg:o.guard=none) (hd:o.dst=none) (x y:Operand) (hop:o.op=Op.store 37 x y) (b:Nat) (hx:a.eval x=.pointer (some ⟨b,20,none⟩)) (p:Option Addr) (n c:Nat) (hy:a.eval y=.slice p n c) {s:Stp} (hs:s.s.1.length=16) {kv:Value} (h:Cl w b (bF s kv) 102) (l:List Nat)
 (hK:∀ w',Cl w' b (bF { s with kd:=l } (.slice p n c)) 102->dn b w w'->wpList Tryz.prog ops Q rest a w'):wpList Tryz.prog ops Q (o :: rest) a w:=by
 refine wpList_plain hg fun K' hK' => ?_
 have hrun:=SN h (show 20<_ by rw[dO hs];omega) p n c
 unfold Oper.wp
 simp[execOp,hop,hx,hy,hrun,Result.andThen]
 rw[Oper.upon_skip,hd]
 refine hK' _ _ (hK _ ?_ (sW w b 20 _))
 rw[<- PL hs kv]
 exact heap_setCell_same w b 20 _ _ _ h
theorem JK (hg:o.guard=none) (hd:o.dst=none) (x y:Operand) (hop:o.op=Op.store 4 x y) (b:Nat) (hx:a.eval x=.pointer (some ⟨b,17,none⟩)) (p:Bool) (hy:a.eval y=.bool p) {s:Stp} (hs:s.s.1.length=16) {kv:Value} (h:Cl w b (bF s kv) 102)
 (hK:∀ w',Cl w' b (bF { s with pv:=p } kv) 102->dn b w w'->wpList Tryz.prog ops Q rest a w'):wpList Tryz.prog ops Q (o :: rest) a w:=by
 refine wpList_plain hg fun K' hK' => ?_
 have hrun:=SS h (show 17<_ by rw[dO hs];omega) p
 unfold Oper.wp
 simp[execOp,hop,hx,hy,hrun,Result.andThen]
 rw[Oper.upon_skip,hd]
 refine hK' _ _ (hK _ ?_ (sW w b 17 _))
 rw[<- PN hs kv]
 exact heap_setCell_same w b 17 _ _ _ h
theorem iA (hg:o.guard=none) (hd:o.dst=none) (x y:Operand) (hop:o.op=Op.store 102 x y) (b:Nat) (hx:a.eval x=.pointer (some ⟨b,0,none⟩)) {s:Stp} (hs:s.s.1.length=16) {kv:Value} (hkv:kv.oneCell'=true) (hy:a.eval y=.agg (bF s kv)) {s0:Stp} (hs0:s0.s.1.length=16) {YQ:Value} (h:Cl w b (bF s0 YQ) 102)
 (hK:∀ w',Cl w' b (bF s kv) 102->dn b w w'->wpList Tryz.prog ops Q rest a w'):wpList Tryz.prog ops Q (o :: rest) a w :=
 aQ 102 hg hd x y hop b hx (bF s kv) hy (bF s0 YQ) 102 h (by rw[wK,dO hs]) (by rw[dO hs,dO hs0]) (EG s hkv) hK
theorem sZ (x:Operand) (hop:o.op=Op.load 102 x) (b:Nat) (hx:a.eval x=.pointer (some ⟨b,0,none⟩)) {s:Stp} (hs:s.s.1.length=16) {kv:Value} (h:Cl w b (bF s kv) 102) (hg:Region.wanted o (yielded ops a.tmps)=true)
 (hK:wpList Tryz.prog ops Q rest (a.put o.dst (.agg (bF s kv))) w):wpList Tryz.prog ops Q (o :: rest) a w :=
 fq 102 x hop b hx (bF s kv) 102 h rfl Tryz.underlying102 (by rw[wK,dO hs]) hg hK
end
end Go.Proofs.YtkpbpecikibohaaGreatDoor
