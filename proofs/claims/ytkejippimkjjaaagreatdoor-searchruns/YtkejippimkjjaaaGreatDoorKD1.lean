import Derived.Test.YtkejippimkjjaaaGreatDoorKG3
import Derived.Test.YtkejippimkjjaaaGreatDoorKG7
import Derived.Test.YtkejippimkjjaaaGreatDoorKG4
import Derived.Test.YtkejippimkjjaaaGreatDoorKG8
import Derived.Test.YtkejippimkjjaaaGreatDoorZR1
import Derived.Test.YtkejippimkjjaaaGreatDoorKCho
import Derived.Test.YtkejippimkjjaaaGreatDoorZT2
import Derived.Test.YtkejippimkjjaaaGreatDoorZP2
set_option linter.unusedSimpArgs false
set_option maxRecDepth 100000
set_option maxHeartbeats 4000000
namespace Go.Proofs.YtkejippimkjjaaaGreatDoor
open Go.RowKit Go.Shelf Go.Maps
open Fm (Nd)
open Bt.Bs (Ok wd)
def oh (rb c:Nat) (u sv:Value) (k:Nat):Prop:=k=rb\/sv.ownBlock=some k\/Fr c u k
def mD (c B vs:Nat) (sv:Value):Array Value:=#[.pointer (some ⟨c,0,none⟩),sv,.int .i64 (vs:Int),.int .i64 (B:Int)]
structure gN (w:World) (base rb c:Nat) (u sv:Value) (kvs:List Value) (B:Nat) (R:Rs):Prop where
 run:Cl w rb (mD c B R.vs sv) 71
 tr:Tr w c u R.t
 dG:dU w base sv R.st kvs
 bs:base<=rb/\base<=w.heap.size
theorem iL {w:World} {g c:Nat} {cur:Array Value} {ty:TypeId} {fr:Nat × Nat} {u:Value} {t:List Nd} (h:w.heap[g]?=some (.cells cur ty fr)) (h1:ty≠68) (h2:ty≠54) (hT:Tr w c u t):¬ Fr c u g:=by
 rintro(rfl | e)
 ·exact h1 (dF h hT.tab)
 ·obtain⟨_,cur',hh⟩:=hT.row.lt g e
  exact h2 (dF h hh)
section
variable {w w':World} {base rb c:Nat} {u sv:Value} {kvs:List Value} {B:Nat} {R:Rs}
theorem gN.foot (h:gN w base rb c u sv kvs B R):∀ k,oh rb c u sv k->k<w.heap.size:=by
 rintro k (rfl | e | e)
 ·exact h.run.lt
 ·exact(h.dG.blk e).2.1
 ·exact h.tr.foot k e
theorem gN.other (h:gN w base rb c u sv kvs B R) {k:Nat} {cs:Array Value} {T:TypeId} {fr:Nat × Nat} (hk:w.heap[k]?=some (.cells cs T fr)) (h1:T≠71) (h2:T≠68) (h3:T≠54) (h4:T≠46\/sv.ownBlock≠some k):¬ oh rb c u sv k:=by
 rintro(rfl | e | e)
 ·exact h1 (dF hk h.run)
 ·rcases h4 with h4 | h4
  ·obtain⟨_,_,cur,hc⟩:=h.dG.blk e
   exact h4 (dF hk hc)
  ·exact h4 e
 ·exact iL hk h2 h3 h.tr e
theorem gN.keep (h:gN w base rb c u sv kvs B R) (hs:w.heap.size<=w'.heap.size) (h1:∀ k,oh rb c u sv k->w'.heap[k]?=w.heap[k]?) (h2:∀ k,Kb kvs k->w'.heap[k]?=w.heap[k]?):gN w' base rb c u sv kvs B R :=
 ⟨(h1 rb (Or.inl rfl)).trans h.run,h.tr.keep fun k hk=>h1 k (Or.inr (Or.inr hk)),h.dG.keep (fun k e=>h1 k (Or.inr (Or.inl e))) h2,⟨h.bs.1,Nat.le_trans h.bs.2 hs⟩⟩
theorem gN.later (h:gN w base rb c u sv kvs B R) (hb:Below w.heap.size w w'):gN w' base rb c u sv kvs B R:=h.keep hb.size (fun k hk=>hb.block k (h.foot k hk)) (fun k hk=>hb.block k (h.dG.kb hk).2.1)
theorem gN.drew (h:gN w base rb c u sv kvs B R):gN w.drew base rb c u sv kvs B R:=h.later (Below.refl _ _).drew
end
structure mJ (w w':World) (rb c:Nat) (u sv:Value) (kvs:List Value) (u' aW:Value) (bn:List Value):Prop where
 lu:bQ w.heap.size u u'
 ls:bQ w.heap.size sv aW
 lk:∀ k,Kb bn k->Kb kvs k\/w.heap.size<=k
 kp:Kp (oh rb c u sv) w w'
section
variable {w w' w2:World} {base rb c:Nat} {u sv u' aW u2 sD:Value} {kvs bn l8:List Value} {B:Nat} {R R':Rs}
theorem mJ.of_below (hb:Below w.heap.size w w'):mJ w w' rb c u sv kvs u sv kvs:=⟨bQ.refl _ _,bQ.refl _ _,fun _ h=>Or.inl h,Kp.of_below hb⟩
theorem mJ.foot (h:mJ w w' rb c u sv kvs u' aW bn) {k:Nat} (hk:oh rb c u' aW k):oh rb c u sv k\/w.heap.size<=k:=by
 rcases hk with e | e | e
 ·exact Or.inl (Or.inl e)
 ·rcases h.ls k e with h1 | h1
  ·exact Or.inl (Or.inr (Or.inl h1))
  ·exact Or.inr h1
 ·rcases e with e | e
  ·exact Or.inl (Or.inr (Or.inr (Or.inl e)))
  ·rcases h.lu k e with h1 | h1
   ·exact Or.inl (Or.inr (Or.inr (Or.inr h1)))
   ·exact Or.inr h1
theorem mJ.trans (h:mJ w w' rb c u sv kvs u' aW bn) (k:mJ w' w2 rb c u' aW bn u2 sD l8):mJ w w2 rb c u sv kvs u2 sD l8 :=
 ⟨h.lu.trans k.lu h.kp.size,h.ls.trans k.ls h.kp.size,fun i hi=>by
  rcases k.lk i hi with h1 | h1
  ·exact h.lk i h1
  ·exact Or.inr (Nat.le_trans h.kp.size h1),h.kp.trans k.kp fun _ hi=>h.foot hi⟩
theorem mJ.cl (h:mJ w w' rb c u sv kvs u' aW bn) {k:Nat} {cs:Array Value} {T:TypeId} (hc:Cl w k cs T) (hn:¬ oh rb c u sv k):Cl w' k cs T:=(h.kp.block k hc.lt hn).trans hc
theorem gN.table (h:gN w base rb c u sv kvs B R) {t':List Nd} (ha:aO w c u t' w'):∃ u',gN w' base rb c u' sv kvs B ⟨t',R.st,R.vs⟩/\mJ w w' rb c u sv kvs u' sv kvs:=by
 obtain⟨u',hT,hl,hk⟩:=ha
 have hn:∀ (k:Nat) (cs:Array Value) (T:TypeId),w.heap[k]?=some (.cells cs T (0,0))->T≠68->T≠54->w'.heap[k]?=w.heap[k]?:=fun k cs T hc h1 h2=>hk.block k (lt_of_block hc) (fun hf=>iL hc h1 h2 h.tr hf)
 refine⟨u',⟨(hn rb _ _ h.run (by decide) (by decide)).trans h.run,hT,h.dG.keep (fun k e => ?_) (fun k e => ?_),⟨h.bs.1,Nat.le_trans h.bs.2 hk.size⟩⟩,⟨hl,bQ.refl _ _,fun _ h=>Or.inl h,⟨hk.os,hk.tape,hk.output,hk.size,fun k hlt hnf=>hk.block k hlt (fun hf=>hnf (Or.inr (Or.inr hf)))⟩⟩⟩
 ·obtain⟨_,_,cur,hc⟩:=h.dG.blk e
  exact hn k _ _ hc (by decide) (by decide)
 ·obtain⟨_,_,cur,hc⟩:=h.dG.kb e
  exact hn k _ _ hc (by decide) (by decide)
theorem gN.visit (h:gN w base rb c u sv kvs B R) (hc:Cl w' rb (mD c B (R.vs+1) sv) 71) (hk:dY rb w w'):gN w' base rb c u sv kvs B ⟨R.t,R.st,R.vs+1⟩/\mJ w w' rb c u sv kvs u sv kvs:=by
 have yE:Kp (oh rb c u sv) w w':=⟨hk.os,hk.tape,hk.output,hk.size,fun k hlt hn=>hk.block k hlt (fun e=>hn (Or.inl e))⟩
 refine⟨⟨hc,h.tr.keep fun k hf=>hk.block k (h.tr.foot k hf) (fun e => ?_),h.dG.keep (fun k e=>hk.block k (h.dG.blk e).2.1 (fun e2 => ?_)) (fun k hb=>hk.block k (h.dG.kb hb).2.1 (fun e => ?_)),⟨h.bs.1,Nat.le_trans h.bs.2 hk.size⟩⟩,⟨bQ.refl _ _,bQ.refl _ _,fun _ h=>Or.inl h,yE⟩⟩
 ·subst e
  exact iL h.run (by decide) (by decide) h.tr hf
 ·subst e2
  obtain⟨_,_,cur,hc2⟩:=h.dG.blk e
  exact absurd (dF hc2 h.run) (by decide)
 ·subst e
  exact h.dG.wJ h.run (by decide) hb
theorem gN.put {base':Nat} {kv:Value} {x:Stp} (h:gN w base rb c u sv kvs B R) (hx:Ok x.s.1) (hkv:w.ownsRow base' 3 1 kv x.kd.length (fJ x.kd)) (hb:base<=base')
 (hrun:Cl w' rb (mD c B R.vs aW) 71) (hrow:w'.ownsRow base 46 21 aW (R.st.length+1) (jW R.st kvs ++ dS x kv)) (_hl:bQ w.heap.size sv aW) (hk:Kp (fun k=>k=rb\/sv.ownBlock=some k) w w') :
 gN w' base rb c u aW (kvs ++ [kv]) B ⟨R.t,R.st ++ [x],R.vs⟩/\Kp (oh rb c u sv) w w':=by
 have yE:Kp (oh rb c u sv) w w':=⟨hk.os,hk.tape,hk.output,hk.size,fun k hlt hn=>hk.block k hlt (fun e=>by
  rcases e with e | e
  ·exact hn (Or.inl e)
  ·exact hn (Or.inr (Or.inl e)))⟩
 have zL:∀ k,Fr c u k->¬ (k=rb\/sv.ownBlock=some k):=fun k hf e=>by
  rcases e with rfl | e
  ·exact iL h.run (by decide) (by decide) h.tr hf
  ·obtain⟨_,_,cur,hc⟩:=h.dG.blk e
   exact iL hc (by decide) (by decide) h.tr hf
 have Tc:∀ (k:Nat) (cur:Array Value),w.heap[k]?=some (.cells cur 3 (0,0))->¬ (k=rb\/sv.ownBlock=some k):=fun k cur hc e=>by
  refine h.other hc (by decide) (by decide) (by decide) (Or.inl (by decide)) ?_
  rcases e with e | e
  ·exact Or.inl e
  ·exact Or.inr (Or.inl e)
 refine⟨⟨hrun,h.tr.keep fun k hf=>hk.block k (h.tr.foot k hf) (zL k hf),⟨fun y hy => ?_,?_,?_,fun i y q hy hu => ?_⟩,⟨h.bs.1,Nat.le_trans h.bs.2 hk.size⟩⟩,yE⟩
 ·rcases List.mem_append.1 hy with hy | hy
  ·exact h.dG.ok y hy
  ·obtain rfl:=List.mem_singleton.1 hy
   exact hx
 ·have:=h.dG.len
  simp[this]
 ·show w'.ownsRow base _ 21 aW (R.st ++ [x]).length _
  rw[uY x kv _ _ h.dG.len,List.length_append,List.length_singleton]
  exact hrow
 ·have hlen:=h.dG.len
  have keep:∀ {bb n:Nat} {q:Value} {zs:List Value},w.ownsRow bb 3 1 q n zs->w'.ownsRow bb 3 1 q n zs:=fun ho=>bV ho fun k e=>by
   obtain⟨_,h2,cur,hc⟩:=aT ho k e
   exact hk.block k h2 (Tc k cur hc)
  by_cases hi:i<R.st.length
  ·have hy:(R.st ++ [x])[i]?=some y:=hy
   rw[List.getElem?_append_left hi] at hy
   rw[List.getElem?_append_left (by omega)] at hu
   exact keep (h.dG.kid i y q hy hu)
  ·have hy:(R.st ++ [x])[i]?=some y:=hy
   rw[List.getElem?_append_right (by omega)] at hy
   rw[List.getElem?_append_right (by omega)] at hu
   have e0:i - R.st.length=0:=by
    have:=(List.getElem?_eq_some_iff.1 hy).1
    simp at this
    omega
   rw[e0] at hy
   rw[hlen,e0] at hu
   simp at hy hu
   subst hy
   subst hu
   exact iF (keep hkv) hb
end
section
variable {ops:Array Oper} {rest:List Oper} {o:Oper} {a:Act} {Q:Exit->Act->World->Prop} {w:World}
theorem Qr {c B vs rb:Nat} {sv:Value} (h:Cl w rb (mD c B vs sv) 71) (y:Int):(Instr.storeAt 3 (.pointer (some ⟨rb,2,none⟩)) (.int .i64 y)).run Tryz.prog w=.ok () (w.setCell ⟨rb,2,none⟩ (.int .i64 y)):=by
 have hc:w.cell? ⟨rb,2,none⟩=some (.int .i64 (vs:Int)):=h.cell 2
 have hf:=h.fr 2
 go_simp
theorem Ia (hg:o.guard=none) (hd:o.dst=none) (x y:Operand) (hop:o.op=Op.store 3 x y) (rb:Nat) (hx:a.eval x=.pointer (some ⟨rb,2,none⟩)) (vs':Nat) (hy:a.eval y=.int .i64 (vs':Int)) {c B vs:Nat} {sv:Value} (h:Cl w rb (mD c B vs sv) 71)
 (hK:∀ w',Cl w' rb (mD c B vs' sv) 71->dY rb w w'->wpList Tryz.prog ops Q rest a w'):wpList Tryz.prog ops Q (o :: rest) a w:=by
 refine wpList_plain hg fun K' hK' => ?_
 have hrun:=Qr h (vs':Int)
 unfold Oper.wp
 simp[execOp,hop,hx,hy,hrun,Result.andThen]
 rw[Oper.upon_skip,hd]
 exact hK' _ _ (hK _ (heap_setCell_same w rb 2 _ _ _ h) (mG w rb 2 _))
theorem Nn {c B vs rb:Nat} {sv:Value} (h:Cl w rb (mD c B vs sv) 71) (p:Option Addr) (n k:Nat):(Instr.storeAt 33 (.pointer (some ⟨rb,1,none⟩)) (.slice p n k)).run Tryz.prog w=.ok () (w.setCell ⟨rb,1,none⟩ (.slice p n k)):=by
 have hc:w.cell? ⟨rb,1,none⟩=some sv:=h.cell 1
 have hf:=h.fr 1
 go_simp
theorem Np {c B vs rb:Nat} {sv:Value} (h:Cl w rb (mD c B vs sv) 71) (aW:Value):Cl (w.setCell ⟨rb,1,none⟩ aW) rb (mD c B vs aW) 71:=heap_setCell_same w rb 1 _ _ _ h
end
theorem Nq (w:World) (r0 r1 r2 r3 r4 r5 r6 r7 r8 r9 bM bP bT bY bZ dI:Nat) (g ru mn:Int) (pv:Bool) (p:Option Addr) (n k:Nat) (kd:List Nat):(Instr.build 46 #[(0,.agg (ak [r0,r1,r2,r3,r4,r5,r6,r7,r8,r9,bM,bP,bT,bY,bZ,dI] g)),(1,.bool pv),(2,.int .i64 ru),(3,.int .i64 mn),(4,.slice p n k)]).run Tryz.prog w=.ok (.agg (bG ⟨([r0,r1,r2,r3,r4,r5,r6,r7,r8,r9,bM,bP,bT,bY,bZ,dI],g),pv,ru,mn,kd⟩ (.slice p n k))) w:=by kernel_rfl
theorem Ut (w:World) {r:List Nat} (hr:r.length=16) (g ru mn:Int) (pv:Bool) (p:Option Addr) (n k:Nat) (kd:List Nat):(Instr.build 46 #[(0,.agg (ak r g)),(1,.bool pv),(2,.int .i64 ru),(3,.int .i64 mn),(4,.slice p n k)]).run Tryz.prog w=.ok (.agg (bG ⟨(r,g),pv,ru,mn,kd⟩ (.slice p n k))) w:=by
 match r,hr with
 | [r0,r1,r2,r3,r4,r5,r6,r7,r8,r9,bM,bP,bT,bY,bZ,dI],_=>exact Nq ..
theorem Qs {st:List Stp} (h1:∀ (i j:Nat) (x y:Stp),st[i]?=some x->st[j]?=some y->x.s=y.s->i=j) {s:SQ} {i:Nat} {x:Stp} (hx:st[i]?=some x) (hs:x.s=s):look st s=some i:=by
 cases hl:look st s with
 | none=>exact absurd hs ((uV _ rfl).1 hl x (List.mem_of_getElem? hx))
 | some p=>
  obtain⟨h2,h3⟩:=zV _ rfl hl
  rw[h1 i p x _ hx (List.getElem?_eq_getElem h2) (hs.trans h3.symm)]
theorem Qt {st:List Stp} {s:SQ} (h:∀ (i:Nat) (x:Stp),st[i]?=some x->x.s≠s):look st s=none:=(uV _ rfl).2 fun x hx=>by
 obtain⟨i,hi,rfl⟩:=List.mem_iff_getElem.1 hx
 exact h i _ (List.getElem?_eq_getElem hi)
def vT (st:List Stp) (s:SQ):Int:=match look st s with
 | some p=>(p:Int)
 | none => -1
theorem Qu {w:World} {base:Nat} {sv:Value} {st:List Stp} {kvs:List Value} (h:dU w base sv st kvs) {g:Nat} {n c:Nat} (hv:sv=.slice (some ⟨g,0,none⟩) n c) {i:Nat} {x:Stp} (hx:st[i]?=some x):iY w g (i * 21) x.s.1 x.s.2:=fun j v hj=>by
 have hpos:0<st.length:=Nat.lt_of_le_of_lt (Nat.zero_le _) (List.getElem?_eq_some_iff.1 hx).1
 obtain⟨g2,cap,hs,hc⟩:=h.at hpos
 rw[hv] at hs
 obtain⟨h1,_,_⟩:=Value.slice.inj hs
 injection h1 with h1
 injection h1 with h1
 subst h1
 obtain⟨kv,_,hcell⟩:=hc i x hx
 have hl:=(h.ok x (List.mem_of_getElem? hx)).1
 have hlb:(Bt.bK x.s.1).length=16:=jV hl
 have Ww:j<17:=by
  have:=(List.getElem?_eq_some_iff.1 hj).1
  simp[hlb] at this
  omega
 rw[hcell j (by omega)]
 unfold dS
 rw[show Bt.bK x.s.1 ++ [.int .i64 x.s.2,.bool x.pv,.int .i64 x.ru,.int .i64 x.mn,kv]=(Bt.bK x.s.1 ++ [.int .i64 x.s.2]) ++ [.bool x.pv,.int .i64 x.ru,.int .i64 x.mn,kv] from by simp]
 rw[List.getElem?_append_left (by simp[hlb];omega)]
 exact hj
theorem Qv {ops:Array Oper} {Q:Exit->Act->World->Prop} {i:Nat} {o:Oper} {a:Act} {w:World} {K:Act->World->Prop} (ho:ops[i]?=some o) (hw:Region.wanted o (yielded ops a.tmps)=true) (x y:Operand) (t:TypeId) (hop:o.op=Op.binOp .eql 27 x y t) {p q:List Nat} {g h:Int} (hx:a.eval x=.agg (ak p g)) (hy:a.eval y=.agg (ak q h)) (hp:p.length=16) (hq:q.length=16) (hK:K (a.put o.dst (.bool (gD p g q h))) w):wpOp Tryz.prog ops Q i K a w:=by
 have hrun:=(vN w hp hq g h).1
 refine jq ho _ w hw ?_ hK
 simp only[execOp,hop,hx,hy]
 simp[eqGuard,QH,hrun,Result.andThen]
theorem Dp {x y:SQ}:gD x.1 x.2 y.1 y.2=decide (x=y):=by
 unfold gD
 rw[Bool.eq_iff_iff]
 simp[Prod.ext_iff]
structure DB (w0 W:World) (base rb c:Nat) (u sv:Value) (kvs:List Value) (B:Nat) (R:Rs) (b3:Nat) (s:SQ):Prop where
 rn:gN W base rb c u sv kvs B R
 s3:aX W b3 s.1 s.2
 au:Below w0.heap.size w0 W
theorem DB.later {w0 W W':World} {base rb c:Nat} {u sv:Value} {kvs:List Value} {B:Nat} {R:Rs} {b3:Nat} {s:SQ} (h:DB w0 W base rb c u sv kvs B R b3 s) (hb:Below W.heap.size W W'):DB w0 W' base rb c u sv kvs B R b3 s:=⟨h.rn.later hb,h.s3.later hb h.s3.lt,h.au.trans (hb.mono h.au.size)⟩
theorem DB.drew {w0 W:World} {base rb c:Nat} {u sv:Value} {kvs:List Value} {B:Nat} {R:Rs} {b3:Nat} {s:SQ} (h:DB w0 W base rb c u sv kvs B R b3 s):DB w0 W.drew base rb c u sv kvs B R b3 s:=h.later (Below.refl _ _).drew
theorem Kk (w:World) {base rb c B:Nat} {u sv:Value} {kvs:List Value} {R:Rs} (hR:gN w base rb c u sv kvs B R) {s:SQ} (hr:Ok s.1) (hone:∀ (i j:Nat) (x y:Stp),R.st[i]?=some x->R.st[j]?=some y->x.s=y.s->i=j) (hsm:R.st.length<=1000000) :
 Calls Tryz.prog 34 #[.pointer (some ⟨rb,0,none⟩),.agg (ak s.1 s.2)] w fun e w'=>e=.returned (.int .i64 (vT R.st s))/\Below w.heap.size w w':=by
 have hl:=hr.1
 have Wx:=show Hid _ from hone
 have wP:=show Hid (vT R.st s=match look R.st s with | some p=>(p:Int) | none => -1) from rfl
 generalize vT R.st s=X at *
 clear hone hr
 obtain⟨sp,sc,hsv⟩:=hR.dG.form
 subst hsv
 obtain⟨n,hn⟩:∃ n:Nat,n=R.st.length:=⟨_,rfl⟩
 have HN:=show Hid (n=R.st.length) from hn
 rw[<- hn] at hR hsm
 clear hn
 go_enter Tryz.func34,Tryz.ntmps34
 go_wp2_with (refine aI 27 _ rfl _ rfl rfl ?_)
 intro w2 b3 hn2
 have H2:=show Hid (DB w w2 base rb c u (.slice sp n sc) kvs B R b3 s) from⟨hR.later hn2.au,hn2.blk,hn2.au⟩
 clear hn2 hR
 go_wp2_with fail
 go_loopw [5] (fun iv wr=>∃ i:Nat,i<=n/\iv=.int .i64 (i:Int)/\Hid (DB w wr base rb c u (.slice sp n sc) kvs B R b3 s)/\Hid (∀ (j:Nat) (x:Stp),j<i->R.st[j]?=some x->x.s≠s)) (fun iv _=>n - (intOf iv).toNat)
 case atStart=>exact⟨0,by omega,rfl,H2,fun j x h=>by omega⟩
 case round=>
  obtain⟨i,hi,rfl,HI,zS⟩:=hrel
  clear H2
  have c1:wr.cell? ⟨rb,1,none⟩=some (.slice sp n sc):=HI.out.rn.run.cell 1
  by_cases hlt:i<n
  ·have hil:(i:Int)<(n:Int):=by omega
   obtain⟨x,hx⟩:∃ x,R.st[i]?=some x:=⟨_,List.getElem?_eq_getElem (by rw[<- HN.out];exact hlt)⟩
   obtain⟨g,hgs⟩:∃ g,sp=some ⟨g,0,none⟩:=by
    rcases HI.out.rn.dG.row.2 with ⟨_,h0⟩ | ⟨g,cap,cur,h1,_⟩
    ·rw[<- HN.out] at h0;omega
    ·exact⟨g,(Value.slice.inj h1).1⟩
   subst hgs
   have hx16:=(HI.out.rn.dG.ok x (List.mem_of_getElem? hx)).1
   have HX:=show Hid (R.st[i]?=some x/\iY wr.drew g (i * 21) x.s.1 x.s.2) from⟨hx,Qu HI.out.drew.rn.dG rfl hx⟩
   have Ou:=show Hid (gD x.s.1 x.s.2 s.1 s.2=decide (x.s=s)) from Dp
   generalize TK:gD x.s.1 x.s.2 s.1 s.2=sm at *
   have TL:=show Hid (gD x.s.1 x.s.2 s.1 s.2=sm) from TK
   clear hx TK
   go_wp2_with fail
   refine dO (by kernel_rfl) 9 [some 15,some 16,some 17,some 18,some 19,some 20,some 21,some 22,some 23,some 24] [[],[0],[1],[2],[],[3,4],[5],[6],[],[7,8]] [[],[0],[1,0],[2,1,0],[],[3,2,1,0,4],[5,3,2,1,0,4],[6,5,3,2,1,0,4],[],[7,6,5,3,2,1,0,4,8]] (by kernel_rfl) (by decide) (fun ii vv w1=>match ii with | 0=>vv=.pointer (some ⟨rb,0,none⟩) | 1=>vv=.pointer (some ⟨rb,0,none⟩) | 2=>vv=.pointer (some ⟨rb,1,none⟩) | 3=>vv=.slice (some ⟨g,0,none⟩) n sc | 4=>vv=.int .i64 (i:Int) | 5=>vv=.pointer (some ⟨g,i * 21,none⟩) | 6=>vv=.pointer (some ⟨g,i * 21,none⟩) | 7=>vv=.agg (ak x.s.1 x.s.2) | 8=>vv=.agg (ak s.1 s.2) | 9=>vv=.bool sm/\w1=wr.drew | _=>True) ?hfree (bR 10 ?steps) ?fin
   case hfree=>
    intro j v w1 w2 hj hn h
    match j,h,hj,hn with
    | 0,h,_,_=>exact h
    | 1,h,_,_=>exact h
    | 2,h,_,_=>exact h
    | 3,h,_,_=>exact h
    | 4,h,_,_=>exact h
    | 5,h,_,_=>exact h
    | 6,h,_,_=>exact h
    | 7,h,_,_=>exact h
    | 8,h,_,_=>exact h
    | 9,_,hj,_=>exact absurd rfl hj
    | _+10,_,_,_=>trivial
   case steps=>
    refine⟨⟨⟨⟨⟨⟨⟨⟨⟨⟨trivial,?s0⟩,?s1⟩,?s2⟩,?s3⟩,?s4⟩,?s5⟩,?s6⟩,?s7⟩,?s8⟩,?s9⟩
    case s0=>
     intro a w1 hw hO hN
     obtain rfl:w1=wr.drew:=hw (by decide)
     have o0:a.tmps[0]?=some (.pointer (some ⟨rb,0,none⟩)):=outs hO 0 rfl
     exact ah rfl (.pointer (some ⟨rb,0,none⟩)) _ rfl (by go_simp) ⟨_,rfl,rfl,fun _=>rfl⟩
    case s1=>
     intro a w1 hw hO hN
     obtain rfl:w1=wr.drew:=hw (by decide)
     obtain⟨v0,g0,r0⟩:=aj hN 0 15
     have e0:v0=.pointer (some ⟨rb,0,none⟩):=r0
     rw[e0] at g0
     exact ah rfl (.pointer (some ⟨rb,0,none⟩)) _ rfl (by go_simp) ⟨_,rfl,rfl,fun _=>rfl⟩
    case s2=>
     intro a w1 hw hO hN
     obtain rfl:w1=wr.drew:=hw (by decide)
     obtain⟨v1,g1,r1⟩:=aj hN 1 16
     have e1:v1=.pointer (some ⟨rb,0,none⟩):=r1
     rw[e1] at g1
     exact ah rfl (.pointer (some ⟨rb,1,none⟩)) _ rfl (by go_simp) ⟨_,rfl,rfl,fun _=>rfl⟩
    case s3=>
     intro a w1 hw hO hN
     obtain rfl:w1=wr.drew:=hw (by decide)
     obtain⟨v2,g2,r2⟩:=aj hN 2 17
     have e2:v2=.pointer (some ⟨rb,1,none⟩):=r2
     rw[e2] at g2
     have hc:wr.drew.cell? ⟨rb,1,none⟩=some (.slice (some ⟨g,0,none⟩) n sc):=c1
     exact ah rfl (.slice (some ⟨g,0,none⟩) n sc) _ rfl (by go_simp) ⟨_,rfl,rfl,fun _=>rfl⟩
    case s4=>
     intro a w1 hw hO hN
     obtain rfl:w1=wr.drew:=hw (by decide)
     have o5:a.tmps[5]?=some (.int .i64 (i:Int)):=outs hO 5 rfl
     exact ah rfl (.int .i64 (i:Int)) _ rfl (by go_simp) ⟨_,rfl,rfl,fun _=>rfl⟩
    case s5=>
     intro a w1 hw hO hN
     obtain rfl:w1=wr.drew:=hw (by decide)
     obtain⟨v3,g3,r3⟩:=aj hN 3 18
     have e3:v3=.slice (some ⟨g,0,none⟩) n sc:=r3
     rw[e3] at g3
     obtain⟨v4,g4,r4⟩:=aj hN 4 19
     have e4:v4=.int .i64 (i:Int):=r4
     rw[e4] at g4
     exact ah rfl (.pointer (some ⟨g,i * 21,none⟩)) _ rfl (by go_simp) ⟨_,rfl,rfl,fun _=>rfl⟩
    case s6=>
     intro a w1 hw hO hN
     obtain rfl:w1=wr.drew:=hw (by decide)
     obtain⟨v5,g5,r5⟩:=aj hN 5 20
     have e5:v5=.pointer (some ⟨g,i * 21,none⟩):=r5
     rw[e5] at g5
     exact ah rfl (.pointer (some ⟨g,i * 21,none⟩)) _ rfl (by go_simp) ⟨_,rfl,rfl,fun _=>rfl⟩
    case s7=>
     intro a w1 hw hO hN
     obtain rfl:w1=wr.drew:=hw (by decide)
     obtain⟨v6,g6,r6⟩:=aj hN 6 21
     have e6:v6=.pointer (some ⟨g,i * 21,none⟩):=r6
     rw[e6] at g6
     have hl1:=jM wr.drew g (i * 21) HX.out.2 hx16
     exact ah rfl (.agg (ak x.s.1 x.s.2)) _ rfl (by simp[execOp,Act.eval,g6,hl1,Result.andThen]) ⟨_,rfl,rfl,fun _=>rfl⟩
    case s8=>
     intro a w1 hw hO hN
     obtain rfl:w1=wr.drew:=hw (by decide)
     have o3:a.tmps[3]?=some (.pointer (some ⟨b3,0,none⟩)):=outs hO 3 rfl
     have hl1:=eZ wr.drew b3 HI.out.drew.s3 hl
     exact ah rfl (.agg (ak s.1 s.2)) _ rfl (by simp[execOp,Act.eval,o3,hl1,Result.andThen]) ⟨_,rfl,rfl,fun _=>rfl⟩
    case s9=>
     intro a w1 hw hO hN
     obtain rfl:w1=wr.drew:=hw (by decide)
     obtain⟨v7,g7,r7⟩:=aj hN 7 22
     have e7:v7=.agg (ak x.s.1 x.s.2):=r7
     rw[e7] at g7
     obtain⟨v8,g8,r8⟩:=aj hN 8 23
     have e8:v8=.agg (ak s.1 s.2):=r8
     rw[e8] at g8
     have x1:a.eval (.tmp 22)=.agg (ak x.s.1 x.s.2):=by simp[Act.eval,g7]
     have x2:a.eval (.tmp 23)=.agg (ak s.1 s.2):=by simp[Act.eval,g8]
     exact Qv rfl rfl _ _ _ rfl x1 x2 hx16 hl ⟨_,rfl,⟨by rw[TL.out],rfl⟩,fun h=>absurd rfl h⟩
   case fin=>
    intro vs w1 hV
    obtain⟨e9,rfl⟩:vs 9=.bool sm/\w1=wr.drew:=hV 9 (by decide)
    have HI2:=show Hid _ from HI.out.drew
    clear hV HI c1
    simp only[bg,Act.put,List.setIfInBounds_toArray,List.set_cons_zero,List.set_cons_succ,e9]
    clear e9
    generalize wr.drew=w3 at *
    cases sm with
    | true=>
     have hxs:x.s=s:=of_decide_eq_true Ou.out.symm
     have hX:X=(i:Int):=by rw[wP.out,Qs Wx.out HX.out.1 hxs]
     subst hX
     clear hxs HX Ou TL
     go_wp2_with fail
     go_ret
     exact⟨rfl,HI2.out.au⟩
    | false=>
     have hxs:x.s≠s:=of_decide_eq_false Ou.out.symm
     have Wz:=show Hid (∀ (j:Nat) (x:Stp),j<i+1->R.st[j]?=some x->x.s≠s) from fun j y hj hy=>by
      by_cases e:j=i
      ·subst e
       rw[HX.out.1] at hy
       cases hy
       exact hxs
      ·exact zS.out j y (by omega) hy
     clear hxs HX Ou TL zS
     go_wp2_with fail
     go_roundw
     case rel=>exact⟨i+1,by omega,by go_num,HI2,Wz⟩
     case measure=>first|(simp[intOf];done)|(simp[intOf];omega)
  ·have hil:¬ (i:Int)<(n:Int):=by omega
   have hX:X = -1:=by
    rw[wP.out,Qt fun j x hx=>zS.out j x (by have:=(List.getElem?_eq_some_iff.1 hx).1;rw[<- HN.out] at this;omega) hx]
   subst hX
   go_wp2_with fail
   go_ret
   exact⟨rfl,HI.out.au⟩
def Kl (rb:Nat) (sv:Value) (i k:Nat):Prop:=(i=12/\sv.ownBlock=some k)\/(i=15/\k=rb)
section
variable {W:World} {base rb c B vs n:Nat} {sv kv:Value} {x:Stp} {xs:List Value}
theorem TM (hrb:rb<W.heap.size) (hsv:∀ k,sv.ownBlock=some k->k<W.heap.size) (hne:sv.ownBlock≠some rb):∀ (i j:Nat) (vv:Value) (w w':World),i≠j->i ∉ ([[],[],[1],[2,1],[3,2,1],[],[],[],[],[],[5,6,7,8,9],[10,5,6,7,8,9],[4,3,2,1,11,10,5,6,7,8,9],[0],[13,0],[14,13,0,12,4,3,2,1,11,10,5,6,7,8,9]]:List (List Nat)).getD j []->Kp (Kl rb sv i) w w'->(fun ii vv w1=>match ii with | 0=>vv=.pointer (some ⟨rb,0,none⟩) | 1=>vv=.pointer (some ⟨rb,0,none⟩) | 2=>vv=.pointer (some ⟨rb,0,none⟩) | 3=>vv=.pointer (some ⟨rb,1,none⟩) | 4=>vv=sv | 5=>vv=.agg (ak x.s.1 x.s.2) | 6=>vv=.bool x.pv | 7=>vv=.int .i64 x.ru | 8=>vv=.int .i64 x.mn | 9=>vv=kv | 10=>vv=.agg (bG x kv) | 11=>∃ q6,vv=.slice (some ⟨q6,0,none⟩) 1 1/\Cl w1 q6 (bG x kv) 46/\W.heap.size<=q6 | 12=>w1.ownsRow base 46 21 vv (n+1) (xs ++ dS x kv)/\bQ W.heap.size sv vv | 13=>vv=.pointer (some ⟨rb,0,none⟩) | 14=>vv=.pointer (some ⟨rb,1,none⟩) | 15=>∃ aW,Cl w1 rb (mD c B vs aW) 71/\w1.ownsRow base 46 21 aW (n+1) (xs ++ dS x kv)/\bQ W.heap.size sv aW | _=>True:Nat->Value->World->Prop) j vv w->(fun ii vv w1=>match ii with | 0=>vv=.pointer (some ⟨rb,0,none⟩) | 1=>vv=.pointer (some ⟨rb,0,none⟩) | 2=>vv=.pointer (some ⟨rb,0,none⟩) | 3=>vv=.pointer (some ⟨rb,1,none⟩) | 4=>vv=sv | 5=>vv=.agg (ak x.s.1 x.s.2) | 6=>vv=.bool x.pv | 7=>vv=.int .i64 x.ru | 8=>vv=.int .i64 x.mn | 9=>vv=kv | 10=>vv=.agg (bG x kv) | 11=>∃ q6,vv=.slice (some ⟨q6,0,none⟩) 1 1/\Cl w1 q6 (bG x kv) 46/\W.heap.size<=q6 | 12=>w1.ownsRow base 46 21 vv (n+1) (xs ++ dS x kv)/\bQ W.heap.size sv vv | 13=>vv=.pointer (some ⟨rb,0,none⟩) | 14=>vv=.pointer (some ⟨rb,1,none⟩) | 15=>∃ aW,Cl w1 rb (mD c B vs aW) 71/\w1.ownsRow base 46 21 aW (n+1) (xs ++ dS x kv)/\bQ W.heap.size sv aW | _=>True:Nat->Value->World->Prop) j vv w':=by
 intro i j vv w w' hij hn hk h
 match j,h,hn,hij with
 | 0,h,_,_=>exact h
 | 1,h,_,_=>exact h
 | 2,h,_,_=>exact h
 | 3,h,_,_=>exact h
 | 4,h,_,_=>exact h
 | 5,h,_,_=>exact h
 | 6,h,_,_=>exact h
 | 7,h,_,_=>exact h
 | 8,h,_,_=>exact h
 | 9,h,_,_=>exact h
 | 10,h,_,_=>exact h
 | 13,h,_,_=>exact h
 | 14,h,_,_=>exact h
 | 11,h,_,_=>
  obtain⟨q,hv,hc,hq⟩:=h
  refine⟨q,hv,(hk.block q hc.lt (fun hf => ?_)).trans hc,hq⟩
  rcases hf with ⟨_,e⟩ | ⟨_,e⟩
  ·have:=hsv q e;omega
  ·omega
 | 12,h,_,hij=>
  refine⟨bV h.1 fun k e=>hk.block k (aT h.1 k e).2.1 (fun hf => ?_),h.2⟩
  rcases hf with ⟨e7,_⟩ | ⟨_,e2⟩
  ·exact hij e7
  ·rcases h.2 k e with h1 | h1
   ·exact hne (e2 ▸ h1)
   ·omega
 | 15,h,hn,hij=>
  have hno:∀ k,¬ Kl rb sv i k:=fun k hf=>by
   rcases hf with ⟨e7,_⟩ | ⟨e10,_⟩
   ·exact hn (by rw[e7];decide)
   ·exact hij e10
  obtain⟨aW,h1,h2,h3⟩:=h
  exact⟨aW,(hk.block rb h1.lt (hno rb)).trans h1,bV h2 fun k e=>hk.block k (aT h2 k e).2.1 (hno k),h3⟩
 | _+16,_,_,_=>trivial
structure SE (W w:World) (base rb c B vs n:Nat) (sv:Value) (xs:List Value) (done:Nat->Bool):Prop where
 kp:Kp (fun k=>k=rb\/sv.ownBlock=some k) W w
 row:done 12=false->w.ownsRow base 46 21 sv n xs
 run:done 15=false->Cl w rb (mD c B vs sv) 71
theorem SE.other {w w':World} {done:Nat->Bool} (h:SE W w base rb c B vs n sv xs done) (i:Nat) (hb:Below w.heap.size w w'):SE W w' base rb c B vs n sv xs (fun j=>j == i || done j):=by
 refine⟨h.kp.trans (Kp.of_below (S:=fun _=>False) hb) (fun _ hf=>hf.elim),fun hd => ?_,fun hd => ?_⟩
 ·simp only[Bool.or_eq_false_iff] at hd
  exact bV (h.row hd.2) fun k e=>hb.block k (aT (h.row hd.2) k e).2.1
 ·simp only[Bool.or_eq_false_iff] at hd
  exact(h.run hd.2).later hb
end
theorem oI (w:World) {base base' rb c B:Nat} {u sv:Value} {kvs:List Value} {R:Rs} (hR:gN w base rb c u sv kvs B R) {x:Stp} (hx:Ok x.s.1) {kv:Value} (hkv:w.ownsRow base' 3 1 kv x.kd.length (fJ x.kd)) (hbb:base<=base') (hsm:R.st.length<=100000) :
 Calls Tryz.prog 38 #[.pointer (some ⟨rb,0,none⟩),.agg (ak x.s.1 x.s.2),.bool x.pv,.int .i64 x.ru,.int .i64 x.mn,kv] w fun e w'=>e=.returned (.tuple #[.int .i64 (R.st.length:Int),.int .i64 0])/\∃ aW,gN w' base rb c u aW (kvs ++ [kv]) B ⟨R.t,R.st ++ [x],R.vs⟩/\bQ w.heap.size sv aW/\Kp (oh rb c u sv) w w':=by
 have hx16:=hx.1
 have HX:=show Hid (Ok x.s.1) from hx
 have Kn:=show Hid (∀ W:World,Below w.heap.size w W->W.ownsRow base' 3 1 kv x.kd.length (fJ x.kd)) from fun W hb=>bV hkv fun k e=>hb.block k (aT hkv k e).2.1
 have hk1:kv.oneCell'=true:=lY hkv
 obtain⟨kp,kn,kc,Vv⟩:∃ p n c,kv=.slice p n c:=by
  rcases hkv.2 with ⟨h1,_⟩ | ⟨g,cap,cur,h1,_⟩
  ·exact⟨_,_,_,h1⟩
  ·exact⟨_,_,_,h1⟩
 have TN:=show Hid (kv=.slice kp kn kc) from Vv
 have HR:=show Hid (gN w base rb c u sv kvs B R) from hR
 clear hx hkv hR Vv
 go_enter Tryz.func38,Tryz.ntmps38
 go_wp2_with (refine aI 27 _ rfl _ rfl rfl ?_)
 intro W b7 hn2
 have H2:=show Hid (gN W base rb c u sv kvs B R/\aX W b7 x.s.1 x.s.2/\Below w.heap.size w W) from⟨HR.out.later hn2.au,hn2.blk,hn2.au⟩
 clear hn2
 have lG:=show Hid (rb<W.heap.size/\(∀ k,sv.ownBlock=some k->k<W.heap.size)/\sv.ownBlock≠some rb/\base<=W.heap.size) from⟨H2.out.1.run.lt,fun k e=>(H2.out.1.dG.blk e).2.1,fun e=>(by obtain⟨_,_,cur,hc⟩:=H2.out.1.dG.blk e;exact absurd (dF hc H2.out.1.run) (by decide)),H2.out.1.bs.2⟩
 go_wp2_with fail
 refine kX (by kernel_rfl) [some 14,some 15,some 16,some 17,some 18,some 19,some 20,some 21,some 22,some 23,some 24,some 25,some 26,some 27,some 28,none] [[],[],[1],[2],[3],[],[],[],[],[],[5,6,7,8,9],[10],[4,11],[0],[13],[14,12]] [[],[],[1],[2,1],[3,2,1],[],[],[],[],[],[5,6,7,8,9],[10,5,6,7,8,9],[4,3,2,1,11,10,5,6,7,8,9],[0],[13,0],[14,13,0,12,4,3,2,1,11,10,5,6,7,8,9]] (by kernel_rfl) (by decide) (fun ii vv w1=>match ii with | 0=>vv=.pointer (some ⟨rb,0,none⟩) | 1=>vv=.pointer (some ⟨rb,0,none⟩) | 2=>vv=.pointer (some ⟨rb,0,none⟩) | 3=>vv=.pointer (some ⟨rb,1,none⟩) | 4=>vv=sv | 5=>vv=.agg (ak x.s.1 x.s.2) | 6=>vv=.bool x.pv | 7=>vv=.int .i64 x.ru | 8=>vv=.int .i64 x.mn | 9=>vv=kv | 10=>vv=.agg (bG x kv) | 11=>∃ q6,vv=.slice (some ⟨q6,0,none⟩) 1 1/\Cl w1 q6 (bG x kv) 46/\W.heap.size<=q6 | 12=>w1.ownsRow base 46 21 vv (R.st.length+1) (jW R.st kvs ++ dS x kv)/\bQ W.heap.size sv vv | 13=>vv=.pointer (some ⟨rb,0,none⟩) | 14=>vv=.pointer (some ⟨rb,1,none⟩) | 15=>∃ aW,Cl w1 rb (mD c B R.vs aW) 71/\w1.ownsRow base 46 21 aW (R.st.length+1) (jW R.st kvs ++ dS x kv)/\bQ W.heap.size sv aW | _=>True) (fun done w1=>SE W w1 base rb c B R.vs R.st.length sv (jW R.st kvs) done) (fun i w1 w2=>Kp (Kl rb sv i) w1 w2) (TM lG.out.1 lG.out.2.1 lG.out.2.2.1) ?start (bR 16 ?steps) ?fin
 case start=>exact⟨(Kp.refl _ _).drew,fun _=>bV H2.out.1.dG.row (fun _ _=>rfl),fun _=>H2.out.1.run⟩
 case steps=>
  refine⟨⟨⟨⟨⟨⟨⟨⟨⟨⟨⟨⟨⟨⟨⟨⟨trivial,?s0⟩,?s1⟩,?s2⟩,?s3⟩,?s4⟩,?s5⟩,?s6⟩,?s7⟩,?s8⟩,?s9⟩,?s10⟩,?s11⟩,?s12⟩,?s13⟩,?gG⟩,?s15⟩
  case s0=>
   intro done a w1 hS h0 hd hno hO hN
   have o0:a.tmps[0]?=some (.pointer (some ⟨rb,0,none⟩)):=outs hO 0 rfl
   exact ah rfl (.pointer (some ⟨rb,0,none⟩)) _ rfl (by go_simp) ⟨_,rfl,rfl,hS.other 0 (Below.refl _ _),Kp.refl _ _⟩
  case s1=>
   intro done a w1 hS h0 hd hno hO hN
   have o0:a.tmps[0]?=some (.pointer (some ⟨rb,0,none⟩)):=outs hO 0 rfl
   exact ah rfl (.pointer (some ⟨rb,0,none⟩)) _ rfl (by go_simp) ⟨_,rfl,rfl,hS.other 1 (Below.refl _ _),Kp.refl _ _⟩
  case s2=>
   intro done a w1 hS h0 hd hno hO hN
   obtain⟨v1,g1,r1⟩:=aj hN 1 15
   have e1:v1=.pointer (some ⟨rb,0,none⟩):=r1
   rw[e1] at g1
   exact ah rfl (.pointer (some ⟨rb,0,none⟩)) _ rfl (by go_simp) ⟨_,rfl,rfl,hS.other 2 (Below.refl _ _),Kp.refl _ _⟩
  case s3=>
   intro done a w1 hS h0 hd hno hO hN
   obtain⟨v2,g2,r2⟩:=aj hN 2 16
   have e2:v2=.pointer (some ⟨rb,0,none⟩):=r2
   rw[e2] at g2
   exact ah rfl (.pointer (some ⟨rb,1,none⟩)) _ rfl (by go_simp) ⟨_,rfl,rfl,hS.other 3 (Below.refl _ _),Kp.refl _ _⟩
  case s4=>
   intro done a w1 hS h0 hd hno hO hN
   obtain⟨v3,g3,r3⟩:=aj hN 3 17
   have e3:v3=.pointer (some ⟨rb,1,none⟩):=r3
   rw[e3] at g3
   have hc:w1.cell? ⟨rb,1,none⟩=some sv:=(hS.run (hno 15 (by decide))).cell 1
   exact ah rfl (sv) _ rfl (by go_simp) ⟨_,rfl,rfl,hS.other 4 (Below.refl _ _),Kp.refl _ _⟩
  case s5=>
   intro done a w1 hS h0 hd hno hO hN
   have o7:a.tmps[7]?=some (.pointer (some ⟨b7,0,none⟩)):=outs hO 7 rfl
   have jR:aX w1 b7 x.s.1 x.s.2:=(hS.kp.block b7 H2.out.2.1.lt (fun e=>(by
    rcases e with e | e
    ·have hx:=H2.out.2.1;rw[e] at hx;exact absurd (dF hx H2.out.1.run) (by decide)
    ·obtain⟨_,_,cur,hc⟩:=H2.out.1.dG.blk e;exact absurd (dF hc H2.out.2.1) (by decide)))).trans H2.out.2.1
   have hl5:=eZ w1 b7 jR hx16
   exact ah rfl (.agg (ak x.s.1 x.s.2)) _ rfl (by simp[execOp,Act.eval,o7,hl5,Result.andThen]) ⟨_,rfl,rfl,hS.other 5 (Below.refl _ _),Kp.refl _ _⟩
  case s6=>
   intro done a w1 hS h0 hd hno hO hN
   have o2:a.tmps[2]?=some (.bool x.pv):=outs hO 2 rfl
   exact ah rfl (.bool x.pv) _ rfl (by go_simp) ⟨_,rfl,rfl,hS.other 6 (Below.refl _ _),Kp.refl _ _⟩
  case s7=>
   intro done a w1 hS h0 hd hno hO hN
   have o3:a.tmps[3]?=some (.int .i64 x.ru):=outs hO 3 rfl
   exact ah rfl (.int .i64 x.ru) _ rfl (by go_simp) ⟨_,rfl,rfl,hS.other 7 (Below.refl _ _),Kp.refl _ _⟩
  case s8=>
   intro done a w1 hS h0 hd hno hO hN
   have o4:a.tmps[4]?=some (.int .i64 x.mn):=outs hO 4 rfl
   exact ah rfl (.int .i64 x.mn) _ rfl (by go_simp) ⟨_,rfl,rfl,hS.other 8 (Below.refl _ _),Kp.refl _ _⟩
  case s9=>
   intro done a w1 hS h0 hd hno hO hN
   have o5:a.tmps[5]?=some (kv):=outs hO 5 rfl
   exact ah rfl (kv) _ rfl (by go_simp) ⟨_,rfl,rfl,hS.other 9 (Below.refl _ _),Kp.refl _ _⟩
  case s10=>
   intro done a w1 hS h0 hd hno hO hN
   obtain⟨v5,g5,r5⟩:=aj hN 5 19
   have e5:v5=.agg (ak x.s.1 x.s.2):=r5
   rw[e5] at g5
   obtain⟨v6,g6,r6⟩:=aj hN 6 20
   have e6:v6=.bool x.pv:=r6
   rw[e6] at g6
   obtain⟨v7,g7,r7⟩:=aj hN 7 21
   have e7:v7=.int .i64 x.ru:=r7
   rw[e7] at g7
   obtain⟨v8,g8,r8⟩:=aj hN 8 22
   have e8:v8=.int .i64 x.mn:=r8
   rw[e8] at g8
   obtain⟨v9,g9,r9⟩:=aj hN 9 23
   have e9:v9=kv:=r9
   rw[e9] at g9
   rw[TN.out] at g9
   have hb1:=Ut w1 hx16 x.s.2 x.ru x.mn x.pv kp kn kc x.kd
   exact ah rfl (.agg (bG x kv)) _ rfl (by simp[execOp,Act.eval,g5,g6,g7,g8,g9,hb1,Result.andThen,TN.out]) ⟨_,rfl,rfl,hS.other 10 (Below.refl _ _),Kp.refl _ _⟩
  case s11=>
   intro done a w1 hS h0 hd hno hO hN
   obtain⟨v10,g10,bM⟩:=aj hN 10 24
   have e10:v10=.agg (bG x kv):=bM
   rw[e10] at g10
   have hb6:=Vk w1 hx16 kv
   have hsz:=hS.kp.size
   exact ah rfl (.slice (some ⟨w1.heap.size,0,none⟩) 1 1) (w1.alloc (.cells (bG x kv) 46)) rfl (by simp[execOp,Act.eval,g10,hb6,Result.andThen]) ⟨_,rfl,⟨w1.heap.size,rfl,heap_alloc_new w1 _,hsz⟩,hS.other 11 (av w1 _),Kp.of_below (av w1 _)⟩
  case s12=>
   intro done a w1 hS h0 hd hno hO hN
   obtain⟨v4,g4,r4⟩:=aj hN 4 18
   have e4:v4=sv:=r4
   rw[e4] at g4
   obtain⟨v11,g11,bP⟩:=aj hN 11 25
   obtain⟨q6,rfl,hc6,YX⟩:=bP
   obtain⟨i0,hi0,hz0,hz1,hz2⟩:=info_parts Oc
   have how:=hS.row h0
   obtain⟨Oj,w7,Hl,kC,qQ,_,mZ⟩:=run_append_own_at (P:=Tryz.prog) (w:=w1) base 33 33 46 i0 _ 21 184 Tryz.underlying33 hi0 hz0 hz1 hz2 rfl (by decide) sv R.st.length (jW R.st kvs) how ⟨q6,0,none⟩ 1 1 (dS x kv) (by rw[lX hx16]) (fun j q hq=>(by rw[Addr.add_lit,Nat.zero_add,hc6.cell];unfold bG;rw[List.getElem?_toArray];exact hq)) (xw x hk1) (by unfold maxLen;omega) (by omega) (Nat.le_trans lG.out.2.2.2 hS.kp.size)
   have fF:Kp (Kl rb sv 12) w1 w7:=⟨qQ.os,qQ.tape,qQ.output,qQ.size,fun k hk hn2=>qQ.block k hk (fun e=>hn2 (Or.inl ⟨rfl,e.symm⟩))⟩
   have hsz:=hS.kp.size
   refine ah rfl Oj w7 rfl (by simp[execOp,Act.eval,resolve,invoke,builtin,g4,g11,Hl,Result.andThen]) ⟨_,rfl,⟨kC,fun k e => ?_⟩,⟨hS.kp.trans fF (fun k hf => ?_),fun h=>(by simp at h),fun h => ?_⟩,fF⟩
   ·rcases mZ with h1 | h1
    ·exact Or.inl (h1 ▸ e)
    ·rw[h1] at e;cases e;exact Or.inr hsz
   ·rcases hf with ⟨_,e⟩ | ⟨e,_⟩
    ·exact Or.inl (Or.inr e)
    ·cases e
   ·have hr1:=hS.run (by simpa using h)
    refine(fF.block rb hr1.lt (fun hf => ?_)).trans hr1
    rcases hf with ⟨_,e⟩ | ⟨e,_⟩
    ·exact lG.out.2.2.1 e
    ·cases e
  case s13=>
   intro done a w1 hS h0 hd hno hO hN
   obtain⟨v0,g0,r0⟩:=aj hN 0 14
   have e0:v0=.pointer (some ⟨rb,0,none⟩):=r0
   rw[e0] at g0
   exact ah rfl (.pointer (some ⟨rb,0,none⟩)) _ rfl (by go_simp) ⟨_,rfl,rfl,hS.other 13 (Below.refl _ _),Kp.refl _ _⟩
  case gG=>
   intro done a w1 hS h0 hd hno hO hN
   obtain⟨v13,g13,bY⟩:=aj hN 13 27
   have e13:v13=.pointer (some ⟨rb,0,none⟩):=bY
   rw[e13] at g13
   exact ah rfl (.pointer (some ⟨rb,1,none⟩)) _ rfl (by go_simp) ⟨_,rfl,rfl,hS.other 14 (Below.refl _ _),Kp.refl _ _⟩
  case s15=>
   intro done a w1 hS h0 hd hno hO hN
   obtain⟨v14,g14,bZ⟩:=aj hN 14 28
   have e14:v14=.pointer (some ⟨rb,1,none⟩):=bZ
   rw[e14] at g14
   obtain⟨v12,g12,bT⟩:=aj hN 12 26
   obtain⟨kC,CX⟩:=bT
   have hr1:=hS.run h0
   obtain⟨p7,n7,c7,rfl⟩:∃ p n c,v12=.slice p n c:=by
    rcases kC.2 with ⟨h1,_⟩ | ⟨g,cap,cur,h1,_⟩
    ·exact⟨_,_,_,h1⟩
    ·exact⟨_,_,_,h1⟩
   have hk10:Kp (Kl rb sv 15) w1 (w1.setCell ⟨rb,1,none⟩ (.slice p7 n7 c7)):=⟨rfl,rfl,rfl,by simp[World.setCell],fun k _ hk=>Below.heap_setCell _ _ _ _ (fun e=>hk (Or.inr ⟨rfl,e⟩))⟩
   have d7:done 12=true:=hd 12 (by decide)
   refine je rfl rfl 33 (.tmp 28) (.tmp 26) rfl (by simp[Act.eval,g14]) (by simp[Act.eval,g12]) (Nn hr1 p7 n7 c7) ⟨_,rfl,⟨_,Np hr1 _,bV kC fun k e => ?_,CX⟩,⟨hS.kp.trans hk10 (fun k hf => ?_),fun h=>(by simp[d7] at h),fun h=>(by simp at h)⟩,hk10⟩
   ·refine hk10.block k (aT kC k e).2.1 (fun hf => ?_)
    rcases hf with ⟨e2,_⟩ | ⟨_,e2⟩
    ·cases e2
    ·subst e2
     obtain⟨_,_,cur,hc⟩:=aT kC _ e
     exact absurd (dF hc hr1) (by decide)
   ·rcases hf with ⟨e,_⟩ | ⟨_,e⟩
    ·cases e
    ·exact Or.inl (Or.inl e)
 case fin=>
  intro vs done w9 hdone hS hV
  obtain⟨Aa,Fb,J9,Fe⟩:∃ aW,Cl w9 rb (mD c B R.vs aW) 71/\w9.ownsRow base 46 21 aW (R.st.length+1) (jW R.st kvs ++ dS x kv)/\bQ W.heap.size sv aW:=hV 15 (by decide)
  obtain⟨Ka,hk10⟩:=H2.out.1.put (x:=x) HX.out (Kn.out W H2.out.2.2) hbb Fb J9 Fe hS.kp
  have HE:=show Hid (gN w9 base rb c u Aa (kvs ++ [kv]) B ⟨R.t,R.st ++ [x],R.vs⟩/\bQ w.heap.size sv Aa/\Kp (oh rb c u sv) w w9) from⟨Ka,fun k e=>(Fe k e).imp id (fun h=>Nat.le_trans H2.out.2.2.size h),(Kp.of_below (S:=oh rb c u sv) H2.out.2.2).trans hk10 (fun _ h=>Or.inl h)⟩
  obtain⟨p9,c9,Vw⟩:=Ka.dG.form
  have c1:w9.cell? ⟨rb,1,none⟩=some (.slice p9 (R.st.length+1) c9):=by
   have h:=Fb.cell 1
   have h2:Aa=.slice p9 (R.st ++ [x]).length c9:=Vw
   rw[List.length_append,List.length_singleton] at h2
   rw[h,<- h2]
   rfl
  simp only[bg,Act.put,List.setIfInBounds_toArray,List.set_cons_zero,List.set_cons_succ]
  clear hV hS H2 Fb J9 Fe hk10 Ka Vw Kn TN HR lG
  go_wp2_with fail
  go_ret2
  exact⟨by first|rfl | (congr 3;go_num),Aa,HE.out⟩
theorem qU {P:Program} {ops:Array Oper} {Q:Exit->Act->World->Prop} {id:Nat} {a0:Act} {w:World} (hm:P.follows .mixedOrders=true) (c:Nat) (Ff:Nat->Prop) (aV:List (Option Tmp)) (needs deps:List (List Nat)) (hc:mM .any ops aV needs a0.tmps.size=true) (hdp:tH needs deps ops.size=true) (V:Nat->Value->World->Prop)
 (hmono:∀ j v w1 w2,Below w1.heap.size w1 w2->V j v w1->V j v w2)
 (hfree:∀ j v w1 w2,j≠c->c ∉ deps.getD j []->Kp Ff w1 w2->V j v w1->V j v w2)
 (step:∀ i,i<ops.size->∀ a w1,((i=c\/i ∈ deps.getD c [])->Below w.drew.heap.size w.drew w1)->ow aV a0 a->(∀ j ∈ needs.getD i [],∃ v,Got a (aV.getD j none) v/\V j v w1) ->
  wpOp P ops Q i (fun a' w'=>∃ v,a'=a.put (aV.getD i none) v/\V i v w'/\(i≠c->Below w1.heap.size w1 w')/\(i=c->Kp Ff w1 w')) a w1)
 (fin:∀ (vs:Nat->Value) (w1:World),(∀ i,i<ops.size->V i (vs i) w1)->Q .normal (bg aV vs 0 a0) w1):(Code.region id ops true).wp P Q a0 w:=by
 refine kX hm aV needs deps hc hdp V (fun done w1=>done c=false->Below w.drew.heap.size w.drew w1) (fun i w1 w2=>(i≠c->Below w1.heap.size w1 w2)/\(i=c->Kp Ff w1 w2)) ?_ (fun _=>Below.refl _ _) ?_ ?_
 ·intro i j v w1 w2 hij hn hl hV
  by_cases e:i=c
  ·subst e
   exact hfree j v w1 w2 (fun e=>hij e.symm) hn (hl.2 rfl) hV
  ·exact hmono j v w1 w2 (hl.1 e) hV
 ·intro i hi done a w1 hS h0 hd hno hO hN
  refine wpOp_mono (fun a' w' h => ?_) (step i hi a w1 (fun h=>hS ?_) hO hN)
  ·obtain⟨v,h1,h2,h3,h4⟩:=h
   refine⟨v,h1,h2,fun hdone => ?_,h3,h4⟩
   simp only[Bool.or_eq_false_iff,beq_eq_false_iff_ne] at hdone
   have hb:=hS hdone.2
   exact hb.trans ((h3 (fun e=>hdone.1 e.symm)).mono hb.size)
  ·rcases h with rfl | h
   ·exact h0
   ·exact hno c h
 ·intro vs done w1 _ _ hV
  exact fin vs w1 hV
def gJ (q:Rs × Int × Stp):Rs × Int × Nat:=if q.2.1≠0 then (q.1,q.2.1,0) else (⟨q.1.t,q.1.st ++ [q.2.2],q.1.vs⟩,0,q.1.st.length)
def DP (w:World) (base rb c:Nat) (u sv:Value) (kvs:List Value) (B:Nat) (q:Rs × Int × Nat) (e:Ending) (w':World):Prop:=e=.returned (.tuple #[.int .i64 (q.2.2:Int),.int .i64 q.2.1])/\∃ u' aW bn,gN w' base rb c u' aW bn B q.1/\mJ w w' rb c u sv kvs u' aW bn
def zl (base rb c B n:Nat) (d:lK):Prop:=∀ (w:World) (u sv:Value) (kvs:List Value) (R:Rs) (s:SQ),gN w base rb c u sv kvs B R->Gd R->R.vs<=B->R.st.length<=R.vs->B<=R.vs+n->eD R.t.length s->Ok s.1 ->
 Calls Tryz.prog 18 #[.pointer (some ⟨rb,0,none⟩),.agg (ak s.1 s.2)] w fun e w'=>DP w base rb c u sv kvs B (d R s) e w'
def Ko (d:lK):Prop:=∀ (R:Rs) (s:SQ) (p:Nat),look R.st s=some p->d R s=(R,0,p)
theorem TP (B:Nat):∀ n,Ko (cu B n)
 | 0=>fun R s p h=>by
  unfold cu
  rw[h]
 | n+1=>fun R s p h=>by
  unfold cu
  rw[h]
structure CD (w0 W:World) (base rb c:Nat) (u0 sv0:Value) (dA:List Value) (u sv:Value) (kvs:List Value) (B:Nat) (R:Rs) (b3:Nat) (s:SQ) (kv:Value) (ks:List Nat) (rv mv:Value) (cs:List (Int × Int)):Prop where
 rn:gN W base rb c u sv kvs B R
 af:mJ w0 W rb c u0 sv0 dA u sv kvs
 s3:aX W b3 s.1 s.2
 kd:W.ownsRow w0.heap.size 3 1 kv ks.length (fJ ks)
 kn:∀ k,kv.ownBlock=some k->¬ Kb kvs k
 rr:W.ownsRow w0.heap.size 43 1 rv cs.length (i1 cs)
 mr:W.ownsRow w0.heap.size 3 1 mv cs.length (i2 cs)
 mq:∀ k,mv.ownBlock=some k->kv.ownBlock≠some k
section
variable {w0 W W':World} {base rb c:Nat} {u0 sv0 u sv u' aW:Value} {dA kvs bn:List Value} {B:Nat} {R R':Rs} {b3:Nat} {s:SQ} {kv rv mv:Value} {ks:List Nat} {cs:List (Int × Int)}
theorem CD.call (h:CD w0 W base rb c u0 sv0 dA u sv kvs B R b3 s kv ks rv mv cs) (hr:gN W' base rb c u' aW bn B R') (ha:mJ W W' rb c u sv kvs u' aW bn):CD w0 W' base rb c u0 sv0 dA u' aW bn B R' b3 s kv ks rv mv cs:=by
 have keep:∀ {e:TypeId} {bb n:Nat} {q:Value} {zs:List Value},e≠71->e≠68->e≠54->e≠46->W.ownsRow bb e 1 q n zs->W'.ownsRow bb e 1 q n zs:=fun h1 h2 h3 h4 ho=>bV ho fun k e=>by
  obtain⟨_,h5,cur,hc⟩:=aT ho k e
  exact ha.kp.block k h5 (h.rn.other hc h1 h2 h3 (Or.inl h4))
 refine⟨hr,h.af.trans ha,ha.cl h.s3 (h.rn.other h.s3 (by decide) (by decide) (by decide) (Or.inl (by decide))),keep (by decide) (by decide) (by decide) (by decide) h.kd,fun k e hb => ?_,keep (by decide) (by decide) (by decide) (by decide) h.rr,keep (by decide) (by decide) (by decide) (by decide) h.mr,h.mq⟩
 rcases ha.lk k hb with h1 | h1
 ·exact h.kn k e h1
 ·have:=(aT h.kd k e).2.1;omega
theorem CD.later (h:CD w0 W base rb c u0 sv0 dA u sv kvs B R b3 s kv ks rv mv cs) (hb:Below W.heap.size W W'):CD w0 W' base rb c u0 sv0 dA u sv kvs B R b3 s kv ks rv mv cs:=h.call (h.rn.later hb) (mJ.of_below hb)
theorem CD.drew (h:CD w0 W base rb c u0 sv0 dA u sv kvs B R b3 s kv ks rv mv cs):CD w0 W.drew base rb c u0 sv0 dA u sv kvs B R b3 s kv ks rv mv cs:=h.later (Below.refl _ _).drew
theorem CD.table (h:CD w0 W base rb c u0 sv0 dA u sv kvs B R b3 s kv ks rv mv cs) {t':List Nd} (ha:aO W c u t' W'):∃ u',CD w0 W' base rb c u0 sv0 dA u' sv kvs B ⟨t',R.st,R.vs⟩ b3 s kv ks rv mv cs:=by
 obtain⟨u',h1,h2⟩:=h.rn.table ha
 exact⟨u',h.call h1 h2⟩
theorem CD.app (h:CD w0 W base rb c u0 sv0 dA u sv kvs B R b3 s kv ks rv mv cs) (hg:W.grownBy W' kv.ownBlock) {ks':List Nat} {kv':Value} (ho:W'.ownsRow w0.heap.size 3 1 kv' ks'.length (fJ ks')) (hat:kv'.ownBlock=kv.ownBlock\/kv'.ownBlock=some W.heap.size):CD w0 W' base rb c u0 sv0 dA u sv kvs B R b3 s kv' ks' rv mv cs:=by
 have hk1:Kp (fun k=>kv.ownBlock=some k) W W':=⟨hg.os,hg.tape,hg.output,hg.size,fun k hk hn=>hg.block k hk (fun e=>hn e.symm)⟩
 have hi:∀ k,kv.ownBlock=some k->w0.heap.size<=k/\∃ cur,W.heap[k]?=some (.cells cur 3 (0,0)):=fun k e=>⟨(aT h.kd k e).1,(aT h.kd k e).2.2⟩
 refine⟨h.rn.keep hk1.size (fun k hf=>hk1.block k (h.rn.foot k hf) (fun e => ?_)) (fun k hb=>hk1.block k (h.rn.dG.kb hb).2.1 (fun e=>h.kn k e hb)),⟨h.af.lu,h.af.ls,h.af.lk,h.af.kp.trans hk1 (fun k e=>Or.inr (hi k e).1)⟩,(hk1.block b3 h.s3.lt (fun e => ?_)).trans h.s3,ho,fun k e hb => ?_,bV h.rr fun k e => ?_,bV h.mr fun k e=>hk1.block k (aT h.mr k e).2.1 (h.mq k e),fun k e e2 => ?_⟩
 ·obtain⟨_,cur,hc⟩:=hi k e
  exact h.rn.other hc (by decide) (by decide) (by decide) (Or.inl (by decide)) hf
 ·obtain⟨_,cur,hc⟩:=hi _ e
  exact absurd (dF hc h.s3) (by decide)
 ·rcases hat with h1 | h1
  ·exact h.kn k (h1 ▸ e) hb
  ·rw[h1] at e
   cases e
   have:=(h.rn.dG.kb hb).2.1
   omega
 ·obtain⟨_,h2,cur,hcc⟩:=aT h.rr k e
  refine hk1.block k h2 (fun e2 => ?_)
  obtain⟨_,yR,hc2⟩:=hi _ e2
  exact absurd (dF hcc hc2) (by decide)
 ·rcases hat with h1 | h1
  ·exact h.mq k e (h1 ▸ e2)
  ·rw[h1] at e2
   cases e2
   have:=(aT h.mr _ e).2.1
   omega
theorem CD.fin (h:CD w0 W base rb c u0 sv0 dA u sv kvs B R b3 s kv ks rv mv cs) {iJ:Value} (hk2:∀ k,iJ.ownBlock=some k->w0.heap.size<=k) {x:Stp} {aW:Value} (hr:gN W' base rb c u aW (kvs ++ [iJ]) B ⟨R.t,R.st ++ [x],R.vs⟩) (hl:bQ W.heap.size sv aW) (hk:Kp (oh rb c u sv) W W'):mJ w0 W' rb c u0 sv0 dA u aW (kvs ++ [iJ]):=by
 refine⟨h.af.lu,h.af.ls.trans hl h.af.kp.size,fun k hb => ?_,h.af.kp.trans hk fun _ hi=>h.af.foot hi⟩
 obtain⟨q,hq,e⟩:=hb
 rcases List.mem_append.1 hq with hq | hq
 ·exact h.af.lk k ⟨q,hq,e⟩
 ·obtain rfl:=List.mem_singleton.1 hq
  exact Or.inr (hk2 k e)
end
theorem eu.Vx {w w':World} {base rb c:Nat} {u sv u' aW:Value} {kvs bn:List Value} {B:Nat} {R:Rs} {pv:Value} {l:List SQ} (h:eu pv l w) (hr:gN w base rb c u sv kvs B R) (ha:mJ w w' rb c u sv kvs u' aW bn):eu pv l w':=h.kp fun k _ hc=>ha.kp.block k hc.lt (hr.other hc (by decide) (by decide) (by decide) (Or.inl (by decide)))
def NB (W:World) (l:List Nat) (v:Value) (w1:World):Prop:=∃ q,v=.slice (some ⟨q,0,none⟩) l.length l.length/\W.heap.size<=q/\Cl w1 q (fJ l).toArray 3
theorem NB.own {W w1:World} {l:List Nat} {v:Value} (h:NB W l v w1) (hl:l.length<=1000) {base:Nat} (hb:base<=W.heap.size):w1.ownsRow base 3 1 v l.length (fJ l)/\∀ k,v.ownBlock=some k->W.heap.size<=k:=by
 obtain⟨q,rfl,hq,hc⟩:=h
 refine⟨⟨by simp[fJ],Or.inr ⟨q,l.length,_,rfl,Nat.le_trans hb hq,hc,Nat.le_refl _,by unfold maxLen;omega,by simp[fJ,List.take_of_length_le],by simp[fJ,List.take_of_length_le]⟩⟩,fun k e => ?_⟩
 cases e
 exact hq
theorem WA (w:World) (m n:Int):(Instr.buildSlice 44 2 #[(0,.int .i64 m),(1,.int .i64 n)]).run Tryz.prog w=.ok (.slice (some ⟨w.heap.size,0,none⟩) 2 2) (w.alloc (.cells #[.int .i64 m,.int .i64 n] 3)):=by kernel_rfl
theorem oJ {w w':World} {b o:Nat} {v:Value} (h:w.cell? ⟨b,o,none⟩=some v) (hb:Below w.drew.heap.size w.drew w'):w'.cell? ⟨b,o,none⟩=some v:=(hb.cell (World.block_lt_of_cell? w _ h)).trans h
theorem NB.later {W w1 w2:World} {l:List Nat} {v:Value} (h:NB W l v w1) (hb:Below w1.heap.size w1 w2):NB W l v w2:=by
 obtain⟨q,hv,hq,hc⟩:=h
 exact⟨q,hv,hq,Cl.later hc hb⟩
theorem NB.kp {W w1 w2:World} {l:List Nat} {v:Value} {base rb c:Nat} {u sv:Value} {kvs:List Value} {B:Nat} {R:Rs} (h:NB W l v w1) (hR:gN W base rb c u sv kvs B R) (hk:Kp (oh rb c u sv) w1 w2):NB W l v w2:=by
 obtain⟨q,hv,hq,hc⟩:=h
 refine⟨q,hv,hq,(hk.block q hc.lt fun hf => ?_).trans hc⟩
 have:=hR.foot q hf
 omega
theorem DP.later {w w' w2:World} {base rb c:Nat} {u sv:Value} {kvs:List Value} {B:Nat} {q:Rs × Int × Nat} {e:Ending} (h:DP w base rb c u sv kvs B q e w') (hb:Below w'.heap.size w' w2):DP w base rb c u sv kvs B q e w2:=by
 obtain⟨he,u',aW,bn,hR,hA⟩:=h
 exact⟨he,u',aW,bn,hR.later hb,hA.trans (mJ.of_below hb)⟩
theorem Nr (d:lK) (R:Rs) (x:Stp) (p:SQ):eO d R x [p]=if (d R p).2.1≠0 then ((d R p).1,(d R p).2.1,dX) else if ((d R p).1.st.getD (d R p).2.2 dX).pv=false then ((d R p).1,0,⟨x.s,x.pv,x.ru,x.mn,[(d R p).2.2]⟩) else ((d R p).1,0,⟨x.s,true,x.ru,x.mn,x.kd ++ [(d R p).2.2]⟩):=rfl
theorem eu.app {W W':World} {pv:Value} {l:List SQ} (h:eu pv l W) {bb n:Nat} {kv:Value} {zs:List Value} (ho:W.ownsRow bb 3 1 kv n zs) (hg:W.grownBy W' kv.ownBlock):eu pv l W':=h.kp fun k _ hc=>hg.block k hc.lt fun e=>by
 obtain⟨_,_,cur,hcc⟩:=aT ho k e.symm
 exact absurd (dF hc hcc) (by decide)
end Go.Proofs.YtkejippimkjjaaaGreatDoor
