import Derived.Test.YtkejippimkjjaaaGreatDoorKG6
import Derived.Test.YtkejippimkjjaaaGreatDoorKG4
import Derived.Test.YtkejippimkjjaaaGreatDoorKCho
import Derived.Test.YtkejippimkjjaaaGreatDoorFG3
import Derived.Test.YtkejippimkjjaaaGreatDoorFG2
set_option linter.unusedSimpArgs false
set_option maxRecDepth 100000
set_option maxHeartbeats 4000000
namespace Go.Proofs.YtkejippimkjjaaaGreatDoor
open Go.RowKit Go.Shelf Go.Maps
open Fm (Nd)
open Bt.Bs (Ok wd)
def l9 (b B vs pm:Nat) (sv:Value):Array Value:=#[.pointer (some ⟨b,0,none⟩),.int .i64 (B:Int),.int .i64 (vs:Int),sv,.map (some pm)]
theorem Un (w:World) (r0 r1 r2 r3 r4 r5 r6 r7 r8 r9 bM bP bT bY bZ dI:Nat) (g ru mn:Int) (pv:Bool) (kd:List Nat) (kv:Value):(Instr.buildSlice 33 1 #[(0,.agg (bG ⟨([r0,r1,r2,r3,r4,r5,r6,r7,r8,r9,bM,bP,bT,bY,bZ,dI],g),pv,ru,mn,kd⟩ kv))]).run Tryz.prog w=.ok (.slice (some ⟨w.heap.size,0,none⟩) 1 1) (w.alloc (.cells (bG ⟨([r0,r1,r2,r3,r4,r5,r6,r7,r8,r9,bM,bP,bT,bY,bZ,dI],g),pv,ru,mn,kd⟩ kv) 46)):=by kernel_rfl
theorem Vk (w:World) {x:Stp} (hx:x.s.1.length=16) (kv:Value):(Instr.buildSlice 33 1 #[(0,.agg (bG x kv))]).run Tryz.prog w=.ok (.slice (some ⟨w.heap.size,0,none⟩) 1 1) (w.alloc (.cells (bG x kv) 46)):=by
 obtain⟨⟨r,g⟩,pv,ru,mn,kd⟩:=x
 simp only at hx
 match r,hx with
 | [r0,r1,r2,r3,r4,r5,r6,r7,r8,r9,bM,bP,bT,bY,bZ,dI],_=>exact Un ..
theorem P5 {w:World} {b B vs pm rb:Nat} {sv:Value} (h:Cl w rb (l9 b B vs pm sv) 62) (p:Option Addr) (n c:Nat):(Instr.storeAt 33 (.pointer (some ⟨rb,3,none⟩)) (.slice p n c)).run Tryz.prog w=.ok () (w.setCell ⟨rb,3,none⟩ (.slice p n c)):=by
 have hc:w.cell? ⟨rb,3,none⟩=some sv:=h.cell 3
 have hf:=h.fr 3
 go_simp
theorem run_set {w:World} {b B vs pm rb:Nat} {sv:Value} (h:Cl w rb (l9 b B vs pm sv) 62) (aW:Value):Cl (w.setCell ⟨rb,3,none⟩ aW) rb (l9 b B vs pm aW) 62:=heap_setCell_same w rb 3 _ _ _ h
def J7 (rb:Nat) (sv:Value) (i k:Nat):Prop:=(i=7/\sv.ownBlock=some k)\/(i=10/\k=rb)
section
variable {W:World} {base rb b B vs pm b8 n:Nat} {sv kv:Value} {x:Stp} {xs:List Value}
theorem Ta (hrb:rb<W.heap.size) (hsv:∀ k,sv.ownBlock=some k->k<W.heap.size) (hne:sv.ownBlock≠some rb):∀ (i j:Nat) (vv:Value) (w w':World),i≠j->i ∉ ([[],[],[1],[2,1],[3,2,1],[],[5],[4,3,2,1,6,5],[0],[8,0],[9,8,0,7,4,3,2,1,6,5]]:List (List Nat)).getD j []->Kp (J7 rb sv i) w w' ->
 (fun ii vv w1=>match ii with | 0=>vv=.pointer (some ⟨rb,0,none⟩) | 1=>vv=.pointer (some ⟨rb,0,none⟩) | 2=>vv=.pointer (some ⟨rb,0,none⟩) | 3=>vv=.pointer (some ⟨rb,3,none⟩) | 4=>vv=sv | 5=>vv=.agg (bG x kv) | 6=>∃ q,vv=.slice (some ⟨q,0,none⟩) 1 1/\Cl w1 q (bG x kv) 46/\W.heap.size<=q | 7=>w1.ownsRow base 46 21 vv (n+1) (xs ++ dS x kv)/\bQ W.heap.size sv vv | 8=>vv=.pointer (some ⟨rb,0,none⟩) | 9=>vv=.pointer (some ⟨rb,3,none⟩) | 10=>∃ aW,Cl w1 rb (l9 b B vs pm aW) 62/\w1.ownsRow base 46 21 aW (n+1) (xs ++ dS x kv)/\bQ W.heap.size sv aW | _=>True:Nat->Value->World->Prop) j vv w ->
 (fun ii vv w1=>match ii with | 0=>vv=.pointer (some ⟨rb,0,none⟩) | 1=>vv=.pointer (some ⟨rb,0,none⟩) | 2=>vv=.pointer (some ⟨rb,0,none⟩) | 3=>vv=.pointer (some ⟨rb,3,none⟩) | 4=>vv=sv | 5=>vv=.agg (bG x kv) | 6=>∃ q,vv=.slice (some ⟨q,0,none⟩) 1 1/\Cl w1 q (bG x kv) 46/\W.heap.size<=q | 7=>w1.ownsRow base 46 21 vv (n+1) (xs ++ dS x kv)/\bQ W.heap.size sv vv | 8=>vv=.pointer (some ⟨rb,0,none⟩) | 9=>vv=.pointer (some ⟨rb,3,none⟩) | 10=>∃ aW,Cl w1 rb (l9 b B vs pm aW) 62/\w1.ownsRow base 46 21 aW (n+1) (xs ++ dS x kv)/\bQ W.heap.size sv aW | _=>True:Nat->Value->World->Prop) j vv w':=by
 intro i j vv w w' hij hn hk h
 match j,h,hn,hij with
 | 0,h,_,_=>exact h
 | 1,h,_,_=>exact h
 | 2,h,_,_=>exact h
 | 3,h,_,_=>exact h
 | 4,h,_,_=>exact h
 | 5,h,_,_=>exact h
 | 6,h,_,_=>
  obtain⟨q,hv,hc,hq⟩:=h
  refine⟨q,hv,(hk.block q hc.lt (fun hf => ?_)).trans hc,hq⟩
  rcases hf with ⟨_,e⟩ | ⟨_,e⟩
  ·have:=hsv q e;omega
  ·omega
 | 7,h,_,hij=>
  refine⟨bV h.1 fun k e=>hk.block k (aT h.1 k e).2.1 (fun hf => ?_),h.2⟩
  rcases hf with ⟨e7,_⟩ | ⟨_,e2⟩
  ·exact hij e7
  ·rcases h.2 k e with h1 | h1
   ·exact hne (e2 ▸ h1)
   ·omega
 | 8,h,_,_=>exact h
 | 9,h,_,_=>exact h
 | 10,h,hn,hij=>
  have hno:∀ k,¬ J7 rb sv i k:=fun k hf=>by
   rcases hf with ⟨e7,_⟩ | ⟨e10,_⟩
   ·exact hn (by rw[e7];decide)
   ·exact hij e10
  obtain⟨aW,h1,h2,h3⟩:=h
  exact⟨aW,(hk.block rb h1.lt (hno rb)).trans h1,bV h2 fun k e=>hk.block k (aT h2 k e).2.1 (hno k),h3⟩
 | _+11,_,_,_=>trivial
structure SA (W w:World) (base rb b B vs pm b8 n:Nat) (sv kv:Value) (x:Stp) (xs:List Value) (done:Nat->Bool):Prop where
 kp:Kp (fun k=>k=rb\/sv.ownBlock=some k) W w
 row:done 7=false->w.ownsRow base 46 21 sv n xs
 run:done 10=false->Cl w rb (l9 b B vs pm sv) 62
theorem SA.other {w w':World} {done:Nat->Bool} (h:SA W w base rb b B vs pm b8 n sv kv x xs done) (i:Nat) (hb:Below w.heap.size w w'):SA W w' base rb b B vs pm b8 n sv kv x xs (fun j=>j == i || done j):=by
 refine⟨h.kp.trans (Kp.of_below (S:=fun _=>False) hb) (fun _ hf=>hf.elim),fun hd => ?_,fun hd => ?_⟩
 ·simp only[Bool.or_eq_false_iff] at hd
  exact bV (h.row hd.2) fun k e=>hb.block k (aT (h.row hd.2) k e).2.1
 ·simp only[Bool.or_eq_false_iff] at hd
  exact(h.run hd.2).later hb
end
theorem Rn.put {W W1 W2:World} {base base' rb pm b m:Nat} {v sv aW kv:Value} {kvs:List Value} {B:Nat} {R:Rs} {x:Stp} (h:Rn W base rb pm b m v sv kvs B R) (hx:Ok x.s.1) (hkv:W.ownsRow base' 3 1 kv x.kd.length (fJ x.kd)) (hb:base<=base')
 (hm1:∃ D',lM W1 pm D'/\mO D' (R.st ++ [x])) (hk1:Kp (fun k=>k=pm) W W1) (hrun:Cl W2 rb (l9 b B R.vs pm aW) 62) (hrow:W2.ownsRow base 46 21 aW (R.st.length+1) (jW R.st kvs ++ dS x kv)) (hl:bQ W1.heap.size sv aW) (hk2:Kp (fun k=>k=rb\/sv.ownBlock=some k) W1 W2) :
 Rn W2 base rb pm b m v aW (kvs ++ [kv]) B ⟨R.t,R.st ++ [x],R.vs⟩/\bQ W.heap.size sv aW/\Kp (pO rb pm b m v sv) W W2:=by
 have hk:Kp (fun k=>k=pm\/k=rb\/sv.ownBlock=some k) W W2:=Kp.trans (S:=fun k=>k=pm\/k=rb\/sv.ownBlock=some k) ⟨hk1.os,hk1.tape,hk1.output,hk1.size,fun k hk hn=>hk1.block k hk (fun e=>hn (Or.inl e))⟩ hk2 (fun i hi=>Or.inl (Or.inr hi))
 have yE:Kp (pO rb pm b m v sv) W W2:=⟨hk.os,hk.tape,hk.output,hk.size,fun k hlt hn=>hk.block k hlt (fun e=>by
  rcases e with e | e | e
  ·exact hn (Or.inr (Or.inl e))
  ·exact hn (Or.inl e)
  ·exact hn (Or.inr (Or.inr (Or.inl e))))⟩
 have hl2:bQ W.heap.size sv aW:=fun k e=>by
  rcases hl k e with h1 | h1
  ·exact Or.inl h1
  ·exact Or.inr (Nat.le_trans hk1.size h1)
 have zL:∀ k,Ft b m v k->¬ (k=pm\/k=rb\/sv.ownBlock=some k):=fun k hf e=>by
  rcases e with rfl | rfl | e
  ·obtain⟨D,hD,_⟩:=h.map
   obtain⟨es,cl,h5⟩:=lC hD
   rcases hf with rfl | rfl | e
   ·rw[h.tb.tab] at h5;cases h5
   ·exact h.ET rfl
   ·obtain⟨_,cur,hh⟩:=h.tb.row.lt _ e
    rw[h5] at hh;cases hh
  ·exact fI h.run (by decide) (by decide) h.tb hf
  ·obtain⟨_,_,cur,hc⟩:=h.dG.blk e
   exact fI hc (by decide) (by decide) h.tb hf
 have Tc:∀ k (cur:Array Value),W.heap[k]?=some (.cells cur 3 (0,0))->¬ (k=pm\/k=rb\/sv.ownBlock=some k):=fun k cur hc e=>by
  refine h.other hc (by decide) (by decide) (by decide) (Or.inl (by decide)) ?_
  rcases e with e | e | e
  ·exact Or.inr (Or.inl e)
  ·exact Or.inl e
  ·exact Or.inr (Or.inr (Or.inl e))
 obtain⟨D',hD',hT'⟩:=hm1
 refine⟨⟨hrun,h.tb.keep fun k hf=>hk.block k (h.tb.foot k hf) (zL k hf),yw h.tz yE h.ng,⟨fun y hy => ?_,?_,?_,fun i y u hy hu => ?_⟩,⟨D',sw hD' (hk2.block pm ?_ (fun e => ?_)),hT'⟩,⟨h.bs.1,h.bs.2.1,Nat.le_trans h.bs.2.2 hk.size⟩,fun hf => ?_,h.ET⟩,hl2,yE⟩
 ·rcases List.mem_append.1 hy with hy | hy
  ·exact h.dG.ok y hy
  ·obtain rfl:=List.mem_singleton.1 hy
   exact hx
 ·have:=h.dG.len
  simp[this]
 ·show W2.ownsRow base _ 21 aW (R.st ++ [x]).length _
  rw[uY x kv _ _ h.dG.len,List.length_append,List.length_singleton]
  exact hrow
 ·have hlen:=h.dG.len
  have keep:∀ {bb n:Nat} {u:Value} {zs:List Value},W.ownsRow bb 3 1 u n zs->W2.ownsRow bb 3 1 u n zs:=fun ho=>bV ho fun k e=>by
   obtain⟨_,h2,cur,hc⟩:=aT ho k e
   exact hk.block k h2 (Tc k cur hc)
  by_cases hi:i<R.st.length
  ·have hy:(R.st ++ [x])[i]?=some y:=hy
   rw[List.getElem?_append_left hi] at hy
   rw[List.getElem?_append_left (by omega)] at hu
   exact keep (h.dG.kid i y u hy hu)
  ·have hy:(R.st ++ [x])[i]?=some y:=hy
   rw[List.getElem?_append_right (by omega)] at hy
   rw[List.getElem?_append_right (by omega)] at hu
   have e0:i - R.st.length=0:=by
    have:=(List.getElem?_eq_some_iff.1 hy).1
    simp at this
    omega
   rw[e0] at hy
   rw[hlen,e0] at hu
   simp at hy hu
   subst hy
   subst hu
   exact iF (keep hkv) hb
 ·obtain⟨es,cl,h5⟩:=lC hD'
  exact lt_of_block h5
 ·obtain⟨es,cl,h5⟩:=lC hD'
  rcases e with e | e
  ·have:=h.run
   unfold Cl at this
   rw[<- e] at this
   obtain⟨D,hD,_⟩:=h.map
   obtain⟨es,cl,h6⟩:=lC hD
   rw[this] at h6
   cases h6
  ·obtain⟨_,_,cur,hc⟩:=h.dG.blk e
   obtain⟨D,hD,_⟩:=h.map
   obtain⟨es,cl,h6⟩:=lC hD
   rw[hc] at h6
   cases h6
 ·rcases hf with e | e | e | e
  ·exact h.ng (Or.inl e)
  ·exact h.ng (Or.inr (Or.inl e))
  ·rcases hl2 _ e with h1 | h1
   ·exact h.ng (Or.inr (Or.inr (Or.inl h1)))
   ·have:=Bt.pW h.tz
    omega
  ·exact h.ng (Or.inr (Or.inr (Or.inr e)))
theorem Rn.visit {W W1:World} {base rb pm b m:Nat} {v sv:Value} {kvs:List Value} {B:Nat} {R:Rs} (h:Rn W base rb pm b m v sv kvs B R) (hc:Cl W1 rb (l9 b B (R.vs+1) pm sv) 62) (hk:dY rb W W1):Rn W1 base rb pm b m v sv kvs B ⟨R.t,R.st,R.vs+1⟩/\gM W W1 rb pm b m v sv kvs v sv kvs:=by
 have yE:Kp (pO rb pm b m v sv) W W1:=⟨hk.os,hk.tape,hk.output,hk.size,fun k hlt hn=>hk.block k hlt (fun e=>hn (Or.inl e))⟩
 obtain⟨D,hD,hT⟩:=h.map
 refine⟨⟨hc,h.tb.keep fun k hf=>hk.block k (h.tb.foot k hf) (fun e => ?_),yw h.tz yE h.ng,h.dG.keep (fun k e=>hk.block k (h.dG.blk e).2.1 (fun e2 => ?_)) (fun k hb=>hk.block k (h.dG.kb hb).2.1 (fun e => ?_)),⟨D,sw hD (hk.block pm h.MI (fun e => ?_)),hT⟩,⟨h.bs.1,h.bs.2.1,Nat.le_trans h.bs.2.2 hk.size⟩,h.ng,h.ET⟩,⟨bQ.refl _ _,bQ.refl _ _,fun _ h=>Or.inl h,yE⟩⟩
 ·subst e
  exact fI h.run (by decide) (by decide) h.tb hf
 ·subst e2
  obtain⟨_,_,cur,hc2⟩:=h.dG.blk e
  exact absurd (dF hc2 h.run) (by decide)
 ·subst e
  exact h.dG.wJ h.run (by decide) hb
 ·subst e
  obtain⟨es,cl,h6⟩:=lC hD
  have:=h.run
  unfold Cl at this
  rw[h6] at this
  cases this
section
variable {ops:Array Oper} {rest:List Oper} {o:Oper} {a:Act} {Q:Exit->Act->World->Prop} {w:World}
theorem P6 {b B vs pm rb:Nat} {sv:Value} (h:Cl w rb (l9 b B vs pm sv) 62) (y:Int):(Instr.storeAt 3 (.pointer (some ⟨rb,2,none⟩)) (.int .i64 y)).run Tryz.prog w=.ok () (w.setCell ⟨rb,2,none⟩ (.int .i64 y)):=by
 have hc:w.cell? ⟨rb,2,none⟩=some (.int .i64 (vs:Int)):=h.cell 2
 have hf:=h.fr 2
 go_simp
theorem Hf (hg:o.guard=none) (hd:o.dst=none) (x y:Operand) (hop:o.op=Op.store 3 x y) (rb:Nat) (hx:a.eval x=.pointer (some ⟨rb,2,none⟩)) (vs':Nat) (hy:a.eval y=.int .i64 (vs':Int)) {b B vs pm:Nat} {sv:Value} (h:Cl w rb (l9 b B vs pm sv) 62)
 (hK:∀ w',Cl w' rb (l9 b B vs' pm sv) 62->dY rb w w'->wpList Tryz.prog ops Q rest a w'):wpList Tryz.prog ops Q (o :: rest) a w:=by
 refine wpList_plain hg fun K' hK' => ?_
 have hrun:=P6 h (vs':Int)
 unfold Oper.wp
 simp[execOp,hop,hx,hy,hrun,Result.andThen]
 rw[Oper.upon_skip,hd]
 exact hK' _ _ (hK _ (heap_setCell_same w rb 2 _ _ _ h) (mG w rb 2 _))
end
def mh (B:Nat) (R:Rs) (s:SQ) (q:Rs × Int × Stp):Rs × Int × Nat:=match look R.st s with
 | some p=>(R,0,p)
 | none=>if R.vs=B then (R,110,0) else if q.2.1≠0 then (q.1,q.2.1,0) else (⟨q.1.t,q.1.st ++ [q.2.2],q.1.vs⟩,0,q.1.st.length)
structure DL (w0 W:World) (base rb pm b m:Nat) (v0 sv0:Value) (dA:List Value) (v sv:Value) (kvs:List Value) (B:Nat) (R:Rs) (b3:Nat) (s:SQ):Prop where
 rn:Rn W base rb pm b m v sv kvs B R
 af:gM w0 W rb pm b m v0 sv0 dA v sv kvs
 s3:aX W b3 s.1 s.2
section
variable {w0 W W':World} {base rb pm b m:Nat} {v0 sv0 v sv v' aW:Value} {dA kvs bn:List Value} {B:Nat} {R R':Rs} {b3:Nat} {s:SQ}
theorem DL.call (h:DL w0 W base rb pm b m v0 sv0 dA v sv kvs B R b3 s) (hr:Rn W' base rb pm b m v' aW bn B R') (ha:gM W W' rb pm b m v sv kvs v' aW bn):DL w0 W' base rb pm b m v0 sv0 dA v' aW bn B R' b3 s :=
 ⟨hr,h.af.trans ha,ha.cl h.s3 (h.rn.other h.s3 (by decide) (by decide) (by decide) (Or.inl (by decide)))⟩
theorem DL.later (h:DL w0 W base rb pm b m v0 sv0 dA v sv kvs B R b3 s) (hb:Below W.heap.size W W'):DL w0 W' base rb pm b m v0 sv0 dA v sv kvs B R b3 s:=h.call (h.rn.later hb) (gM.of_below hb)
theorem DL.drew (h:DL w0 W base rb pm b m v0 sv0 dA v sv kvs B R b3 s):DL w0 W.drew base rb pm b m v0 sv0 dA v sv kvs B R b3 s:=h.later (Below.refl _ _).drew
end
theorem CV {base rb pm b m B:Nat} (w:World) {v sv:Value} {kvs:List Value} {R:Rs} (hR:Rn w base rb pm b m v sv kvs B R) (hB:B<=4096) (hvs:R.vs<=B) {s:SQ} (hs:gq s) (q:Rs × Int × Stp)
 (hE:R.vs≠B->look R.st s=none->(∀ (W:World) (v' aW:Value) (bn:List Value),Rn W base rb pm b m v' aW bn B ⟨R.t,R.st,R.vs+1⟩->Calls Tryz.prog 31 #[.pointer (some ⟨rb,0,none⟩),.agg (ak s.1 s.2)] W fun e w'=>He W base rb pm b m v' aW bn B q e w')/\q.2.2.s.1.length=16/\(q.2.1=0->q.2.2.s=s/\q.1.st.length<=4096)) :
 Calls Tryz.prog 15 #[.pointer (some ⟨rb,0,none⟩),.agg (ak s.1 s.2)] w fun e w'=>e=.returned (.tuple #[.int .i64 ((mh B R s q).2.2:Int),.int .i64 (mh B R s q).2.1])/\∃ v' aW bn,Rn w' base rb pm b m v' aW bn B (mh B R s q).1/\gM w w' rb pm b m v sv kvs v' aW bn:=by
 have hl:=hs.1.1
 have wN:=show Hid (0<w.heap.size) from Bt.pW hR.tz
 have HS:=show Hid (gq s) from hs
 have HE:=show Hid _ from hE
 have z8:=show Hid (mh B R s q=match look R.st s with | some p=>(R,0,p) | none=>if R.vs=B then (R,110,0) else if q.2.1≠0 then (q.1,q.2.1,0) else (⟨q.1.t,q.1.st ++ [q.2.2],q.1.vs⟩,0,q.1.st.length)) from rfl
 have J8:=show Hid (∀ W:World,∀ v' aW:Value,∀ bn:List Value,Rn W base rb pm b m v' aW bn B R->(Instr.lookup 60 (.map (some pm)) (.agg (ak s.1 s.2)) true).run Tryz.prog W=.ok (.tuple #[.int .i64 (((look R.st s).getD 0:Nat):Int),.bool (look R.st s).isSome]) W) from fun W v' aW bn h=>by
  obtain⟨D,hD,hT⟩:=h.map
  exact Ui hD hT hs
 generalize mh B R s q=X at *
 have YV:=show Hid (base<=w.heap.size) from hR.bs.2.2
 clear hE hs
 generalize look R.st s=lo at *
 go_enter Tryz.func15,Tryz.ntmps15
 go_wp2_with (refine aI 27 _ rfl _ rfl rfl ?_)
 intro w2 b3 hn2
 have H2:=show Hid (DL w w2 base rb pm b m v sv kvs v sv kvs B R b3 s) from⟨hR.later hn2.au,gM.of_below hn2.au,hn2.blk⟩
 clear hn2 hR
 go_wp2_with fail
 refine dO (by kernel_rfl) 5 [some 12,some 13,some 14,some 15,some 16,some 17,some 11,some 18,some 19,some 6,some 7] [[],[0],[1],[2],[],[3,4],[5],[6],[6],[7],[8]] [[],[0],[1,0],[2,1,0],[],[3,2,1,0,4],[5,3,2,1,0,4],[6,5,3,2,1,0,4],[6,5,3,2,1,0,4],[7,6,5,3,2,1,0,4],[8,6,5,3,2,1,0,4]] (by kernel_rfl) (by decide) (fun ii vv w1=>match ii with | 0=>vv=.pointer (some ⟨rb,0,none⟩) | 1=>vv=.pointer (some ⟨rb,0,none⟩) | 2=>vv=.pointer (some ⟨rb,4,none⟩) | 3=>vv=.map (some pm) | 4=>vv=.agg (ak s.1 s.2) | 5=>vv=.tuple #[.int .i64 ((lo.getD 0:Nat):Int),.bool lo.isSome]/\w1=w2.drew | 6=>vv=.tuple #[.int .i64 ((lo.getD 0:Nat):Int),.bool lo.isSome] | 7=>vv=.int .i64 ((lo.getD 0:Nat):Int) | 8=>vv=.bool lo.isSome | 9=>vv=.int .i64 ((lo.getD 0:Nat):Int) | 10=>vv=.bool lo.isSome | _=>True) ?hfree (bR 11 ?steps) ?fin
 case hfree=>
  intro j v w1 w2 hj hn h
  match j,h,hj,hn with
  | 0,h,_,_=>exact h
  | 1,h,_,_=>exact h
  | 2,h,_,_=>exact h
  | 3,h,_,_=>exact h
  | 4,h,_,_=>exact h
  | 5,_,hj,_=>exact absurd rfl hj
  | 6,_,_,hn=>exact absurd (by decide) hn
  | 7,_,_,hn=>exact absurd (by decide) hn
  | 8,_,_,hn=>exact absurd (by decide) hn
  | 9,_,_,hn=>exact absurd (by decide) hn
  | 10,_,_,hn=>exact absurd (by decide) hn
  | _+11,_,_,_=>trivial
 case steps=>
  refine⟨⟨⟨⟨⟨⟨⟨⟨⟨⟨⟨trivial,?s0⟩,?s1⟩,?s2⟩,?s3⟩,?s4⟩,?s5⟩,?s6⟩,?s7⟩,?s8⟩,?s9⟩,?s10⟩
  case s0=>
   intro a w1 hw hO hN
   obtain rfl:w1=w2.drew:=hw (by decide)
   have o0:a.tmps[0]?=some (.pointer (some ⟨rb,0,none⟩)):=outs hO 0 rfl
   exact ah rfl (.pointer (some ⟨rb,0,none⟩)) _ rfl (by go_simp) ⟨_,rfl,rfl,fun _=>rfl⟩
  case s1=>
   intro a w1 hw hO hN
   obtain rfl:w1=w2.drew:=hw (by decide)
   obtain⟨v0,g0,r0⟩:=aj hN 0 12
   have e0:v0=.pointer (some ⟨rb,0,none⟩):=r0
   rw[e0] at g0
   exact ah rfl (.pointer (some ⟨rb,0,none⟩)) _ rfl (by go_simp) ⟨_,rfl,rfl,fun _=>rfl⟩
  case s2=>
   intro a w1 hw hO hN
   obtain rfl:w1=w2.drew:=hw (by decide)
   obtain⟨v1,g1,r1⟩:=aj hN 1 13
   have e1:v1=.pointer (some ⟨rb,0,none⟩):=r1
   rw[e1] at g1
   exact ah rfl (.pointer (some ⟨rb,4,none⟩)) _ rfl (by go_simp) ⟨_,rfl,rfl,fun _=>rfl⟩
  case s3=>
   intro a w1 hw hO hN
   obtain rfl:w1=w2.drew:=hw (by decide)
   obtain⟨v2,g2,r2⟩:=aj hN 2 14
   have e2:v2=.pointer (some ⟨rb,4,none⟩):=r2
   rw[e2] at g2
   have hc:w2.drew.cell? ⟨rb,4,none⟩=some (.map (some pm)):=H2.out.drew.rn.run.cell 4
   exact ah rfl (.map (some pm)) _ rfl (by go_simp) ⟨_,rfl,rfl,fun _=>rfl⟩
  case s4=>
   intro a w1 hw hO hN
   obtain rfl:w1=w2.drew:=hw (by decide)
   have o3:a.tmps[3]?=some (.pointer (some ⟨b3,0,none⟩)):=outs hO 3 rfl
   have hl:=eZ w2.drew b3 H2.out.drew.s3 hl
   exact ah rfl (.agg (ak s.1 s.2)) _ rfl (by simp[execOp,Act.eval,o3,hl,Result.andThen]) ⟨_,rfl,rfl,fun _=>rfl⟩
  case s5=>
   intro a w1 hw hO hN
   obtain rfl:w1=w2.drew:=hw (by decide)
   obtain⟨v3,g3,r3⟩:=aj hN 3 15
   have e3:v3=.map (some pm):=r3
   rw[e3] at g3
   obtain⟨v4,g4,r4⟩:=aj hN 4 16
   have e4:v4=.agg (ak s.1 s.2):=r4
   rw[e4] at g4
   have hk:=J8.out w2.drew v sv kvs H2.out.drew.rn
   exact ah rfl (.tuple #[.int .i64 ((lo.getD 0:Nat):Int),.bool lo.isSome]) _ rfl (by simp[execOp,Act.eval,g3,g4,hk,Result.andThen]) ⟨_,rfl,⟨rfl,rfl⟩,fun h=>absurd rfl h⟩
  case s6=>
   intro a w1 hw hO hN
   obtain⟨v5,g5,r5⟩:=aj hN 5 17
   obtain⟨rfl,_⟩:=r5
   exact ah rfl (.tuple #[.int .i64 ((lo.getD 0:Nat):Int),.bool lo.isSome]) _ rfl (by go_simp) ⟨_,rfl,rfl,fun _=>rfl⟩
  case s7=>
   intro a w1 hw hO hN
   obtain⟨v6,g6,r6⟩:=aj hN 6 11
   have e6:v6=.tuple #[.int .i64 ((lo.getD 0:Nat):Int),.bool lo.isSome]:=r6
   rw[e6] at g6
   exact ah rfl (.int .i64 ((lo.getD 0:Nat):Int)) _ rfl (by go_simp) ⟨_,rfl,rfl,fun _=>rfl⟩
  case s8=>
   intro a w1 hw hO hN
   obtain⟨v6,g6,r6⟩:=aj hN 6 11
   have e6:v6=.tuple #[.int .i64 ((lo.getD 0:Nat):Int),.bool lo.isSome]:=r6
   rw[e6] at g6
   exact ah rfl (.bool lo.isSome) _ rfl (by go_simp) ⟨_,rfl,rfl,fun _=>rfl⟩
  case s9=>
   intro a w1 hw hO hN
   obtain⟨v7,g7,r7⟩:=aj hN 7 18
   have e7:v7=.int .i64 ((lo.getD 0:Nat):Int):=r7
   rw[e7] at g7
   exact ah rfl (.int .i64 ((lo.getD 0:Nat):Int)) _ rfl (by go_simp) ⟨_,rfl,rfl,fun _=>rfl⟩
  case s10=>
   intro a w1 hw hO hN
   obtain⟨v8,g8,r8⟩:=aj hN 8 19
   have e8:v8=.bool lo.isSome:=r8
   rw[e8] at g8
   exact ah rfl (.bool lo.isSome) _ rfl (by go_simp) ⟨_,rfl,rfl,fun _=>rfl⟩
 case fin=>
  intro vs w1 hV
  obtain⟨_,rfl⟩:vs 5=.tuple #[.int .i64 ((lo.getD 0:Nat):Int),.bool lo.isSome]/\w1=w2.drew:=hV 5 (by decide)
  have e9:vs 9=.int .i64 ((lo.getD 0:Nat):Int):=hV 9 (by decide)
  have e10:vs 10=.bool lo.isSome:=hV 10 (by decide)
  have H3:=show Hid _ from H2.out.drew
  clear H2 hV J8
  simp only[bg,Act.put,List.setIfInBounds_toArray,List.set_cons_zero,List.set_cons_succ,e9,e10]
  clear e9 e10
  generalize w2.drew=w3 at *
  cases lo with
  | some p=>
   have hX:X=(R,0,p):=z8.out
   subst hX
   simp only[Option.isSome_some,Option.getD_some]
   go_wp2_with fail
   go_ret2
   exact⟨rfl,v,sv,kvs,H3.out.rn,H3.out.af⟩
  | none=>
   simp only[Option.isSome_none,Option.getD_none]
   have HX:=show Hid (X=if R.vs=B then (R,110,0) else if q.2.1≠0 then (q.1,q.2.1,0) else (⟨q.1.t,q.1.st ++ [q.2.2],q.1.vs⟩,0,q.1.st.length)) from z8.out
   clear z8
   go_wp2_with fail
   refine dO (by kernel_rfl) 8 [some 22,some 23,some 24,some 25,some 26,some 27,some 28,some 29,some 30] [[],[0],[1],[2],[],[4],[5],[6],[3,7]] [[],[0],[1,0],[2,1,0],[],[4],[5,4],[6,5,4],[3,2,1,0,7,6,5,4]] (by kernel_rfl) (by decide) (fun ii vv w1=>match ii with | 0=>vv=.pointer (some ⟨rb,0,none⟩) | 1=>vv=.pointer (some ⟨rb,0,none⟩) | 2=>vv=.pointer (some ⟨rb,2,none⟩) | 3=>vv=.int .i64 (R.vs:Int) | 4=>vv=.pointer (some ⟨rb,0,none⟩) | 5=>vv=.pointer (some ⟨rb,0,none⟩) | 6=>vv=.pointer (some ⟨rb,1,none⟩) | 7=>vv=.int .i64 (B:Int) | 8=>vv=.bool ((R.vs:Int) == (B:Int))/\w1=w3.drew | _=>True) ?hfree (bR 9 ?steps) ?fin
   case hfree=>
    intro j v w1 w2 hj hn h
    match j,h,hj,hn with
    | 0,h,_,_=>exact h
    | 1,h,_,_=>exact h
    | 2,h,_,_=>exact h
    | 3,h,_,_=>exact h
    | 4,h,_,_=>exact h
    | 5,h,_,_=>exact h
    | 6,h,_,_=>exact h
    | 7,h,_,_=>exact h
    | 8,_,hj,_=>exact absurd rfl hj
    | _+9,_,_,_=>trivial
   case steps=>
    refine⟨⟨⟨⟨⟨⟨⟨⟨⟨trivial,?s0⟩,?s1⟩,?s2⟩,?s3⟩,?s4⟩,?s5⟩,?s6⟩,?s7⟩,?s8⟩
    case s0=>
     intro a w1 hw hO hN
     obtain rfl:w1=w3.drew:=hw (by decide)
     have o0:a.tmps[0]?=some (.pointer (some ⟨rb,0,none⟩)):=outs hO 0 rfl
     exact ah rfl (.pointer (some ⟨rb,0,none⟩)) _ rfl (by go_simp) ⟨_,rfl,rfl,fun _=>rfl⟩
    case s1=>
     intro a w1 hw hO hN
     obtain rfl:w1=w3.drew:=hw (by decide)
     obtain⟨v0,g0,r0⟩:=aj hN 0 22
     have e0:v0=.pointer (some ⟨rb,0,none⟩):=r0
     rw[e0] at g0
     exact ah rfl (.pointer (some ⟨rb,0,none⟩)) _ rfl (by go_simp) ⟨_,rfl,rfl,fun _=>rfl⟩
    case s2=>
     intro a w1 hw hO hN
     obtain rfl:w1=w3.drew:=hw (by decide)
     obtain⟨v1,g1,r1⟩:=aj hN 1 23
     have e1:v1=.pointer (some ⟨rb,0,none⟩):=r1
     rw[e1] at g1
     exact ah rfl (.pointer (some ⟨rb,2,none⟩)) _ rfl (by go_simp) ⟨_,rfl,rfl,fun _=>rfl⟩
    case s3=>
     intro a w1 hw hO hN
     obtain rfl:w1=w3.drew:=hw (by decide)
     obtain⟨v2,g2,r2⟩:=aj hN 2 24
     have e2:v2=.pointer (some ⟨rb,2,none⟩):=r2
     rw[e2] at g2
     have hc:w3.drew.cell? ⟨rb,2,none⟩=some (.int .i64 (R.vs:Int)):=H3.out.drew.rn.run.cell 2
     exact ah rfl (.int .i64 (R.vs:Int)) _ rfl (by go_simp) ⟨_,rfl,rfl,fun _=>rfl⟩
    case s4=>
     intro a w1 hw hO hN
     obtain rfl:w1=w3.drew:=hw (by decide)
     have o0:a.tmps[0]?=some (.pointer (some ⟨rb,0,none⟩)):=outs hO 0 rfl
     exact ah rfl (.pointer (some ⟨rb,0,none⟩)) _ rfl (by go_simp) ⟨_,rfl,rfl,fun _=>rfl⟩
    case s5=>
     intro a w1 hw hO hN
     obtain rfl:w1=w3.drew:=hw (by decide)
     obtain⟨v4,g4,r4⟩:=aj hN 4 26
     have e4:v4=.pointer (some ⟨rb,0,none⟩):=r4
     rw[e4] at g4
     exact ah rfl (.pointer (some ⟨rb,0,none⟩)) _ rfl (by go_simp) ⟨_,rfl,rfl,fun _=>rfl⟩
    case s6=>
     intro a w1 hw hO hN
     obtain rfl:w1=w3.drew:=hw (by decide)
     obtain⟨v5,g5,r5⟩:=aj hN 5 27
     have e5:v5=.pointer (some ⟨rb,0,none⟩):=r5
     rw[e5] at g5
     exact ah rfl (.pointer (some ⟨rb,1,none⟩)) _ rfl (by go_simp) ⟨_,rfl,rfl,fun _=>rfl⟩
    case s7=>
     intro a w1 hw hO hN
     obtain rfl:w1=w3.drew:=hw (by decide)
     obtain⟨v6,g6,r6⟩:=aj hN 6 28
     have e6:v6=.pointer (some ⟨rb,1,none⟩):=r6
     rw[e6] at g6
     have hc:w3.drew.cell? ⟨rb,1,none⟩=some (.int .i64 (B:Int)):=H3.out.drew.rn.run.cell 1
     exact ah rfl (.int .i64 (B:Int)) _ rfl (by go_simp) ⟨_,rfl,rfl,fun _=>rfl⟩
    case s8=>
     intro a w1 hw hO hN
     obtain rfl:w1=w3.drew:=hw (by decide)
     obtain⟨v3,g3,r3⟩:=aj hN 3 25
     have e3:v3=.int .i64 (R.vs:Int):=r3
     rw[e3] at g3
     obtain⟨v7,g7,r7⟩:=aj hN 7 29
     have e7:v7=.int .i64 (B:Int):=r7
     rw[e7] at g7
     exact ah rfl (.bool ((R.vs:Int) == (B:Int))) _ rfl (by go_simp) ⟨_,rfl,⟨rfl,rfl⟩,fun h=>absurd rfl h⟩
   case fin=>
    intro vs w1 hV
    obtain⟨e8,rfl⟩:vs 8=.bool ((R.vs:Int) == (B:Int))/\w1=w3.drew:=hV 8 (by decide)
    have H4:=show Hid _ from H3.out.drew
    clear H3 hV
    simp only[bg,Act.put,List.setIfInBounds_toArray,List.set_cons_zero,List.set_cons_succ,e8]
    clear e8
    generalize w3.drew=w4 at *
    by_cases hvB:R.vs=B
    ·have heq:((R.vs:Int) == (B:Int))=true:=by rw[hvB];simp
     have hX:X=(R,110,0):=by rw[HX.out,if_pos hvB]
     subst hX
     rw[heq]
     clear HX heq
     go_wp2_with fail
     go_ret2
     exact⟨rfl,v,sv,kvs,H4.out.rn,H4.out.af⟩
    ·have heq:((R.vs:Int) == (B:Int))=false:=by rw[beq_eq_false_iff_ne];intro h;exact hvB (by omega)
     rw[heq]
     have hX2:X=if q.2.1≠0 then (q.1,q.2.1,0) else (⟨q.1.t,q.1.st ++ [q.2.2],q.1.vs⟩,0,q.1.st.length):=by rw[HX.out,if_neg hvB]
     have sI:=show Hid _ from hX2
     obtain⟨hK,Hg,hq0⟩:=HE.out hvB (by trivial)
     have HK:=show Hid _ from hK
     have Vl:=show Hid (q.2.1=0->q.2.2.s=s/\q.1.st.length<=4096) from hq0
     clear HX heq hX2 HE hK hq0
     have c2:w4.cell? ⟨rb,2,none⟩=some (.int .i64 (R.vs:Int)):=H4.out.rn.run.cell 2
     have hvl:R.vs<4096:=by omega
     go_wp2_with (refine Hf rfl rfl _ _ rfl rb rfl (R.vs+1) (by go_num) H4.out.rn.run ?_)
     intro w5 mF hk5
     obtain⟨jT,iV⟩:=H4.out.rn.visit mF hk5
     have H5:=show Hid (DL w w5 base rb pm b m v sv kvs v sv kvs B ⟨R.t,R.st,R.vs+1⟩ b3 s) from H4.out.call jT iV
     have KE:=show Hid _ from HK.out w5 v sv kvs jT
     clear mF hk5 jT iV H4 c2 HK
     go_wp2_with (refine aJ _ _ rfl b3 rfl H5.out.s3 hl rfl ?_)
     refine Calls.mono KE.out ?_
     rintro e w6 ⟨kv,rfl,Oh,v6,sH,iW,fQ,rE,pF⟩
     have H6:=show Hid (DL w w6 base rb pm b m v sv kvs v6 sH iW B q.1 b3 s/\w6.ownsRow w5.heap.size 3 1 kv q.2.2.kd.length (fJ q.2.2.kd)/\w.heap.size<=w5.heap.size) from⟨H5.out.call rE pF,Oh,H5.out.af.kp.size⟩
     clear Oh fQ rE pF KE H5
     go_wp2_with (refine aF 46 rfl _ oH rfl ?_)
     intro w7 b8 qP
     go_wp2_with (refine fZ rfl rfl _ _ rfl b8 rfl Hg (lY H6.out.2.1) rfl (s0:=dX) rfl qP.blk ?_)
     intro w8 hc8 bD
     have lJ:Below w6.heap.size w6 w8:=aP qP.au bD qP.ge
     have H8:=show Hid (DL w w8 base rb pm b m v sv kvs v6 sH iW B q.1 b3 s/\w8.ownsRow w5.heap.size 3 1 kv q.2.2.kd.length (fJ q.2.2.kd)/\w.heap.size<=w5.heap.size/\Cl w8 b8 (bG q.2.2 kv) 46/\sH.ownBlock≠some b8) from⟨H6.out.1.later lJ,bV H6.out.2.1 (fun k e=>lJ.block k (aT H6.out.2.1 k e).2.1),H6.out.2.2,hc8,fun e=>(by have:=(H6.out.1.rn.dG.blk e).2.1;have:=qP.ge;omega)⟩
     clear qP hc8 bD lJ H6
     by_cases he:q.2.1=0
     ·have sG:(q.2.1 != 0)=false:=by rw[he];rfl
      obtain⟨EW,ZT⟩:=Vl.out he
      have pG:X=(⟨q.1.t,q.1.st ++ [q.2.2],q.1.vs⟩,0,q.1.st.length):=by rw[sI.out,if_neg (by rw[he];simp)]
      subst pG
      have Td:=show Hid (q.2.2.s=s) from EW
      clear sI Vl EW
      have c3:w8.cell? ⟨rb,3,none⟩=some sH:=H8.out.1.rn.run.cell 3
      obtain⟨ps,cs,rfl⟩:=H8.out.1.rn.dG.form
      go_wp2_with fail
      refine dO (by kernel_rfl) 6 [some 52,some 53,some 54,some 55,some 56,some 57,none] [[],[0],[1],[2],[],[],[3,4,5]] [[],[0],[1,0],[2,1,0],[],[],[3,2,1,0,4,5]] (by kernel_rfl) (by decide) (fun ii vv w1=>match ii with | 0=>vv=.pointer (some ⟨rb,0,none⟩) | 1=>vv=.pointer (some ⟨rb,0,none⟩) | 2=>vv=.pointer (some ⟨rb,4,none⟩) | 3=>vv=.map (some pm) | 4=>vv=.agg (ak s.1 s.2) | 5=>vv=.int .i64 (q.1.st.length:Int) | 6=>(∃ D2,lM w1 pm D2/\mO D2 (q.1.st ++ [q.2.2]))/\Kp (fun k=>k=pm) w8.drew w1 | _=>True) ?hfree (bR 7 ?steps) ?fin
      case hfree=>
       intro j v w1 w2 hj hn h
       match j,h,hj,hn with
       | 0,h,_,_=>exact h
       | 1,h,_,_=>exact h
       | 2,h,_,_=>exact h
       | 3,h,_,_=>exact h
       | 4,h,_,_=>exact h
       | 5,h,_,_=>exact h
       | 6,_,hj,_=>exact absurd rfl hj
       | _+7,_,_,_=>trivial
      case steps=>
       refine⟨⟨⟨⟨⟨⟨⟨trivial,?s0⟩,?s1⟩,?s2⟩,?s3⟩,?s4⟩,?s5⟩,?s6⟩
       case s0=>
        intro a w1 hw hO hN
        obtain rfl:w1=w8.drew:=hw (by decide)
        have o0:a.tmps[0]?=some (.pointer (some ⟨rb,0,none⟩)):=outs hO 0 rfl
        exact ah rfl (.pointer (some ⟨rb,0,none⟩)) _ rfl (by go_simp) ⟨_,rfl,rfl,fun _=>rfl⟩
       case s1=>
        intro a w1 hw hO hN
        obtain rfl:w1=w8.drew:=hw (by decide)
        obtain⟨v0,g0,r0⟩:=aj hN 0 52
        have e0:v0=.pointer (some ⟨rb,0,none⟩):=r0
        rw[e0] at g0
        exact ah rfl (.pointer (some ⟨rb,0,none⟩)) _ rfl (by go_simp) ⟨_,rfl,rfl,fun _=>rfl⟩
       case s2=>
        intro a w1 hw hO hN
        obtain rfl:w1=w8.drew:=hw (by decide)
        obtain⟨v1,g1,r1⟩:=aj hN 1 53
        have e1:v1=.pointer (some ⟨rb,0,none⟩):=r1
        rw[e1] at g1
        exact ah rfl (.pointer (some ⟨rb,4,none⟩)) _ rfl (by go_simp) ⟨_,rfl,rfl,fun _=>rfl⟩
       case s3=>
        intro a w1 hw hO hN
        obtain rfl:w1=w8.drew:=hw (by decide)
        obtain⟨v2,g2,r2⟩:=aj hN 2 54
        have e2:v2=.pointer (some ⟨rb,4,none⟩):=r2
        rw[e2] at g2
        have hc:w8.drew.cell? ⟨rb,4,none⟩=some (.map (some pm)):=H8.out.1.drew.rn.run.cell 4
        exact ah rfl (.map (some pm)) _ rfl (by go_simp) ⟨_,rfl,rfl,fun _=>rfl⟩
       case s4=>
        intro a w1 hw hO hN
        obtain rfl:w1=w8.drew:=hw (by decide)
        have o3:a.tmps[3]?=some (.pointer (some ⟨b3,0,none⟩)):=outs hO 3 rfl
        have hl:=eZ w8.drew b3 H8.out.1.drew.s3 hl
        exact ah rfl (.agg (ak s.1 s.2)) _ rfl (by simp[execOp,Act.eval,o3,hl,Result.andThen]) ⟨_,rfl,rfl,fun _=>rfl⟩
       case s5=>
        intro a w1 hw hO hN
        obtain rfl:w1=w8.drew:=hw (by decide)
        have kT:a.tmps[10]?=some (.int .i64 (q.1.st.length:Int)):=outs hO 10 rfl
        exact ah rfl (.int .i64 (q.1.st.length:Int)) _ rfl (by go_simp) ⟨_,rfl,rfl,fun _=>rfl⟩
       case s6=>
        intro a w1 hw hO hN
        obtain rfl:w1=w8.drew:=hw (by decide)
        obtain⟨v3,g3,r3⟩:=aj hN 3 55
        have e3:v3=.map (some pm):=r3
        rw[e3] at g3
        obtain⟨v4,g4,r4⟩:=aj hN 4 56
        have e4:v4=.agg (ak s.1 s.2):=r4
        rw[e4] at g4
        obtain⟨v5,g5,r5⟩:=aj hN 5 57
        have e5:v5=.int .i64 (q.1.st.length:Int):=r5
        rw[e5] at g5
        obtain⟨D,hD,hT⟩:=H8.out.1.drew.rn.map
        obtain⟨w9,hup,Oi,nE⟩:=PO hD hT (by omega) (x:=q.2.2) (by rw[Td.out];exact HS.out)
        rw[Td.out] at hup
        exact qx rfl w9 rfl (by simp[execOp,Act.eval,g3,g4,g5,hup,Result.andThen]) ⟨_,rfl,⟨Oi,nE⟩,fun h=>absurd rfl h⟩
      case fin=>
       intro vs W9 hV
       obtain⟨Oi,nE⟩:(∃ D2,lM W9 pm D2/\mO D2 (q.1.st ++ [q.2.2]))/\Kp (fun k=>k=pm) w8.drew W9:=hV 6 (by decide)
       clear hV
       simp only[bg,Act.put,List.setIfInBounds_toArray,List.set_cons_zero,List.set_cons_succ]
       have H9:=show Hid (((∃ D2,lM W9 pm D2/\mO D2 (q.1.st ++ [q.2.2]))/\Kp (fun k=>k=pm) w8.drew W9)/\Cl W9 rb (l9 b B q.1.vs pm (.slice ps q.1.st.length cs)) 62/\Cl W9 b8 (bG q.2.2 kv) 46/\W9.ownsRow base 46 21 (.slice ps q.1.st.length cs) q.1.st.length (jW q.1.st iW)) from(by
        have hne:∀ (k:Nat) (c:Array Value) (T:TypeId),w8.heap[k]?=some (.cells c T (0,0))->k≠pm:=fun k c T hc e=>by
         subst e
         obtain⟨D,hD,_⟩:=H8.out.1.rn.map
         obtain⟨es,cl,h6⟩:=lC hD
         rw[hc] at h6
         cases h6
        have hrn:=H8.out.1.rn
        exact⟨⟨Oi,nE⟩,(nE.block rb hrn.run.lt (hne _ _ _ hrn.run)).trans hrn.run,(nE.block b8 H8.out.2.2.2.1.lt (hne _ _ _ H8.out.2.2.2.1)).trans H8.out.2.2.2.1,bV hrn.dG.row fun k e=>(by obtain⟨_,h2,cur,hc⟩:=aT hrn.dG.row k e;exact nE.block k h2 (hne _ _ _ hc))⟩)
       have lG:=show Hid (rb<W9.heap.size/\(∀ k,(Value.slice ps q.1.st.length cs).ownBlock=some k->k<W9.heap.size)/\(Value.slice ps q.1.st.length cs).ownBlock≠some rb/\base<=W9.heap.size) from⟨H9.out.2.1.lt,fun k e=>(aT H9.out.2.2.2 k e).2.1,fun e=>(by obtain⟨_,_,cur,hc⟩:=aT H9.out.2.2.2 _ e;exact absurd (dF hc H9.out.2.1) (by decide)),Nat.le_trans H8.out.1.rn.bs.2.2 nE.size⟩
       clear Oi nE c3
       go_wp2_with fail
       refine kX (by kernel_rfl) [some 58,some 59,some 60,some 61,some 62,some 63,some 64,some 65,some 66,some 67,none] [[],[],[1],[2],[3],[],[5],[4,6],[0],[8],[9,7]] [[],[],[1],[2,1],[3,2,1],[],[5],[4,3,2,1,6,5],[0],[8,0],[9,8,0,7,4,3,2,1,6,5]] (by kernel_rfl) (by decide) (fun ii vv w1=>match ii with | 0=>vv=.pointer (some ⟨rb,0,none⟩) | 1=>vv=.pointer (some ⟨rb,0,none⟩) | 2=>vv=.pointer (some ⟨rb,0,none⟩) | 3=>vv=.pointer (some ⟨rb,3,none⟩) | 4=>vv=.slice ps q.1.st.length cs | 5=>vv=.agg (bG q.2.2 kv) | 6=>∃ q6,vv=.slice (some ⟨q6,0,none⟩) 1 1/\Cl w1 q6 (bG q.2.2 kv) 46/\W9.heap.size<=q6 | 7=>w1.ownsRow base 46 21 vv (q.1.st.length+1) (jW q.1.st iW ++ dS q.2.2 kv)/\bQ W9.heap.size (.slice ps q.1.st.length cs) vv | 8=>vv=.pointer (some ⟨rb,0,none⟩) | 9=>vv=.pointer (some ⟨rb,3,none⟩) | 10=>∃ aW,Cl w1 rb (l9 b B q.1.vs pm aW) 62/\w1.ownsRow base 46 21 aW (q.1.st.length+1) (jW q.1.st iW ++ dS q.2.2 kv)/\bQ W9.heap.size (.slice ps q.1.st.length cs) aW | _=>True) (fun done w1=>SA W9 w1 base rb b B q.1.vs pm b8 q.1.st.length (.slice ps q.1.st.length cs) kv q.2.2 (jW q.1.st iW) done) (fun i w1 w2=>Kp (J7 rb (.slice ps q.1.st.length cs) i) w1 w2) (Ta lG.out.1 lG.out.2.1 lG.out.2.2.1) ?start (bR 11 ?steps) ?fin
       case start=>exact⟨(Kp.refl _ _).drew,fun _=>bV H9.out.2.2.2 (fun _ _=>rfl),fun _=>H9.out.2.1⟩
       case steps=>
        refine⟨⟨⟨⟨⟨⟨⟨⟨⟨⟨⟨trivial,?s0⟩,?s1⟩,?s2⟩,?s3⟩,?s4⟩,?s5⟩,?s6⟩,?s7⟩,?s8⟩,?s9⟩,?s10⟩
        case s0=>
         intro done a w1 hS h0 hd hno hO hN
         have o0:a.tmps[0]?=some (.pointer (some ⟨rb,0,none⟩)):=outs hO 0 rfl
         exact ah rfl (.pointer (some ⟨rb,0,none⟩)) _ rfl (by go_simp) ⟨_,rfl,rfl,hS.other 0 (Below.refl _ _),Kp.refl _ _⟩
        case s1=>
         intro done a w1 hS h0 hd hno hO hN
         have o0:a.tmps[0]?=some (.pointer (some ⟨rb,0,none⟩)):=outs hO 0 rfl
         exact ah rfl (.pointer (some ⟨rb,0,none⟩)) _ rfl (by go_simp) ⟨_,rfl,rfl,hS.other 1 (Below.refl _ _),Kp.refl _ _⟩
        case s2=>
         intro done a w1 hS h0 hd hno hO hN
         obtain⟨v1,g1,r1⟩:=aj hN 1 59
         have e1:v1=.pointer (some ⟨rb,0,none⟩):=r1
         rw[e1] at g1
         exact ah rfl (.pointer (some ⟨rb,0,none⟩)) _ rfl (by go_simp) ⟨_,rfl,rfl,hS.other 2 (Below.refl _ _),Kp.refl _ _⟩
        case s3=>
         intro done a w1 hS h0 hd hno hO hN
         obtain⟨v2,g2,r2⟩:=aj hN 2 60
         have e2:v2=.pointer (some ⟨rb,0,none⟩):=r2
         rw[e2] at g2
         exact ah rfl (.pointer (some ⟨rb,3,none⟩)) _ rfl (by go_simp) ⟨_,rfl,rfl,hS.other 3 (Below.refl _ _),Kp.refl _ _⟩
        case s4=>
         intro done a w1 hS h0 hd hno hO hN
         obtain⟨v3,g3,r3⟩:=aj hN 3 61
         have e3:v3=.pointer (some ⟨rb,3,none⟩):=r3
         rw[e3] at g3
         have hc:w1.cell? ⟨rb,3,none⟩=some (.slice ps q.1.st.length cs):=(hS.run (hno 10 (by decide))).cell 3
         exact ah rfl (.slice ps q.1.st.length cs) _ rfl (by go_simp) ⟨_,rfl,rfl,hS.other 4 (Below.refl _ _),Kp.refl _ _⟩
        case s5=>
         intro done a w1 hS h0 hd hno hO hN
         have o8:a.tmps[8]?=some (.pointer (some ⟨b8,0,none⟩)):=outs hO 8 rfl
         have hc8:Cl w1 b8 (bG q.2.2 kv) 46:=(hS.kp.block b8 H9.out.2.2.1.lt (fun e=>(by
          rcases e with e | e
          ·have hx:=H9.out.2.2.1;rw[e] at hx;exact absurd (dF hx H9.out.2.1) (by decide)
          ·exact H8.out.2.2.2.2 e))).trans H9.out.2.2.1
         have hl5:=run_loadVar_row (P:=Tryz.prog) w1 b8 46 46 (bG q.2.2 kv) (0,0) _ hc8 Tryz.underlying46 rfl (by rw[su,dW Hg])
         have YW:(Instr.loadAt 46 (.pointer (some ⟨b8,0,none⟩))).run Tryz.prog w1=.ok (.agg (bG q.2.2 kv)) w1:=by
          simp only[Instr.loadAt,Instr.sureAddr,Sem.run_bind,Sem.run_pure,Result.andThen]
          exact hl5
         exact ah rfl (.agg (bG q.2.2 kv)) _ rfl (by simp[execOp,Act.eval,o8,YW,Result.andThen]) ⟨_,rfl,rfl,hS.other 5 (Below.refl _ _),Kp.refl _ _⟩
        case s6=>
         intro done a w1 hS h0 hd hno hO hN
         obtain⟨v5,g5,r5⟩:=aj hN 5 63
         have e5:v5=.agg (bG q.2.2 kv):=r5
         rw[e5] at g5
         have hb6:=Vk w1 Hg kv
         have hsz:=hS.kp.size
         exact ah rfl (.slice (some ⟨w1.heap.size,0,none⟩) 1 1) (w1.alloc (.cells (bG q.2.2 kv) 46)) rfl (by simp[execOp,Act.eval,g5,hb6,Result.andThen]) ⟨_,rfl,⟨w1.heap.size,rfl,heap_alloc_new w1 _,hsz⟩,hS.other 6 (av w1 _),Kp.of_below (av w1 _)⟩
        case s7=>
         intro done a w1 hS h0 hd hno hO hN
         obtain⟨v4,g4,r4⟩:=aj hN 4 62
         have e4:v4=.slice ps q.1.st.length cs:=r4
         rw[e4] at g4
         obtain⟨v6,g6,r6⟩:=aj hN 6 64
         obtain⟨q6,rfl,hc6,YX⟩:=r6
         obtain⟨i0,hi0,hz0,hz1,hz2⟩:=info_parts Oc
         have how:=hS.row h0
         obtain⟨Oj,w7,Hl,kC,qQ,_,mZ⟩:=run_append_own_at (P:=Tryz.prog) (w:=w1) base 33 33 46 i0 _ 21 184 Tryz.underlying33 hi0 hz0 hz1 hz2 rfl (by decide) (.slice ps q.1.st.length cs) q.1.st.length (jW q.1.st iW) how ⟨q6,0,none⟩ 1 1 (dS q.2.2 kv) (by rw[lX Hg]) (fun j u hu=>(by rw[Addr.add_lit,Nat.zero_add,hc6.cell];unfold bG;rw[List.getElem?_toArray];exact hu)) (xw q.2.2 (lY H8.out.2.1)) (by unfold maxLen;omega) (by omega) (Nat.le_trans lG.out.2.2.2 hS.kp.size)
         have fF:Kp (J7 rb (.slice ps q.1.st.length cs) 7) w1 w7:=⟨qQ.os,qQ.tape,qQ.output,qQ.size,fun k hk hn2=>qQ.block k hk (fun e=>hn2 (Or.inl ⟨rfl,e.symm⟩))⟩
         have hsz:=hS.kp.size
         refine ah rfl Oj w7 rfl (by simp[execOp,Act.eval,resolve,invoke,builtin,g4,g6,Hl,Result.andThen]) ⟨_,rfl,⟨kC,fun k e => ?_⟩,⟨hS.kp.trans fF (fun k hf => ?_),fun h=>(by simp at h),fun h => ?_⟩,fF⟩
         ·rcases mZ with h1 | h1
          ·exact Or.inl (h1 ▸ e)
          ·rw[h1] at e;cases e;exact Or.inr hsz
         ·rcases hf with ⟨_,e⟩ | ⟨e,_⟩
          ·exact Or.inl (Or.inr e)
          ·cases e
         ·have hr1:=hS.run (by simpa using h)
          refine(fF.block rb hr1.lt (fun hf => ?_)).trans hr1
          rcases hf with ⟨_,e⟩ | ⟨e,_⟩
          ·exact lG.out.2.2.1 e
          ·cases e
        case s8=>
         intro done a w1 hS h0 hd hno hO hN
         obtain⟨v0,g0,r0⟩:=aj hN 0 58
         have e0:v0=.pointer (some ⟨rb,0,none⟩):=r0
         rw[e0] at g0
         exact ah rfl (.pointer (some ⟨rb,0,none⟩)) _ rfl (by go_simp) ⟨_,rfl,rfl,hS.other 8 (Below.refl _ _),Kp.refl _ _⟩
        case s9=>
         intro done a w1 hS h0 hd hno hO hN
         obtain⟨v8,g8,r8⟩:=aj hN 8 66
         have e8:v8=.pointer (some ⟨rb,0,none⟩):=r8
         rw[e8] at g8
         exact ah rfl (.pointer (some ⟨rb,3,none⟩)) _ rfl (by go_simp) ⟨_,rfl,rfl,hS.other 9 (Below.refl _ _),Kp.refl _ _⟩
        case s10=>
         intro done a w1 hS h0 hd hno hO hN
         obtain⟨v9,g9,r9⟩:=aj hN 9 67
         have e9:v9=.pointer (some ⟨rb,3,none⟩):=r9
         rw[e9] at g9
         obtain⟨v7,g7,r7⟩:=aj hN 7 65
         obtain⟨kC,CX⟩:=r7
         have hr1:=hS.run h0
         obtain⟨p7,n7,c7,rfl⟩:∃ p n c,v7=.slice p n c:=by
          rcases kC.2 with ⟨h1,_⟩ | ⟨g,cap,cur,h1,_⟩
          ·exact⟨_,_,_,h1⟩
          ·exact⟨_,_,_,h1⟩
         have hk10:Kp (J7 rb (.slice ps q.1.st.length cs) 10) w1 (w1.setCell ⟨rb,3,none⟩ (.slice p7 n7 c7)):=⟨rfl,rfl,rfl,by simp[World.setCell],fun k _ hk=>Below.heap_setCell _ _ _ _ (fun e=>hk (Or.inr ⟨rfl,e⟩))⟩
         have d7:done 7=true:=hd 7 (by decide)
         refine je rfl rfl 33 (.tmp 67) (.tmp 65) rfl (by simp[Act.eval,g9]) (by simp[Act.eval,g7]) (P5 hr1 p7 n7 c7) ⟨_,rfl,⟨_,run_set hr1 _,bV kC fun k e => ?_,CX⟩,⟨hS.kp.trans hk10 (fun k hf => ?_),fun h=>(by simp[d7] at h),fun h=>(by simp at h)⟩,hk10⟩
         ·refine hk10.block k (aT kC k e).2.1 (fun hf => ?_)
          rcases hf with ⟨e2,_⟩ | ⟨_,e2⟩
          ·cases e2
          ·subst e2
           obtain⟨_,_,cur,hc⟩:=aT kC _ e
           exact absurd (dF hc hr1) (by decide)
         ·rcases hf with ⟨e,_⟩ | ⟨_,e⟩
          ·cases e
          ·exact Or.inl (Or.inl e)
       case fin=>
        intro vs done w9 hdone hS hV
        obtain⟨Aa,Fb,J9,Fe⟩:∃ aW,Cl w9 rb (l9 b B q.1.vs pm aW) 62/\w9.ownsRow base 46 21 aW (q.1.st.length+1) (jW q.1.st iW ++ dS q.2.2 kv)/\bQ W9.heap.size (.slice ps q.1.st.length cs) aW:=hV 10 (by decide)
        have hbs:base<=w5.heap.size:=Nat.le_trans YV.out H8.out.2.2.1
        obtain⟨Ka,Te,hk10⟩:=H8.out.1.drew.rn.put (x:=q.2.2) (by rw[Td.out];exact HS.out.1) (bV H8.out.2.1 (fun _ _=>rfl)) hbs H9.out.1.1 H9.out.1.2 Fb J9 Fe hS.kp
        have YZ:gM w8.drew w9 rb pm b m v6 (.slice ps q.1.st.length cs) iW v6 Aa (iW ++ [kv])\/True:=Or.inr trivial
        have hlk:∀ k,Kb (iW ++ [kv]) k->Kb kvs k\/w.heap.size<=k:=fun k hk=>by
         obtain⟨u,hu,e⟩:=hk
         rcases List.mem_append.1 hu with hu | hu
         ·exact H8.out.1.af.lk k ⟨u,hu,e⟩
         ·obtain rfl:=List.mem_singleton.1 hu
          exact Or.inr (Nat.le_trans H8.out.2.2.1 (aT H8.out.2.1 k e).1)
        have Y0:gM w w9 rb pm b m v sv kvs v6 Aa (iW ++ [kv]):=⟨H8.out.1.af.lv,H8.out.1.af.ls.trans Te H8.out.1.drew.af.kp.size,hlk,H8.out.1.drew.af.kp.trans hk10 fun _ hi=>H8.out.1.drew.af.foot hi⟩
        simp only[bg,Act.put,List.setIfInBounds_toArray,List.set_cons_zero,List.set_cons_succ]
        clear hV hS H9 H8 Fb J9 Fe Te hk10 YZ hlk
        go_wp2_with fail
        go_ret2
        exact⟨rfl,v6,Aa,iW ++ [kv],Ka,Y0⟩
     ·have sG:(q.2.1 != 0)=true:=by simpa using he
      have pG:X=(q.1,q.2.1,0):=by rw[sI.out,if_pos he]
      subst pG
      go_wp2_with fail
      go_ret2
      exact⟨rfl,v6,sH,iW,H8.out.1.rn,H8.out.1.af⟩
theorem Fg {base rb pm b m B:Nat} (hB:B<=4096):∀ n,xC base rb pm b m B n (cu B n)
 | 0=>fun w v sv kvs R s hR hG hv _ hf hq hr=>by
  have hg:=hq.2
  have hs:gq s:=⟨hr,by have:=hG.ok.len;exact⟨by omega,by omega⟩⟩
  have h:=CV w hR hB hv hs (R,0,dX) (fun h1=>absurd (show R.vs=B by omega) h1)
  have e:mh B R s (R,0,dX)=cu B 0 R s:=by
   unfold mh cu
   cases look R.st s with
   | some p=>rfl
   | none=>
    simp only
    rw[if_pos (by omega)]
  rw[e] at h
  exact h
 | n+1=>fun w v sv kvs R s hR hG hv hst hf hq hr=>by
  have hg:=hq.2
  have hs:gq s:=⟨hr,by have:=hG.ok.len;exact⟨by omega,by omega⟩⟩
  have hd:=qM B n
  have hD:=Fg (base:=base) (rb:=rb) (pm:=pm) (b:=b) (m:=m) hB n
  have h:=CV w hR hB hv hs (iU (cu B n) ⟨R.t,R.st,R.vs+1⟩ s) (fun h1 _=>by
   have hG1:Gd ⟨R.t,R.st,R.vs+1⟩:=⟨hG.ok,hG.uX,hG.one,hG.kid⟩
   have CY:Gs B n ⟨R.t,R.st,R.vs+1⟩:=⟨hG1,by simp only;omega,by simp only;omega,by simp only;omega,hB⟩
   have hp:=CF hd (R:=⟨R.t,R.st,R.vs+1⟩) (s:=s) hG1 CY.vs hq hr
   refine⟨fun W v' aW bn hR'=>PX hD hd (PY hD hd) W hR' CY hq hr,E5 hd CY hq hr rfl,fun h0=>⟨(hp.uX h0).1,?_⟩⟩
   have h2:=hp.way.ct.1
   have h3:=hp.way.vs.2
   have h4:=CY.st
   simp only at h2 h4
   omega)
  have e:mh B R s (iU (cu B n) ⟨R.t,R.st,R.vs+1⟩ s)=cu B (n+1) R s:=by
   unfold mh cu
   cases look R.st s with
   | some p=>rfl
   | none=>rfl
  rw[e] at h
  exact h
structure Vm where
 err:Int
 t:List Nd
 pv:Bool
 st:List Stp
 vs:Nat
deriving DecidableEq
def gX (t:List Nd) (s:SQ) (bE:Int):Vm :=
 if d9 t s.1 s.2≠0 then ⟨d9 t s.1 s.2,t,false,[],0⟩
 else if bE<1\/4096<bE then ⟨2,t,false,[],0⟩
 else if (cu bE.toNat bE.toNat ⟨t,[],0⟩ s).2.1≠0 then ⟨(cu bE.toNat bE.toNat ⟨t,[],0⟩ s).2.1,t,false,[],0⟩
 else ⟨0,(cu bE.toNat bE.toNat ⟨t,[],0⟩ s).1.t,((cu bE.toNat bE.toNat ⟨t,[],0⟩ s).1.st.getD (cu bE.toNat bE.toNat ⟨t,[],0⟩ s).2.2 dX).pv,(cu bE.toNat bE.toNat ⟨t,[],0⟩ s).1.st,(cu bE.toNat bE.toNat ⟨t,[],0⟩ s).1.vs⟩
def dK (pv:Bool) (sv:Value) (vs:Nat):Array Value:=#[.bool pv,sv,.int .i64 (vs:Int)]
theorem iN:(Tryz.prog.info? 35).map (·.size)=some 3:=by kernel_rfl
theorem l7 (w:World):(zeroValue 35).run Tryz.prog w=.ok (.agg (dK false (.slice none 0 0) 0)) w:=by kernel_rfl
theorem Uo (w:World):(Instr.build 35 #[]).run Tryz.prog w=.ok (.agg (dK false (.slice none 0 0) 0)) w:=by kernel_rfl
theorem Ol (w:World) (pv:Bool) (p:Option Addr) (n c vs:Nat):(Instr.build 35 #[(0,.bool pv),(1,.slice p n c),(2,.int .i64 (vs:Int))]).run Tryz.prog w=.ok (.agg (dK pv (.slice p n c) vs)) w:=by kernel_rfl
theorem Wn (w:World) (b B pm:Nat):(Instr.build 62 #[(0,.pointer (some ⟨b,0,none⟩)),(1,.int .i64 (B:Int)),(4,.map (some pm))]).run Tryz.prog w=.ok (.agg (l9 b B 0 pm (.slice none 0 0))) w:=by kernel_rfl
theorem iy {fn:Func} {p q:Tmp} (h:fn.results=#[.cell p 35,.tmp q]) (tmps:Array Value) (w:World) (b:Nat) {cs:Array Value} (hp:tmps.getD p undef=.pointer (some ⟨b,0,none⟩)) (hc:Cl w b cs 35) (hs:cs.size=3) :
 (results fn tmps).run Tryz.prog w=.ok (.tuple #[.agg cs,tmps.getD q undef]) w:=by
 rw[_root_.Go.results_cell_tmp h,hp]
 simp[asAddr,run_loadVar_row w b 35 35 cs (0,0) _ hc Tryz.underlying35 rfl (by rw[iN,hs]),Result.andThen]
theorem fU (pv:Bool) (p:Option Addr) (n c vs:Nat):(dK pv (.slice p n c) vs).all (·.oneCell')=true:=by simp[dK,Value.oneCell']
section
variable {ops:Array Oper} {rest:List Oper} {o:Oper} {a:Act} {Q:Exit->Act->World->Prop} {w:World}
theorem iX (hg:o.guard=none) (hop:o.op=Op.build 35 #[]) (hK:wpList Tryz.prog ops Q rest (a.put o.dst (.agg (dK false (.slice none 0 0) 0))) w):wpList Tryz.prog ops Q (o :: rest) a w:=by
 refine wpList_plain hg fun K' hK' => ?_
 have hrun:=Uo w
 unfold Oper.wp
 simp[execOp,hop,hrun,Result.andThen]
 exact hK' _ _ hK
theorem D6 (hg:o.guard=none) (x y z:Operand) (hop:o.op=Op.build 62 #[(0,x),(1,y),(4,z)]) (b B pm:Nat) (hx:a.eval x=.pointer (some ⟨b,0,none⟩)) (hy:a.eval y=.int .i64 (B:Int)) (hz:a.eval z=.map (some pm)) (hK:wpList Tryz.prog ops Q rest (a.put o.dst (.agg (l9 b B 0 pm (.slice none 0 0)))) w):wpList Tryz.prog ops Q (o :: rest) a w:=by
 refine wpList_plain hg fun K' hK' => ?_
 have hrun:=Wn w b B pm
 unfold Oper.wp
 simp[execOp,hop,hx,hy,hz,hrun,Result.andThen]
 exact hK' _ _ hK
theorem Ho (hg:o.guard=none) (hop:o.op=Op.makeMap 60 none) (hK:∀ w' q,lM w' q (.map [])->Below w.heap.size w w'->q=w.heap.size->w'.heap.size=q+1->wpList Tryz.prog ops Q rest (a.put o.dst (.map (some q))) w'):wpList Tryz.prog ops Q (o :: rest) a w:=by
 refine wpList_plain hg fun K' hK' => ?_
 have hrun:=run_makeMap (P:=Tryz.prog) 60 w
 unfold Oper.wp
 simp[execOp,hop,hrun,Result.andThen]
 exact hK' _ _ (hK _ _ (zW (World.ownsMap_made w Tryz.prog 27 (plainElem Tryz.prog 3))) (av w _) rfl (by simp))
end
theorem Ext.take {t t1:List Nd} (h:Ext t t1):t1.take t.length=t:=by
 have hl:=h.len
 apply List.ext_getElem
 ·simp;omega
 ·intro i h1 h2
  have:=h.pq i h2
  rw[aY h2,aY (show i<t1.length by omega)] at this
  simpa using this
theorem Tf {w:World} {b m:Nat} {v:Value} {t:List Nd} (hT:Tb w b m v t) (hz:Bt.Tz w) (hp:0<t.length):¬ Ft b m v 0:=by
 have h0:=hz 0 (by decide)
 rintro(e | e | e)
 ·subst e
  obtain⟨p,c,rfl⟩:=hT.row.form
  have h1:=hT.c0
  rw[h1] at h0
  cases h0
 ·obtain⟨D,⟨es,cl,hm,_⟩,_⟩:=hT.map
  subst e
  simp[World.cell?,hm] at h0
 ·rcases hT.row with ⟨rfl,_⟩ | ⟨g,cap,cur,rfl,hh,h1,h2,h3,h4⟩
  ·cases e
  ·obtain rfl:g=_:=Option.some.inj e
   rw[cell_of_row w _ 0 cur _ _ hh] at h0
   have h5:(cellsOf t)[0]?=(bq t[0])[0]?:=nO t 0 0 hp (by omega)
   rw[<- h4,List.getElem?_take,if_pos (by omega)] at h5
   simp only[Array.getElem?_toList] at h5
   rw[h0] at h5
   cases h5
structure RL (w0 W:World) (b4 b6:Nat) (s:SQ):Prop where
 s4:aX W b4 s.1 s.2
 c6:Cl W b6 (dK false (.slice none 0 0) 0) 35
 au:Below w0.heap.size w0 W
 g6:w0.heap.size<=b6
theorem RL.later {w0 W W':World} {b4 b6:Nat} {s:SQ} (h:RL w0 W b4 b6 s) (hb:Below W.heap.size W W'):RL w0 W' b4 b6 s:=⟨h.s4.later hb h.s4.lt,h.c6.later hb,h.au.trans (hb.mono h.au.size),h.g6⟩
structure RM (w0 W:World) (base rb pm b m:Nat) (v v' aW:Value) (bn:List Value) (B:Nat) (R:Rs) (b6:Nat):Prop where
 rn:Rn W base rb pm b m v' aW bn B R
 lv:bQ w0.heap.size v v'
 kp:Kp (Ft b m v) w0 W
 c6:Cl W b6 (dK false (.slice none 0 0) 0) 35
 g6:w0.heap.size<=b6
theorem RM.drew {w0 W:World} {base rb pm b m:Nat} {v v' aW:Value} {bn:List Value} {B:Nat} {R:Rs} {b6:Nat} (h:RM w0 W base rb pm b m v v' aW bn B R b6):RM w0 W.drew base rb pm b m v v' aW bn B R b6:=⟨h.rn.drew,h.lv,h.kp.drew,h.c6,h.g6⟩
theorem RM.set {w0 W W':World} {base rb pm b m:Nat} {v v' aW:Value} {bn:List Value} {B:Nat} {R:Rs} {b6:Nat} (h:RM w0 W base rb pm b m v v' aW bn B R b6) (hk:dY b6 W W'):dU W' base aW R.st bn/\After w0 b m v R.t W':=by
 have n6:=h.rn.other h.c6 (by decide) (by decide) (by decide) (Or.inl (by decide))
 have k6:=h.rn.dG.wJ h.c6 (by decide)
 have g6:=h.g6
 exact⟨h.rn.dG.keep (fun k e=>hk.block k (h.rn.dG.blk e).2.1 (fun e2=>n6 (e2 ▸ Or.inr (Or.inr (Or.inl e))))) (fun k e=>hk.block k (h.rn.dG.kb e).2.1 (fun e2=>k6 (e2 ▸ e))),v',h.rn.tb.keep (fun k e=>hk.block k (h.rn.tb.foot k e) (fun e2=>n6 (e2 ▸ Or.inr (Or.inr (Or.inr e))))),h.lv,h.kp.trans (S':=fun k=>k=b6) hk (fun i hi=>Or.inr (by omega))⟩
theorem zh (w:World) {b m:Nat} {v:Value} {t:List Nd} (hT:Tb w b m v t) (hZ:Bt.Tz w) {s:SQ} (hr:Ok s.1) (bE:Int) :
 Calls Tryz.prog 6 #[.pointer (some ⟨b,0,none⟩),.agg (ak s.1 s.2),.int .i64 bE] w fun e w'=>∃ sv,e=.returned (.tuple #[.agg (dK (gX t s bE).pv sv (gX t s bE).vs),.int .i64 (gX t s bE).err])/\(∃ kvs,dU w' w.heap.size sv (gX t s bE).st kvs)/\After w b m v (gX t s bE).t w':=by
 have hl:=hr.1
 have HT:=show Hid (∀ W:World,Below w.heap.size w W->Tb W b m v t/\Bt.Tz W) from fun W h=>⟨hT.later h,Bt.gB hZ h⟩
 have HA:=show Hid (∀ W:World,Below w.heap.size w W->After w b m v t W) from fun W h=>After.of_below hT h
 have HR:=show Hid (Ok s.1) from hr
 have Ab:=show Hid (d9 t s.1 s.2=0->eD t.length s) from fun h=>by
  rw[oZ hr] at h
  refine jN.1 ?_
  cases hq:eB t s.1 s.2
  ·rw[hq,if_neg Bool.false_ne_true] at h
   exact absurd h (by decide)
  ·rfl
 have HF:=show Hid (gX t s bE=if d9 t s.1 s.2≠0 then ⟨d9 t s.1 s.2,t,false,[],0⟩
 else if bE<1\/4096<bE then ⟨2,t,false,[],0⟩
 else if (cu bE.toNat bE.toNat ⟨t,[],0⟩ s).2.1≠0 then ⟨(cu bE.toNat bE.toNat ⟨t,[],0⟩ s).2.1,t,false,[],0⟩
 else ⟨0,(cu bE.toNat bE.toNat ⟨t,[],0⟩ s).1.t,((cu bE.toNat bE.toNat ⟨t,[],0⟩ s).1.st.getD (cu bE.toNat bE.toNat ⟨t,[],0⟩ s).2.2 dX).pv,(cu bE.toNat bE.toNat ⟨t,[],0⟩ s).1.st,(cu bE.toNat bE.toNat ⟨t,[],0⟩ s).1.vs⟩) from rfl
 generalize gX t s bE=X at *
 clear hT hZ hr
 go_enter Tryz.func6,Tryz.ntmps6
 go_wp2_with (refine aI 27 _ rfl _ rfl rfl ?_)
 intro w1 b4 hn1
 go_wp2_with (refine aF 35 rfl _ l7 rfl ?_)
 intro w2 b6 hn2
 have H2:=show Hid (RL w w2 b4 b6 s) from⟨Cl.new hn1.blk hn2,hn2.blk,aS hn1.au hn2,by have:=hn1.au.size;have:=hn2.ge;omega⟩
 clear hn1 hn2
 have KA:=show Hid _ from uT w2 (HT.out w2 H2.out.au).1 (HT.out w2 H2.out.au).2 HR.out s.2
 obtain⟨rq,hrq⟩:∃ q,q=d9 t s.1 s.2:=⟨_,rfl⟩
 rw[<- hrq] at KA HF Ab
 clear hrq
 go_wp2_with (refine aJ _ _ rfl b4 rfl H2.out.s4 hl rfl ?_)
 refine Calls.mono KA.out ?_
 rintro e w3 ⟨rfl,hb3⟩
 have H3:=show Hid _ from H2.out.later hb3
 clear H2 hb3 KA
 by_cases hz:rq=0
 ·subst hz
  simp only[if_true]
  have HG:=show Hid (eD t.length s) from Ab.out (by trivial)
  have hX1:X=if bE<1\/4096<bE then ⟨2,t,false,[],0⟩ else if (cu bE.toNat bE.toNat ⟨t,[],0⟩ s).2.1≠0 then ⟨(cu bE.toNat bE.toNat ⟨t,[],0⟩ s).2.1,t,false,[],0⟩ else ⟨0,(cu bE.toNat bE.toNat ⟨t,[],0⟩ s).1.t,((cu bE.toNat bE.toNat ⟨t,[],0⟩ s).1.st.getD (cu bE.toNat bE.toNat ⟨t,[],0⟩ s).2.2 dX).pv,(cu bE.toNat bE.toNat ⟨t,[],0⟩ s).1.st,(cu bE.toNat bE.toNat ⟨t,[],0⟩ s).1.vs⟩:=by rw[HF.out,if_neg (by simp)]
  have nP:=show Hid _ from hX1
  clear hX1 HF Ab
  generalize (if (0:Int)=0 then (aL t s.1 s.2).1 else 0)=k1 at *
  generalize (if (0:Int)=0 then (aL t s.1 s.2).2 else 0)=k2 at *
  by_cases hbd:bE<1\/4096<bE
  ·have hX:X=⟨2,t,false,[],0⟩:=by rw[nP.out,if_pos hbd]
   subst hX
   clear nP
   rcases hbd with hbd | hbd
   ·go_wp2_with (first|(refine iX rfl rfl ?_)|(refine aK 35 rfl rfl _ _ rfl b6 rfl _ rfl _ _ H3.out.c6 (by rw[iN];rfl) rfl (fU ..) ?_))
    intro w4 hc4 hk4
    go_wp2_with fail
    refine bodyPost_ret (iy rfl _ _ b6 rfl hc4 rfl) rfl ?_
    exact⟨_,rfl,⟨[],lq _ _⟩,HA.out _ (aP H3.out.au hk4 H3.out.g6)⟩
   ·have hb1:¬ bE<1:=by omega
    go_wp2_with (first|(refine iX rfl rfl ?_)|(refine aK 35 rfl rfl _ _ rfl b6 rfl _ rfl _ _ H3.out.c6 (by rw[iN];rfl) rfl (fU ..) ?_))
    intro w4 hc4 hk4
    go_wp2_with fail
    refine bodyPost_ret (iy rfl _ _ b6 rfl hc4 rfl) rfl ?_
    exact⟨_,rfl,⟨[],lq _ _⟩,HA.out _ (aP H3.out.au hk4 H3.out.g6)⟩
  ·have hX2:=nP.out
   rw[if_neg hbd] at hX2
   obtain⟨B,Tg⟩:∃ B:Nat,bE=B:=⟨bE.toNat,by omega⟩
   subst Tg
   rw[Int.toNat_natCast] at hX2
   have hb1:¬ (B:Int)<1:=by omega
   have hb2:¬ (4096:Int)<(B:Int):=by omega
   have sI:=show Hid _ from hX2
   clear hX2 nP hbd
   have KL:=show Hid _ from rU w3 (HT.out w3 H3.out.au).1
   go_wp2_with fail
   refine Calls.mono KL.out ?_
   rintro e w3' ⟨rfl,hw3⟩
   subst w3'
   clear KL
   go_wp2_with (refine Ho rfl rfl ?_)
   intro w4 pm Vn hb4 Ti hs4
   have H4:=show Hid (RL w w4 b4 b6 s/\lM w4 pm (.map [])/\pm=w3.heap.size/\w4.heap.size=pm+1) from⟨H3.out.later hb4,Vn,Ti,hs4⟩
   clear Vn hb4 Ti hs4
   go_wp2_with (first|(refine D6 rfl _ _ _ rfl b B pm rfl rfl rfl ?_)|(refine aI 62 _ rfl _ rfl rfl ?_))
   intro w5 rb bB
   have H5:=show Hid (RL w w5 b4 b6 s/\Rn w5 w.heap.size rb pm b m v (.slice none 0 0) [] B ⟨t,[],0⟩) from(by
    have hL:=H4.out.1.later bB.au
    have e3:=H3.out.au.size;have e4:=H4.out.2.2.1;have e5:=H4.out.2.2.2;have e6:=bB.ge;have e7:=bB.eq
    have Om:=HT.out w5 hL.au
    have hlt:0<w.heap.size:=(by have h:=Bt.pW (HT.out w (Below.refl _ _)).2;exact h)
    have hpos:0<t.length:=(by have h2:=HG.out.2;omega)
    have hnf:=Tf Om.1 Om.2 hpos
    have hmw:=(HT.out w (Below.refl _ _)).1.mlt
    refine⟨hL,bB.blk,Om.1,Om.2,lq _ _,⟨.map [],sw H4.out.2.1 (bB.au.block pm (by omega)),JX⟩,⟨by omega,by omega,hL.au.size⟩,?_,by omega⟩
    rintro(e | e | e | e)
    ·omega
    ·omega
    ·cases e
    ·exact hnf e)
   clear bB H4 H3
   have xP:=show Hid (Gd ⟨t,[],0⟩) from⟨(HT.out w (Below.refl _ _)).1.ok,fun x hx=>(by cases hx),fun i j x y h=>(by simp at h),fun i x h=>(by simp at h)⟩
   have KD:=show Hid _ from Fg (base:=w.heap.size) (rb:=rb) (pm:=pm) (b:=b) (m:=m) (B:=B) (by omega) B w5 v (.slice none 0 0) [] ⟨t,[],0⟩ s H5.out.2 xP.out (Nat.zero_le _) (Nat.le_refl _) (by simp only;omega) HG.out HR.out
   have yF:=show Hid (qK B ⟨t,[],0⟩ s (cu B B ⟨t,[],0⟩ s)) from qM B B _ s xP.out (Nat.zero_le _) HG.out HR.out
   generalize cu B B ⟨t,[],0⟩ s=q at *
   go_wp2_with (refine aJ _ _ rfl b4 rfl H5.out.1.s4 hl rfl ?_)
   refine Calls.mono KD.out ?_
   rintro e w6 ⟨rfl,v6,sH,iW,rE,pF⟩
   have H6:=show Hid (RM w w6 w.heap.size rb pm b m v v6 sH iW B q.1 b6) from(by
    have n6:=H5.out.2.other H5.out.1.c6 (by decide) (by decide) (by decide) (Or.inl (by decide))
    have hsz:=H5.out.1.au.size
    refine⟨rE,fun k e => ?_,(Kp.of_below (S:=Ft b m v) H5.out.1.au).trans pF.kp (fun k hf => ?_),pF.cl H5.out.1.c6 n6,H5.out.1.g6⟩
    ·rcases pF.lv k e with h1 | h1
     ·exact Or.inl h1
     ·exact Or.inr (by omega)
    ·rcases hf with e | e | e | e
     ·have:=H5.out.2.bs.1;exact Or.inr (by omega)
     ·have:=H5.out.2.bs.2.1;exact Or.inr (by omega)
     ·cases e
     ·exact Or.inl e)
   clear rE pF KD H5
   by_cases he:q.2.1=0
   ·have sG:(q.2.1 != 0)=false:=by rw[he];rfl
    obtain⟨y,hy,_,_⟩:=yF.out.at he
    have Tj:=(List.getElem?_eq_some_iff.1 hy).1
    obtain⟨pv,hpv⟩:∃ pv,pv=y.pv:=⟨_,rfl⟩
    have pG:X=⟨0,q.1.t,pv,q.1.st,q.1.vs⟩:=by rw[sI.out,if_neg (by rw[he];simp),getD_some hy dX,hpv]
    subst pG
    obtain⟨gs,cs,rfl,hpc⟩:=H6.out.rn.dG.pv hy
    have Tk:=show Hid (w6.cell? ⟨gs,q.2.2 * 21+17,none⟩=some (.bool pv)) from by rw[hpv];exact hpc
    have hil:(q.2.2:Int)<(q.1.st.length:Int):=by omega
    clear sI yF hy hpc hpv
    go_wp2_with fail
    refine dO (by kernel_rfl) 17 [some 53,some 54,some 55,some 56,some 57,some 58,some 59,some 60,some 61,some 62,some 63,some 64,some 65,some 66,some 67,some 68,some 69,none,some 7] [[],[0],[1],[2],[],[3,4],[5],[6],[],[8],[9],[10],[],[12],[13],[14],[7,11,15],[16],[]] [[],[0],[1,0],[2,1,0],[],[3,2,1,0,4],[5,3,2,1,0,4],[6,5,3,2,1,0,4],[],[8],[9,8],[10,9,8],[],[12],[13,12],[14,13,12],[7,6,5,3,2,1,0,4,11,10,9,8,15,14,13,12],[16,7,6,5,3,2,1,0,4,11,10,9,8,15,14,13,12],[]] (by kernel_rfl) (by decide) (fun ii vv w1=>match ii with | 0=>vv=.pointer (some ⟨rb,0,none⟩) | 1=>vv=.pointer (some ⟨rb,0,none⟩) | 2=>vv=.pointer (some ⟨rb,3,none⟩) | 3=>vv=.slice (some ⟨gs,0,none⟩) q.1.st.length cs | 4=>vv=.int .i64 (q.2.2:Int) | 5=>vv=.pointer (some ⟨gs,q.2.2 * 21,none⟩) | 6=>vv=.pointer (some ⟨gs,q.2.2 * 21+17,none⟩) | 7=>vv=.bool pv | 8=>vv=.pointer (some ⟨rb,0,none⟩) | 9=>vv=.pointer (some ⟨rb,0,none⟩) | 10=>vv=.pointer (some ⟨rb,3,none⟩) | 11=>vv=.slice (some ⟨gs,0,none⟩) q.1.st.length cs | 12=>vv=.pointer (some ⟨rb,0,none⟩) | 13=>vv=.pointer (some ⟨rb,0,none⟩) | 14=>vv=.pointer (some ⟨rb,2,none⟩) | 15=>vv=.int .i64 (q.1.vs:Int) | 16=>vv=.agg (dK pv (.slice (some ⟨gs,0,none⟩) q.1.st.length cs) q.1.vs) | 17=>Cl w1 b6 (dK pv (.slice (some ⟨gs,0,none⟩) q.1.st.length cs) q.1.vs) 35/\dY b6 w6.drew w1 | 18=>vv=.int .i64 0 | _=>True) ?hfree (bR 19 ?steps) ?fin
    case hfree=>
     intro j v w1 w2 hj hn h
     match j,h,hj,hn with
     | 0,h,_,_=>exact h
     | 1,h,_,_=>exact h
     | 2,h,_,_=>exact h
     | 3,h,_,_=>exact h
     | 4,h,_,_=>exact h
     | 5,h,_,_=>exact h
     | 6,h,_,_=>exact h
     | 7,h,_,_=>exact h
     | 8,h,_,_=>exact h
     | 9,h,_,_=>exact h
     | 10,h,_,_=>exact h
     | 11,h,_,_=>exact h
     | 12,h,_,_=>exact h
     | 13,h,_,_=>exact h
     | 14,h,_,_=>exact h
     | 15,h,_,_=>exact h
     | 16,h,_,_=>exact h
     | 17,_,hj,_=>exact absurd rfl hj
     | 18,h,_,_=>exact h
     | _+19,_,_,_=>trivial
    case steps=>
     refine⟨⟨⟨⟨⟨⟨⟨⟨⟨⟨⟨⟨⟨⟨⟨⟨⟨⟨⟨trivial,?s0⟩,?s1⟩,?s2⟩,?s3⟩,?s4⟩,?s5⟩,?s6⟩,?s7⟩,?s8⟩,?s9⟩,?s10⟩,?s11⟩,?s12⟩,?s13⟩,?gG⟩,?s15⟩,?s16⟩,?rW⟩,?uJ⟩
     case s0=>
      intro a w1 hw hO hN
      obtain rfl:w1=w6.drew:=hw (by decide)
      have EO:a.tmps[12]?=some (.pointer (some ⟨rb,0,none⟩)):=outs hO 12 rfl
      exact ah rfl (.pointer (some ⟨rb,0,none⟩)) _ rfl (by go_simp) ⟨_,rfl,rfl,fun _=>rfl⟩
     case s1=>
      intro a w1 hw hO hN
      obtain rfl:w1=w6.drew:=hw (by decide)
      obtain⟨v0,g0,r0⟩:=aj hN 0 53
      have e0:v0=.pointer (some ⟨rb,0,none⟩):=r0
      rw[e0] at g0
      exact ah rfl (.pointer (some ⟨rb,0,none⟩)) _ rfl (by go_simp) ⟨_,rfl,rfl,fun _=>rfl⟩
     case s2=>
      intro a w1 hw hO hN
      obtain rfl:w1=w6.drew:=hw (by decide)
      obtain⟨v1,g1,r1⟩:=aj hN 1 54
      have e1:v1=.pointer (some ⟨rb,0,none⟩):=r1
      rw[e1] at g1
      exact ah rfl (.pointer (some ⟨rb,3,none⟩)) _ rfl (by go_simp) ⟨_,rfl,rfl,fun _=>rfl⟩
     case s3=>
      intro a w1 hw hO hN
      obtain rfl:w1=w6.drew:=hw (by decide)
      obtain⟨v2,g2,r2⟩:=aj hN 2 55
      have e2:v2=.pointer (some ⟨rb,3,none⟩):=r2
      rw[e2] at g2
      have hc:w6.drew.cell? ⟨rb,3,none⟩=some (.slice (some ⟨gs,0,none⟩) q.1.st.length cs):=H6.out.drew.rn.run.cell 3
      exact ah rfl (.slice (some ⟨gs,0,none⟩) q.1.st.length cs) _ rfl (by go_simp) ⟨_,rfl,rfl,fun _=>rfl⟩
     case s4=>
      intro a w1 hw hO hN
      obtain rfl:w1=w6.drew:=hw (by decide)
      have SB:a.tmps[13]?=some (.int .i64 (q.2.2:Int)):=outs hO 13 rfl
      exact ah rfl (.int .i64 (q.2.2:Int)) _ rfl (by go_simp) ⟨_,rfl,rfl,fun _=>rfl⟩
     case s5=>
      intro a w1 hw hO hN
      obtain rfl:w1=w6.drew:=hw (by decide)
      obtain⟨v3,g3,r3⟩:=aj hN 3 56
      have e3:v3=.slice (some ⟨gs,0,none⟩) q.1.st.length cs:=r3
      rw[e3] at g3
      obtain⟨v4,g4,r4⟩:=aj hN 4 57
      have e4:v4=.int .i64 (q.2.2:Int):=r4
      rw[e4] at g4
      exact ah rfl (.pointer (some ⟨gs,q.2.2 * 21,none⟩)) _ rfl (by go_simp) ⟨_,rfl,rfl,fun _=>rfl⟩
     case s6=>
      intro a w1 hw hO hN
      obtain rfl:w1=w6.drew:=hw (by decide)
      obtain⟨v5,g5,r5⟩:=aj hN 5 58
      have e5:v5=.pointer (some ⟨gs,q.2.2 * 21,none⟩):=r5
      rw[e5] at g5
      exact ah rfl (.pointer (some ⟨gs,q.2.2 * 21+17,none⟩)) _ rfl (by go_simp) ⟨_,rfl,rfl,fun _=>rfl⟩
     case s7=>
      intro a w1 hw hO hN
      obtain rfl:w1=w6.drew:=hw (by decide)
      obtain⟨v6,g6,r6⟩:=aj hN 6 59
      have e6:v6=.pointer (some ⟨gs,q.2.2 * 21+17,none⟩):=r6
      rw[e6] at g6
      have hc:w6.drew.cell? ⟨gs,q.2.2 * 21+17,none⟩=some (.bool pv):=Tk.out
      exact ah rfl (.bool pv) _ rfl (by go_simp) ⟨_,rfl,rfl,fun _=>rfl⟩
     case s8=>
      intro a w1 hw hO hN
      obtain rfl:w1=w6.drew:=hw (by decide)
      have EO:a.tmps[12]?=some (.pointer (some ⟨rb,0,none⟩)):=outs hO 12 rfl
      exact ah rfl (.pointer (some ⟨rb,0,none⟩)) _ rfl (by go_simp) ⟨_,rfl,rfl,fun _=>rfl⟩
     case s9=>
      intro a w1 hw hO hN
      obtain rfl:w1=w6.drew:=hw (by decide)
      obtain⟨v8,g8,r8⟩:=aj hN 8 61
      have e8:v8=.pointer (some ⟨rb,0,none⟩):=r8
      rw[e8] at g8
      exact ah rfl (.pointer (some ⟨rb,0,none⟩)) _ rfl (by go_simp) ⟨_,rfl,rfl,fun _=>rfl⟩
     case s10=>
      intro a w1 hw hO hN
      obtain rfl:w1=w6.drew:=hw (by decide)
      obtain⟨v9,g9,r9⟩:=aj hN 9 62
      have e9:v9=.pointer (some ⟨rb,0,none⟩):=r9
      rw[e9] at g9
      exact ah rfl (.pointer (some ⟨rb,3,none⟩)) _ rfl (by go_simp) ⟨_,rfl,rfl,fun _=>rfl⟩
     case s11=>
      intro a w1 hw hO hN
      obtain rfl:w1=w6.drew:=hw (by decide)
      obtain⟨v10,g10,bM⟩:=aj hN 10 63
      have e10:v10=.pointer (some ⟨rb,3,none⟩):=bM
      rw[e10] at g10
      have hc:w6.drew.cell? ⟨rb,3,none⟩=some (.slice (some ⟨gs,0,none⟩) q.1.st.length cs):=H6.out.drew.rn.run.cell 3
      exact ah rfl (.slice (some ⟨gs,0,none⟩) q.1.st.length cs) _ rfl (by go_simp) ⟨_,rfl,rfl,fun _=>rfl⟩
     case s12=>
      intro a w1 hw hO hN
      obtain rfl:w1=w6.drew:=hw (by decide)
      have EO:a.tmps[12]?=some (.pointer (some ⟨rb,0,none⟩)):=outs hO 12 rfl
      exact ah rfl (.pointer (some ⟨rb,0,none⟩)) _ rfl (by go_simp) ⟨_,rfl,rfl,fun _=>rfl⟩
     case s13=>
      intro a w1 hw hO hN
      obtain rfl:w1=w6.drew:=hw (by decide)
      obtain⟨v12,g12,bT⟩:=aj hN 12 65
      have e12:v12=.pointer (some ⟨rb,0,none⟩):=bT
      rw[e12] at g12
      exact ah rfl (.pointer (some ⟨rb,0,none⟩)) _ rfl (by go_simp) ⟨_,rfl,rfl,fun _=>rfl⟩
     case gG=>
      intro a w1 hw hO hN
      obtain rfl:w1=w6.drew:=hw (by decide)
      obtain⟨v13,g13,bY⟩:=aj hN 13 66
      have e13:v13=.pointer (some ⟨rb,0,none⟩):=bY
      rw[e13] at g13
      exact ah rfl (.pointer (some ⟨rb,2,none⟩)) _ rfl (by go_simp) ⟨_,rfl,rfl,fun _=>rfl⟩
     case s15=>
      intro a w1 hw hO hN
      obtain rfl:w1=w6.drew:=hw (by decide)
      obtain⟨v14,g14,bZ⟩:=aj hN 14 67
      have e14:v14=.pointer (some ⟨rb,2,none⟩):=bZ
      rw[e14] at g14
      have hc:w6.drew.cell? ⟨rb,2,none⟩=some (.int .i64 (q.1.vs:Int)):=H6.out.drew.rn.run.cell 2
      exact ah rfl (.int .i64 (q.1.vs:Int)) _ rfl (by go_simp) ⟨_,rfl,rfl,fun _=>rfl⟩
     case s16=>
      intro a w1 hw hO hN
      obtain rfl:w1=w6.drew:=hw (by decide)
      obtain⟨v7,g7,r7⟩:=aj hN 7 60
      have e7:v7=.bool pv:=r7
      rw[e7] at g7
      obtain⟨v11,g11,bP⟩:=aj hN 11 64
      have e11:v11=.slice (some ⟨gs,0,none⟩) q.1.st.length cs:=bP
      rw[e11] at g11
      obtain⟨v15,g15,dI⟩:=aj hN 15 68
      have e15:v15=.int .i64 (q.1.vs:Int):=dI
      rw[e15] at g15
      have hb1:=Ol w6.drew pv (some ⟨gs,0,none⟩) q.1.st.length cs q.1.vs
      exact ah rfl (.agg (dK pv (.slice (some ⟨gs,0,none⟩) q.1.st.length cs) q.1.vs)) _ rfl (by simp[execOp,Act.eval,g7,g11,g15,hb1,Result.andThen]) ⟨_,rfl,rfl,fun _=>rfl⟩
     case rW=>
      intro a w1 hw hO hN
      obtain rfl:w1=w6.drew:=hw (by decide)
      obtain⟨v16,g16,r16⟩:=aj hN 16 69
      have e16:v16=.agg (dK pv (.slice (some ⟨gs,0,none⟩) q.1.st.length cs) q.1.vs):=r16
      rw[e16] at g16
      have o6:a.tmps[6]?=some (.pointer (some ⟨b6,0,none⟩)):=outs hO 6 rfl
      have hst:(Instr.storeAt 35 (.pointer (some ⟨b6,0,none⟩)) (.agg (dK pv (.slice (some ⟨gs,0,none⟩) q.1.st.length cs) q.1.vs))).run Tryz.prog w6.drew=.ok () (w6.drew.setRow b6 (dK pv (.slice (some ⟨gs,0,none⟩) q.1.st.length cs) q.1.vs)):=by
       simp only[Instr.storeAt,Instr.sureAddr,Sem.run_bind,Sem.run_pure,Result.andThen]
       exact run_storeVar_row w6.drew b6 35 35 _ _ H6.out.drew.c6 (by rw[iN];rfl) rfl (fU ..)
      exact je rfl rfl 35 (.tmp 6) (.tmp 69) rfl (by simp[Act.eval,o6]) (by simp[Act.eval,g16]) hst ⟨_,rfl,⟨setRow_heap w6.drew b6 _ _ _ _ H6.out.drew.c6,fq w6.drew b6 _⟩,fun h=>absurd rfl h⟩
     case uJ=>
      intro a w1 hw hO hN
      exact ah rfl (.int .i64 0) _ rfl (by go_simp) ⟨_,rfl,rfl,fun _=>rfl⟩
    case fin=>
     intro vs w1 hV
     obtain⟨hc17,CZ⟩:Cl w1 b6 (dK pv (.slice (some ⟨gs,0,none⟩) q.1.st.length cs) q.1.vs) 35/\dY b6 w6.drew w1:=hV 17 (by decide)
     have e18:vs 18=.int .i64 0:=hV 18 (by decide)
     obtain⟨Tn,nU⟩:=H6.out.drew.set CZ
     clear hV H6 CZ
     simp only[bg,Act.put,List.setIfInBounds_toArray,List.set_cons_zero,List.set_cons_succ,e18]
     clear e18
     go_wp2_with fail
     refine bodyPost_ret (iy rfl _ _ b6 rfl hc17 rfl) rfl ?_
     exact⟨_,rfl,⟨iW,Tn⟩,nU⟩
   ·have sG:(q.2.1 != 0)=true:=by simpa using he
    have pG:X=⟨q.2.1,t,false,[],0⟩:=by rw[sI.out,if_pos he]
    have hcr:ou q.1.t (t.length:Int)=(0,t):=by
     have hE:=yF.out.ext
     have hlen:=hE.len
     simp only at hlen
     unfold ou
     rw[if_pos ⟨by omega,by omega⟩,Int.toNat_natCast]
     rw[show q.1.t.take t.length=t from hE.take]
    have KC:=show Hid _ from Es w6 H6.out.rn.tb (t.length:Int)
    rw[hcr] at KC
    subst pG
    clear sI hcr yF
    go_wp2_with fail
    refine Calls.mono KC.out ?_
    rintro e w7 ⟨rfl,C8⟩
    have n6:=H6.out.rn.other H6.out.c6 (by decide) (by decide) (by decide) (Or.inl (by decide))
    have H7:=show Hid (Cl w7 b6 (dK false (.slice none 0 0) 0) 35/\After w b m v t w7/\w.heap.size<=b6) from(by
     refine⟨?_,After.trans H6.out.lv H6.out.kp C8,H6.out.g6⟩
     obtain⟨_,_,_,fF⟩:=C8
     exact(fF.block b6 H6.out.c6.lt (fun hf=>n6 (Or.inr (Or.inr (Or.inr hf))))).trans H6.out.c6)
    clear C8 n6 H6 KC
    go_wp2_with (first|(refine iX rfl rfl ?_)|(refine aK 35 rfl rfl _ _ rfl b6 rfl _ rfl _ _ H7.out.1 (by rw[iN];rfl) rfl (fU ..) ?_))
    intro w8 hc8 bD
    go_wp2_with fail
    refine bodyPost_ret (iy rfl _ _ b6 rfl hc8 rfl) rfl ?_
    refine⟨_,rfl,⟨[],lq _ _⟩,?_⟩
    obtain⟨v7,C9,CX,fF⟩:=H7.out.2.1
    have Y1:=H7.out.2.2
    refine⟨v7,C9.keep (fun k hf=>bD.block k (C9.foot k hf) (fun e => ?_)),CX,fF.trans (S':=fun k=>k=b6) bD (fun i hi=>Or.inr (by omega))⟩
    subst e
    exact fI H7.out.1 (by decide) (by decide) C9 hf
 ·have hzb:(rq != 0)=true:=by simpa using hz
  have hX:X=⟨rq,t,false,[],0⟩:=by rw[HF.out,if_pos hz]
  subst hX
  rw[if_neg hz,if_neg hz]
  clear HF Ab hz
  go_wp2_with (first|(refine iX rfl rfl ?_)|(refine aK 35 rfl rfl _ _ rfl b6 rfl _ rfl _ _ H3.out.c6 (by rw[iN];rfl) rfl (fU ..) ?_))
  intro w4 hc4 hk4
  go_wp2_with fail
  refine bodyPost_ret (iy rfl _ _ b6 rfl hc4 rfl) rfl ?_
  exact⟨_,rfl,⟨[],lq _ _⟩,HA.out _ (aP H3.out.au hk4 H3.out.g6)⟩
end Go.Proofs.YtkejippimkjjaaaGreatDoor
