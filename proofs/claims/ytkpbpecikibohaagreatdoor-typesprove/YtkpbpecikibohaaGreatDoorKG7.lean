import Derived.Test.YtkpbpecikibohaaGreatDoorKG6
import Derived.Test.YtkpbpecikibohaaGreatDoorKG4
import Derived.Test.YtkpbpecikibohaaGreatDoorKCho
import Derived.Test.YtkpbpecikibohaaGreatDoorFG3
import Derived.Test.YtkpbpecikibohaaGreatDoorFG2
set_option linter.unusedSimpArgs false
set_option maxRecDepth 100000
set_option maxHeartbeats 4000000
namespace Go.Proofs.YtkpbpecikibohaaGreatDoor
open Go.RowKit Go.Shelf Go.Maps
open Fm (Nd)
open Bt.Bs (Ok wd)
def mH (b B vs pm:Nat) (sv:Value):Array Value:=#[.pointer (some ⟨b,0,none⟩),.int .i64 (B:Int),.int .i64 (vs:Int),sv,.map (some pm)]
theorem Xy (w:World) (r0 r1 r2 r3 r4 r5 r6 r7 r8 r9 bS bW dB dD dF dP:Nat) (g ru mn:Int) (pv:Bool) (kd:List Nat) (kv:Value):(Instr.buildSlice 56 1 #[(0,.agg (bF ⟨([r0,r1,r2,r3,r4,r5,r6,r7,r8,r9,bS,bW,dB,dD,dF,dP],g),pv,ru,mn,kd⟩ kv))]).run Tryz.prog w=.ok (.slice (some ⟨w.heap.size,0,none⟩) 1 1) (w.alloc (.cells (bF ⟨([r0,r1,r2,r3,r4,r5,r6,r7,r8,r9,bS,bW,dB,dD,dF,dP],g),pv,ru,mn,kd⟩ kv) 102)):=by kernel_rfl
theorem bsS (w:World) {x:Stp} (hx:x.s.1.length=16) (kv:Value):(Instr.buildSlice 56 1 #[(0,.agg (bF x kv))]).run Tryz.prog w=.ok (.slice (some ⟨w.heap.size,0,none⟩) 1 1) (w.alloc (.cells (bF x kv) 102)):=by
 obtain⟨⟨r,g⟩,pv,ru,mn,kd⟩:=x
 simp only at hx
 match r,hx with
 | [r0,r1,r2,r3,r4,r5,r6,r7,r8,r9,bS,bW,dB,dD,dF,dP],_=>exact Xy ..
theorem S9 {w:World} {b B vs pm rb:Nat} {sv:Value} (h:Cl w rb (mH b B vs pm sv) 98) (p:Option Addr) (n c:Nat):(Instr.storeAt 56 (.pointer (some ⟨rb,3,none⟩)) (.slice p n c)).run Tryz.prog w=.ok () (w.setCell ⟨rb,3,none⟩ (.slice p n c)):=by
 have hc:w.cell? ⟨rb,3,none⟩=some sv:=h.cell 3
 have hf:=h.fr 3
 go_simp
theorem run_set {w:World} {b B vs pm rb:Nat} {sv:Value} (h:Cl w rb (mH b B vs pm sv) 98) (bH:Value):Cl (w.setCell ⟨rb,3,none⟩ bH) rb (mH b B vs pm bH) 98:=heap_setCell_same w rb 3 _ _ _ h
def Nn (rb:Nat) (sv:Value) (i k:Nat):Prop:=(i=7/\sv.ownBlock=some k)\/(i=10/\k=rb)
section
variable {W:World} {base rb b B vs pm b8 n:Nat} {sv kv:Value} {x:Stp} {xs:List Value}
theorem Wv (hrb:rb<W.heap.size) (hsv:∀ k,sv.ownBlock=some k->k<W.heap.size) (hne:sv.ownBlock≠some rb):∀ (i j:Nat) (vv:Value) (w w':World),i≠j->i ∉ ([[],[],[1],[2,1],[3,2,1],[],[5],[4,3,2,1,6,5],[0],[8,0],[9,8,0,7,4,3,2,1,6,5]]:List (List Nat)).getD j []->Kp (Nn rb sv i) w w' ->
 (fun ii vv w1=>match ii with | 0=>vv=.pointer (some ⟨rb,0,none⟩) | 1=>vv=.pointer (some ⟨rb,0,none⟩) | 2=>vv=.pointer (some ⟨rb,0,none⟩) | 3=>vv=.pointer (some ⟨rb,3,none⟩) | 4=>vv=sv | 5=>vv=.agg (bF x kv) | 6=>∃ q,vv=.slice (some ⟨q,0,none⟩) 1 1/\Cl w1 q (bF x kv) 102/\W.heap.size<=q | 7=>w1.ownsRow base 102 21 vv (n+1) (xs ++ iU x kv)/\dh W.heap.size sv vv | 8=>vv=.pointer (some ⟨rb,0,none⟩) | 9=>vv=.pointer (some ⟨rb,3,none⟩) | 10=>∃ bH,Cl w1 rb (mH b B vs pm bH) 98/\w1.ownsRow base 102 21 bH (n+1) (xs ++ iU x kv)/\dh W.heap.size sv bH | _=>True:Nat->Value->World->Prop) j vv w ->
 (fun ii vv w1=>match ii with | 0=>vv=.pointer (some ⟨rb,0,none⟩) | 1=>vv=.pointer (some ⟨rb,0,none⟩) | 2=>vv=.pointer (some ⟨rb,0,none⟩) | 3=>vv=.pointer (some ⟨rb,3,none⟩) | 4=>vv=sv | 5=>vv=.agg (bF x kv) | 6=>∃ q,vv=.slice (some ⟨q,0,none⟩) 1 1/\Cl w1 q (bF x kv) 102/\W.heap.size<=q | 7=>w1.ownsRow base 102 21 vv (n+1) (xs ++ iU x kv)/\dh W.heap.size sv vv | 8=>vv=.pointer (some ⟨rb,0,none⟩) | 9=>vv=.pointer (some ⟨rb,3,none⟩) | 10=>∃ bH,Cl w1 rb (mH b B vs pm bH) 98/\w1.ownsRow base 102 21 bH (n+1) (xs ++ iU x kv)/\dh W.heap.size sv bH | _=>True:Nat->Value->World->Prop) j vv w':=by
 intro i j vv w w' hij hn hk h
 match j,h,hn,hij with
 | 0,h,_,_=>exact h
 | 1,h,_,_=>exact h
 | 2,h,_,_=>exact h
 | 3,h,_,_=>exact h
 | 4,h,_,_=>exact h
 | 5,h,_,_=>exact h
 | 6,h,_,_=>
  obtain⟨q,hv,hc,hq⟩:=h
  refine⟨q,hv,(hk.block q hc.lt (fun hf => ?_)).trans hc,hq⟩
  rcases hf with ⟨_,e⟩ | ⟨_,e⟩
  ·have:=hsv q e;omega
  ·omega
 | 7,h,_,hij=>
  refine⟨bD h.1 fun k e=>hk.block k (aP h.1 k e).2.1 (fun hf => ?_),h.2⟩
  rcases hf with ⟨e7,_⟩ | ⟨_,e2⟩
  ·exact hij e7
  ·rcases h.2 k e with h1 | h1
   ·exact hne (e2 ▸ h1)
   ·omega
 | 8,h,_,_=>exact h
 | 9,h,_,_=>exact h
 | 10,h,hn,hij=>
  have hno:∀ k,¬ Nn rb sv i k:=fun k hf=>by
   rcases hf with ⟨e7,_⟩ | ⟨e10,_⟩
   ·exact hn (by rw[e7];decide)
   ·exact hij e10
  obtain⟨bH,h1,h2,h3⟩:=h
  exact⟨bH,(hk.block rb h1.lt (hno rb)).trans h1,bD h2 fun k e=>hk.block k (aP h2 k e).2.1 (hno k),h3⟩
 | _+11,_,_,_=>trivial
structure SA (W w:World) (base rb b B vs pm b8 n:Nat) (sv kv:Value) (x:Stp) (xs:List Value) (done:Nat->Bool):Prop where
 kp:Kp (fun k=>k=rb\/sv.ownBlock=some k) W w
 row:done 7=false->w.ownsRow base 102 21 sv n xs
 run:done 10=false->Cl w rb (mH b B vs pm sv) 98
theorem SA.other {w w':World} {done:Nat->Bool} (h:SA W w base rb b B vs pm b8 n sv kv x xs done) (i:Nat) (hb:Below w.heap.size w w'):SA W w' base rb b B vs pm b8 n sv kv x xs (fun j=>j == i || done j):=by
 refine⟨h.kp.trans (Kp.of_below (S:=fun _=>False) hb) (fun _ hf=>hf.elim),fun hd => ?_,fun hd => ?_⟩
 ·simp only[Bool.or_eq_false_iff] at hd
  exact bD (h.row hd.2) fun k e=>hb.block k (aP (h.row hd.2) k e).2.1
 ·simp only[Bool.or_eq_false_iff] at hd
  exact(h.run hd.2).later hb
end
theorem Rn.put {W W1 W2:World} {base base' rb pm b m:Nat} {v sv bH kv:Value} {kvs:List Value} {B:Nat} {R:Rs} {x:Stp} (h:Rn W base rb pm b m v sv kvs B R) (hx:Ok x.s.1) (hkv:W.ownsRow base' 3 1 kv x.kd.length (kW x.kd)) (hb:base<=base')
 (hm1:∃ D',lG W1 pm D'/\mU D' (R.st ++ [x])) (hk1:Kp (fun k=>k=pm) W W1) (hrun:Cl W2 rb (mH b B R.vs pm bH) 98) (hrow:W2.ownsRow base 102 21 bH (R.st.length+1) (oC R.st kvs ++ iU x kv)) (hl:dh W1.heap.size sv bH) (hk2:Kp (fun k=>k=rb\/sv.ownBlock=some k) W1 W2) :
 Rn W2 base rb pm b m v bH (kvs ++ [kv]) B ⟨R.t,R.st ++ [x],R.vs⟩/\dh W.heap.size sv bH/\Kp (qE rb pm b m v sv) W W2:=by
 have hk:Kp (fun k=>k=pm\/k=rb\/sv.ownBlock=some k) W W2:=Kp.trans (S:=fun k=>k=pm\/k=rb\/sv.ownBlock=some k) ⟨hk1.os,hk1.tape,hk1.output,hk1.size,fun k hk hn=>hk1.block k hk (fun e=>hn (Or.inl e))⟩ hk2 (fun i hi=>Or.inl (Or.inr hi))
 have Np:Kp (qE rb pm b m v sv) W W2:=⟨hk.os,hk.tape,hk.output,hk.size,fun k hlt hn=>hk.block k hlt (fun e=>by
  rcases e with e | e | e
  ·exact hn (Or.inr (Or.inl e))
  ·exact hn (Or.inl e)
  ·exact hn (Or.inr (Or.inr (Or.inl e))))⟩
 have hl2:dh W.heap.size sv bH:=fun k e=>by
  rcases hl k e with h1 | h1
  ·exact Or.inl h1
  ·exact Or.inr (Nat.le_trans hk1.size h1)
 have G7:∀ k,Ft b m v k->¬ (k=pm\/k=rb\/sv.ownBlock=some k):=fun k hf e=>by
  rcases e with rfl | rfl | e
  ·obtain⟨D,hD,_⟩:=h.map
   obtain⟨es,cl,h5⟩:=kZ hD
   rcases hf with rfl | rfl | e
   ·rw[h.tb.tab] at h5;cases h5
   ·exact h.nQ rfl
   ·obtain⟨_,cur,hh⟩:=h.tb.row.lt _ e
    rw[h5] at hh;cases hh
  ·exact jm h.run (by decide) (by decide) h.tb hf
  ·obtain⟨_,_,cur,hc⟩:=h.gy.blk e
   exact jm hc (by decide) (by decide) h.tb hf
 have hnK:∀ k (cur:Array Value),W.heap[k]?=some (.cells cur 3 (0,0))->¬ (k=pm\/k=rb\/sv.ownBlock=some k):=fun k cur hc e=>by
  refine h.other hc (by decide) (by decide) (by decide) (Or.inl (by decide)) ?_
  rcases e with e | e | e
  ·exact Or.inr (Or.inl e)
  ·exact Or.inl e
  ·exact Or.inr (Or.inr (Or.inl e))
 obtain⟨D',hD',hT'⟩:=hm1
 refine⟨⟨hrun,h.tb.keep fun k hf=>hk.block k (h.tb.foot k hf) (G7 k hf),zK h.tz Np h.ng,⟨fun y hy => ?_,?_,?_,fun i y u hy hu => ?_⟩,⟨D',uq hD' (hk2.block pm ?_ (fun e => ?_)),hT'⟩,⟨h.bs.1,h.bs.2.1,Nat.le_trans h.bs.2.2 hk.size⟩,fun hf => ?_,h.nQ⟩,hl2,Np⟩
 ·rcases List.mem_append.1 hy with hy | hy
  ·exact h.gy.ok y hy
  ·obtain rfl:=List.mem_singleton.1 hy
   exact hx
 ·have:=h.gy.len
  simp[this]
 ·show W2.ownsRow base _ 21 bH (R.st ++ [x]).length _
  rw[BJ x kv _ _ h.gy.len,List.length_append,List.length_singleton]
  exact hrow
 ·have hlen:=h.gy.len
  have keep:∀ {bb n:Nat} {u:Value} {zs:List Value},W.ownsRow bb 3 1 u n zs->W2.ownsRow bb 3 1 u n zs:=fun ho=>bD ho fun k e=>by
   obtain⟨_,h2,cur,hc⟩:=aP ho k e
   exact hk.block k h2 (hnK k cur hc)
  by_cases hi:i<R.st.length
  ·have hy:(R.st ++ [x])[i]?=some y:=hy
   rw[List.getElem?_append_left hi] at hy
   rw[List.getElem?_append_left (by omega)] at hu
   exact keep (h.gy.kid i y u hy hu)
  ·have hy:(R.st ++ [x])[i]?=some y:=hy
   rw[List.getElem?_append_right (by omega)] at hy
   rw[List.getElem?_append_right (by omega)] at hu
   have e0:i - R.st.length=0:=by
    have:=(List.getElem?_eq_some_iff.1 hy).1
    simp at this
    omega
   rw[e0] at hy
   rw[hlen,e0] at hu
   simp at hy hu
   subst hy
   subst hu
   exact lT (keep hkv) hb
 ·obtain⟨es,cl,h5⟩:=kZ hD'
  exact lt_of_block h5
 ·obtain⟨es,cl,h5⟩:=kZ hD'
  rcases e with e | e
  ·have:=h.run
   unfold Cl at this
   rw[<- e] at this
   obtain⟨D,hD,_⟩:=h.map
   obtain⟨es,cl,h6⟩:=kZ hD
   rw[this] at h6
   cases h6
  ·obtain⟨_,_,cur,hc⟩:=h.gy.blk e
   obtain⟨D,hD,_⟩:=h.map
   obtain⟨es,cl,h6⟩:=kZ hD
   rw[hc] at h6
   cases h6
 ·rcases hf with e | e | e | e
  ·exact h.ng (Or.inl e)
  ·exact h.ng (Or.inr (Or.inl e))
  ·rcases hl2 _ e with h1 | h1
   ·exact h.ng (Or.inr (Or.inr (Or.inl h1)))
   ·have:=Bt.qL h.tz
    omega
  ·exact h.ng (Or.inr (Or.inr (Or.inr e)))
theorem Rn.visit {W W1:World} {base rb pm b m:Nat} {v sv:Value} {kvs:List Value} {B:Nat} {R:Rs} (h:Rn W base rb pm b m v sv kvs B R) (hc:Cl W1 rb (mH b B (R.vs+1) pm sv) 98) (hk:dn rb W W1):Rn W1 base rb pm b m v sv kvs B ⟨R.t,R.st,R.vs+1⟩/\gJ W W1 rb pm b m v sv kvs v sv kvs:=by
 have Np:Kp (qE rb pm b m v sv) W W1:=⟨hk.os,hk.tape,hk.output,hk.size,fun k hlt hn=>hk.block k hlt (fun e=>hn (Or.inl e))⟩
 obtain⟨D,hD,hT⟩:=h.map
 refine⟨⟨hc,h.tb.keep fun k hf=>hk.block k (h.tb.foot k hf) (fun e => ?_),zK h.tz Np h.ng,h.gy.keep (fun k e=>hk.block k (h.gy.blk e).2.1 (fun e2 => ?_)) (fun k hb=>hk.block k (h.gy.kb hb).2.1 (fun e => ?_)),⟨D,uq hD (hk.block pm h.PK (fun e => ?_)),hT⟩,⟨h.bs.1,h.bs.2.1,Nat.le_trans h.bs.2.2 hk.size⟩,h.ng,h.nQ⟩,⟨dh.refl _ _,dh.refl _ _,fun _ h=>Or.inl h,Np⟩⟩
 ·subst e
  exact jm h.run (by decide) (by decide) h.tb hf
 ·subst e2
  obtain⟨_,_,cur,hc2⟩:=h.gy.blk e
  exact absurd (gF hc2 h.run) (by decide)
 ·subst e
  exact h.gy.BK h.run (by decide) hb
 ·subst e
  obtain⟨es,cl,h6⟩:=kZ hD
  have:=h.run
  unfold Cl at this
  rw[h6] at this
  cases this
section
variable {ops:Array Oper} {rest:List Oper} {o:Oper} {a:Act} {Q:Exit->Act->World->Prop} {w:World}
theorem Ta {b B vs pm rb:Nat} {sv:Value} (h:Cl w rb (mH b B vs pm sv) 98) (y:Int):(Instr.storeAt 3 (.pointer (some ⟨rb,2,none⟩)) (.int .i64 y)).run Tryz.prog w=.ok () (w.setCell ⟨rb,2,none⟩ (.int .i64 y)):=by
 have hc:w.cell? ⟨rb,2,none⟩=some (.int .i64 (vs:Int)):=h.cell 2
 have hf:=h.fr 2
 go_simp
theorem JN (hg:o.guard=none) (hd:o.dst=none) (x y:Operand) (hop:o.op=Op.store 3 x y) (rb:Nat) (hx:a.eval x=.pointer (some ⟨rb,2,none⟩)) (vs':Nat) (hy:a.eval y=.int .i64 (vs':Int)) {b B vs pm:Nat} {sv:Value} (h:Cl w rb (mH b B vs pm sv) 98)
 (hK:∀ w',Cl w' rb (mH b B vs' pm sv) 98->dn rb w w'->wpList Tryz.prog ops Q rest a w'):wpList Tryz.prog ops Q (o :: rest) a w:=by
 refine wpList_plain hg fun K' hK' => ?_
 have hrun:=Ta h (vs':Int)
 unfold Oper.wp
 simp[execOp,hop,hx,hy,hrun,Result.andThen]
 rw[Oper.upon_skip,hd]
 exact hK' _ _ (hK _ (heap_setCell_same w rb 2 _ _ _ h) (sW w rb 2 _))
end
def uU (B:Nat) (R:Rs) (s:SQ) (q:Rs × Int × Stp):Rs × Int × Nat:=match look R.st s with
 | some p=>(R,0,p)
 | none=>if R.vs=B then (R,110,0) else if q.2.1≠0 then (q.1,q.2.1,0) else (⟨q.1.t,q.1.st ++ [q.2.2],q.1.vs⟩,0,q.1.st.length)
structure DL (w0 W:World) (base rb pm b m:Nat) (v0 sv0:Value) (dW:List Value) (v sv:Value) (kvs:List Value) (B:Nat) (R:Rs) (b3:Nat) (s:SQ):Prop where
 rn:Rn W base rb pm b m v sv kvs B R
 af:gJ w0 W rb pm b m v0 sv0 dW v sv kvs
 s3:bM W b3 s.1 s.2
section
variable {w0 W W':World} {base rb pm b m:Nat} {v0 sv0 v sv v' bH:Value} {dW kvs bI:List Value} {B:Nat} {R R':Rs} {b3:Nat} {s:SQ}
theorem DL.call (h:DL w0 W base rb pm b m v0 sv0 dW v sv kvs B R b3 s) (hr:Rn W' base rb pm b m v' bH bI B R') (ha:gJ W W' rb pm b m v sv kvs v' bH bI):DL w0 W' base rb pm b m v0 sv0 dW v' bH bI B R' b3 s :=
 ⟨hr,h.af.trans ha,ha.cl h.s3 (h.rn.other h.s3 (by decide) (by decide) (by decide) (Or.inl (by decide)))⟩
theorem DL.later (h:DL w0 W base rb pm b m v0 sv0 dW v sv kvs B R b3 s) (hb:Below W.heap.size W W'):DL w0 W' base rb pm b m v0 sv0 dW v sv kvs B R b3 s:=h.call (h.rn.later hb) (gJ.of_below hb)
theorem DL.drew (h:DL w0 W base rb pm b m v0 sv0 dW v sv kvs B R b3 s):DL w0 W.drew base rb pm b m v0 sv0 dW v sv kvs B R b3 s:=h.later (Below.refl _ _).drew
end
theorem EU {base rb pm b m B:Nat} (w:World) {v sv:Value} {kvs:List Value} {R:Rs} (hR:Rn w base rb pm b m v sv kvs B R) (hB:B<=4096) (hvs:R.vs<=B) {s:SQ} (hs:gq s) (q:Rs × Int × Stp)
 (hE:R.vs≠B->look R.st s=none->(∀ (W:World) (v' bH:Value) (bI:List Value),Rn W base rb pm b m v' bH bI B ⟨R.t,R.st,R.vs+1⟩->Calls Tryz.prog 69 #[.pointer (some ⟨rb,0,none⟩),.agg (au s.1 s.2)] W fun e w'=>JM W base rb pm b m v' bH bI B q e w')/\q.2.2.s.1.length=16/\(q.2.1=0->q.2.2.s=s/\q.1.st.length<=4096)) :
 Calls Tryz.prog 33 #[.pointer (some ⟨rb,0,none⟩),.agg (au s.1 s.2)] w fun e w'=>e=.returned (.tuple #[.int .i64 ((uU B R s q).2.2:Int),.int .i64 (uU B R s q).2.1])/\∃ v' bH bI,Rn w' base rb pm b m v' bH bI B (uU B R s q).1/\gJ w w' rb pm b m v sv kvs v' bH bI:=by
 have hl:=hs.1.1
 have xS:=show Hid (2<w.heap.size) from Bt.qL hR.tz
 have HS:=show Hid (gq s) from hs
 have HE:=show Hid _ from hE
 have Ww:=show Hid (uU B R s q=match look R.st s with | some p=>(R,0,p) | none=>if R.vs=B then (R,110,0) else if q.2.1≠0 then (q.1,q.2.1,0) else (⟨q.1.t,q.1.st ++ [q.2.2],q.1.vs⟩,0,q.1.st.length)) from rfl
 have YX:=show Hid (∀ W:World,∀ v' bH:Value,∀ bI:List Value,Rn W base rb pm b m v' bH bI B R->(Instr.lookup 96 (.map (some pm)) (.agg (au s.1 s.2)) true).run Tryz.prog W=.ok (.tuple #[.int .i64 (((look R.st s).getD 0:Nat):Int),.bool (look R.st s).isSome]) W) from fun W v' bH bI h=>by
  obtain⟨D,hD,hT⟩:=h.map
  exact Xr hD hT hs
 generalize uU B R s q=X at *
 have aV:=show Hid (base<=w.heap.size) from hR.bs.2.2
 clear hE hs
 generalize look R.st s=lo at *
 go_enter Tryz.func33,Tryz.ntmps33
 go_wp2_with (refine aC 53 _ rfl _ rfl rfl ?_)
 intro w2 b3 hn2
 have H2:=show Hid (DL w w2 base rb pm b m v sv kvs v sv kvs B R b3 s) from⟨hR.later hn2.av,gJ.of_below hn2.av,hn2.blk⟩
 clear hn2 hR
 go_wp2_with fail
 refine iD (by kernel_rfl) 5 [some 12,some 13,some 14,some 15,some 16,some 17,some 11,some 18,some 19,some 6,some 7] [[],[0],[1],[2],[],[3,4],[5],[6],[6],[7],[8]] [[],[0],[1,0],[2,1,0],[],[3,2,1,0,4],[5,3,2,1,0,4],[6,5,3,2,1,0,4],[6,5,3,2,1,0,4],[7,6,5,3,2,1,0,4],[8,6,5,3,2,1,0,4]] (by kernel_rfl) (by decide) (fun ii vv w1=>match ii with | 0=>vv=.pointer (some ⟨rb,0,none⟩) | 1=>vv=.pointer (some ⟨rb,0,none⟩) | 2=>vv=.pointer (some ⟨rb,4,none⟩) | 3=>vv=.map (some pm) | 4=>vv=.agg (au s.1 s.2) | 5=>vv=.tuple #[.int .i64 ((lo.getD 0:Nat):Int),.bool lo.isSome]/\w1=w2.drew | 6=>vv=.tuple #[.int .i64 ((lo.getD 0:Nat):Int),.bool lo.isSome] | 7=>vv=.int .i64 ((lo.getD 0:Nat):Int) | 8=>vv=.bool lo.isSome | 9=>vv=.int .i64 ((lo.getD 0:Nat):Int) | 10=>vv=.bool lo.isSome | _=>True) ?hfree (dL 11 ?steps) ?fin
 case hfree=>
  intro j v w1 w2 hj hn h
  match j,h,hj,hn with
  | 0,h,_,_=>exact h
  | 1,h,_,_=>exact h
  | 2,h,_,_=>exact h
  | 3,h,_,_=>exact h
  | 4,h,_,_=>exact h
  | 5,_,hj,_=>exact absurd rfl hj
  | 6,_,_,hn=>exact absurd (by decide) hn
  | 7,_,_,hn=>exact absurd (by decide) hn
  | 8,_,_,hn=>exact absurd (by decide) hn
  | 9,_,_,hn=>exact absurd (by decide) hn
  | 10,_,_,hn=>exact absurd (by decide) hn
  | _+11,_,_,_=>trivial
 case steps=>
  refine⟨⟨⟨⟨⟨⟨⟨⟨⟨⟨⟨trivial,?s0⟩,?s1⟩,?s2⟩,?s3⟩,?s4⟩,?s5⟩,?s6⟩,?s7⟩,?s8⟩,?s9⟩,?s10⟩
  case s0=>
   intro a w1 hw hO hN
   obtain rfl:w1=w2.drew:=hw (by decide)
   have o0:a.tmps[0]?=some (.pointer (some ⟨rb,0,none⟩)):=outs hO 0 rfl
   exact ah rfl (.pointer (some ⟨rb,0,none⟩)) _ rfl (by go_simp) ⟨_,rfl,rfl,fun _=>rfl⟩
  case s1=>
   intro a w1 hw hO hN
   obtain rfl:w1=w2.drew:=hw (by decide)
   obtain⟨v0,g0,r0⟩:=aj hN 0 12
   have e0:v0=.pointer (some ⟨rb,0,none⟩):=r0
   rw[e0] at g0
   exact ah rfl (.pointer (some ⟨rb,0,none⟩)) _ rfl (by go_simp) ⟨_,rfl,rfl,fun _=>rfl⟩
  case s2=>
   intro a w1 hw hO hN
   obtain rfl:w1=w2.drew:=hw (by decide)
   obtain⟨v1,g1,r1⟩:=aj hN 1 13
   have e1:v1=.pointer (some ⟨rb,0,none⟩):=r1
   rw[e1] at g1
   exact ah rfl (.pointer (some ⟨rb,4,none⟩)) _ rfl (by go_simp) ⟨_,rfl,rfl,fun _=>rfl⟩
  case s3=>
   intro a w1 hw hO hN
   obtain rfl:w1=w2.drew:=hw (by decide)
   obtain⟨v2,g2,r2⟩:=aj hN 2 14
   have e2:v2=.pointer (some ⟨rb,4,none⟩):=r2
   rw[e2] at g2
   have hc:w2.drew.cell? ⟨rb,4,none⟩=some (.map (some pm)):=H2.out.drew.rn.run.cell 4
   exact ah rfl (.map (some pm)) _ rfl (by go_simp) ⟨_,rfl,rfl,fun _=>rfl⟩
  case s4=>
   intro a w1 hw hO hN
   obtain rfl:w1=w2.drew:=hw (by decide)
   have o3:a.tmps[3]?=some (.pointer (some ⟨b3,0,none⟩)):=outs hO 3 rfl
   have hl:=pU w2.drew b3 H2.out.drew.s3 hl
   exact ah rfl (.agg (au s.1 s.2)) _ rfl (by simp[execOp,Act.eval,o3,hl,Result.andThen]) ⟨_,rfl,rfl,fun _=>rfl⟩
  case s5=>
   intro a w1 hw hO hN
   obtain rfl:w1=w2.drew:=hw (by decide)
   obtain⟨v3,g3,r3⟩:=aj hN 3 15
   have e3:v3=.map (some pm):=r3
   rw[e3] at g3
   obtain⟨v4,g4,r4⟩:=aj hN 4 16
   have e4:v4=.agg (au s.1 s.2):=r4
   rw[e4] at g4
   have hk:=YX.out w2.drew v sv kvs H2.out.drew.rn
   exact ah rfl (.tuple #[.int .i64 ((lo.getD 0:Nat):Int),.bool lo.isSome]) _ rfl (by simp[execOp,Act.eval,g3,g4,hk,Result.andThen]) ⟨_,rfl,⟨rfl,rfl⟩,fun h=>absurd rfl h⟩
  case s6=>
   intro a w1 hw hO hN
   obtain⟨v5,g5,r5⟩:=aj hN 5 17
   obtain⟨rfl,_⟩:=r5
   exact ah rfl (.tuple #[.int .i64 ((lo.getD 0:Nat):Int),.bool lo.isSome]) _ rfl (by go_simp) ⟨_,rfl,rfl,fun _=>rfl⟩
  case s7=>
   intro a w1 hw hO hN
   obtain⟨v6,g6,r6⟩:=aj hN 6 11
   have e6:v6=.tuple #[.int .i64 ((lo.getD 0:Nat):Int),.bool lo.isSome]:=r6
   rw[e6] at g6
   exact ah rfl (.int .i64 ((lo.getD 0:Nat):Int)) _ rfl (by go_simp) ⟨_,rfl,rfl,fun _=>rfl⟩
  case s8=>
   intro a w1 hw hO hN
   obtain⟨v6,g6,r6⟩:=aj hN 6 11
   have e6:v6=.tuple #[.int .i64 ((lo.getD 0:Nat):Int),.bool lo.isSome]:=r6
   rw[e6] at g6
   exact ah rfl (.bool lo.isSome) _ rfl (by go_simp) ⟨_,rfl,rfl,fun _=>rfl⟩
  case s9=>
   intro a w1 hw hO hN
   obtain⟨v7,g7,r7⟩:=aj hN 7 18
   have e7:v7=.int .i64 ((lo.getD 0:Nat):Int):=r7
   rw[e7] at g7
   exact ah rfl (.int .i64 ((lo.getD 0:Nat):Int)) _ rfl (by go_simp) ⟨_,rfl,rfl,fun _=>rfl⟩
  case s10=>
   intro a w1 hw hO hN
   obtain⟨v8,g8,r8⟩:=aj hN 8 19
   have e8:v8=.bool lo.isSome:=r8
   rw[e8] at g8
   exact ah rfl (.bool lo.isSome) _ rfl (by go_simp) ⟨_,rfl,rfl,fun _=>rfl⟩
 case fin=>
  intro vs w1 hV
  obtain⟨_,rfl⟩:vs 5=.tuple #[.int .i64 ((lo.getD 0:Nat):Int),.bool lo.isSome]/\w1=w2.drew:=hV 5 (by decide)
  have e9:vs 9=.int .i64 ((lo.getD 0:Nat):Int):=hV 9 (by decide)
  have e10:vs 10=.bool lo.isSome:=hV 10 (by decide)
  have H3:=show Hid _ from H2.out.drew
  clear H2 hV YX
  simp only[bn,Act.put,List.setIfInBounds_toArray,List.set_cons_zero,List.set_cons_succ,e9,e10]
  clear e9 e10
  generalize w2.drew=w3 at *
  cases lo with
  | some p=>
   have hX:X=(R,0,p):=Ww.out
   subst hX
   simp only[Option.isSome_some,Option.getD_some]
   go_wp2_with fail
   go_ret2
   exact⟨rfl,v,sv,kvs,H3.out.rn,H3.out.af⟩
  | none=>
   simp only[Option.isSome_none,Option.getD_none]
   have HX:=show Hid (X=if R.vs=B then (R,110,0) else if q.2.1≠0 then (q.1,q.2.1,0) else (⟨q.1.t,q.1.st ++ [q.2.2],q.1.vs⟩,0,q.1.st.length)) from Ww.out
   clear Ww
   go_wp2_with fail
   refine iD (by kernel_rfl) 8 [some 22,some 23,some 24,some 25,some 26,some 27,some 28,some 29,some 30] [[],[0],[1],[2],[],[4],[5],[6],[3,7]] [[],[0],[1,0],[2,1,0],[],[4],[5,4],[6,5,4],[3,2,1,0,7,6,5,4]] (by kernel_rfl) (by decide) (fun ii vv w1=>match ii with | 0=>vv=.pointer (some ⟨rb,0,none⟩) | 1=>vv=.pointer (some ⟨rb,0,none⟩) | 2=>vv=.pointer (some ⟨rb,2,none⟩) | 3=>vv=.int .i64 (R.vs:Int) | 4=>vv=.pointer (some ⟨rb,0,none⟩) | 5=>vv=.pointer (some ⟨rb,0,none⟩) | 6=>vv=.pointer (some ⟨rb,1,none⟩) | 7=>vv=.int .i64 (B:Int) | 8=>vv=.bool ((R.vs:Int) == (B:Int))/\w1=w3.drew | _=>True) ?hfree (dL 9 ?steps) ?fin
   case hfree=>
    intro j v w1 w2 hj hn h
    match j,h,hj,hn with
    | 0,h,_,_=>exact h
    | 1,h,_,_=>exact h
    | 2,h,_,_=>exact h
    | 3,h,_,_=>exact h
    | 4,h,_,_=>exact h
    | 5,h,_,_=>exact h
    | 6,h,_,_=>exact h
    | 7,h,_,_=>exact h
    | 8,_,hj,_=>exact absurd rfl hj
    | _+9,_,_,_=>trivial
   case steps=>
    refine⟨⟨⟨⟨⟨⟨⟨⟨⟨trivial,?s0⟩,?s1⟩,?s2⟩,?s3⟩,?s4⟩,?s5⟩,?s6⟩,?s7⟩,?s8⟩
    case s0=>
     intro a w1 hw hO hN
     obtain rfl:w1=w3.drew:=hw (by decide)
     have o0:a.tmps[0]?=some (.pointer (some ⟨rb,0,none⟩)):=outs hO 0 rfl
     exact ah rfl (.pointer (some ⟨rb,0,none⟩)) _ rfl (by go_simp) ⟨_,rfl,rfl,fun _=>rfl⟩
    case s1=>
     intro a w1 hw hO hN
     obtain rfl:w1=w3.drew:=hw (by decide)
     obtain⟨v0,g0,r0⟩:=aj hN 0 22
     have e0:v0=.pointer (some ⟨rb,0,none⟩):=r0
     rw[e0] at g0
     exact ah rfl (.pointer (some ⟨rb,0,none⟩)) _ rfl (by go_simp) ⟨_,rfl,rfl,fun _=>rfl⟩
    case s2=>
     intro a w1 hw hO hN
     obtain rfl:w1=w3.drew:=hw (by decide)
     obtain⟨v1,g1,r1⟩:=aj hN 1 23
     have e1:v1=.pointer (some ⟨rb,0,none⟩):=r1
     rw[e1] at g1
     exact ah rfl (.pointer (some ⟨rb,2,none⟩)) _ rfl (by go_simp) ⟨_,rfl,rfl,fun _=>rfl⟩
    case s3=>
     intro a w1 hw hO hN
     obtain rfl:w1=w3.drew:=hw (by decide)
     obtain⟨v2,g2,r2⟩:=aj hN 2 24
     have e2:v2=.pointer (some ⟨rb,2,none⟩):=r2
     rw[e2] at g2
     have hc:w3.drew.cell? ⟨rb,2,none⟩=some (.int .i64 (R.vs:Int)):=H3.out.drew.rn.run.cell 2
     exact ah rfl (.int .i64 (R.vs:Int)) _ rfl (by go_simp) ⟨_,rfl,rfl,fun _=>rfl⟩
    case s4=>
     intro a w1 hw hO hN
     obtain rfl:w1=w3.drew:=hw (by decide)
     have o0:a.tmps[0]?=some (.pointer (some ⟨rb,0,none⟩)):=outs hO 0 rfl
     exact ah rfl (.pointer (some ⟨rb,0,none⟩)) _ rfl (by go_simp) ⟨_,rfl,rfl,fun _=>rfl⟩
    case s5=>
     intro a w1 hw hO hN
     obtain rfl:w1=w3.drew:=hw (by decide)
     obtain⟨v4,g4,r4⟩:=aj hN 4 26
     have e4:v4=.pointer (some ⟨rb,0,none⟩):=r4
     rw[e4] at g4
     exact ah rfl (.pointer (some ⟨rb,0,none⟩)) _ rfl (by go_simp) ⟨_,rfl,rfl,fun _=>rfl⟩
    case s6=>
     intro a w1 hw hO hN
     obtain rfl:w1=w3.drew:=hw (by decide)
     obtain⟨v5,g5,r5⟩:=aj hN 5 27
     have e5:v5=.pointer (some ⟨rb,0,none⟩):=r5
     rw[e5] at g5
     exact ah rfl (.pointer (some ⟨rb,1,none⟩)) _ rfl (by go_simp) ⟨_,rfl,rfl,fun _=>rfl⟩
    case s7=>
     intro a w1 hw hO hN
     obtain rfl:w1=w3.drew:=hw (by decide)
     obtain⟨v6,g6,r6⟩:=aj hN 6 28
     have e6:v6=.pointer (some ⟨rb,1,none⟩):=r6
     rw[e6] at g6
     have hc:w3.drew.cell? ⟨rb,1,none⟩=some (.int .i64 (B:Int)):=H3.out.drew.rn.run.cell 1
     exact ah rfl (.int .i64 (B:Int)) _ rfl (by go_simp) ⟨_,rfl,rfl,fun _=>rfl⟩
    case s8=>
     intro a w1 hw hO hN
     obtain rfl:w1=w3.drew:=hw (by decide)
     obtain⟨v3,g3,r3⟩:=aj hN 3 25
     have e3:v3=.int .i64 (R.vs:Int):=r3
     rw[e3] at g3
     obtain⟨v7,g7,r7⟩:=aj hN 7 29
     have e7:v7=.int .i64 (B:Int):=r7
     rw[e7] at g7
     exact ah rfl (.bool ((R.vs:Int) == (B:Int))) _ rfl (by go_simp) ⟨_,rfl,⟨rfl,rfl⟩,fun h=>absurd rfl h⟩
   case fin=>
    intro vs w1 hV
    obtain⟨e8,rfl⟩:vs 8=.bool ((R.vs:Int) == (B:Int))/\w1=w3.drew:=hV 8 (by decide)
    have H4:=show Hid _ from H3.out.drew
    clear H3 hV
    simp only[bn,Act.put,List.setIfInBounds_toArray,List.set_cons_zero,List.set_cons_succ,e8]
    clear e8
    generalize w3.drew=w4 at *
    by_cases hvB:R.vs=B
    ·have heq:((R.vs:Int) == (B:Int))=true:=by rw[hvB];simp
     have hX:X=(R,110,0):=by rw[HX.out,if_pos hvB]
     subst hX
     rw[heq]
     clear HX heq
     go_wp2_with fail
     go_ret2
     exact⟨rfl,v,sv,kvs,H4.out.rn,H4.out.af⟩
    ·have heq:((R.vs:Int) == (B:Int))=false:=by rw[beq_eq_false_iff_ne];intro h;exact hvB (by omega)
     rw[heq]
     have hX2:X=if q.2.1≠0 then (q.1,q.2.1,0) else (⟨q.1.t,q.1.st ++ [q.2.2],q.1.vs⟩,0,q.1.st.length):=by rw[HX.out,if_neg hvB]
     have aA:=show Hid _ from hX2
     obtain⟨hK,JO,hq0⟩:=HE.out hvB (by trivial)
     have HK:=show Hid _ from hK
     have YZ:=show Hid (q.2.1=0->q.2.2.s=s/\q.1.st.length<=4096) from hq0
     clear HX heq hX2 HE hK hq0
     have c2:w4.cell? ⟨rb,2,none⟩=some (.int .i64 (R.vs:Int)):=H4.out.rn.run.cell 2
     have hvl:R.vs<4096:=by omega
     go_wp2_with (refine JN rfl rfl _ _ rfl rb rfl (R.vs+1) (by go_num) H4.out.rn.run ?_)
     intro w5 jZ hk5
     obtain⟨nN,nO⟩:=H4.out.rn.visit jZ hk5
     have H5:=show Hid (DL w w5 base rb pm b m v sv kvs v sv kvs B ⟨R.t,R.st,R.vs+1⟩ b3 s) from H4.out.call nN nO
     have KE:=show Hid _ from HK.out w5 v sv kvs nN
     clear jZ hk5 nN nO H4 c2 HK
     go_wp2_with (refine dU _ _ rfl b3 rfl H5.out.s3 hl rfl ?_)
     refine Calls.mono KE.out ?_
     rintro e w6 ⟨kv,rfl,QG,v6,zO,kJ,jH,BO,zP⟩
     have H6:=show Hid (DL w w6 base rb pm b m v sv kvs v6 zO kJ B q.1 b3 s/\w6.ownsRow w5.heap.size 3 1 kv q.2.2.kd.length (kW q.2.2.kd)/\w.heap.size<=w5.heap.size) from⟨H5.out.call BO zP,QG,H5.out.af.kp.size⟩
     clear QG jH BO zP KE H5
     go_wp2_with (refine aN 102 rfl _ uo rfl ?_)
     intro w7 b8 Bn
     go_wp2_with (refine iA rfl rfl _ _ rfl b8 rfl JO (nD H6.out.2.1) rfl (s0:=fF) rfl Bn.blk ?_)
     intro w8 hc8 gI
     have vk:Below w6.heap.size w6 w8:=bR Bn.av gI Bn.ge
     have H8:=show Hid (DL w w8 base rb pm b m v sv kvs v6 zO kJ B q.1 b3 s/\w8.ownsRow w5.heap.size 3 1 kv q.2.2.kd.length (kW q.2.2.kd)/\w.heap.size<=w5.heap.size/\Cl w8 b8 (bF q.2.2 kv) 102/\zO.ownBlock≠some b8) from⟨H6.out.1.later vk,bD H6.out.2.1 (fun k e=>vk.block k (aP H6.out.2.1 k e).2.1),H6.out.2.2,hc8,fun e=>(by have:=(H6.out.1.rn.gy.blk e).2.1;have:=Bn.ge;omega)⟩
     clear Bn hc8 gI vk H6
     by_cases he:q.2.1=0
     ·have EP:(q.2.1 != 0)=false:=by rw[he];rfl
      obtain⟨Ht,hqn⟩:=YZ.out he
      have EW:X=(⟨q.1.t,q.1.st ++ [q.2.2],q.1.vs⟩,0,q.1.st.length):=by rw[aA.out,if_neg (by rw[he];simp)]
      subst EW
      have Wx:=show Hid (q.2.2.s=s) from Ht
      clear aA YZ Ht
      have c3:w8.cell? ⟨rb,3,none⟩=some zO:=H8.out.1.rn.run.cell 3
      obtain⟨ps,cs,rfl⟩:=H8.out.1.rn.gy.form
      go_wp2_with fail
      refine iD (by kernel_rfl) 6 [some 52,some 53,some 54,some 55,some 56,some 57,none] [[],[0],[1],[2],[],[],[3,4,5]] [[],[0],[1,0],[2,1,0],[],[],[3,2,1,0,4,5]] (by kernel_rfl) (by decide) (fun ii vv w1=>match ii with | 0=>vv=.pointer (some ⟨rb,0,none⟩) | 1=>vv=.pointer (some ⟨rb,0,none⟩) | 2=>vv=.pointer (some ⟨rb,4,none⟩) | 3=>vv=.map (some pm) | 4=>vv=.agg (au s.1 s.2) | 5=>vv=.int .i64 (q.1.st.length:Int) | 6=>(∃ D2,lG w1 pm D2/\mU D2 (q.1.st ++ [q.2.2]))/\Kp (fun k=>k=pm) w8.drew w1 | _=>True) ?hfree (dL 7 ?steps) ?fin
      case hfree=>
       intro j v w1 w2 hj hn h
       match j,h,hj,hn with
       | 0,h,_,_=>exact h
       | 1,h,_,_=>exact h
       | 2,h,_,_=>exact h
       | 3,h,_,_=>exact h
       | 4,h,_,_=>exact h
       | 5,h,_,_=>exact h
       | 6,_,hj,_=>exact absurd rfl hj
       | _+7,_,_,_=>trivial
      case steps=>
       refine⟨⟨⟨⟨⟨⟨⟨trivial,?s0⟩,?s1⟩,?s2⟩,?s3⟩,?s4⟩,?s5⟩,?s6⟩
       case s0=>
        intro a w1 hw hO hN
        obtain rfl:w1=w8.drew:=hw (by decide)
        have o0:a.tmps[0]?=some (.pointer (some ⟨rb,0,none⟩)):=outs hO 0 rfl
        exact ah rfl (.pointer (some ⟨rb,0,none⟩)) _ rfl (by go_simp) ⟨_,rfl,rfl,fun _=>rfl⟩
       case s1=>
        intro a w1 hw hO hN
        obtain rfl:w1=w8.drew:=hw (by decide)
        obtain⟨v0,g0,r0⟩:=aj hN 0 52
        have e0:v0=.pointer (some ⟨rb,0,none⟩):=r0
        rw[e0] at g0
        exact ah rfl (.pointer (some ⟨rb,0,none⟩)) _ rfl (by go_simp) ⟨_,rfl,rfl,fun _=>rfl⟩
       case s2=>
        intro a w1 hw hO hN
        obtain rfl:w1=w8.drew:=hw (by decide)
        obtain⟨v1,g1,r1⟩:=aj hN 1 53
        have e1:v1=.pointer (some ⟨rb,0,none⟩):=r1
        rw[e1] at g1
        exact ah rfl (.pointer (some ⟨rb,4,none⟩)) _ rfl (by go_simp) ⟨_,rfl,rfl,fun _=>rfl⟩
       case s3=>
        intro a w1 hw hO hN
        obtain rfl:w1=w8.drew:=hw (by decide)
        obtain⟨v2,g2,r2⟩:=aj hN 2 54
        have e2:v2=.pointer (some ⟨rb,4,none⟩):=r2
        rw[e2] at g2
        have hc:w8.drew.cell? ⟨rb,4,none⟩=some (.map (some pm)):=H8.out.1.drew.rn.run.cell 4
        exact ah rfl (.map (some pm)) _ rfl (by go_simp) ⟨_,rfl,rfl,fun _=>rfl⟩
       case s4=>
        intro a w1 hw hO hN
        obtain rfl:w1=w8.drew:=hw (by decide)
        have o3:a.tmps[3]?=some (.pointer (some ⟨b3,0,none⟩)):=outs hO 3 rfl
        have hl:=pU w8.drew b3 H8.out.1.drew.s3 hl
        exact ah rfl (.agg (au s.1 s.2)) _ rfl (by simp[execOp,Act.eval,o3,hl,Result.andThen]) ⟨_,rfl,rfl,fun _=>rfl⟩
       case s5=>
        intro a w1 hw hO hN
        obtain rfl:w1=w8.drew:=hw (by decide)
        have Bp:a.tmps[10]?=some (.int .i64 (q.1.st.length:Int)):=outs hO 10 rfl
        exact ah rfl (.int .i64 (q.1.st.length:Int)) _ rfl (by go_simp) ⟨_,rfl,rfl,fun _=>rfl⟩
       case s6=>
        intro a w1 hw hO hN
        obtain rfl:w1=w8.drew:=hw (by decide)
        obtain⟨v3,g3,r3⟩:=aj hN 3 55
        have e3:v3=.map (some pm):=r3
        rw[e3] at g3
        obtain⟨v4,g4,r4⟩:=aj hN 4 56
        have e4:v4=.agg (au s.1 s.2):=r4
        rw[e4] at g4
        obtain⟨v5,g5,r5⟩:=aj hN 5 57
        have e5:v5=.int .i64 (q.1.st.length:Int):=r5
        rw[e5] at g5
        obtain⟨D,hD,hT⟩:=H8.out.1.drew.rn.map
        obtain⟨w9,hup,QH,kD⟩:=SH hD hT (by omega) (x:=q.2.2) (by rw[Wx.out];exact HS.out)
        rw[Wx.out] at hup
        exact oP rfl w9 rfl (by simp[execOp,Act.eval,g3,g4,g5,hup,Result.andThen]) ⟨_,rfl,⟨QH,kD⟩,fun h=>absurd rfl h⟩
      case fin=>
       intro vs W9 hV
       obtain⟨QH,kD⟩:(∃ D2,lG W9 pm D2/\mU D2 (q.1.st ++ [q.2.2]))/\Kp (fun k=>k=pm) w8.drew W9:=hV 6 (by decide)
       clear hV
       simp only[bn,Act.put,List.setIfInBounds_toArray,List.set_cons_zero,List.set_cons_succ]
       have H9:=show Hid (((∃ D2,lG W9 pm D2/\mU D2 (q.1.st ++ [q.2.2]))/\Kp (fun k=>k=pm) w8.drew W9)/\Cl W9 rb (mH b B q.1.vs pm (.slice ps q.1.st.length cs)) 98/\Cl W9 b8 (bF q.2.2 kv) 102/\W9.ownsRow base 102 21 (.slice ps q.1.st.length cs) q.1.st.length (oC q.1.st kJ)) from(by
        have hne:∀ (k:Nat) (c:Array Value) (T:TypeId),w8.heap[k]?=some (.cells c T (0,0))->k≠pm:=fun k c T hc e=>by
         subst e
         obtain⟨D,hD,_⟩:=H8.out.1.rn.map
         obtain⟨es,cl,h6⟩:=kZ hD
         rw[hc] at h6
         cases h6
        have hrn:=H8.out.1.rn
        exact⟨⟨QH,kD⟩,(kD.block rb hrn.run.lt (hne _ _ _ hrn.run)).trans hrn.run,(kD.block b8 H8.out.2.2.2.1.lt (hne _ _ _ H8.out.2.2.2.1)).trans H8.out.2.2.2.1,bD hrn.gy.row fun k e=>(by obtain⟨_,h2,cur,hc⟩:=aP hrn.gy.row k e;exact kD.block k h2 (hne _ _ _ hc))⟩)
       have nW:=show Hid (rb<W9.heap.size/\(∀ k,(Value.slice ps q.1.st.length cs).ownBlock=some k->k<W9.heap.size)/\(Value.slice ps q.1.st.length cs).ownBlock≠some rb/\base<=W9.heap.size) from⟨H9.out.2.1.lt,fun k e=>(aP H9.out.2.2.2 k e).2.1,fun e=>(by obtain⟨_,_,cur,hc⟩:=aP H9.out.2.2.2 _ e;exact absurd (gF hc H9.out.2.1) (by decide)),Nat.le_trans H8.out.1.rn.bs.2.2 kD.size⟩
       clear QH kD c3
       go_wp2_with fail
       refine qw (by kernel_rfl) [some 58,some 59,some 60,some 61,some 62,some 63,some 64,some 65,some 66,some 67,none] [[],[],[1],[2],[3],[],[5],[4,6],[0],[8],[9,7]] [[],[],[1],[2,1],[3,2,1],[],[5],[4,3,2,1,6,5],[0],[8,0],[9,8,0,7,4,3,2,1,6,5]] (by kernel_rfl) (by decide) (fun ii vv w1=>match ii with | 0=>vv=.pointer (some ⟨rb,0,none⟩) | 1=>vv=.pointer (some ⟨rb,0,none⟩) | 2=>vv=.pointer (some ⟨rb,0,none⟩) | 3=>vv=.pointer (some ⟨rb,3,none⟩) | 4=>vv=.slice ps q.1.st.length cs | 5=>vv=.agg (bF q.2.2 kv) | 6=>∃ q6,vv=.slice (some ⟨q6,0,none⟩) 1 1/\Cl w1 q6 (bF q.2.2 kv) 102/\W9.heap.size<=q6 | 7=>w1.ownsRow base 102 21 vv (q.1.st.length+1) (oC q.1.st kJ ++ iU q.2.2 kv)/\dh W9.heap.size (.slice ps q.1.st.length cs) vv | 8=>vv=.pointer (some ⟨rb,0,none⟩) | 9=>vv=.pointer (some ⟨rb,3,none⟩) | 10=>∃ bH,Cl w1 rb (mH b B q.1.vs pm bH) 98/\w1.ownsRow base 102 21 bH (q.1.st.length+1) (oC q.1.st kJ ++ iU q.2.2 kv)/\dh W9.heap.size (.slice ps q.1.st.length cs) bH | _=>True) (fun done w1=>SA W9 w1 base rb b B q.1.vs pm b8 q.1.st.length (.slice ps q.1.st.length cs) kv q.2.2 (oC q.1.st kJ) done) (fun i w1 w2=>Kp (Nn rb (.slice ps q.1.st.length cs) i) w1 w2) (Wv nW.out.1 nW.out.2.1 nW.out.2.2.1) ?start (dL 11 ?steps) ?fin
       case start=>exact⟨(Kp.refl _ _).drew,fun _=>bD H9.out.2.2.2 (fun _ _=>rfl),fun _=>H9.out.2.1⟩
       case steps=>
        refine⟨⟨⟨⟨⟨⟨⟨⟨⟨⟨⟨trivial,?s0⟩,?s1⟩,?s2⟩,?s3⟩,?s4⟩,?s5⟩,?s6⟩,?s7⟩,?s8⟩,?s9⟩,?s10⟩
        case s0=>
         intro done a w1 hS h0 hd hno hO hN
         have o0:a.tmps[0]?=some (.pointer (some ⟨rb,0,none⟩)):=outs hO 0 rfl
         exact ah rfl (.pointer (some ⟨rb,0,none⟩)) _ rfl (by go_simp) ⟨_,rfl,rfl,hS.other 0 (Below.refl _ _),Kp.refl _ _⟩
        case s1=>
         intro done a w1 hS h0 hd hno hO hN
         have o0:a.tmps[0]?=some (.pointer (some ⟨rb,0,none⟩)):=outs hO 0 rfl
         exact ah rfl (.pointer (some ⟨rb,0,none⟩)) _ rfl (by go_simp) ⟨_,rfl,rfl,hS.other 1 (Below.refl _ _),Kp.refl _ _⟩
        case s2=>
         intro done a w1 hS h0 hd hno hO hN
         obtain⟨v1,g1,r1⟩:=aj hN 1 59
         have e1:v1=.pointer (some ⟨rb,0,none⟩):=r1
         rw[e1] at g1
         exact ah rfl (.pointer (some ⟨rb,0,none⟩)) _ rfl (by go_simp) ⟨_,rfl,rfl,hS.other 2 (Below.refl _ _),Kp.refl _ _⟩
        case s3=>
         intro done a w1 hS h0 hd hno hO hN
         obtain⟨v2,g2,r2⟩:=aj hN 2 60
         have e2:v2=.pointer (some ⟨rb,0,none⟩):=r2
         rw[e2] at g2
         exact ah rfl (.pointer (some ⟨rb,3,none⟩)) _ rfl (by go_simp) ⟨_,rfl,rfl,hS.other 3 (Below.refl _ _),Kp.refl _ _⟩
        case s4=>
         intro done a w1 hS h0 hd hno hO hN
         obtain⟨v3,g3,r3⟩:=aj hN 3 61
         have e3:v3=.pointer (some ⟨rb,3,none⟩):=r3
         rw[e3] at g3
         have hc:w1.cell? ⟨rb,3,none⟩=some (.slice ps q.1.st.length cs):=(hS.run (hno 10 (by decide))).cell 3
         exact ah rfl (.slice ps q.1.st.length cs) _ rfl (by go_simp) ⟨_,rfl,rfl,hS.other 4 (Below.refl _ _),Kp.refl _ _⟩
        case s5=>
         intro done a w1 hS h0 hd hno hO hN
         have o8:a.tmps[8]?=some (.pointer (some ⟨b8,0,none⟩)):=outs hO 8 rfl
         have hc8:Cl w1 b8 (bF q.2.2 kv) 102:=(hS.kp.block b8 H9.out.2.2.1.lt (fun e=>(by
          rcases e with e | e
          ·have hx:=H9.out.2.2.1;rw[e] at hx;exact absurd (gF hx H9.out.2.1) (by decide)
          ·exact H8.out.2.2.2.2 e))).trans H9.out.2.2.1
         have hl5:=run_loadVar_row (P:=Tryz.prog) w1 b8 102 102 (bF q.2.2 kv) (0,0) _ hc8 Tryz.underlying102 rfl (by rw[wK,dO JO])
         have hl6:(Instr.loadAt 102 (.pointer (some ⟨b8,0,none⟩))).run Tryz.prog w1=.ok (.agg (bF q.2.2 kv)) w1:=by
          simp only[Instr.loadAt,Instr.sureAddr,Sem.run_bind,Sem.run_pure,Result.andThen]
          exact hl5
         exact ah rfl (.agg (bF q.2.2 kv)) _ rfl (by simp[execOp,Act.eval,o8,hl6,Result.andThen]) ⟨_,rfl,rfl,hS.other 5 (Below.refl _ _),Kp.refl _ _⟩
        case s6=>
         intro done a w1 hS h0 hd hno hO hN
         obtain⟨v5,g5,r5⟩:=aj hN 5 63
         have e5:v5=.agg (bF q.2.2 kv):=r5
         rw[e5] at g5
         have hb6:=bsS w1 JO kv
         have hsz:=hS.kp.size
         exact ah rfl (.slice (some ⟨w1.heap.size,0,none⟩) 1 1) (w1.alloc (.cells (bF q.2.2 kv) 102)) rfl (by simp[execOp,Act.eval,g5,hb6,Result.andThen]) ⟨_,rfl,⟨w1.heap.size,rfl,heap_alloc_new w1 _,hsz⟩,hS.other 6 (ak w1 _),Kp.of_below (ak w1 _)⟩
        case s7=>
         intro done a w1 hS h0 hd hno hO hN
         obtain⟨v4,g4,r4⟩:=aj hN 4 62
         have e4:v4=.slice ps q.1.st.length cs:=r4
         rw[e4] at g4
         obtain⟨v6,g6,r6⟩:=aj hN 6 64
         obtain⟨q6,rfl,hc6,hq6⟩:=r6
         obtain⟨i0,hi0,hz0,hz1,hz2⟩:=info_parts Xt
         have how:=hS.row h0
         obtain⟨sv7,w7,Xz,sO,EX,_,yH⟩:=run_append_own_at (P:=Tryz.prog) (w:=w1) base 56 56 102 i0 _ 21 184 Tryz.underlying56 hi0 hz0 hz1 hz2 rfl (by decide) (.slice ps q.1.st.length cs) q.1.st.length (oC q.1.st kJ) how ⟨q6,0,none⟩ 1 1 (iU q.2.2 kv) (by rw[rQ JO]) (fun j u hu=>(by rw[Addr.add_lit,Nat.zero_add,hc6.cell];unfold bF;rw[List.getElem?_toArray];exact hu)) (ED q.2.2 (nD H8.out.2.1)) (by unfold maxLen;omega) (by omega) (Nat.le_trans nW.out.2.2.2 hS.kp.size)
         have iI:Kp (Nn rb (.slice ps q.1.st.length cs) 7) w1 w7:=⟨EX.os,EX.tape,EX.output,EX.size,fun k hk hn2=>EX.block k hk (fun e=>hn2 (Or.inl ⟨rfl,e.symm⟩))⟩
         have hsz:=hS.kp.size
         refine ah rfl sv7 w7 rfl (by simp[execOp,Act.eval,resolve,invoke,builtin,g4,g6,Xz,Result.andThen]) ⟨_,rfl,⟨sO,fun k e => ?_⟩,⟨hS.kp.trans iI (fun k hf => ?_),fun h=>(by simp at h),fun h => ?_⟩,iI⟩
         ·rcases yH with h1 | h1
          ·exact Or.inl (h1 ▸ e)
          ·rw[h1] at e;cases e;exact Or.inr hsz
         ·rcases hf with ⟨_,e⟩ | ⟨e,_⟩
          ·exact Or.inl (Or.inr e)
          ·cases e
         ·have hr1:=hS.run (by simpa using h)
          refine(iI.block rb hr1.lt (fun hf => ?_)).trans hr1
          rcases hf with ⟨_,e⟩ | ⟨e,_⟩
          ·exact nW.out.2.2.1 e
          ·cases e
        case s8=>
         intro done a w1 hS h0 hd hno hO hN
         obtain⟨v0,g0,r0⟩:=aj hN 0 58
         have e0:v0=.pointer (some ⟨rb,0,none⟩):=r0
         rw[e0] at g0
         exact ah rfl (.pointer (some ⟨rb,0,none⟩)) _ rfl (by go_simp) ⟨_,rfl,rfl,hS.other 8 (Below.refl _ _),Kp.refl _ _⟩
        case s9=>
         intro done a w1 hS h0 hd hno hO hN
         obtain⟨v8,g8,r8⟩:=aj hN 8 66
         have e8:v8=.pointer (some ⟨rb,0,none⟩):=r8
         rw[e8] at g8
         exact ah rfl (.pointer (some ⟨rb,3,none⟩)) _ rfl (by go_simp) ⟨_,rfl,rfl,hS.other 9 (Below.refl _ _),Kp.refl _ _⟩
        case s10=>
         intro done a w1 hS h0 hd hno hO hN
         obtain⟨v9,g9,r9⟩:=aj hN 9 67
         have e9:v9=.pointer (some ⟨rb,3,none⟩):=r9
         rw[e9] at g9
         obtain⟨v7,g7,r7⟩:=aj hN 7 65
         obtain⟨sO,Wz⟩:=r7
         have hr1:=hS.run h0
         obtain⟨p7,n7,c7,rfl⟩:∃ p n c,v7=.slice p n c:=by
          rcases sO.2 with ⟨h1,_⟩ | ⟨g,cap,cur,h1,_⟩
          ·exact⟨_,_,_,h1⟩
          ·exact⟨_,_,_,h1⟩
         have hk10:Kp (Nn rb (.slice ps q.1.st.length cs) 10) w1 (w1.setCell ⟨rb,3,none⟩ (.slice p7 n7 c7)):=⟨rfl,rfl,rfl,by simp[World.setCell],fun k _ hk=>Below.heap_setCell _ _ _ _ (fun e=>hk (Or.inr ⟨rfl,e⟩))⟩
         have d7:done 7=true:=hd 7 (by decide)
         refine ny rfl rfl 56 (.tmp 67) (.tmp 65) rfl (by simp[Act.eval,g9]) (by simp[Act.eval,g7]) (S9 hr1 p7 n7 c7) ⟨_,rfl,⟨_,run_set hr1 _,bD sO fun k e => ?_,Wz⟩,⟨hS.kp.trans hk10 (fun k hf => ?_),fun h=>(by simp[d7] at h),fun h=>(by simp at h)⟩,hk10⟩
         ·refine hk10.block k (aP sO k e).2.1 (fun hf => ?_)
          rcases hf with ⟨e2,_⟩ | ⟨_,e2⟩
          ·cases e2
          ·subst e2
           obtain⟨_,_,cur,hc⟩:=aP sO _ e
           exact absurd (gF hc hr1) (by decide)
         ·rcases hf with ⟨e,_⟩ | ⟨_,e⟩
          ·cases e
          ·exact Or.inl (Or.inl e)
       case fin=>
        intro vs done w9 hdone hS hV
        obtain⟨WA,Y0,Y1,Y2⟩:∃ bH,Cl w9 rb (mH b B q.1.vs pm bH) 98/\w9.ownsRow base 102 21 bH (q.1.st.length+1) (oC q.1.st kJ ++ iU q.2.2 kv)/\dh W9.heap.size (.slice ps q.1.st.length cs) bH:=hV 10 (by decide)
        have hbs:base<=w5.heap.size:=Nat.le_trans aV.out H8.out.2.2.1
        obtain⟨hR9,WB,hk10⟩:=H8.out.1.drew.rn.put (x:=q.2.2) (by rw[Wx.out];exact HS.out.1) (bD H8.out.2.1 (fun _ _=>rfl)) hbs H9.out.1.1 H9.out.1.2 Y0 Y1 Y2 hS.kp
        have hA9:gJ w8.drew w9 rb pm b m v6 (.slice ps q.1.st.length cs) kJ v6 WA (kJ ++ [kv])\/True:=Or.inr trivial
        have hlk:∀ k,Kb (kJ ++ [kv]) k->Kb kvs k\/w.heap.size<=k:=fun k hk=>by
         obtain⟨u,hu,e⟩:=hk
         rcases List.mem_append.1 hu with hu | hu
         ·exact H8.out.1.af.lk k ⟨u,hu,e⟩
         ·obtain rfl:=List.mem_singleton.1 hu
          exact Or.inr (Nat.le_trans H8.out.2.2.1 (aP H8.out.2.1 k e).1)
        have hAA:gJ w w9 rb pm b m v sv kvs v6 WA (kJ ++ [kv]):=⟨H8.out.1.af.lv,H8.out.1.af.ls.trans WB H8.out.1.drew.af.kp.size,hlk,H8.out.1.drew.af.kp.trans hk10 fun _ hi=>H8.out.1.drew.af.foot hi⟩
        simp only[bn,Act.put,List.setIfInBounds_toArray,List.set_cons_zero,List.set_cons_succ]
        clear hV hS H9 H8 Y0 Y1 Y2 WB hk10 hA9 hlk
        go_wp2_with fail
        go_ret2
        exact⟨rfl,v6,WA,kJ ++ [kv],hR9,hAA⟩
     ·have EP:(q.2.1 != 0)=true:=by simpa using he
      have EW:X=(q.1,q.2.1,0):=by rw[aA.out,if_pos he]
      subst EW
      go_wp2_with fail
      go_ret2
      exact⟨rfl,v6,zO,kJ,H8.out.1.rn,H8.out.1.af⟩
theorem Ic {base rb pm b m B:Nat} (hB:B<=4096):∀ n,yG base rb pm b m B n (dI B n)
 | 0=>fun w v sv kvs R s hR hG hv _ hf hq hr=>by
  have hg:=hq.2
  have hs:gq s:=⟨hr,by have:=hG.ok.len;exact⟨by omega,by omega⟩⟩
  have h:=EU w hR hB hv hs (R,0,fF) (fun h1=>absurd (show R.vs=B by omega) h1)
  have e:uU B R s (R,0,fF)=dI B 0 R s:=by
   unfold uU dI
   cases look R.st s with
   | some p=>rfl
   | none=>
    simp only
    rw[if_pos (by omega)]
  rw[e] at h
  exact h
 | n+1=>fun w v sv kvs R s hR hG hv hst hf hq hr=>by
  have hg:=hq.2
  have hs:gq s:=⟨hr,by have:=hG.ok.len;exact⟨by omega,by omega⟩⟩
  have hd:=rR B n
  have hD:=Ic (base:=base) (rb:=rb) (pm:=pm) (b:=b) (m:=m) hB n
  have h:=EU w hR hB hv hs (jF (dI B n) ⟨R.t,R.st,R.vs+1⟩ s) (fun h1 _=>by
   have hG1:Gd ⟨R.t,R.st,R.vs+1⟩:=⟨hG.ok,hG.xQ,hG.one,hG.kid⟩
   have QI:Gs B n ⟨R.t,R.st,R.vs+1⟩:=⟨hG1,by simp only;omega,by simp only;omega,by simp only;omega,hB⟩
   have hp:=EN hd (R:=⟨R.t,R.st,R.vs+1⟩) (s:=s) hG1 QI.vs hq hr
   refine⟨fun W v' bH bI hR'=>SV hD hd (SY hD hd) W hR' QI hq hr,Ia hd QI hq hr rfl,fun h0=>⟨(hp.xQ h0).1,?_⟩⟩
   have h2:=hp.way.ct.1
   have h3:=hp.way.vs.2
   have h4:=QI.st
   simp only at h2 h4
   omega)
  have e:uU B R s (jF (dI B n) ⟨R.t,R.st,R.vs+1⟩ s)=dI B (n+1) R s:=by
   unfold uU dI
   cases look R.st s with
   | some p=>rfl
   | none=>rfl
  rw[e] at h
  exact h
structure Fnd where
 err:Int
 t:List Nd
 pv:Bool
 st:List Stp
 vs:Nat
deriving DecidableEq
def kK (t:List Nd) (s:SQ) (dZ:Int):Fnd :=
 if eP t s.1 s.2≠0 then ⟨eP t s.1 s.2,t,false,[],0⟩
 else if dZ<1\/4096<dZ then ⟨2,t,false,[],0⟩
 else if (dI dZ.toNat dZ.toNat ⟨t,[],0⟩ s).2.1≠0 then ⟨(dI dZ.toNat dZ.toNat ⟨t,[],0⟩ s).2.1,t,false,[],0⟩
 else ⟨0,(dI dZ.toNat dZ.toNat ⟨t,[],0⟩ s).1.t,((dI dZ.toNat dZ.toNat ⟨t,[],0⟩ s).1.st.getD (dI dZ.toNat dZ.toNat ⟨t,[],0⟩ s).2.2 fF).pv,(dI dZ.toNat dZ.toNat ⟨t,[],0⟩ s).1.st,(dI dZ.toNat dZ.toNat ⟨t,[],0⟩ s).1.vs⟩
def lY (pv:Bool) (sv:Value) (vs:Nat):Array Value:=#[.bool pv,sv,.int .i64 (vs:Int)]
theorem uV:(Tryz.prog.info? 58).map (·.size)=some 3:=by kernel_rfl
theorem Ie (w:World):(zeroValue 58).run Tryz.prog w=.ok (.agg (lY false (.slice none 0 0) 0)) w:=by kernel_rfl
theorem XA (w:World):(Instr.build 58 #[]).run Tryz.prog w=.ok (.agg (lY false (.slice none 0 0) 0)) w:=by kernel_rfl
theorem XB (w:World) (pv:Bool) (p:Option Addr) (n c vs:Nat):(Instr.build 58 #[(0,.bool pv),(1,.slice p n c),(2,.int .i64 (vs:Int))]).run Tryz.prog w=.ok (.agg (lY pv (.slice p n c) vs)) w:=by kernel_rfl
theorem ZW (w:World) (b B pm:Nat):(Instr.build 98 #[(0,.pointer (some ⟨b,0,none⟩)),(1,.int .i64 (B:Int)),(4,.map (some pm))]).run Tryz.prog w=.ok (.agg (mH b B 0 pm (.slice none 0 0))) w:=by kernel_rfl
theorem mP {fn:Func} {p q:Tmp} (h:fn.results=#[.cell p 58,.tmp q]) (tmps:Array Value) (w:World) (b:Nat) {cs:Array Value} (hp:tmps.getD p undef=.pointer (some ⟨b,0,none⟩)) (hc:Cl w b cs 58) (hs:cs.size=3) :
 (results fn tmps).run Tryz.prog w=.ok (.tuple #[.agg cs,tmps.getD q undef]) w:=by
 rw[_root_.Go.results_cell_tmp h,hp]
 simp[asAddr,run_loadVar_row w b 58 58 cs (0,0) _ hc Tryz.underlying58 rfl (by rw[uV,hs]),Result.andThen]
theorem pq (pv:Bool) (p:Option Addr) (n c vs:Nat):(lY pv (.slice p n c) vs).all (·.oneCell')=true:=by simp[lY,Value.oneCell']
section
variable {ops:Array Oper} {rest:List Oper} {o:Oper} {a:Act} {Q:Exit->Act->World->Prop} {w:World}
theorem oF (hg:o.guard=none) (hop:o.op=Op.build 58 #[]) (hK:wpList Tryz.prog ops Q rest (a.put o.dst (.agg (lY false (.slice none 0 0) 0))) w):wpList Tryz.prog ops Q (o :: rest) a w:=by
 refine wpList_plain hg fun K' hK' => ?_
 have hrun:=XA w
 unfold Oper.wp
 simp[execOp,hop,hrun,Result.andThen]
 exact hK' _ _ hK
theorem FV (hg:o.guard=none) (x y z:Operand) (hop:o.op=Op.build 98 #[(0,x),(1,y),(4,z)]) (b B pm:Nat) (hx:a.eval x=.pointer (some ⟨b,0,none⟩)) (hy:a.eval y=.int .i64 (B:Int)) (hz:a.eval z=.map (some pm)) (hK:wpList Tryz.prog ops Q rest (a.put o.dst (.agg (mH b B 0 pm (.slice none 0 0)))) w):wpList Tryz.prog ops Q (o :: rest) a w:=by
 refine wpList_plain hg fun K' hK' => ?_
 have hrun:=ZW w b B pm
 unfold Oper.wp
 simp[execOp,hop,hx,hy,hz,hrun,Result.andThen]
 exact hK' _ _ hK
theorem JQ (hg:o.guard=none) (hop:o.op=Op.makeMap 96 none) (hK:∀ w' q,lG w' q (.map [])->Below w.heap.size w w'->q=w.heap.size->w'.heap.size=q+1->wpList Tryz.prog ops Q rest (a.put o.dst (.map (some q))) w'):wpList Tryz.prog ops Q (o :: rest) a w:=by
 refine wpList_plain hg fun K' hK' => ?_
 have hrun:=run_makeMap (P:=Tryz.prog) 96 w
 unfold Oper.wp
 simp[execOp,hop,hrun,Result.andThen]
 exact hK' _ _ (hK _ _ (BI (World.ownsMap_made w Tryz.prog 53 (plainElem Tryz.prog 3))) (ak w _) rfl (by simp))
end
theorem Ext.take {t t1:List Nd} (h:Ext t t1):t1.take t.length=t:=by
 have hl:=h.len
 apply List.ext_getElem
 ·simp;omega
 ·intro i h1 h2
  have:=h.p8 i h2
  rw[bJ h2,bJ (show i<t1.length by omega)] at this
  simpa using this
theorem WC {w:World} {b m:Nat} {v:Value} {t:List Nd} (hT:Tb w b m v t) (hz:Bt.Tz w) (hp:0<t.length):¬ Ft b m v 2:=by
 have h0:=hz 0 (by decide)
 rintro(e | e | e)
 ·subst e
  obtain⟨p,c,rfl⟩:=hT.row.form
  have h1:=hT.c0
  rw[h1] at h0
  cases h0
 ·obtain⟨D,⟨es,cl,hm,_⟩,_⟩:=hT.map
  subst e
  simp[World.cell?,hm] at h0
 ·rcases hT.row with ⟨rfl,_⟩ | ⟨g,cap,cur,rfl,hh,h1,h2,h3,h4⟩
  ·cases e
  ·obtain rfl:g=_:=Option.some.inj e
   rw[cell_of_row w _ 0 cur _ _ hh] at h0
   have h5:(cellsOf t)[0]?=(gQ t[0])[0]?:=nP t 0 0 hp (by omega)
   rw[<- h4,List.getElem?_take,if_pos (by omega)] at h5
   simp only[Array.getElem?_toList] at h5
   rw[h0] at h5
   cases h5
structure RL (w0 W:World) (b4 b6:Nat) (s:SQ):Prop where
 s4:bM W b4 s.1 s.2
 c6:Cl W b6 (lY false (.slice none 0 0) 0) 58
 av:Below w0.heap.size w0 W
 g6:w0.heap.size<=b6
theorem RL.later {w0 W W':World} {b4 b6:Nat} {s:SQ} (h:RL w0 W b4 b6 s) (hb:Below W.heap.size W W'):RL w0 W' b4 b6 s:=⟨h.s4.later hb h.s4.lt,h.c6.later hb,h.av.trans (hb.mono h.av.size),h.g6⟩
structure RM (w0 W:World) (base rb pm b m:Nat) (v v' bH:Value) (bI:List Value) (B:Nat) (R:Rs) (b6:Nat):Prop where
 rn:Rn W base rb pm b m v' bH bI B R
 lv:dh w0.heap.size v v'
 kp:Kp (Ft b m v) w0 W
 c6:Cl W b6 (lY false (.slice none 0 0) 0) 58
 g6:w0.heap.size<=b6
theorem RM.drew {w0 W:World} {base rb pm b m:Nat} {v v' bH:Value} {bI:List Value} {B:Nat} {R:Rs} {b6:Nat} (h:RM w0 W base rb pm b m v v' bH bI B R b6):RM w0 W.drew base rb pm b m v v' bH bI B R b6:=⟨h.rn.drew,h.lv,h.kp.drew,h.c6,h.g6⟩
theorem RM.set {w0 W W':World} {base rb pm b m:Nat} {v v' bH:Value} {bI:List Value} {B:Nat} {R:Rs} {b6:Nat} (h:RM w0 W base rb pm b m v v' bH bI B R b6) (hk:dn b6 W W'):qh W' base bH R.st bI/\After w0 b m v R.t W':=by
 have n6:=h.rn.other h.c6 (by decide) (by decide) (by decide) (Or.inl (by decide))
 have k6:=h.rn.gy.BK h.c6 (by decide)
 have g6:=h.g6
 exact⟨h.rn.gy.keep (fun k e=>hk.block k (h.rn.gy.blk e).2.1 (fun e2=>n6 (e2 ▸ Or.inr (Or.inr (Or.inl e))))) (fun k e=>hk.block k (h.rn.gy.kb e).2.1 (fun e2=>k6 (e2 ▸ e))),v',h.rn.tb.keep (fun k e=>hk.block k (h.rn.tb.foot k e) (fun e2=>n6 (e2 ▸ Or.inr (Or.inr (Or.inr e))))),h.lv,h.kp.trans (S':=fun k=>k=b6) hk (fun i hi=>Or.inr (by omega))⟩
theorem Tc (w:World) {b m:Nat} {v:Value} {t:List Nd} (hT:Tb w b m v t) (hZ:Bt.Tz w) {s:SQ} (hr:Ok s.1) (dZ:Int) :
 Calls Tryz.prog 15 #[.pointer (some ⟨b,0,none⟩),.agg (au s.1 s.2),.int .i64 dZ] w fun e w'=>∃ sv,e=.returned (.tuple #[.agg (lY (kK t s dZ).pv sv (kK t s dZ).vs),.int .i64 (kK t s dZ).err])/\(∃ kvs,qh w' w.heap.size sv (kK t s dZ).st kvs)/\After w b m v (kK t s dZ).t w':=by
 have hl:=hr.1
 have HT:=show Hid (∀ W:World,Below w.heap.size w W->Tb W b m v t/\Bt.Tz W) from fun W h=>⟨hT.later h,Bt.iY hZ h⟩
 have HA:=show Hid (∀ W:World,Below w.heap.size w W->After w b m v t W) from fun W h=>After.of_below hT h
 have HR:=show Hid (Ok s.1) from hr
 have QJ:=show Hid (eP t s.1 s.2=0->eH t.length s) from fun h=>by
  rw[sJ hr] at h
  refine mh.1 ?_
  cases hq:iT t s.1 s.2
  ·rw[hq,if_neg Bool.false_ne_true] at h
   exact absurd h (by decide)
  ·rfl
 have HF:=show Hid (kK t s dZ=if eP t s.1 s.2≠0 then ⟨eP t s.1 s.2,t,false,[],0⟩
 else if dZ<1\/4096<dZ then ⟨2,t,false,[],0⟩
 else if (dI dZ.toNat dZ.toNat ⟨t,[],0⟩ s).2.1≠0 then ⟨(dI dZ.toNat dZ.toNat ⟨t,[],0⟩ s).2.1,t,false,[],0⟩
 else ⟨0,(dI dZ.toNat dZ.toNat ⟨t,[],0⟩ s).1.t,((dI dZ.toNat dZ.toNat ⟨t,[],0⟩ s).1.st.getD (dI dZ.toNat dZ.toNat ⟨t,[],0⟩ s).2.2 fF).pv,(dI dZ.toNat dZ.toNat ⟨t,[],0⟩ s).1.st,(dI dZ.toNat dZ.toNat ⟨t,[],0⟩ s).1.vs⟩) from rfl
 generalize kK t s dZ=X at *
 clear hT hZ hr
 go_enter Tryz.func15,Tryz.ntmps15
 go_wp2_with (refine aC 53 _ rfl _ rfl rfl ?_)
 intro w1 b4 hn1
 go_wp2_with (refine aN 58 rfl _ Ie rfl ?_)
 intro w2 b6 hn2
 have H2:=show Hid (RL w w2 b4 b6 s) from⟨Cl.new hn1.blk hn2,hn2.blk,cO hn1.av hn2,by have:=hn1.av.size;have:=hn2.ge;omega⟩
 clear hn1 hn2
 have KA:=show Hid _ from wF w2 (HT.out w2 H2.out.av).1 (HT.out w2 H2.out.av).2 HR.out s.2
 obtain⟨rq,hrq⟩:∃ q,q=eP t s.1 s.2:=⟨_,rfl⟩
 rw[<- hrq] at KA HF QJ
 clear hrq
 go_wp2_with (refine dU _ _ rfl b4 rfl H2.out.s4 hl rfl ?_)
 refine Calls.mono KA.out ?_
 rintro e w3 ⟨rfl,hb3⟩
 have H3:=show Hid _ from H2.out.later hb3
 clear H2 hb3 KA
 by_cases hz:rq=0
 ·subst hz
  simp only[if_true]
  have HG:=show Hid (eH t.length s) from QJ.out (by trivial)
  have hX1:X=if dZ<1\/4096<dZ then ⟨2,t,false,[],0⟩ else if (dI dZ.toNat dZ.toNat ⟨t,[],0⟩ s).2.1≠0 then ⟨(dI dZ.toNat dZ.toNat ⟨t,[],0⟩ s).2.1,t,false,[],0⟩ else ⟨0,(dI dZ.toNat dZ.toNat ⟨t,[],0⟩ s).1.t,((dI dZ.toNat dZ.toNat ⟨t,[],0⟩ s).1.st.getD (dI dZ.toNat dZ.toNat ⟨t,[],0⟩ s).2.2 fF).pv,(dI dZ.toNat dZ.toNat ⟨t,[],0⟩ s).1.st,(dI dZ.toNat dZ.toNat ⟨t,[],0⟩ s).1.vs⟩:=by rw[HF.out,if_neg (by simp)]
  have aB:=show Hid _ from hX1
  clear hX1 HF QJ
  generalize (if (0:Int)=0 then (aZ t s.1 s.2).1 else 0)=k1 at *
  generalize (if (0:Int)=0 then (aZ t s.1 s.2).2 else 0)=k2 at *
  by_cases hbd:dZ<1\/4096<dZ
  ·have hX:X=⟨2,t,false,[],0⟩:=by rw[aB.out,if_pos hbd]
   subst hX
   clear aB
   rcases hbd with hbd | hbd
   ·go_wp2_with (first|(refine oF rfl rfl ?_)|(refine aQ 58 rfl rfl _ _ rfl b6 rfl _ rfl _ _ H3.out.c6 (by rw[uV];rfl) rfl (pq ..) ?_))
    intro w4 hc4 hk4
    go_wp2_with fail
    refine bodyPost_ret (mP rfl _ _ b6 rfl hc4 rfl) rfl ?_
    exact⟨_,rfl,⟨[],um _ _⟩,HA.out _ (bR H3.out.av hk4 H3.out.g6)⟩
   ·have hb1:¬ dZ<1:=by omega
    go_wp2_with (first|(refine oF rfl rfl ?_)|(refine aQ 58 rfl rfl _ _ rfl b6 rfl _ rfl _ _ H3.out.c6 (by rw[uV];rfl) rfl (pq ..) ?_))
    intro w4 hc4 hk4
    go_wp2_with fail
    refine bodyPost_ret (mP rfl _ _ b6 rfl hc4 rfl) rfl ?_
    exact⟨_,rfl,⟨[],um _ _⟩,HA.out _ (bR H3.out.av hk4 H3.out.g6)⟩
  ·have hX2:=aB.out
   rw[if_neg hbd] at hX2
   obtain⟨B,hBB⟩:∃ B:Nat,dZ=B:=⟨dZ.toNat,by omega⟩
   subst hBB
   rw[Int.toNat_natCast] at hX2
   have hb1:¬ (B:Int)<1:=by omega
   have hb2:¬ (4096:Int)<(B:Int):=by omega
   have aA:=show Hid _ from hX2
   clear hX2 aB hbd
   have KL:=show Hid _ from wO w3 (HT.out w3 H3.out.av).1
   go_wp2_with fail
   refine Calls.mono KL.out ?_
   rintro e w3' ⟨rfl,hw3⟩
   subst w3'
   clear KL
   go_wp2_with (refine JQ rfl rfl ?_)
   intro w4 pm Y3 hb4 WE hs4
   have H4:=show Hid (RL w w4 b4 b6 s/\lG w4 pm (.map [])/\pm=w3.heap.size/\w4.heap.size=pm+1) from⟨H3.out.later hb4,Y3,WE,hs4⟩
   clear Y3 hb4 WE hs4
   go_wp2_with (first|(refine FV rfl _ _ _ rfl b B pm rfl rfl rfl ?_)|(refine aC 98 _ rfl _ rfl rfl ?_))
   intro w5 rb fZ
   have H5:=show Hid (RL w w5 b4 b6 s/\Rn w5 w.heap.size rb pm b m v (.slice none 0 0) [] B ⟨t,[],0⟩) from(by
    have hL:=H4.out.1.later fZ.av
    have e3:=H3.out.av.size;have e4:=H4.out.2.2.1;have e5:=H4.out.2.2.2;have e6:=fZ.ge;have e7:=fZ.eq
    have QK:=HT.out w5 hL.av
    have hlt:2<w.heap.size:=(by have h:=Bt.qL (HT.out w (Below.refl _ _)).2;exact h)
    have hpos:0<t.length:=(by have h2:=HG.out.2;omega)
    have hnf:=WC QK.1 QK.2 hpos
    have hmw:=(HT.out w (Below.refl _ _)).1.mlt
    refine⟨hL,fZ.blk,QK.1,QK.2,um _ _,⟨.map [],uq H4.out.2.1 (fZ.av.block pm (by omega)),M9⟩,⟨by omega,by omega,hL.av.size⟩,?_,by omega⟩
    rintro(e | e | e | e)
    ·omega
    ·omega
    ·cases e
    ·exact hnf e)
   clear fZ H4 H3
   have Gq:=show Hid (Gd ⟨t,[],0⟩) from⟨(HT.out w (Below.refl _ _)).1.ok,fun x hx=>(by cases hx),fun i j x y h=>(by simp at h),fun i x h=>(by simp at h)⟩
   have KD:=show Hid _ from Ic (base:=w.heap.size) (rb:=rb) (pm:=pm) (b:=b) (m:=m) (B:=B) (by omega) B w5 v (.slice none 0 0) [] ⟨t,[],0⟩ s H5.out.2 Gq.out (Nat.zero_le _) (Nat.le_refl _) (by simp only;omega) HG.out HR.out
   have QL:=show Hid (wJ B ⟨t,[],0⟩ s (dI B B ⟨t,[],0⟩ s)) from rR B B _ s Gq.out (Nat.zero_le _) HG.out HR.out
   generalize dI B B ⟨t,[],0⟩ s=q at *
   go_wp2_with (refine dU _ _ rfl b4 rfl H5.out.1.s4 hl rfl ?_)
   refine Calls.mono KD.out ?_
   rintro e w6 ⟨rfl,v6,zO,kJ,BO,zP⟩
   have H6:=show Hid (RM w w6 w.heap.size rb pm b m v v6 zO kJ B q.1 b6) from(by
    have n6:=H5.out.2.other H5.out.1.c6 (by decide) (by decide) (by decide) (Or.inl (by decide))
    have hsz:=H5.out.1.av.size
    refine⟨BO,fun k e => ?_,(Kp.of_below (S:=Ft b m v) H5.out.1.av).trans zP.kp (fun k hf => ?_),zP.cl H5.out.1.c6 n6,H5.out.1.g6⟩
    ·rcases zP.lv k e with h1 | h1
     ·exact Or.inl h1
     ·exact Or.inr (by omega)
    ·rcases hf with e | e | e | e
     ·have:=H5.out.2.bs.1;exact Or.inr (by omega)
     ·have:=H5.out.2.bs.2.1;exact Or.inr (by omega)
     ·cases e
     ·exact Or.inl e)
   clear BO zP KD H5
   by_cases he:q.2.1=0
   ·have EP:(q.2.1 != 0)=false:=by rw[he];rfl
    obtain⟨y,hy,_,_⟩:=QL.out.at he
    have ado:=(List.getElem?_eq_some_iff.1 hy).1
    obtain⟨pv,hpv⟩:∃ pv,pv=y.pv:=⟨_,rfl⟩
    have EW:X=⟨0,q.1.t,pv,q.1.st,q.1.vs⟩:=by rw[aA.out,if_neg (by rw[he];simp),getD_some hy fF,hpv]
    subst EW
    obtain⟨gs,cs,rfl,hpc⟩:=H6.out.rn.gy.pv hy
    have HPC:=show Hid (w6.cell? ⟨gs,q.2.2 * 21+17,none⟩=some (.bool pv)) from by rw[hpv];exact hpc
    have hil:(q.2.2:Int)<(q.1.st.length:Int):=by omega
    clear aA QL hy hpc hpv
    go_wp2_with fail
    refine iD (by kernel_rfl) 17 [some 53,some 54,some 55,some 56,some 57,some 58,some 59,some 60,some 61,some 62,some 63,some 64,some 65,some 66,some 67,some 68,some 69,none,some 7] [[],[0],[1],[2],[],[3,4],[5],[6],[],[8],[9],[10],[],[12],[13],[14],[7,11,15],[16],[]] [[],[0],[1,0],[2,1,0],[],[3,2,1,0,4],[5,3,2,1,0,4],[6,5,3,2,1,0,4],[],[8],[9,8],[10,9,8],[],[12],[13,12],[14,13,12],[7,6,5,3,2,1,0,4,11,10,9,8,15,14,13,12],[16,7,6,5,3,2,1,0,4,11,10,9,8,15,14,13,12],[]] (by kernel_rfl) (by decide) (fun ii vv w1=>match ii with | 0=>vv=.pointer (some ⟨rb,0,none⟩) | 1=>vv=.pointer (some ⟨rb,0,none⟩) | 2=>vv=.pointer (some ⟨rb,3,none⟩) | 3=>vv=.slice (some ⟨gs,0,none⟩) q.1.st.length cs | 4=>vv=.int .i64 (q.2.2:Int) | 5=>vv=.pointer (some ⟨gs,q.2.2 * 21,none⟩) | 6=>vv=.pointer (some ⟨gs,q.2.2 * 21+17,none⟩) | 7=>vv=.bool pv | 8=>vv=.pointer (some ⟨rb,0,none⟩) | 9=>vv=.pointer (some ⟨rb,0,none⟩) | 10=>vv=.pointer (some ⟨rb,3,none⟩) | 11=>vv=.slice (some ⟨gs,0,none⟩) q.1.st.length cs | 12=>vv=.pointer (some ⟨rb,0,none⟩) | 13=>vv=.pointer (some ⟨rb,0,none⟩) | 14=>vv=.pointer (some ⟨rb,2,none⟩) | 15=>vv=.int .i64 (q.1.vs:Int) | 16=>vv=.agg (lY pv (.slice (some ⟨gs,0,none⟩) q.1.st.length cs) q.1.vs) | 17=>Cl w1 b6 (lY pv (.slice (some ⟨gs,0,none⟩) q.1.st.length cs) q.1.vs) 58/\dn b6 w6.drew w1 | 18=>vv=.int .i64 0 | _=>True) ?hfree (dL 19 ?steps) ?fin
    case hfree=>
     intro j v w1 w2 hj hn h
     match j,h,hj,hn with
     | 0,h,_,_=>exact h
     | 1,h,_,_=>exact h
     | 2,h,_,_=>exact h
     | 3,h,_,_=>exact h
     | 4,h,_,_=>exact h
     | 5,h,_,_=>exact h
     | 6,h,_,_=>exact h
     | 7,h,_,_=>exact h
     | 8,h,_,_=>exact h
     | 9,h,_,_=>exact h
     | 10,h,_,_=>exact h
     | 11,h,_,_=>exact h
     | 12,h,_,_=>exact h
     | 13,h,_,_=>exact h
     | 14,h,_,_=>exact h
     | 15,h,_,_=>exact h
     | 16,h,_,_=>exact h
     | 17,_,hj,_=>exact absurd rfl hj
     | 18,h,_,_=>exact h
     | _+19,_,_,_=>trivial
    case steps=>
     refine⟨⟨⟨⟨⟨⟨⟨⟨⟨⟨⟨⟨⟨⟨⟨⟨⟨⟨⟨trivial,?s0⟩,?s1⟩,?s2⟩,?s3⟩,?s4⟩,?s5⟩,?s6⟩,?s7⟩,?s8⟩,?s9⟩,?s10⟩,?s11⟩,?s12⟩,?s13⟩,?kg⟩,?s15⟩,?s16⟩,?DV⟩,?DW⟩
     case s0=>
      intro a w1 hw hO hN
      obtain rfl:w1=w6.drew:=hw (by decide)
      have M0:a.tmps[12]?=some (.pointer (some ⟨rb,0,none⟩)):=outs hO 12 rfl
      exact ah rfl (.pointer (some ⟨rb,0,none⟩)) _ rfl (by go_simp) ⟨_,rfl,rfl,fun _=>rfl⟩
     case s1=>
      intro a w1 hw hO hN
      obtain rfl:w1=w6.drew:=hw (by decide)
      obtain⟨v0,g0,r0⟩:=aj hN 0 53
      have e0:v0=.pointer (some ⟨rb,0,none⟩):=r0
      rw[e0] at g0
      exact ah rfl (.pointer (some ⟨rb,0,none⟩)) _ rfl (by go_simp) ⟨_,rfl,rfl,fun _=>rfl⟩
     case s2=>
      intro a w1 hw hO hN
      obtain rfl:w1=w6.drew:=hw (by decide)
      obtain⟨v1,g1,r1⟩:=aj hN 1 54
      have e1:v1=.pointer (some ⟨rb,0,none⟩):=r1
      rw[e1] at g1
      exact ah rfl (.pointer (some ⟨rb,3,none⟩)) _ rfl (by go_simp) ⟨_,rfl,rfl,fun _=>rfl⟩
     case s3=>
      intro a w1 hw hO hN
      obtain rfl:w1=w6.drew:=hw (by decide)
      obtain⟨v2,g2,r2⟩:=aj hN 2 55
      have e2:v2=.pointer (some ⟨rb,3,none⟩):=r2
      rw[e2] at g2
      have hc:w6.drew.cell? ⟨rb,3,none⟩=some (.slice (some ⟨gs,0,none⟩) q.1.st.length cs):=H6.out.drew.rn.run.cell 3
      exact ah rfl (.slice (some ⟨gs,0,none⟩) q.1.st.length cs) _ rfl (by go_simp) ⟨_,rfl,rfl,fun _=>rfl⟩
     case s4=>
      intro a w1 hw hO hN
      obtain rfl:w1=w6.drew:=hw (by decide)
      have YP:a.tmps[13]?=some (.int .i64 (q.2.2:Int)):=outs hO 13 rfl
      exact ah rfl (.int .i64 (q.2.2:Int)) _ rfl (by go_simp) ⟨_,rfl,rfl,fun _=>rfl⟩
     case s5=>
      intro a w1 hw hO hN
      obtain rfl:w1=w6.drew:=hw (by decide)
      obtain⟨v3,g3,r3⟩:=aj hN 3 56
      have e3:v3=.slice (some ⟨gs,0,none⟩) q.1.st.length cs:=r3
      rw[e3] at g3
      obtain⟨v4,g4,r4⟩:=aj hN 4 57
      have e4:v4=.int .i64 (q.2.2:Int):=r4
      rw[e4] at g4
      exact ah rfl (.pointer (some ⟨gs,q.2.2 * 21,none⟩)) _ rfl (by go_simp) ⟨_,rfl,rfl,fun _=>rfl⟩
     case s6=>
      intro a w1 hw hO hN
      obtain rfl:w1=w6.drew:=hw (by decide)
      obtain⟨v5,g5,r5⟩:=aj hN 5 58
      have e5:v5=.pointer (some ⟨gs,q.2.2 * 21,none⟩):=r5
      rw[e5] at g5
      exact ah rfl (.pointer (some ⟨gs,q.2.2 * 21+17,none⟩)) _ rfl (by go_simp) ⟨_,rfl,rfl,fun _=>rfl⟩
     case s7=>
      intro a w1 hw hO hN
      obtain rfl:w1=w6.drew:=hw (by decide)
      obtain⟨v6,g6,r6⟩:=aj hN 6 59
      have e6:v6=.pointer (some ⟨gs,q.2.2 * 21+17,none⟩):=r6
      rw[e6] at g6
      have hc:w6.drew.cell? ⟨gs,q.2.2 * 21+17,none⟩=some (.bool pv):=HPC.out
      exact ah rfl (.bool pv) _ rfl (by go_simp) ⟨_,rfl,rfl,fun _=>rfl⟩
     case s8=>
      intro a w1 hw hO hN
      obtain rfl:w1=w6.drew:=hw (by decide)
      have M0:a.tmps[12]?=some (.pointer (some ⟨rb,0,none⟩)):=outs hO 12 rfl
      exact ah rfl (.pointer (some ⟨rb,0,none⟩)) _ rfl (by go_simp) ⟨_,rfl,rfl,fun _=>rfl⟩
     case s9=>
      intro a w1 hw hO hN
      obtain rfl:w1=w6.drew:=hw (by decide)
      obtain⟨v8,g8,r8⟩:=aj hN 8 61
      have e8:v8=.pointer (some ⟨rb,0,none⟩):=r8
      rw[e8] at g8
      exact ah rfl (.pointer (some ⟨rb,0,none⟩)) _ rfl (by go_simp) ⟨_,rfl,rfl,fun _=>rfl⟩
     case s10=>
      intro a w1 hw hO hN
      obtain rfl:w1=w6.drew:=hw (by decide)
      obtain⟨v9,g9,r9⟩:=aj hN 9 62
      have e9:v9=.pointer (some ⟨rb,0,none⟩):=r9
      rw[e9] at g9
      exact ah rfl (.pointer (some ⟨rb,3,none⟩)) _ rfl (by go_simp) ⟨_,rfl,rfl,fun _=>rfl⟩
     case s11=>
      intro a w1 hw hO hN
      obtain rfl:w1=w6.drew:=hw (by decide)
      obtain⟨v10,g10,bS⟩:=aj hN 10 63
      have e10:v10=.pointer (some ⟨rb,3,none⟩):=bS
      rw[e10] at g10
      have hc:w6.drew.cell? ⟨rb,3,none⟩=some (.slice (some ⟨gs,0,none⟩) q.1.st.length cs):=H6.out.drew.rn.run.cell 3
      exact ah rfl (.slice (some ⟨gs,0,none⟩) q.1.st.length cs) _ rfl (by go_simp) ⟨_,rfl,rfl,fun _=>rfl⟩
     case s12=>
      intro a w1 hw hO hN
      obtain rfl:w1=w6.drew:=hw (by decide)
      have M0:a.tmps[12]?=some (.pointer (some ⟨rb,0,none⟩)):=outs hO 12 rfl
      exact ah rfl (.pointer (some ⟨rb,0,none⟩)) _ rfl (by go_simp) ⟨_,rfl,rfl,fun _=>rfl⟩
     case s13=>
      intro a w1 hw hO hN
      obtain rfl:w1=w6.drew:=hw (by decide)
      obtain⟨v12,g12,dB⟩:=aj hN 12 65
      have e12:v12=.pointer (some ⟨rb,0,none⟩):=dB
      rw[e12] at g12
      exact ah rfl (.pointer (some ⟨rb,0,none⟩)) _ rfl (by go_simp) ⟨_,rfl,rfl,fun _=>rfl⟩
     case kg=>
      intro a w1 hw hO hN
      obtain rfl:w1=w6.drew:=hw (by decide)
      obtain⟨v13,g13,dD⟩:=aj hN 13 66
      have e13:v13=.pointer (some ⟨rb,0,none⟩):=dD
      rw[e13] at g13
      exact ah rfl (.pointer (some ⟨rb,2,none⟩)) _ rfl (by go_simp) ⟨_,rfl,rfl,fun _=>rfl⟩
     case s15=>
      intro a w1 hw hO hN
      obtain rfl:w1=w6.drew:=hw (by decide)
      obtain⟨v14,g14,dF⟩:=aj hN 14 67
      have e14:v14=.pointer (some ⟨rb,2,none⟩):=dF
      rw[e14] at g14
      have hc:w6.drew.cell? ⟨rb,2,none⟩=some (.int .i64 (q.1.vs:Int)):=H6.out.drew.rn.run.cell 2
      exact ah rfl (.int .i64 (q.1.vs:Int)) _ rfl (by go_simp) ⟨_,rfl,rfl,fun _=>rfl⟩
     case s16=>
      intro a w1 hw hO hN
      obtain rfl:w1=w6.drew:=hw (by decide)
      obtain⟨v7,g7,r7⟩:=aj hN 7 60
      have e7:v7=.bool pv:=r7
      rw[e7] at g7
      obtain⟨v11,g11,bW⟩:=aj hN 11 64
      have e11:v11=.slice (some ⟨gs,0,none⟩) q.1.st.length cs:=bW
      rw[e11] at g11
      obtain⟨v15,g15,dP⟩:=aj hN 15 68
      have e15:v15=.int .i64 (q.1.vs:Int):=dP
      rw[e15] at g15
      have hb1:=XB w6.drew pv (some ⟨gs,0,none⟩) q.1.st.length cs q.1.vs
      exact ah rfl (.agg (lY pv (.slice (some ⟨gs,0,none⟩) q.1.st.length cs) q.1.vs)) _ rfl (by simp[execOp,Act.eval,g7,g11,g15,hb1,Result.andThen]) ⟨_,rfl,rfl,fun _=>rfl⟩
     case DV=>
      intro a w1 hw hO hN
      obtain rfl:w1=w6.drew:=hw (by decide)
      obtain⟨v16,g16,r16⟩:=aj hN 16 69
      have e16:v16=.agg (lY pv (.slice (some ⟨gs,0,none⟩) q.1.st.length cs) q.1.vs):=r16
      rw[e16] at g16
      have o6:a.tmps[6]?=some (.pointer (some ⟨b6,0,none⟩)):=outs hO 6 rfl
      have hst:(Instr.storeAt 58 (.pointer (some ⟨b6,0,none⟩)) (.agg (lY pv (.slice (some ⟨gs,0,none⟩) q.1.st.length cs) q.1.vs))).run Tryz.prog w6.drew=.ok () (w6.drew.setRow b6 (lY pv (.slice (some ⟨gs,0,none⟩) q.1.st.length cs) q.1.vs)):=by
       simp only[Instr.storeAt,Instr.sureAddr,Sem.run_bind,Sem.run_pure,Result.andThen]
       exact run_storeVar_row w6.drew b6 58 58 _ _ H6.out.drew.c6 (by rw[uV];rfl) rfl (pq ..)
      exact ny rfl rfl 58 (.tmp 6) (.tmp 69) rfl (by simp[Act.eval,o6]) (by simp[Act.eval,g16]) hst ⟨_,rfl,⟨setRow_heap w6.drew b6 _ _ _ _ H6.out.drew.c6,fJ w6.drew b6 _⟩,fun h=>absurd rfl h⟩
     case DW=>
      intro a w1 hw hO hN
      exact ah rfl (.int .i64 0) _ rfl (by go_simp) ⟨_,rfl,rfl,fun _=>rfl⟩
    case fin=>
     intro vs w1 hV
     obtain⟨hc17,WG⟩:Cl w1 b6 (lY pv (.slice (some ⟨gs,0,none⟩) q.1.st.length cs) q.1.vs) 58/\dn b6 w6.drew w1:=hV 17 (by decide)
     have e18:vs 18=.int .i64 0:=hV 18 (by decide)
     obtain⟨hS8,uy⟩:=H6.out.drew.set WG
     clear hV H6 WG
     simp only[bn,Act.put,List.setIfInBounds_toArray,List.set_cons_zero,List.set_cons_succ,e18]
     clear e18
     go_wp2_with fail
     refine bodyPost_ret (mP rfl _ _ b6 rfl hc17 rfl) rfl ?_
     exact⟨_,rfl,⟨kJ,hS8⟩,uy⟩
   ·have EP:(q.2.1 != 0)=true:=by simpa using he
    have EW:X=⟨q.2.1,t,false,[],0⟩:=by rw[aA.out,if_pos he]
    have hcr:xW q.1.t (t.length:Int)=(0,t):=by
     have hE:=QL.out.ext
     have hlen:=hE.len
     simp only at hlen
     unfold xW
     rw[if_pos ⟨by omega,by omega⟩,Int.toNat_natCast]
     rw[show q.1.t.take t.length=t from hE.take]
    have KC:=show Hid _ from Gw w6 H6.out.rn.tb (t.length:Int)
    rw[hcr] at KC
    subst EW
    clear aA hcr QL
    go_wp2_with fail
    refine Calls.mono KC.out ?_
    rintro e w7 ⟨rfl,WH⟩
    have n6:=H6.out.rn.other H6.out.c6 (by decide) (by decide) (by decide) (Or.inl (by decide))
    have H7:=show Hid (Cl w7 b6 (lY false (.slice none 0 0) 0) 58/\After w b m v t w7/\w.heap.size<=b6) from(by
     refine⟨?_,After.trans H6.out.lv H6.out.kp WH,H6.out.g6⟩
     obtain⟨_,_,_,iI⟩:=WH
     exact(iI.block b6 H6.out.c6.lt (fun hf=>n6 (Or.inr (Or.inr (Or.inr hf))))).trans H6.out.c6)
    clear WH n6 H6 KC
    go_wp2_with (first|(refine oF rfl rfl ?_)|(refine aQ 58 rfl rfl _ _ rfl b6 rfl _ rfl _ _ H7.out.1 (by rw[uV];rfl) rfl (pq ..) ?_))
    intro w8 hc8 gI
    go_wp2_with fail
    refine bodyPost_ret (mP rfl _ _ b6 rfl hc8 rfl) rfl ?_
    refine⟨_,rfl,⟨[],um _ _⟩,?_⟩
    obtain⟨v7,WI,Wz,iI⟩:=H7.out.2.1
    have hg6:=H7.out.2.2
    refine⟨v7,WI.keep (fun k hf=>gI.block k (WI.foot k hf) (fun e => ?_)),Wz,iI.trans (S':=fun k=>k=b6) gI (fun i hi=>Or.inr (by omega))⟩
    subst e
    exact jm H7.out.1 (by decide) (by decide) WI hf
 ·have hzb:(rq != 0)=true:=by simpa using hz
  have hX:X=⟨rq,t,false,[],0⟩:=by rw[HF.out,if_pos hz]
  subst hX
  rw[if_neg hz,if_neg hz]
  clear HF QJ hz
  go_wp2_with (first|(refine oF rfl rfl ?_)|(refine aQ 58 rfl rfl _ _ rfl b6 rfl _ rfl _ _ H3.out.c6 (by rw[uV];rfl) rfl (pq ..) ?_))
  intro w4 hc4 hk4
  go_wp2_with fail
  refine bodyPost_ret (mP rfl _ _ b6 rfl hc4 rfl) rfl ?_
  exact⟨_,rfl,⟨[],um _ _⟩,HA.out _ (bR H3.out.av hk4 H3.out.g6)⟩
end Go.Proofs.YtkpbpecikibohaaGreatDoor
