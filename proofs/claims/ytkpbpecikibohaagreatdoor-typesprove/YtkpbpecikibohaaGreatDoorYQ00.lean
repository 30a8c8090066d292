import Derived.Test.YtkpbpecikibohaaGreatDoorFG2
import Derived.Test.YtkpbpecikibohaaGreatDoorYQA
import Derived.Deep.WholeRow
import Derived.Laws.Tables
import Derived.Laws.CopyOwn
import Derived.StringKeys
import Derived.Maps.OwnSet
set_option linter.unusedSimpArgs false
set_option maxRecDepth 100000
set_option maxHeartbeats 2000000
namespace Go.Proofs.YtkpbpecikibohaaGreatDoor.Ya
open Go.RowKit Go.Maps
open Fm (Nd)
open Ty (Tm)
def Qe (x:Tm) (sv:Value):List Value:=[.int .i64 x.k,.string x.n,.string x.o,.int .i64 x.f,sv]
def bL (x:Tm) (sv:Value):Value:=.agg #[.int .i64 x.k,.string x.n,.string x.o,.int .i64 x.f,sv]
def vG (w:World) (b o:Nat) (x:Tm) (sv:Value):Prop :=
 w.cell? ⟨b,o,none⟩=some (.int .i64 x.k)/\w.cell? ⟨b,o+1,none⟩=some (.string x.n)/\w.cell? ⟨b,o+2,none⟩=some (.string x.o)/\w.cell? ⟨b,o+3,none⟩=some (.int .i64 x.f)/\w.cell? ⟨b,o+4,none⟩=some sv
theorem vG.keep {w w':World} {b o:Nat} {x:Tm} {sv:Value} (h:vG w b o x sv) (hb:w'.heap[b]?=w.heap[b]?):vG w' b o x sv:=by
 obtain⟨h0,h1,h2,h3,h4⟩:=h
 have e:∀ j,w'.cell? ⟨b,j,none⟩=w.cell? ⟨b,j,none⟩:=fun j=>World.cell?_of_block (a:=⟨b,j,none⟩) hb
 exact⟨(e _).trans h0,(e _).trans h1,(e _).trans h2,(e _).trans h3,(e _).trans h4⟩
theorem vG.lt {w:World} {b o:Nat} {x:Tm} {sv:Value} (h:vG w b o x sv):b<w.heap.size:=World.block_lt_of_cell? w _ h.1
mutual
def bg (w:World) (L:Nat):Tm->Value->Prop
 | .mk _ _ _ _ s,sv=>(s=[]/\∃ p c,sv=.slice p 0 c)\/∃ b o c,b<L/\sv=.slice (some ⟨b,o,none⟩) s.length c/\gX w L s b o
def gX (w:World) (L:Nat):List Tm->Nat->Nat->Prop
 | [],_,_=>True
 | x :: r,b,o=>(∃ sv,vG w b o x sv/\bg w L x sv)/\gX w L r b (o+5)
end
mutual
theorem bg.keep {w w':World} {L:Nat} (hb:∀ k,k<L->w'.heap[k]?=w.heap[k]?):∀ {x:Tm} {sv:Value},bg w L x sv->bg w' L x sv
 | .mk _ _ _ _ s,sv,h=>by
  rw[bg] at h |-
  rcases h with h | ⟨b,o,c,hl,hv,hk⟩
  ·exact Or.inl h
  ·exact Or.inr ⟨b,o,c,hl,hv,gX.keep hb hl hk⟩
theorem gX.keep {w w':World} {L:Nat} (hb:∀ k,k<L->w'.heap[k]?=w.heap[k]?):∀ {s:List Tm} {b o:Nat},b<L->gX w L s b o->gX w' L s b o
 | [],_,_,_,_=>trivial
 | x :: r,b,o,hl,h=>by
  rw[gX] at h |-
  obtain⟨⟨sv,h5,hk⟩,hr⟩:=h
  exact⟨⟨sv,h5.keep (hb b hl),bg.keep hb hk⟩,gX.keep hb hl hr⟩
end
mutual
theorem bg.wide {w:World} {L L':Nat} (hl:L<=L'):∀ {x:Tm} {sv:Value},bg w L x sv->bg w L' x sv
 | .mk _ _ _ _ s,sv,h=>by
  rw[bg] at h |-
  rcases h with h | ⟨b,o,c,hb,hv,hk⟩
  ·exact Or.inl h
  ·exact Or.inr ⟨b,o,c,Nat.lt_of_lt_of_le hb hl,hv,gX.wide hl hk⟩
theorem gX.wide {w:World} {L L':Nat} (hl:L<=L'):∀ {s:List Tm} {b o:Nat},gX w L s b o->gX w L' s b o
 | [],_,_,_=>trivial
 | x :: r,b,o,h=>by
  rw[gX] at h |-
  obtain⟨⟨sv,h5,hk⟩,hr⟩:=h
  exact⟨⟨sv,h5,bg.wide hl hk⟩,gX.wide hl hr⟩
end
theorem bg.below {w w':World} {L:Nat} {x:Tm} {sv:Value} (h:bg w L x sv) (hb:Below L w w'):bg w' L x sv:=h.keep fun k hk=>hb.block k hk
theorem gX.below {w w':World} {L:Nat} {s:List Tm} {b o:Nat} (h:gX w L s b o) (hl:b<L) (hb:Below L w w'):gX w' L s b o:=h.keep (fun k hk=>hb.block k hk) hl
theorem gX.at {w:World} {L:Nat}:∀ {s:List Tm} {b o:Nat},gX w L s b o->∀ (i:Nat) (hi:i<s.length),∃ sv,vG w b (o+i * 5) s[i] sv/\bg w L s[i] sv
 | [],_,_,_,i,hi=>absurd hi (by simp)
 | x :: r,b,o,h,i,hi=>by
  rw[gX] at h
  match i,hi with
  | 0,_=>simpa using h.1
  | i+1,hi=>
   obtain⟨sv,h1,h2⟩:=gX.at h.2 i (by simpa using hi)
   exact⟨sv,by rw[show o+(i+1) * 5=o+5+i * 5 by omega];exact h1,h2⟩
theorem bg.subs {w:World} {L:Nat} {x:Tm} {sv:Value} (h:bg w L x sv) :
 ∃ p c,sv=.slice p x.sub.length c/\(0<x.sub.length->∃ b o,b<L/\p=some ⟨b,o,none⟩/\∀ w',Below L w w'->∀ (i:Nat) (hi:i<x.sub.length),∃ kv,vG w' b (o+i * 5) x.sub[i] kv/\bg w' L x.sub[i] kv):=by
 obtain⟨k,n,o,f,s⟩:=x
 rw[bg] at h
 rcases h with ⟨rfl,p,c,rfl⟩ | ⟨b,o,c,hl,rfl,hk⟩
 ·exact⟨p,c,rfl,fun h=>absurd h (by simp[Tm.sub])⟩
 ·exact⟨_,c,rfl,fun _=>⟨b,o,hl,rfl,fun w' hb i hi=>(hk.below hl hb).at i hi⟩⟩
theorem bg.form {w:World} {L:Nat} {x:Tm} {sv:Value} (h:bg w L x sv):∃ p n c,sv=.slice p n c:=by
 obtain⟨p,c,hv,_⟩:=h.subs
 exact⟨p,_,c,hv⟩
mutual
def Gt:Tm->Prop
 | .mk k n o f s=>Fm.i64 k/\n.size<=140737488351232/\o.size<=140737488351232/\Fm.i64 f/\s.length<=140737488351232/\qx s
def qx:List Tm->Prop
 | []=>True
 | x :: r=>Gt x/\qx r
end
theorem qx.at:∀ {s:List Tm},qx s->∀ x ∈ s,Gt x
 | [],_,x,hx=>by cases hx
 | y :: r,h,x,hx=>by
  rw[qx] at h
  rcases List.mem_cons.1 hx with rfl | hx
  ·exact h.1
  ·exact qx.at h.2 x hx
theorem Gt.sub {x:Tm} (h:Gt x):x.sub.length<=140737488351232/\∀ y ∈ x.sub,Gt y:=by
 obtain⟨k,n,o,f,s⟩:=x
 rw[Gt] at h
 exact⟨h.2.2.2.2.1,h.2.2.2.2.2.at⟩
theorem Gt.parts {x:Tm} (h:Gt x):Fm.i64 x.k/\x.n.size<=140737488351232/\x.o.size<=140737488351232/\Fm.i64 x.f:=by
 obtain⟨k,n,o,f,s⟩:=x
 rw[Gt] at h
 exact⟨h.1,h.2.1,h.2.2.1,h.2.2.2.1⟩
end Go.Proofs.YtkpbpecikibohaaGreatDoor.Ya
namespace Go.Proofs.YtkpbpecikibohaaGreatDoor.Ya
open Go.RowKit Go.Maps
open Fm (Nd)
def dn (p:Nat) (w w':World):Prop:=Kp (fun k=>k=p) w w'
theorem dn.trans {p:Nat} {a b c:World} (h:dn p a b) (k:dn p b c):dn p a c:=Kp.trans h k fun _ e=>Or.inl e
theorem dn.of_below {p:Nat} {a b:World} (h:Below a.heap.size a b):dn p a b:=Kp.of_below h
theorem dn.set {p:Nat} {a b:World} (h:dn p a b) (j:Nat) (x:Value):dn p a (b.setCell ⟨p,j,none⟩ x) :=
 ⟨h.os,h.tape,h.output,Nat.le_trans h.size (by simp),fun k hk hn=>(Below.heap_setCell b ⟨p,j,none⟩ x k hn).trans (h.block k hk hn)⟩
theorem fJ (w:World) (b:Nat) (c:Array Value):dn b w (w.setRow b c):=⟨rfl,rfl,rfl,by simp,fun k _ hk=>setRow_other w b k c hk⟩
theorem wpList_want {ops:Array Oper} {rest:List Oper} {o:Oper} {a:Act} {w:World} {Q:Exit->Act->World->Prop} (hw:Region.wanted o (yielded ops a.tmps)=true)
 (h:∀ K:Act->World->Prop,(∀ a w,wpList Tryz.prog ops Q rest a w->K a w)->o.wp Tryz.prog a w K Q):wpList Tryz.prog ops Q (o :: rest) a w :=
 wpList_step fun K hK=>by rw[if_pos hw];exact h K hK
structure New (w w':World) (b:Nat) (cs:Array Value) (T:TypeId):Prop where
 blk:w'.heap[b]?=some (.cells cs T (0,0))
 av:Below w.heap.size w w'
 ge:w.heap.size<=b
 up:w'.heap.size=b+1
 eq:b=w.heap.size
theorem bE (w:World) (cs:Array Value) (T:TypeId):New w (w.alloc (.cells cs T)) w.heap.size cs T :=
 ⟨heap_alloc_last w _,ak w _,Nat.le_refl _,by simp,rfl⟩
def Cl (w:World) (b:Nat) (cs:Array Value) (T:TypeId):Prop:=w.heap[b]?=some (.cells cs T (0,0))
theorem Cl.later {w w':World} {b:Nat} {cs:Array Value} {T:TypeId} (h:Cl w b cs T) (hb:Below w.heap.size w w'):Cl w' b cs T:=(hb.block b (lt_of_block h)).trans h
theorem Cl.lt {w:World} {b:Nat} {cs:Array Value} {T:TypeId} (h:Cl w b cs T):b<w.heap.size:=lt_of_block h
theorem Cl.cell {w:World} {b:Nat} {cs:Array Value} {T:TypeId} (h:Cl w b cs T) (j:Nat):w.cell? ⟨b,j,none⟩=cs[j]?:=cell_of_row w b j _ _ _ h
theorem Cl.fr {w:World} {b:Nat} {cs:Array Value} {T:TypeId} (h:Cl w b cs T) (j:Nat):w.frozen? ⟨b,j,none⟩=false:=frozen_of_row w b j _ _ h
theorem Cl.drew {w:World} {b:Nat} {cs:Array Value} {T:TypeId} (h:Cl w b cs T):Cl w.drew b cs T:=h
section
variable {ops:Array Oper} {rest:List Oper} {o:Oper} {a:Act} {Q:Exit->Act->World->Prop} {w:World}
theorem zW (w:World) (T:TypeId) (cs:Array Value):(Instr.box T (.agg cs)).run Tryz.prog w=.ok (.pointer (some ⟨w.heap.size,0,none⟩)) (w.alloc (.cells cs T)):=by
 simp[Instr.box,go_sem]
theorem aC (T:TypeId) (x:Operand) (hop:o.op=Op.box T x) (cs:Array Value) (hx:a.eval x=.agg cs) (hg:o.guard=none)
 (hK:∀ w' b,New w w' b cs T->wpList Tryz.prog ops Q rest (a.put o.dst (.pointer (some ⟨b,0,none⟩))) w'):wpList Tryz.prog ops Q (o :: rest) a w:=by
 refine wpList_plain hg fun K' hK' => ?_
 have hrun:=zW w T cs
 unfold Oper.wp
 simp[execOp,hop,hx,hrun,Result.andThen]
 exact hK' _ _ (hK _ _ (bE w cs T))
theorem fD (T:TypeId) (x:Operand) (hop:o.op=Op.box T x) (v:Value) (hx:a.eval x=v) (hv:v.cells=#[v]) (hg:o.guard=none)
 (hK:∀ w' b,New w w' b #[v] T->wpList Tryz.prog ops Q rest (a.put o.dst (.pointer (some ⟨b,0,none⟩))) w'):wpList Tryz.prog ops Q (o :: rest) a w:=by
 refine wpList_plain hg fun K' hK' => ?_
 have hrun:(Instr.box T v).run Tryz.prog w=.ok (.pointer (some ⟨w.heap.size,0,none⟩)) (w.alloc (.cells #[v] T)):=by
  simp[Instr.box,go_sem]
  exact congrArg (fun c=>w.alloc (Obj.cells c T)) hv
 unfold Oper.wp
 simp[execOp,hop,hx,hrun,Result.andThen]
 exact hK' _ _ (hK _ _ (bE w _ T))
theorem aN (T:TypeId) (hop:o.op=Op.alloc T) (cs:Array Value) (hz:∀ w,(zeroValue T).run Tryz.prog w=.ok (.agg cs) w) (hg:o.guard=none)
 (hK:∀ w' b,New w w' b cs T->wpList Tryz.prog ops Q rest (a.put o.dst (.pointer (some ⟨b,0,none⟩))) w'):wpList Tryz.prog ops Q (o :: rest) a w:=by
 refine wpList_plain hg fun K' hK' => ?_
 unfold Oper.wp
 simp[execOp,hop,Instr.alloc,hz,go_sem,Result.andThen]
 exact hK' _ _ (hK _ _ (bE w _ T))
theorem fO (T:TypeId) (hop:o.op=Op.alloc T) (z:Value) (hz:∀ w,(zeroValue T).run Tryz.prog w=.ok z w) (hc:z.cells=#[z]) (hg:o.guard=none)
 (hK:∀ w' b,New w w' b #[z] T->wpList Tryz.prog ops Q rest (a.put o.dst (.pointer (some ⟨b,0,none⟩))) w'):wpList Tryz.prog ops Q (o :: rest) a w:=by
 refine wpList_plain hg fun K' hK' => ?_
 have hrun:(execOp a.eval o).run Tryz.prog w=.ok (.value (.pointer (some ⟨w.heap.size,0,none⟩))) (w.alloc (.cells #[z] T)):=by
  simp[execOp,hop,Instr.alloc,hz,go_sem,Result.andThen]
  exact congrArg (fun c=>w.alloc (Obj.cells c T)) hc
 unfold Oper.wp
 rw[hrun,Oper.upon_value]
 exact hK' _ _ (hK _ _ (bE w _ T))
theorem aQ (T:TypeId) (hg:o.guard=none) (hd:o.dst=none) (x y:Operand) (hop:o.op=Op.store T x y) (b:Nat) (hx:a.eval x=.pointer (some ⟨b,0,none⟩)) (cs:Array Value) (hy:a.eval y=.agg cs) (old:Array Value) (T0:TypeId) (h:Cl w b old T0)
 (hs:(Tryz.prog.info? T).map (·.size)=some cs.size) (hs':old.size=cs.size) (h1:cs.all (·.oneCell')=true) (hK:∀ w',Cl w' b cs T0->dn b w w'->wpList Tryz.prog ops Q rest a w'):wpList Tryz.prog ops Q (o :: rest) a w:=by
 refine wpList_plain hg fun K' hK' => ?_
 have hrun:(Instr.storeAt T (.pointer (some ⟨b,0,none⟩)) (.agg cs)).run Tryz.prog w=.ok () (w.setRow b cs):=by
  simp only[Instr.storeAt,Instr.sureAddr,Sem.run_bind,Sem.run_pure,Result.andThen]
  exact run_storeVar_row w b T0 T old cs h hs hs' h1
 unfold Oper.wp
 simp[execOp,hop,hx,hy,hrun,Result.andThen]
 rw[Oper.upon_skip,hd]
 exact hK' _ _ (hK _ (setRow_heap w b _ _ _ _ h) (fJ w b cs))
theorem fq (T:TypeId) (x:Operand) (hop:o.op=Op.load T x) (b:Nat) (hx:a.eval x=.pointer (some ⟨b,0,none⟩)) (cs:Array Value) (T0:TypeId) (h:Cl w b cs T0) {d:TypeDesc} (hd:(match d with | .struct _ | .array _ _=>true | _=>false)=true) (hu:Tryz.prog.underlying T=some d) (hi:(Tryz.prog.info? T).map (·.size)=some cs.size)
 (hg:Region.wanted o (yielded ops a.tmps)=true) (hK:wpList Tryz.prog ops Q rest (a.put o.dst (.agg cs)) w):wpList Tryz.prog ops Q (o :: rest) a w:=by
 refine wpList_want hg fun K' hK' => ?_
 have hrun:(Instr.loadAt T (.pointer (some ⟨b,0,none⟩))).run Tryz.prog w=.ok (.agg cs) w:=by
  simp only[Instr.loadAt,Instr.sureAddr,Sem.run_bind,Sem.run_pure,Result.andThen]
  exact run_loadVar_row w b T0 T cs _ d h hu (by cases d <;> first|rfl | exact hd) hi
 unfold Oper.wp
 simp[execOp,hop,hx,hrun,Result.andThen]
 exact hK' _ _ hK
theorem Tk (w:World) (n:Int):(Instr.buildSlice 37 1 #[(0,.int .i64 n)]).run Tryz.prog w=.ok (.slice (some ⟨w.heap.size,0,none⟩) 1 1) (w.alloc (.cells #[.int .i64 n] 3)):=by kernel_rfl
theorem jM (hg:o.guard=none) (x:Operand) (hop:o.op=Op.buildSlice 37 1 #[(0,x)]) (n:Int) (hx:a.eval x=.int .i64 n)
 (hK:∀ w' q,New w w' q #[.int .i64 n] 3->wpList Tryz.prog ops Q rest (a.put o.dst (.slice (some ⟨q,0,none⟩) 1 1)) w'):wpList Tryz.prog ops Q (o :: rest) a w:=by
 refine wpList_plain hg fun K' hK' => ?_
 have hrun:=Tk w n
 unfold Oper.wp
 simp[execOp,hop,hx,hrun,Result.andThen]
 exact hK' _ _ (hK _ _ (bE w _ _))
end
theorem cO {w0 w w':World} {b:Nat} {cs:Array Value} {T:TypeId} (h:Below w0.heap.size w0 w) (hn:New w w' b cs T):Below w0.heap.size w0 w':=h.trans (hn.av.mono h.size)
theorem bR {w0 w w':World} {p:Nat} (h:Below w0.heap.size w0 w) (hk:dn p w w') (hp:w0.heap.size<=p):Below w0.heap.size w0 w' :=
 ⟨hk.os.trans h.os,hk.tape.trans h.tape,hk.output.trans h.output,Nat.le_trans h.size hk.size,fun k hk2=>(hk.block k (Nat.lt_of_lt_of_le hk2 h.size) (by omega)).trans (h.block k hk2)⟩
theorem Cl.kp {w w':World} {b p:Nat} {cs:Array Value} {T:TypeId} (h:Cl w b cs T) (hk:dn p w w') (hp:b≠p):Cl w' b cs T:=(hk.block b h.lt hp).trans h
theorem Cl.new {w w':World} {b p:Nat} {cs cs':Array Value} {T T':TypeId} (h:Cl w b cs T) (hn:New w w' p cs' T'):Cl w' b cs T:=h.later hn.av
theorem bD {base n size:Nat} {e:TypeId} {w w':World} {v:Value} {xs:List Value} (h:w.ownsRow base e size v n xs) (hb:∀ k,v.ownBlock=some k->w'.heap[k]?=w.heap[k]?):w'.ownsRow base e size v n xs:=by
 refine⟨h.1,?_⟩
 rcases h.2 with h2 | ⟨g,cap,cur,rfl,hg,hh,r⟩
 ·exact Or.inl h2
 ·exact Or.inr ⟨g,cap,cur,rfl,hg,(hb g rfl).trans hh,r⟩
theorem aP {base n size:Nat} {e:TypeId} {w:World} {v:Value} {xs:List Value} (h:w.ownsRow base e size v n xs):∀ k,v.ownBlock=some k->base<=k/\k<w.heap.size/\∃ cur,w.heap[k]?=some (.cells cur e (0,0)):=by
 intro k hk
 rcases h.2 with ⟨rfl,_⟩ | ⟨g,cap,cur,rfl,hg,hh,_⟩
 ·cases hk
 ·obtain rfl:g=k:=Option.some.inj hk
  exact⟨hg,lt_of_block hh,cur,hh⟩
theorem qW:(Tryz.prog.info? 3).map (fun i=>(i.zero,i.size,i.bytes))=some (some (.int .i64 0),1,8):=by kernel_rfl
def yM:Value->Option (DataW Value × List MemPlace):=fun v=>some (.held v,[])
theorem JZ (w:World):(zeroValue 3).run Tryz.prog w=.ok (.int .i64 0) w:=by kernel_rfl
def kS (s:ByteArray):Lit:=.string s.data.toList
theorem yN {s:ByteArray} (h:s.size<=140737488351232):keyOf Tryz.prog 9 (.string s)=some (kS s):=Go.WideMaps.keyOf_string_mk Tryz.underlying9 (by unfold maxLen;omega)
theorem J2 {s:ByteArray} (h:s.size<=140737488351232):WideAt.IsKeyLit (kS s):=(string_keyed Tryz.underlying9).key (yN h)
theorem J3 {s s':ByteArray} (h:kS s=kS s'):s=s':=by
 unfold kS at h
 have h1:s.data.toList=s'.data.toList:=by injection h
 obtain⟨⟨a⟩⟩:=s
 obtain⟨⟨b⟩⟩:=s'
 simp at h1
 rw[h1]
def Mz (w:World) (m n:Nat) (g:ByteArray->Option Int):Prop :=
 ∃ D:DataW Value,w.ownsMap Tryz.prog 9 yM m n D/\∀ s,s.size<=140737488351232->Maps.has D (kS s)=(g s).isSome/\∀ z,D.atKey (kS s) z=((g s).map fun x=>DataW.held (Value.int .i64 x)).getD z
section
variable {w w':World} {m n:Nat} {g:ByteArray->Option Int}
theorem Q0 (w:World):Mz (w.alloc (.map #[] 0)) w.heap.size 0 (fun _=>none) :=
 ⟨.map [],World.ownsMap_made w _ _ _,fun i _=>⟨by simp[Maps.has],fun z=>rfl⟩⟩
theorem Mz.lt (h:Mz w m n g):m<w.heap.size:=by obtain⟨D,hD,_⟩:=h;exact hD.lt
theorem Mz.keep (h:Mz w m n g) (hk:w'.heap[m]?=w.heap[m]?):Mz w' m n g:=by
 obtain⟨D,⟨es,cl,hb,r⟩,hg⟩:=h
 exact⟨D,⟨es,cl,hk.trans hb,r⟩,hg⟩
theorem Mz.later (h:Mz w m n g) (hb:Below w.heap.size w w'):Mz w' m n g:=h.keep (hb.block m h.lt)
theorem Mz.look (h:Mz w m n g) {s:ByteArray} (hs:s.size<=140737488351232) :
 (Instr.lookup 106 (.map (some m)) (.string s) true).run Tryz.prog w=.ok (.tuple #[.int .i64 ((g s).getD 0),.bool (g s).isSome]) w:=by
 obtain⟨D,hD,hg⟩:=h
 obtain⟨v,ps,hr,hv⟩:=hD.look_ok (string_keyed Tryz.underlying9) Tryz.underlying106 (JZ w) (zd:=.held (.int .i64 0)) (zp:=[]) rfl (yN hs)
 rw[hr,(hg s hs).1]
 have e1:(DataW.held v:DataW Value)=D.atKey (kS s) (.held (.int .i64 0)):=by
  unfold yM at hv
  exact congrArg Prod.fst (Option.some.inj hv)
 rw[(hg s hs).2] at e1
 cases hx:g s with
 | none=>rw[hx] at e1;cases e1;rfl
 | some x=>rw[hx] at e1;cases e1;rfl
end
def Tn (g:ByteArray->Option Int) (s:ByteArray) (x:Int):ByteArray->Option Int:=fun r=>if r=s then some x else g r
theorem Mz.put {w:World} {m n:Nat} {g:ByteArray->Option Int} (h:Mz w m n g) (hn:n<maxLen) {s:ByteArray} (hs:s.size<=140737488351232) (x:Int) :
 ∃ w',(Instr.mapUpdate 106 (.map (some m)) (.string s) (.int .i64 x)).run Tryz.prog w=.ok () w'/\Mz w' m (n+1) (Tn g s x)/\Kp (fun k=>k=m) w w':=by
 obtain⟨D,hD,hg⟩:=h
 obtain⟨w',hr,ho,hgr⟩:=hD.update (string_keyed Tryz.underlying9) Tryz.underlying106 hn (yN hs) (val:=.int .i64 x) (d:=.held (.int .i64 x)) (ps:=[]) rfl
 refine⟨w',hr,⟨_,ho,fun j hj => ?_⟩,⟨hgr.os,hgr.tape,hgr.output,hgr.size,fun k hk hne=>hgr.block k hk (fun e=>hne (Option.some.inj e))⟩⟩
 unfold Tn
 by_cases e:j=s
 ·subst e
  rw[if_pos rfl]
  exact⟨has_put_same hD.isMap (J2 hs) _,fun z=>atKey_put_same hD.isMap (J2 hs) _ _⟩
 ·rw[if_neg e]
  have hne:kS j≠kS s:=fun h=>e (J3 h)
  exact⟨(has_put_other hne _).trans (hg j hj).1,fun z=>(atKey_put_other hne _ _).trans ((hg j hj).2 z)⟩
def Tp (g:ByteArray->Option Int) (s:ByteArray):ByteArray->Option Int:=fun r=>if r=s then none else g r
theorem Mz.del {w:World} {m n:Nat} {g:ByteArray->Option Int} (h:Mz w m n g) {s:ByteArray} (hs:s.size<=140737488351232) (ty:TypeId) :
 ∃ w',(Builtin.delete_ #[106,9] ty #[.map (some m),.string s]).run Tryz.prog w=.ok (.tuple #[]) w'/\Mz w' m n (Tp g s)/\Kp (fun k=>k=m) w w':=by
 obtain⟨D,hD,hg⟩:=h
 obtain⟨w',hr,ho,hgr⟩:=hD.drop (string_keyed Tryz.underlying9) Tryz.underlying106 (yN hs) ty
 refine⟨w',hr,⟨_,ho,fun j hj => ?_⟩,?_⟩
 ·unfold Tp
  by_cases e:j=s
  ·subst e
   rw[if_pos rfl]
   exact⟨has_del_same,fun z=>atKey_del_same z⟩
  ·rw[if_neg e]
   have hne:kS j≠kS s:=fun h=>e (J3 h)
   exact⟨(has_del_other hne).trans (hg j hj).1,fun z=>(atKey_del_other hne z).trans ((hg j hj).2 z)⟩
 ·have hgr:=hgr.grown
  exact⟨hgr.os,hgr.tape,hgr.output,hgr.size,fun k hk hne=>hgr.block k hk (fun e=>hne (Option.some.inj e))⟩
theorem Mz.same {w:World} {m n:Nat} {g g':ByteArray->Option Int} (h:Mz w m n g) (e:∀ s,s.size<=140737488351232->g s=g' s):Mz w m n g':=by
 obtain⟨D,hD,hg⟩:=h
 exact⟨D,hD,fun s hs=>by rw[<- e s hs];exact hg s hs⟩
theorem Mz.mono {w:World} {m n n':Nat} {g:ByteArray->Option Int} (h:Mz w m n g) (hn:n<=n'):Mz w m n' g:=by
 obtain⟨D,hD,hg⟩:=h
 exact⟨D,hD.mono hn,hg⟩
open Ty (Tm dw eu)
mutual
theorem CB:∀ (x:Tm) (m:Nat),1<=m->1<=dw x m/\dw x m<=m
 | .mk _ _ _ _ s,m,hm=>by
  rw[dw]
  exact AU s m 1 (Nat.le_refl _) hm
theorem AU:∀ (s:List Tm) (m k:Nat),1<=k->k<=m->1<=eu s m k/\eu s m k<=m
 | [],m,k,h1,h2=>by rw[eu];exact⟨h1,h2⟩
 | x :: r,m,k,h1,h2=>by
  rw[eu]
  split
  ·exact⟨h1,h2⟩
  ·have:=CB x (m - k) (by omega)
   exact AU r m _ (by omega) (by omega)
end
theorem J4 (x:Tm) (m:Nat):dw x m=eu x.sub m 1:=by cases x;rw[dw];rfl
theorem AV:∀ (sz:Nat) (x:Tm),x.rk<sz->∀ (w:World) (L:Nat) (sv:Value),bg w L x sv->Gt x->L<=w.heap.size->∀ m:Nat,1<=m->m<=65537 ->
 Calls Tryz.prog 106 #[bL x sv,.int .i64 (m:Int)] w fun e w'=>e=.returned (.int .i64 (dw x m:Int))/\Below w.heap.size w w'
 | 0,_,h,_,_,_,_,_,_,_,_,_=>absurd h (Nat.not_lt_zero _)
 | sz+1,x,hsz,w,L,sv,hK,hG,hL,m,h1,h2=>by
  have KC:=show Hid (∀ y ∈ x.sub,∀ (W:World) (kv:Value),bg W L y kv->L<=W.heap.size->∀ q:Nat,1<=q->q<=65537->Calls Tryz.prog 106 #[bL y kv,.int .i64 (q:Int)] W fun e w'=>e=.returned (.int .i64 (dw y q:Int))/\Below W.heap.size W w') from
   fun y hy W kv hk hl q a b=>AV sz y (by have:=Ty.Cz hy;omega) W L kv hk (hG.sub.2 y hy) hl q a b
  have XE:=show Hid (∀ (y:Tm) (q:Nat),1<=q->1<=dw y q/\dw y q<=q) from CB
  obtain⟨p,c,rfl,hat⟩:=hK.subs
  have HA:=show Hid _ from hat
  have hlen:x.sub.length<=140737488351232:=hG.sub.1
  have HN:=show Hid (eu (x.sub.drop 0) m 1=dw x m) from by rw[List.drop_zero];exact(J4 x m).symm
  generalize dw x m=ans at *
  clear hK hat hG
  unfold bL
  generalize x.k=xk at *
  generalize x.n=xn at *
  generalize x.o=xo at *
  generalize x.f=xf at *
  generalize x.sub=s at *
  go_enter Tryz.func106,Tryz.ntmps106
  go_wp2_with fail
  go_loopw [5,7,11] (fun y _ i wr=>∃ (j k:Nat),j<=s.length/\i=.int .i64 (j:Int)/\y=.int .i64 (k:Int)/\1<=k/\k<=m/\Hid (eu (s.drop j) m k=ans)/\Hid (Below w.heap.size w wr)) (fun _ _ i _=>s.length - (intOf i).toNat)
  case atStart=>exact⟨0,1,Nat.zero_le _,rfl,rfl,Nat.le_refl _,h1,HN,ak _ _⟩
  case round=>
   obtain⟨j,k,hj,rfl,rfl,hk1,hkm,HF,HB⟩:=hrel
   clear HN
   by_cases hlt:j<s.length
   ·obtain⟨b,o,hbl,rfl,hat⟩:=HA.out (by omega)
    have hBL:Below L w wr:=HB.out.mono hL
    obtain⟨kv,h5,iE⟩:=hat wr hBL j hlt
    have hmem:s[j] ∈ s:=List.getElem_mem hlt
    have hst:=HF.out
    rw[List.drop_eq_getElem_cons hlt,eu] at hst
    have HST:=show Hid _ from hst
    have hsz:=HB.out.size
    have rV:=show Hid (∀ W:World,Below wr.heap.size wr W->∀ q:Nat,1<=q->q<=65537->Calls Tryz.prog 106 #[bL s[j] kv,.int .i64 (q:Int)] W fun e w'=>e=.returned (.int .i64 (dw s[j] q:Int))/\Below W.heap.size W w') from
     fun W hW q a1 a2=>KC.out s[j] hmem W kv (iE.below (hW.mono (by omega))) (by have:=hW.size;omega) q a1 a2
    have HB2:=show Hid (1<=m - k->1<=dw s[j] (m - k)/\dw s[j] (m - k)<=m - k) from XE.out s[j] (m - k)
    obtain⟨kp,kn,kc,rfl⟩:=iE.form
    generalize s[j]=y at *
    unfold bL at rV
    obtain⟨a0,a1,a2,a3,a4⟩:=h5
    generalize y.k=yk at *
    generalize y.n=yn at *
    generalize y.o=yo at *
    generalize y.f=yf at *
    have hji:(j:Int)<(s.length:Int):=by omega
    clear hst HF hat iE hmem hBL KC XE
    by_cases NC:k=m
    ·have hst:=HST.out
     rw[if_pos NC] at hst
     subst NC
     subst hst
     clear HST
     go_wp2_with fail
     go_ret
     exact⟨rfl,HB.out.trans ((ak _ _).mono hsz)⟩
    ·have hst:=HST.out
     rw[if_neg NC] at hst
     have hne:((k:Int) == (m:Int))=false:=by simp;omega
     have e1:(m:Int) - (k:Int)=((m - k:Nat):Int):=by omega
     have tF:=show Hid _ from hst
     have AY:=show Hid ((m:Int) - (k:Int)=((m - k:Nat):Int)) from e1
     clear hst HST e1
     go_wp2_with fail
     rw[AY.out]
     refine Calls.mono (rV.out _ (ak _ _) (m - k) (by omega) (by omega)) ?_
     rintro e w2 ⟨rfl,hb2⟩
     have yO:=show Hid (Below w.heap.size w w2) from HB.out.trans (((ak _ _).trans (hb2.mono (by simp))).mono hsz)
     obtain⟨hn1,hn2⟩:=HB2.out (by omega)
     generalize dw y (m - k)=q at *
     clear hb2 HB2 HB rV a0 a1 a2 a3 a4 AY
     go_wp2_with fail
     go_roundw
     case rel=>exact⟨j+1,k+q,by omega,by go_num,by go_num,by omega,by omega,tF,yO⟩
     case measure=>first|(simp[intOf];done)|(simp[intOf];omega)
   ·have qy:j=s.length:=by omega
    have hst:=HF.out
    rw[qy,List.drop_length,eu] at hst
    subst hst
    have hji:¬ (j:Int)<(s.length:Int):=by omega
    clear qy HF
    go_wp2_with fail
    go_ret
    exact⟨rfl,HB.out⟩
theorem ND (x:Tm) (w:World) (L:Nat) (sv:Value) (hK:bg w L x sv) (hG:Gt x) (hL:L<=w.heap.size) :
 Calls Tryz.prog 77 #[bL x sv] w fun e w'=>e=.returned (.int .i64 (dw x 65537:Int))/\Below w.heap.size w w':=by
 have KC:=show Hid (∀ W:World,Below w.heap.size w W->Calls Tryz.prog 106 #[bL x sv,.int .i64 ((65537:Nat):Int)] W fun e w'=>e=.returned (.int .i64 (dw x 65537:Int))/\Below W.heap.size W w') from
  fun W hW=>AV _ x (Nat.lt_succ_self _) W L sv (hK.below (hW.mono hL)) hG (Nat.le_trans hL hW.size) 65537 (by decide) (by decide)
 obtain⟨p,n,c,rfl⟩:=hK.form
 generalize dw x 65537=ans at *
 unfold bL at KC |-
 clear hK hG
 generalize x.k=xk at *
 generalize x.n=xn at *
 generalize x.o=xo at *
 generalize x.f=xf at *
 go_enter Tryz.func77,Tryz.ntmps77
 go_wp2_with fail
 refine Calls.mono (KC.out _ (ak _ _)) ?_
 rintro e w2 ⟨rfl,hb2⟩
 have hb:=(ak _ _).trans (hb2.mono (by simp))
 clear KC hb2
 go_wp2_with fail
 go_ret
 exact⟨rfl,hb⟩
end Go.Proofs.YtkpbpecikibohaaGreatDoor.Ya
