/-
  Sequents loaded and stored whole, their left sides stored, in plain walks and in drawn regions; tables behind other blocks. No condition.
-/
import Derived.Test.YtkmmlimekachbaaGreatDoorQG3
import Derived.Test.YtkmmlimekachbaaGreatDoorQG4
namespace Go.Proofs.YtkmmlimekachbaaGreatDoor
open Go.RowKit Go.Shelf Go.Maps
open Fm (Nd)
open Bt.Bs (Ok wd)
theorem results_seq_cell {P:Program} {fn:Func} {p p2:Tmp} {ty ty2:TypeId} (h:fn.results=#[.cell p ty,.cell p2 ty2]) (tmps:Array Value) (w:World) (g g2:Nat) (t t2:TypeId) (cs cs2:Array Value) (fr fr2:Nat × Nat) (d d2:TypeDesc)
 (hp:tmps.getD p undef=.pointer (some ⟨g,0,none⟩)) (hg:w.heap[g]?=some (.cells cs t fr)) (hp2:tmps.getD p2 undef=.pointer (some ⟨g2,0,none⟩)) (hg2:w.heap[g2]?=some (.cells cs2 t2 fr2))
 (hu:P.underlying ty=some d) (hd:(match d with | .struct _ | .array _ _=>true | _=>false)=true) (hi:(P.info? ty).map (·.size)=some cs.size)
 (hu2:P.underlying ty2=some d2) (hd2:(match d2 with | .struct _ | .array _ _=>true | _=>false)=true) (hi2:(P.info? ty2).map (·.size)=some cs2.size) :
 (results fn tmps).run P w=.ok (.tuple #[.agg cs,.agg cs2]) w:=by
 have hp':tmps[p]?.getD undef=.pointer (some ⟨g,0,none⟩):=by simpa using hp
 have hp2':tmps[p2]?.getD undef=.pointer (some ⟨g2,0,none⟩):=by simpa using hp2
 simp [results,h,hp',hp2',asAddr,run_loadVar_row w g t ty cs fr d hg hu hd hi,run_loadVar_row w g2 t2 ty2 cs2 fr2 d2 hg2 hu2 hd2 hi2,Result.andThen]
theorem loadQQ (w:World) (b:Nat) {r:List Nat} {g:Int} (h:SeqAt w b r g) (hs:r.length=16):(Instr.loadAt 27 (.pointer (some ⟨b,0,none⟩))).run Tryz.prog w=.ok (.agg (cellsQ r g)) w :=
 run_loadAt_mid (P:=Tryz.prog) w b 0 27 (Bt.listB r ++ [.int .i64 g]) _ h.all Tryz.underlying27 rfl (by rw [sizeQ];simp [Bt.listB,hs])
theorem wpList_ldQQ {ops:Array Oper} {rest:List Oper} {o:Oper} {a:Act} {Q:Exit→Act→World→Prop} (w:World) (x:Operand) (hop:o.op=Op.load 27 x) (b:Nat) (hx:a.eval x=.pointer (some ⟨b,0,none⟩))
 {r:List Nat} {g:Int} (h:SeqAt w b r g) (hs:r.length=16) (hg:Region.wanted o (yielded ops a.tmps)=true) (hK:wpList Tryz.prog ops Q rest (a.put o.dst (.agg (cellsQ r g))) w):wpList Tryz.prog ops Q (o :: rest) a w:=by
 refine Bt.wpList_want hg fun K' hK' => ?_
 have hrun:=loadQQ w b h hs
 unfold Oper.wp
 simp [execOp,hop,hx,hrun,Result.andThen]
 exact hK' _ _ hK
def updC (c:Array Value):Nat→List Value→Array Value
 | _,[]=>c
 | o,v :: r=>updC (c.setIfInBounds o v) (o+1) r
theorem setCells_block (b:Nat) (t:TypeId):∀ (vs:List Value) (o:Nat) (w:World) (c:Array Value),w.heap[b]?=some (.cells c t (0,0))→(w.setCells b o vs).heap[b]?=some (.cells (updC c o vs) t (0,0))
 | [],_,_,_,h=>h
 | v :: r,o,w,c,h=>setCells_block b t r (o+1) (w.setCell ⟨b,o,none⟩ v) (c.setIfInBounds o v) (heap_setCell_same w b o _ _ _ h)
theorem setCells_kp (b:Nat):∀ (vs:List Value) (o:Nat) (w:World),KpP b w (w.setCells b o vs)
 | [],_,w=>Kp.refl _ w
 | v :: r,o,w=>(KpP.set (Kp.refl _ w) o v).trans (setCells_kp b r (o+1) (w.setCell ⟨b,o,none⟩ v))
theorem updQ16 (a0 a1 a2 a3 a4 a5 a6 a7 a8 a9 a10 a11 a12 a13 a14 a15 r0 r1 r2 r3 r4 r5 r6 r7 r8 r9 r10 r11 r12 r13 r14 r15:Nat) (g:Int):updC (cellsQ [a0,a1,a2,a3,a4,a5,a6,a7,a8,a9,a10,a11,a12,a13,a14,a15] g) 0 (Bt.listB [r0,r1,r2,r3,r4,r5,r6,r7,r8,r9,r10,r11,r12,r13,r14,r15])=cellsQ [r0,r1,r2,r3,r4,r5,r6,r7,r8,r9,r10,r11,r12,r13,r14,r15] g:=by kernel_rfl
theorem updQ {r r':List Nat} (h:r.length=16) (h':r'.length=16) (g:Int):updC (cellsQ r g) 0 (Bt.listB r')=cellsQ r' g:=by
 match r,h with
 | [a0,a1,a2,a3,a4,a5,a6,a7,a8,a9,a10,a11,a12,a13,a14,a15],_ =>
  match r',h' with
  | [r0,r1,r2,r3,r4,r5,r6,r7,r8,r9,r10,r11,r12,r13,r14,r15],_=>exact updQ16 ..
theorem storeBQ (w:World) (b:Nat) {r r':List Nat} {g:Int} (h:SeqAt w b r g) (hs:r.length=16) (hs':r'.length=16):∃ w',(Instr.storeAt 25 (.pointer (some ⟨b,0,none⟩)) (.agg (Bt.cellsB r'))).run Tryz.prog w=.ok () w'∧SeqAt w' b r' g∧KpP b w w':=by
 refine ⟨_,run_storeAt_mid (P:=Tryz.prog) w b 0 25 (Bt.cellsB r') ?_ ?_ ?_,?_,setCells_kp b _ 0 w⟩
 ·intro j hj
  have hj':j<16:=by rw [Bt.cellsB_size hs'] at hj;exact hj
  refine ⟨?_,h.fr _⟩
  have:=h.range j ((Bt.listB r)[j]'(by simp [Bt.listB,hs];exact hj')) (by rw [List.getElem?_eq_getElem])
  rw [this]
  rfl
 ·rw [Bt.sizeB,Bt.cellsB_size hs']
 ·simp [Bt.cellsB,Value.oneCell']
 ·have:=setCells_block b 27 (Bt.cellsB r').toList 0 w _ h
  rw [show (Bt.cellsB r').toList=Bt.listB r' from by simp [Bt.cellsB,Bt.listB],updQ hs hs'] at this
  exact this
theorem wpList_stBQ {ops:Array Oper} {rest:List Oper} {o:Oper} {a:Act} {Q:Exit→Act→World→Prop} (w:World) (hg:o.guard=none) (hd:o.dst=none) (x y:Operand) (hop:o.op=Op.store 25 x y) (b:Nat) (hx:a.eval x=.pointer (some ⟨b,0,none⟩))
 {r':List Nat} (hy:a.eval y=.agg (Bt.cellsB r')) {r:List Nat} {g:Int} (h:SeqAt w b r g) (hs:r.length=16) (hs':r'.length=16) (hK:∀ w',SeqAt w' b r' g→KpP b w w'→wpList Tryz.prog ops Q rest a w'):wpList Tryz.prog ops Q (o :: rest) a w:=by
 refine wpList_plain hg fun K' hK' => ?_
 obtain ⟨w',hrun,h1,h2⟩:=storeBQ w b h hs hs'
 unfold Oper.wp
 simp [execOp,hop,hx,hy,hrun,Result.andThen]
 rw [Oper.upon_skip,hd]
 exact hK' _ _ (hK w' h1 h2)
theorem setRow_kp (w:World) (b:Nat) (c:Array Value):KpP b w (w.setRow b c):=⟨rfl,rfl,rfl,by simp,fun k _ hk=>setRow_other w b k c hk⟩
section
variable {ops:Array Oper} {Q:Exit→Act→World→Prop} {S:World→Prop} {fuel:Nat} {listed:Array Bool} {a:Act} {w:World}
theorem stepStoreQ (i:Nat) {oi:Oper} (hd:oi.dst=none) (hw:Region.wanted oi (yielded ops a.tmps)=true) (x y:Operand) (ho:oi.op=.store 27 x y) (b:Nat) (hx:a.eval x=.pointer (some ⟨b,0,none⟩)) {r':List Nat} {g':Int} (hy:a.eval y=.agg (cellsQ r' g')) {r:List Nat} {g:Int} (hr:SeqAt w b r g) (hl:r.length=16) (hl':r'.length=16)
 (hS:S (w.setRow b (cellsQ r' g'))) (h:S (w.setRow b (cellsQ r' g'))→wpAnyH Tryz.prog .any ops Q S fuel (listed.setIfInBounds i true) a (w.setRow b (cellsQ r' g'))):StepH ops Q S fuel listed a w i oi:=by
 refine stepU i (w.setRow b (cellsQ r' g')) hd hw ?_ hS h
 have:=storeQ (g':=g') w b hr hl hl'
 unfold execOp
 simp only [ho,hx,hy,Sem.run_bind,this,Result.andThen_ok,Sem.run_pure]
end
theorem cells_nft {w:World} {g b m:Nat} {cur:Array Value} {ty:TypeId} {fr:Nat × Nat} {v:Value} {t:List Nd} (h:w.heap[g]?=some (.cells cur ty fr)) (h1:ty≠144) (h2:ty≠140) (hT:Tb w b m v t):¬ Ft b m v g:=by
 rintro (rfl | rfl | e)
 ·rw [hT.tab] at h
  injection h with h
  injection h with _ h3 _
  exact h1 h3.symm
 ·obtain ⟨D,⟨es,cl,hm,_⟩,_⟩:=hT.map
  rw [h] at hm;cases hm
 ·obtain ⟨_,cur',hh⟩:=hT.row.lt g e
  rw [h] at hh
  injection hh with hh
  injection hh with _ h3 _
  exact h2 h3
theorem After.kpP {w w1 w2:World} {b m k0:Nat} {v:Value} {t:List Nd} (h:After w b m v t w1) (hk:KpP k0 w1 w2) (h0:w.heap.size≤k0) {cur:Array Value} {ty:TypeId} {fr:Nat × Nat} (hc:w1.heap[k0]?=some (.cells cur ty fr)) (h1:ty≠144) (h2:ty≠140):After w b m v t w2:=by
 obtain ⟨v',t1,t2,t3⟩:=h
 refine ⟨v',t1.keep fun k hk' => ?_,t2,⟨hk.os.trans t3.os,hk.tape.trans t3.tape,hk.output.trans t3.output,Nat.le_trans t3.size hk.size,fun k hlt hn => ?_⟩⟩
 ·have hne:k≠k0:=fun e=>cells_nft hc h1 h2 t1 (e ▸ hk')
  exact hk.block k (t1.foot k hk') hne
 ·rw [hk.block k (by have:=t3.size;omega) (by omega)]
  exact t3.block k hlt hn
theorem After.later {w w1 w2:World} {b m:Nat} {v:Value} {t:List Nd} (h:After w b m v t w1) (hb:Below w1.heap.size w1 w2):After w b m v t w2:=by
 obtain ⟨v',t1,t2,t3⟩:=h
 exact ⟨v',t1.later hb,t2,t3.trans (Kp.of_below (S:=fun _=>False) hb) (fun _ h=>h.elim)⟩
theorem SeqAt.kp {S:Nat→Prop} {w w':World} {b:Nat} {r:List Nat} {g:Int} (h:SeqAt w b r g) (hk:Kp S w w') (hn:¬ S b):SeqAt w' b r g:=(hk.block b h.lt hn).trans h
theorem Fl.kp {S:Nat→Prop} {w w':World} {b:Nat} {e l c o:Int} (h:Fl w b e l c o) (hk:Kp S w w') (hn:¬ S b):Fl w' b e l c o:=(hk.block b h.lt hn).trans h
theorem box_kp {S:Nat→Prop} {w w':World} {b:Nat} {ty:TypeId} {x:Value} (h:Boxed w b ty x) (hk:Kp S w w') (hn:¬ S b):Boxed w' b ty x:=(hk.block b h.lt hn).trans h
theorem SeqAt.nft {w:World} {b b0 m:Nat} {r:List Nat} {g:Int} {v:Value} {t:List Nd} (h:SeqAt w b r g) (hT:Tb w b0 m v t):¬ Ft b0 m v b:=cells_nft h (by decide) (by decide) hT
theorem putI_ok {r:List Nat} (h:Ok r) (n:Int):Ok (Bt.putI r n).1:=by
 unfold Bt.putI
 split
 ·exact Bt.Bs.put_ok h _
 ·exact Bt.Bs.zero_ok
theorem whole_pre {ts:List Sx.Tn} {t:List Nd} (hok:Fm.Ok t):∃ u,(whole false ts t).2=t ++ u:=by
 unfold whole fin
 obtain ⟨o,ho,_⟩:=Sx.rd_total ts (8 * ts.length+5) .formula 0 0 0 (by omega) (by simp only [Sx.cost];omega)
 have hwf:=Sx.rd_wf ts _ .formula 0 0 0 o trivial ho
 rw [ho]
 cases o with
 | bad e tn=>exact ⟨[],by simp [finO,wholeO]⟩
 | ok a i n =>
  simp only [Option.getD_some,finO,Bool.false_eq_true,false_and,if_false,wholeO]
  split
  ·exact (Sx.pt_res a hok hwf).pre
  ·exact ⟨[],by simp⟩
theorem cut_back {t u:List Nd}:cutR (t ++ u) (t.length:Int)=(0,t):=by
 unfold cutR
 rw [if_pos ⟨by omega,by simp;omega⟩]
 simp
end Go.Proofs.YtkmmlimekachbaaGreatDoor
/-
  The calls restoring, put of layer 8: what was read is put into the table, or nothing is. For every table that calls made. No other condition.
-/
namespace Go.Proofs.YtkmmlimekachbaaGreatDoor
open Go.RowKit Go.Shelf Go.Maps
open Fm (Nd)
open Sx (Tn T)
open Bt.Bs (Ok wd)
section
variable (w:World) {b m:Nat} {v:Value} {t:List Nd}
set_option maxHeartbeats 400000 in
theorem restoring_any (hT:Tb w b m v t):Calls Tryz.prog 65 #[.pointer (some ⟨b,0,none⟩)] w fun e w'=>e=.returned (.func (.func 124) #[] #[.pointer (some ⟨w.heap.size,0,none⟩),.pointer (some ⟨w.heap.size+1,0,none⟩)])∧w'=(w.alloc (.cells #[.pointer (some ⟨b,0,none⟩)] 29)).alloc (.cells #[.int .i64 (t.length:Int)] 3):=by
 have K:=show Hid (∀ w1,Below w.heap.size w w1→Calls Tryz.prog 93 #[.pointer (some ⟨b,0,none⟩)] w1 fun e w'=>e=.returned (.int .i64 (t.length:Int))∧w'=w1) from fun w1 hb=>len_any w1 (hT.later hb)
 clear hT
 go_enter Tryz.func65,Tryz.ntmps65
 go_wp2_with fail
 refine (K.out _ (below_alloc w _)).mono ?_
 rintro e w1 ⟨rfl,hw1⟩
 subst w1
 go_wp2_with fail
 go_ret
 exact ⟨rfl,rfl⟩
set_option maxHeartbeats 400000 in
theorem restore_any {p1 p2:Nat} {u:List Nd} (hT:Tb w b m v (t ++ u)) (h1:Boxed w p1 29 (.pointer (some ⟨b,0,none⟩))) (h2:Boxed w p2 3 (.int .i64 (t.length:Int))) :
 Calls Tryz.prog 124 #[.pointer (some ⟨p1,0,none⟩),.pointer (some ⟨p2,0,none⟩)] w fun e w'=>e=.returned (.tuple #[])∧After w b m v t w':=by
 have K:=show Hid (Calls Tryz.prog 125 #[.pointer (some ⟨b,0,none⟩),.int .i64 (t.length:Int)] w fun e w'=>e=.returned (.int .i64 0)∧After w b m v t w') from by
  have:=cut_any w hT (t.length:Int)
  rw [cut_back] at this
  exact this
 have c1:=h1.cell
 have c2:=h2.cell
 clear hT h1 h2
 go_enter Tryz.func124,Tryz.ntmps124
 go_wp2_with fail
 refine K.out.mono ?_
 rintro e w1 ⟨rfl,ha⟩
 have HA:=show Hid (After w b m v t w1) from ha
 clear ha K
 go_wp2_with fail
 first | go_end0 | (refine bodyPost_ret (results_none rfl _ _ _) rfl ?_)
 exact ⟨rfl,HA.out⟩
end
structure PtG (w:World) (b m:Nat) (v:Value) (g:Nat) (p:Option Addr) (c:Nat) (qs:List (Cp × List Tn)):Prop where
 cell:∀ k (hk:k<qs.length),∃ gq cur,p=some ⟨gq,0,none⟩∧w.heap[gq]?=some (.cells cur 97 (0,0))∧cur[k]?=some (partV g qs[k])
 cap:qs.length≤c∧c≤maxLen
 ts:∀ q ∈ qs,TsAt w g q.1 q.2∧∀ t ∈ q.2,t.s.size≤140737488351232
structure PtW (w wx:World) (b m:Nat) (v:Value) (t t':List Nd) (r:List Nat):Prop where
 aft:After w b m v t' wx
 pre:∃ u,t'=t ++ u
 res:SeqAt wx w.heap.size Bt.Bs.zero 0
 flt:Fl wx (w.heap.size+1) 0 0 0 0
 tab:Boxed wx (w.heap.size+1+1) 29 (.pointer (some ⟨b,0,none⟩))
 num:Boxed wx (w.heap.size+1+1+1) 3 (.int .i64 (t.length:Int))
 sv:SeqAt wx (w.heap.size+1+1+1+1) r 0
 ok:Ok r
theorem PtW.later {w wx w2:World} {b m:Nat} {v:Value} {t t':List Nd} {r:List Nat} (h:PtW w wx b m v t t' r) (hb:Below wx.heap.size wx w2):PtW w w2 b m v t t' r :=
 ⟨h.aft.later hb,h.pre,h.res.later hb h.res.lt,(hb.block _ h.flt.lt).trans h.flt,box_later h.tab hb h.tab.lt,box_later h.num hb h.num.lt,h.sv.later hb h.sv.lt,h.ok⟩
theorem PtW.call {w wx w2:World} {b m:Nat} {v v1:Value} {t t1 t2:List Nd} {r:List Nat} (h:PtW w wx b m v t t1 r) (hT:Tb wx b m v1 t1) (hl:Lies w.heap.size v v1) (hk:Kp (Ft b m v) w wx) (ha:After wx b m v1 t2 w2) (hp:∃ u,t2=t ++ u):PtW w w2 b m v t t2 r:=by
 have k:=ha.kp
 exact ⟨After.trans hl hk ha,hp,h.res.kp k (h.res.nft hT),h.flt.kp k (h.flt.nft hT),box_kp h.tab k (cells_nft h.tab (by decide) (by decide) hT),box_kp h.num k (cells_nft h.num (by decide) (by decide) hT),h.sv.kp k (h.sv.nft hT),h.ok⟩
theorem PtW.put {w wx w2:World} {b m:Nat} {v:Value} {t t':List Nd} {r r':List Nat} (h:PtW w wx b m v t t' r) (hs:SeqAt w2 (w.heap.size+1+1+1+1) r' 0) (hk:KpP (w.heap.size+1+1+1+1) wx w2) (hr:Ok r'):PtW w w2 b m v t t' r' :=
 ⟨h.aft.kpP hk (by omega) h.sv (by decide) (by decide),h.pre,h.res.kp hk (by omega),h.flt.kp hk (by omega),box_kp h.tab hk (by omega),box_kp h.num hk (by omega),hs,hr⟩
theorem TsAt.aft {w wx:World} {b m g:Nat} {v:Value} {t t':List Nd} {cap:Cp} {ts:List Tn} (h:TsAt w g cap ts) (hT:Tb w b m v t) (ha:After w b m v t' wx):TsAt wx g cap ts:=by
 obtain ⟨cur,hh,r⟩:=h
 exact ⟨cur,(ha.kp.block g (lt_of_block hh) (cells_nft hh (by decide) (by decide) hT)).trans hh,r⟩
theorem fin3 {w wx:World} {b m:Nat} {v:Value} {t':List Nd} {r0:List Nat} {g0:Int} (ha:After w b m v t' wx) (hr:SeqAt wx w.heap.size r0 g0) (hf:Fl wx (w.heap.size+1) 0 0 0 0) (r':List Nat) (g':Int) (e l c o:Int) :
 SeqAt (((((wx.setRow w.heap.size (cellsQ r' g')).setCell ⟨w.heap.size+1,0,none⟩ (.int .i64 e)).setCell ⟨w.heap.size+1,1,none⟩ (.int .i64 l)).setCell ⟨w.heap.size+1,2,none⟩ (.int .i64 c)).setCell ⟨w.heap.size+1,3,none⟩ (.int .i64 o)) w.heap.size r' g' ∧
 Fl (((((wx.setRow w.heap.size (cellsQ r' g')).setCell ⟨w.heap.size+1,0,none⟩ (.int .i64 e)).setCell ⟨w.heap.size+1,1,none⟩ (.int .i64 l)).setCell ⟨w.heap.size+1,2,none⟩ (.int .i64 c)).setCell ⟨w.heap.size+1,3,none⟩ (.int .i64 o)) (w.heap.size+1) e l c o ∧
 After w b m v t' (((((wx.setRow w.heap.size (cellsQ r' g')).setCell ⟨w.heap.size+1,0,none⟩ (.int .i64 e)).setCell ⟨w.heap.size+1,1,none⟩ (.int .i64 l)).setCell ⟨w.heap.size+1,2,none⟩ (.int .i64 c)).setCell ⟨w.heap.size+1,3,none⟩ (.int .i64 o)):=by
 have k1:=setRow_kp wx w.heap.size (cellsQ r' g')
 have s1:SeqAt (wx.setRow w.heap.size (cellsQ r' g')) w.heap.size r' g':=hr.setRow r' g'
 have f1:Fl (wx.setRow w.heap.size (cellsQ r' g')) (w.heap.size+1) 0 0 0 0:=hf.kp k1 (by omega)
 have a1:After w b m v t' (wx.setRow w.heap.size (cellsQ r' g')):=ha.kpP k1 (Nat.le_refl _) hr (by decide) (by decide)
 have k2:KpP (w.heap.size+1) (wx.setRow w.heap.size (cellsQ r' g')) (((((wx.setRow w.heap.size (cellsQ r' g')).setCell ⟨w.heap.size+1,0,none⟩ (.int .i64 e)).setCell ⟨w.heap.size+1,1,none⟩ (.int .i64 l)).setCell ⟨w.heap.size+1,2,none⟩ (.int .i64 c)).setCell ⟨w.heap.size+1,3,none⟩ (.int .i64 o)):=KpP.set (KpP.set (KpP.set (KpP.set (Kp.refl _ _) 0 _) 1 _) 2 _) 3 _
 exact ⟨s1.kp k2 (by omega),f1.s4 e l c o,a1.kpP k2 (Nat.le_succ _) f1 (by decide) (by decide)⟩
theorem PtW.fin {w wx:World} {b m:Nat} {v:Value} {t t':List Nd} {r:List Nat} (h:PtW w wx b m v t t' r) (r':List Nat) (g':Int) (e l c o:Int) :
 SeqAt (((((wx.setRow w.heap.size (cellsQ r' g')).setCell ⟨w.heap.size+1,0,none⟩ (.int .i64 e)).setCell ⟨w.heap.size+1,1,none⟩ (.int .i64 l)).setCell ⟨w.heap.size+1,2,none⟩ (.int .i64 c)).setCell ⟨w.heap.size+1,3,none⟩ (.int .i64 o)) w.heap.size r' g' ∧
 Fl (((((wx.setRow w.heap.size (cellsQ r' g')).setCell ⟨w.heap.size+1,0,none⟩ (.int .i64 e)).setCell ⟨w.heap.size+1,1,none⟩ (.int .i64 l)).setCell ⟨w.heap.size+1,2,none⟩ (.int .i64 c)).setCell ⟨w.heap.size+1,3,none⟩ (.int .i64 o)) (w.heap.size+1) e l c o ∧
 After w b m v t' (((((wx.setRow w.heap.size (cellsQ r' g')).setCell ⟨w.heap.size+1,0,none⟩ (.int .i64 e)).setCell ⟨w.heap.size+1,1,none⟩ (.int .i64 l)).setCell ⟨w.heap.size+1,2,none⟩ (.int .i64 c)).setCell ⟨w.heap.size+1,3,none⟩ (.int .i64 o)):=fin3 h.aft h.res h.flt r' g' e l c o
theorem goal16 (a0 a1 a2 a3 a4 a5 a6 a7 a8 a9 a10 a11 a12 a13 a14 a15:Nat) (g x:Int):(cellsQ [a0,a1,a2,a3,a4,a5,a6,a7,a8,a9,a10,a11,a12,a13,a14,a15] g).setIfInBounds 16 (.int .i64 x)=cellsQ [a0,a1,a2,a3,a4,a5,a6,a7,a8,a9,a10,a11,a12,a13,a14,a15] x:=by kernel_rfl
theorem SeqAt.setGoal {w:World} {b:Nat} {r:List Nat} {g:Int} (h:SeqAt w b r g) (hr:r.length=16) (x:Int):SeqAt (w.setCell ⟨b,16,none⟩ (.int .i64 x)) b r x:=by
 have h1:=heap_setCell_same w b 16 _ _ (.int .i64 x) h
 match r,hr with
 | [a0,a1,a2,a3,a4,a5,a6,a7,a8,a9,a10,a11,a12,a13,a14,a15],_=>exact h1.trans (by rw [goal16])
theorem PtW.goal {w w2:World} {b m:Nat} {v:Value} {t t':List Nd} {r:List Nat} (h:PtW w w2 b m v t t' r) (x:Int) (o:Obj) :
 After w b m v t' ((w2.setCell ⟨w.heap.size+1+1+1+1,16,none⟩ (.int .i64 x)).alloc o)∧SeqAt ((w2.setCell ⟨w.heap.size+1+1+1+1,16,none⟩ (.int .i64 x)).alloc o) w.heap.size Bt.Bs.zero 0∧Fl ((w2.setCell ⟨w.heap.size+1+1+1+1,16,none⟩ (.int .i64 x)).alloc o) (w.heap.size+1) 0 0 0 0∧SeqAt ((w2.setCell ⟨w.heap.size+1+1+1+1,16,none⟩ (.int .i64 x)).alloc o) (w.heap.size+1+1+1+1) r x:=by
 have k:KpP (w.heap.size+1+1+1+1) w2 (w2.setCell ⟨w.heap.size+1+1+1+1,16,none⟩ (.int .i64 x)):=KpP.set (Kp.refl _ _) 16 _
 have hb:=below_alloc (w2.setCell ⟨w.heap.size+1+1+1+1,16,none⟩ (.int .i64 x)) o
 have s1:=h.res.kp k (by omega)
 have f1:=h.flt.kp k (by omega)
 have g1:=h.sv.setGoal h.ok.1 x
 exact ⟨(h.aft.kpP k (by omega) h.sv (by decide) (by decide)).later hb,s1.later hb s1.lt,(hb.block _ f1.lt).trans f1,g1.later hb g1.lt⟩
def putEnd (t:List Nd) (l:List Tn):(Int × Tn) ⊕ (List Nat × List Nd)→((List Nat × Int) × (Int × Tn)) × List Nd
 | .inl x=>(((Bt.Bs.zero,0),x),t)
 | .inr (r,t1)=>if (whole false l t1).1.2.2.1=0 then (((r,(whole false l t1).1.1),(0,Sx.tz)),(whole false l t1).2) else (((Bt.Bs.zero,0),((whole false l t1).1.2.2.1,(whole false l t1).1.2.2.2)),t)
theorem putQ_end (t:List Nd) (ps:List (List Tn)) (l:List Tn):Sq.putQ t ps l=putEnd t l (Sq.putL ps Bt.Bs.zero t):=by
 unfold Sq.putQ
 cases Sq.putL ps Bt.Bs.zero t <;> rfl
def putV (x:(List Nat × Int) × (Int × Tn)):Value:=.tuple #[.agg (cellsQ x.1.1 x.1.2),fltA x.2.1 x.2.2]
section
variable (w:World) {b m:Nat} {v:Value} {t:List Nd}
set_option maxRecDepth 100000 in
set_option maxHeartbeats 300000 in
theorem qput_any (hT:Tb w b m v t) {g:Nat} {p:Option Addr} {c:Nat} {qs:List (Cp × List Tn)} (hG:PtG w b m v g p c qs) {cl:Cp} {l:List Tn} (hL:TsAt w g cl l) (hz:∀ t ∈ l,t.s.size≤140737488351232) :
 Calls Tryz.prog 52 #[.pointer (some ⟨b,0,none⟩),.slice p qs.length c,.slice (some ⟨g,cl.o,none⟩) l.length cl.c] w fun e w'=>e=.returned (putV (Sq.putQ t (qs.map (·.2)) l).1)∧After w b m v (Sq.putQ t (qs.map (·.2)) l).2 w':=by
 have KB:=show Hid (∀ w1,Below w.heap.size w w1→Calls Tryz.prog 65 #[.pointer (some ⟨b,0,none⟩)] w1 fun e w'=>e=.returned (.func (.func 124) #[] #[.pointer (some ⟨w1.heap.size,0,none⟩),.pointer (some ⟨w1.heap.size+1,0,none⟩)])∧w'=(w1.alloc (.cells #[.pointer (some ⟨b,0,none⟩)] 29)).alloc (.cells #[.int .i64 (t.length:Int)] 3)) from fun w1 hb=>restoring_any w1 (hT.later hb)
 have KT:=show Hid (∀ (w1:World) (t1:List Nd) (cp:Cp) (ts:List Tn),After w b m v t1 w1→TsAt w g cp ts→(∀ t ∈ ts,t.s.size≤140737488351232)→Calls Tryz.prog 110 #[.pointer (some ⟨b,0,none⟩),.slice (some ⟨g,cp.o,none⟩) ts.length cp.c] w1 fun e w'=>∃ v1,Tb w1 b m v1 t1∧Lies w.heap.size v v1∧Kp (Ft b m v) w w1∧e=.returned (.tuple #[.int .i64 (whole false ts t1).1.1,.int .i64 (whole false ts t1).1.2.1,.agg #[.int .i64 (whole false ts t1).1.2.2.1,.int .i64 (whole false ts t1).1.2.2.2.l,.int .i64 (whole false ts t1).1.2.2.2.c,.int .i64 (whole false ts t1).1.2.2.2.o]])∧After w1 b m v1 (whole false ts t1).2 w') from fun w1 t1 cp ts ha hts hz=>by
  have hts1:=hts.aft hT ha
  obtain ⟨v1,h1,h2,h3⟩:=ha
  exact (take_any w1 h1 hts1 hz).mono fun e w' h=>⟨v1,h1,h2,h3,h.1,h.2⟩
 have KR:=show Hid (∀ (w1:World) (t1:List Nd) (p1 p2:Nat),After w b m v t1 w1→(∃ u,t1=t ++ u)→Boxed w1 p1 29 (.pointer (some ⟨b,0,none⟩))→Boxed w1 p2 3 (.int .i64 (t.length:Int))→Calls Tryz.prog 124 #[.pointer (some ⟨p1,0,none⟩),.pointer (some ⟨p2,0,none⟩)] w1 fun e w'=>∃ v1,Tb w1 b m v1 t1∧Lies w.heap.size v v1∧Kp (Ft b m v) w w1∧e=.returned (.tuple #[])∧After w1 b m v1 t w') from fun w1 t1 p1 p2 ha ⟨u,hu⟩ h1 h2=>by
  obtain ⟨v1,a1,a2,a3⟩:=ha
  subst hu
  exact (restore_any w1 a1 h1 h2).mono fun e w' h=>⟨v1,a1,a2,a3,h.1,h.2⟩
 have KU:=show Hid (∀ (w:World) {r:List Nat},Ok r→∀ n:Int,Calls Tryz.prog 111 #[.agg (Bt.cellsB r),.int .i64 n] w fun e w'=>e=.returned (.tuple #[.agg (Bt.cellsB (Bt.putI r n).1),.int .i64 (Bt.putI r n).2])∧Below w.heap.size w w') from fun w r hr n=>Bt.put_any w hr n
 have HT:=show Hid (Tb w b m v t) from hT
 have HG:=show Hid (PtG w b m v g p c qs) from hG
 have HL:=show Hid (TsAt w g cl l∧∀ t ∈ l,t.s.size≤140737488351232) from ⟨hL,hz⟩
 obtain ⟨R,hR⟩:∃ R,R=Sq.putL (qs.map (·.2)) Bt.Bs.zero t:=⟨_,rfl⟩
 have HQ:=show Hid (Sq.putQ t (qs.map (·.2)) l=putEnd t l R) from by rw [hR];exact putQ_end t _ l
 have HR:=show Hid (R=Sq.putL (qs.map (·.2)) Bt.Bs.zero t) from hR
 clear hR
 generalize Sq.putQ t (qs.map (·.2)) l=ans at *
 have hcq:=hG.cap
 have hok:=hT.ok
 have hlt:=hT.foot
 clear hT hG hL hz
 go_enter Tryz.func52,Tryz.ntmps52
 go_wp2_with fail
 have b0:=show Hid (Below w.heap.size w ((w.alloc (.cells (cellsQ Bt.Bs.zero 0) 27)).alloc (.cells #[.int .i64 0,.int .i64 0,.int .i64 0,.int .i64 0] 52))) from Bt.below_two w _ _
 have s0:=show Hid (SeqAt ((w.alloc (.cells (cellsQ Bt.Bs.zero 0) 27)).alloc (.cells #[.int .i64 0,.int .i64 0,.int .i64 0,.int .i64 0] 52)) w.heap.size Bt.Bs.zero 0∧Fl ((w.alloc (.cells (cellsQ Bt.Bs.zero 0) 27)).alloc (.cells #[.int .i64 0,.int .i64 0,.int .i64 0,.int .i64 0] 52)) (w.heap.size+1) 0 0 0 0) from ⟨(Bt.heap_two w _ _).1,(Bt.heap_two w _ _).2⟩
 have z0:((w.alloc (.cells (cellsQ Bt.Bs.zero 0) 27)).alloc (.cells #[.int .i64 0,.int .i64 0,.int .i64 0,.int .i64 0] 52)).heap.size=w.heap.size+1+1:=by simp
 change Calls _ _ _ ((w.alloc (.cells (cellsQ Bt.Bs.zero 0) 27)).alloc (.cells #[.int .i64 0,.int .i64 0,.int .i64 0,.int .i64 0] 52)) _
 generalize (w.alloc (.cells (cellsQ Bt.Bs.zero 0) 27)).alloc (.cells #[.int .i64 0,.int .i64 0,.int .i64 0,.int .i64 0] 52)=w0 at *
 refine (KB.out _ b0.out).mono ?_
 rintro e w1 ⟨rfl,hw1⟩
 rw [z0]
 have hz1:w1.heap.size=w.heap.size+1+1+1+1:=by rw [hw1];simp [z0]
 have hb1:Below w0.heap.size w0 w1:=by rw [hw1];exact Bt.below_two w0 _ _
 have ht1:Boxed w1 (w.heap.size+1+1) 29 (.pointer (some ⟨b,0,none⟩))∧Boxed w1 (w.heap.size+1+1+1) 3 (.int .i64 (t.length:Int)):=by rw [hw1,← z0];exact Bt.heap_two w0 _ _
 have HP0:=show Hid (PtW w (w1.alloc (.cells (cellsQ Bt.Bs.zero 0) 27)) b m v t t Bt.Bs.zero) from by
  have hb2:Below w1.heap.size w1 (w1.alloc (.cells (cellsQ Bt.Bs.zero 0) 27)):=below_alloc _ _
  have hbw:Below w.heap.size w w1:=b0.out.trans (hb1.mono b0.out.size)
  refine ⟨(After.of_below HT.out hbw).later hb2,⟨[],by simp⟩,(s0.out.1.later hb1 s0.out.1.lt).later hb2 (by omega),(hb2.block _ (by omega)).trans ((hb1.block _ s0.out.2.lt).trans s0.out.2),box_later ht1.1 hb2 ht1.1.lt,box_later ht1.2 hb2 ht1.2.lt,?_,Bt.Bs.zero_ok⟩
  have:=seq_new w1 Bt.Bs.zero 0
  rw [hz1] at this
  exact this
 clear hw1 hb1 ht1 b0 s0 z0 KB
 go_wp2_with fail
 go_loopw [11,12,13,14,22] (fun _ _ _ _ iv wr=>∃ (k:Nat) (r:List Nat) (t':List Nd),k≤qs.length∧iv=.int .i64 (k:Int)∧Hid (R=Sq.putL ((qs.drop k).map (·.2)) r t'∧Fm.Ok t')∧Hid (PtW w wr b m v t t' r)) (fun _ _ _ _ iv _=>qs.length - (intOf iv).toNat)
 case atStart=>exact ⟨0,Bt.Bs.zero,t,by omega,rfl,⟨HR.out,hok⟩,HP0⟩
 case round =>
  obtain ⟨k,r,t',hk,rfl,HI,HP⟩:=hrel
  clear HP0 HR hok
  by_cases hlt2:k<qs.length
  ·have hki:(k:Int)<(qs.length:Int):=by omega
   obtain ⟨gq,cur,rfl,hgq,hck⟩:=HG.out.cell k hlt2
   have hgq':wr.heap[gq]?=some (.cells cur 97 (0,0)):=(HP.out.aft.kp.block gq (lt_of_block hgq) (cells_nft hgq (by decide) (by decide) HT.out)).trans hgq
   have hc0:wr.cell? ⟨gq,k,none⟩=some (.slice (some ⟨g,qs[k].1.o,none⟩) qs[k].2.length qs[k].1.c):=by rw [cell_of_row wr gq k cur _ _ hgq'];exact hck
   have hts:=HG.out.ts qs[k] (List.getElem_mem hlt2)
   have hst:Sq.putL ((qs.drop k).map (·.2)) r t'=if (whole false qs[k].2 t').1.2.2.1=0 then Sq.putL ((qs.drop (k+1)).map (·.2)) (Bt.putI r (whole false qs[k].2 t').1.1).1 (whole false qs[k].2 t').2 else .inl ((whole false qs[k].2 t').1.2.2.1,(whole false qs[k].2 t').1.2.2.2):=by
    rw [List.drop_eq_getElem_cons hlt2]
    rfl
   have HS:=show Hid (R=if (whole false qs[k].2 t').1.2.2.1=0 then Sq.putL ((qs.drop (k+1)).map (·.2)) (Bt.putI r (whole false qs[k].2 t').1.1).1 (whole false qs[k].2 t').2 else .inl ((whole false qs[k].2 t').1.2.2.1,(whole false qs[k].2 t').1.2.2.2)) from HI.out.1.trans hst
   have hpr:∃ u,(whole false qs[k].2 t').2=t' ++ u:=whole_pre (ts:=qs[k].2) (t:=t') HI.out.2
   have HPR:=show Hid (∃ u,(whole false qs[k].2 t').2=t' ++ u) from hpr
   clear hpr
   have KT1:=KT.out wr t' qs[k].1 qs[k].2 HP.out.aft hts.1 hts.2
   obtain ⟨q,hq⟩:∃ q,q=qs[k]:=⟨_,rfl⟩
   rw [← hq] at KT1 hc0 HS HPR
   have KT2:=show Hid (Calls Tryz.prog 110 #[.pointer (some ⟨b,0,none⟩),.slice (some ⟨g,q.1.o,none⟩) q.2.length q.1.c] wr fun e w'=>∃ v1,Tb wr b m v1 t'∧Lies w.heap.size v v1∧Kp (Ft b m v) w wr∧e=.returned (.tuple #[.int .i64 (whole false q.2 t').1.1,.int .i64 (whole false q.2 t').1.2.1,.agg #[.int .i64 (whole false q.2 t').1.2.2.1,.int .i64 (whole false q.2 t').1.2.2.2.l,.int .i64 (whole false q.2 t').1.2.2.2.c,.int .i64 (whole false q.2 t').1.2.2.2.o]])∧After wr b m v1 (whole false q.2 t').2 w') from KT1
   clear KT1 hst hts hgq' hgq hck hq
   generalize whole false q.2 t'=wh at *
   obtain ⟨⟨h1,h2,h3,h4⟩,h5⟩:=wh
   simp only at KT2 HS HPR
   go_wp2_with fail
   refine KT2.out.mono ?_
   rintro e w2 ⟨v1,hT1,hl1,hk1,rfl,ha1⟩
   have HP2:=show Hid (PtW w w2 b m v t h5 r) from HP.out.call hT1 hl1 hk1 ha1 (by obtain ⟨u,hu⟩:=HP.out.pre;obtain ⟨u2,hu2⟩:=HPR.out;exact ⟨u ++ u2,by rw [hu2,hu,List.append_assoc]⟩)
   have HOK:=show Hid (Fm.Ok h5) from by obtain ⟨v2,t2,_,_⟩:=ha1;exact t2.ok
   clear hT1 hl1 hk1 ha1 KT2 HP HPR
   have hb3:Below w2.heap.size w2 (w2.alloc (Obj.cells #[.int .i64 h3,.int .i64 h4.l,.int .i64 h4.c,.int .i64 h4.o] 52)):=below_alloc _ _
   obtain ⟨w3,hw3⟩:∃ w3,w3=w2.alloc (Obj.cells #[.int .i64 h3,.int .i64 h4.l,.int .i64 h4.c,.int .i64 h4.o] 52):=⟨_,rfl⟩
   rw [← hw3] at hb3
   have hs3:Fl w3 w2.heap.size h3 h4.l h4.c h4.o:=by rw [hw3];exact heap_alloc_new _ _
   have HP3:=show Hid (PtW w w3 b m v t h5 r∧Fl w3 w2.heap.size h3 h4.l h4.c h4.o) from ⟨HP2.out.later hb3,hs3⟩
   have s0:=hs3.c0
   have hne:¬ w2.heap.size=w.heap.size:=by have:=HP2.out.sv.lt;omega
   have hge:w.heap.size+4<w2.heap.size:=by have:=HP2.out.sv.lt;omega
   by_cases hz3:h3=0
   ·subst hz3
    have hS:=HS.out
    simp only [if_true] at hS
    have HS2:=show Hid (R=Sq.putL ((qs.drop (k+1)).map (·.2)) (Bt.putI r h1).1 h5) from hS
    have HSV:=show Hid (SeqAt (w2.alloc (Obj.cells #[.int .i64 0,.int .i64 h4.l,.int .i64 h4.c,.int .i64 h4.o] 52)) (w.heap.size+1+1+1+1) r 0∧r.length=16) from by rw [← hw3];exact ⟨HP3.out.1.sv,HP3.out.1.ok.1⟩
    have KU1:=show Hid (∀ w:World,Calls Tryz.prog 111 #[.agg (Bt.cellsB r),.int .i64 h1] w fun e w'=>e=.returned (.tuple #[.agg (Bt.cellsB (Bt.putI r h1).1),.int .i64 (Bt.putI r h1).2])∧Below w.heap.size w w') from fun w=>KU.out w HP3.out.1.ok h1
    have HRK:=show Hid (Ok (Bt.putI r h1).1) from putI_ok HP3.out.1.ok h1
    clear hS HS
    go_wp2_with (refine wpList_ldQ _ _ rfl _ rfl HSV.out.1 HSV.out.2 rfl ?_)
    rw [← hw3]
    clear hw3 hs3 hb3 s0 HSV
    refine (KU1.out _).mono ?_
    rintro e w4 ⟨rfl,hb4⟩
    have HP4:=show Hid (PtW w w4 b m v t h5 r) from HP3.out.1.later hb4
    have hl16:r.length=16:=HP4.out.ok.1
    generalize Bt.putI r h1=rr at *
    obtain ⟨r',re⟩:=rr
    simp only at HRK HS2
    clear hb4 HP3 HP2 KU1
    go_wp2_with (refine wpList_stBQ _ rfl rfl _ _ rfl _ rfl (r':=r') rfl HP4.out.sv hl16 HRK.out.1 (fun w5 hs5 hk5 => ?_);have HP5:=show Hid (PtW w w5 b m v t h5 r') from HP4.out.put hs5 hk5 HRK.out;clear hs5 hk5 HP4)
    have hkm:(k:Int)+1≤9223372036854775807:=by unfold maxLen at hcq;omega
    have hw:wrap64 ((k:Int)+1)=((k+1:Nat):Int):=by unfold wrap64;omega
    rw [hw]
    refine ⟨⟨k+1,r',h5,by omega,rfl,⟨HS2.out,HOK.out⟩,HP5⟩,?_⟩
    simp only [intOf]
    omega
   ·have hS:=HS.out
    rw [if_neg hz3] at hS
    subst hS
    have hQ:=HQ.out
    simp only [putEnd] at hQ
    have hz3':(h3 != 0)=true:=by simpa using hz3
    clear HQ HS KT KU HL HG
    go_wp2_with fail
    rw [← hw3]
    clear hw3 hs3 hb3 s0
    refine (KR.out _ _ _ _ HP3.out.1.aft HP3.out.1.pre HP3.out.1.tab HP3.out.1.num).mono ?_
    rintro e w9 ⟨v1,hT1,hl1,hk1,rfl,ha1⟩
    have XR:=show Hid (PtW w w9 b m v t t r∧Fl w9 w2.heap.size h3 h4.l h4.c h4.o) from ⟨HP3.out.1.call hT1 hl1 hk1 ha1 ⟨[],by simp⟩,HP3.out.2.kp ha1.kp (HP3.out.2.nft hT1)⟩
    have HANS:=show Hid (Ending.returned (.tuple #[.agg (cellsQ Bt.Bs.zero 0),.agg #[.int .i64 h3,.int .i64 h4.l,.int .i64 h4.c,.int .i64 h4.o]])=.returned (putV ans.1)∧t=ans.2) from by rw [hQ];exact ⟨rfl,rfl⟩
    clear hT1 hl1 hk1 ha1 HP3 HP2 KR hQ
    go_wp2_with fail
    refine wp_region_held_drew (S:=fun wx=>Fl wx w2.heap.size h3 h4.l h4.c h4.o) (by kernel_rfl) XR.out.2.drew (fun hH => ?_)
    refine takeV 0 (some 38) (.agg (cellsQ Bt.Bs.zero 0)) rfl rfl (by kernel_rfl) (by kernel_rfl) (by kernel_rfl) (fun _ _ _ h=>h) rfl (fun wx hx=>by kernel_rfl) hH ?_
    simp only [Act.put,List.setIfInBounds_toArray,List.set_cons_zero,List.set_cons_succ]
    refine takeV 1 (some 39) (.agg #[.int .i64 h3,.int .i64 h4.l,.int .i64 h4.c,.int .i64 h4.o]) rfl rfl (by kernel_rfl) (by kernel_rfl) (by kernel_rfl) (fun _ _ _ h=>h) rfl (fun wx hx=>by have c0:=hx.c0;have c1:=hx.c1;have c2:=hx.c2;have c3:=hx.c3;go_simp) hH ?_
    simp only [Act.put,List.setIfInBounds_toArray,List.set_cons_zero,List.set_cons_succ]
    have hP1:=XR.out.1.later (Below.refl _ _).drew
    refine oneH 2 (by kernel_rfl) rfl (stepStoreQ 2 rfl rfl _ _ rfl w.heap.size rfl (r':=Bt.Bs.zero) (g':=0) rfl hP1.res zero_len zero_len ?_ (fun hH2 => ?_))
    ·exact hH.kp (setRow_kp _ _ _) (by omega)
    have hf2:Fl (w9.drew.setRow w.heap.size (cellsQ Bt.Bs.zero 0)) (w.heap.size+1) 0 0 0 0:=hP1.flt.kp (setRow_kp _ _ _) (by omega)
    have q0:=hf2.c0;have q1:=hf2.c1;have q2:=hf2.c2;have q3:=hf2.c3;have qf:=hf2.fr
    refine oneH 3 (by kernel_rfl) rfl (stepU 3 (((((w9.drew.setRow w.heap.size (cellsQ Bt.Bs.zero 0)).setCell ⟨w.heap.size+1,0,none⟩ (.int .i64 h3)).setCell ⟨w.heap.size+1,1,none⟩ (.int .i64 h4.l)).setCell ⟨w.heap.size+1,2,none⟩ (.int .i64 h4.c)).setCell ⟨w.heap.size+1,3,none⟩ (.int .i64 h4.o)) rfl rfl (by go_simp) ?_ (fun hH3 => ?_))
    ·exact hH2.kp (KpP.set (p:=w.heap.size+1) (KpP.set (KpP.set (KpP.set (Kp.refl _ _) 0 _) 1 _) 2 _) 3 _) (by omega)
    refine wpAnyH_done (by kernel_rfl) ?_ _
    obtain ⟨e1,e2,e3⟩:=hP1.fin Bt.Bs.zero 0 h3 h4.l h4.c h4.o
    go_wp2_with fail
    refine bodyPost_ret (results_seq_cell rfl _ _ w.heap.size (w.heap.size+1) _ _ _ _ _ _ _ _ rfl e1 rfl e2 Tryz.underlying27 rfl (by kernel_rfl) Tryz.underlying52 rfl (by kernel_rfl)) rfl ?_
    exact ⟨HANS.out.1,HANS.out.2 ▸ e3⟩
  ·have hkn:k=qs.length:=by omega
   have hki:¬ (k:Int)<(qs.length:Int):=by omega
   have hRn:R=.inr (r,t'):=by
    have:=HI.out.1
    rw [hkn,List.drop_length] at this
    exact this
   subst hRn
   have hQ:=HQ.out
   simp only [putEnd] at hQ
   have hpr:∃ u,(whole false l t').2=t' ++ u:=whole_pre (ts:=l) (t:=t') HI.out.2
   have KT2:=show Hid (Calls Tryz.prog 110 #[.pointer (some ⟨b,0,none⟩),.slice (some ⟨g,cl.o,none⟩) l.length cl.c] wr fun e w'=>∃ v1,Tb wr b m v1 t'∧Lies w.heap.size v v1∧Kp (Ft b m v) w wr∧e=.returned (.tuple #[.int .i64 (whole false l t').1.1,.int .i64 (whole false l t').1.2.1,.agg #[.int .i64 (whole false l t').1.2.2.1,.int .i64 (whole false l t').1.2.2.2.l,.int .i64 (whole false l t').1.2.2.2.c,.int .i64 (whole false l t').1.2.2.2.o]])∧After wr b m v1 (whole false l t').2 w') from KT.out wr t' cl l HP.out.aft HL.out.1 HL.out.2
   generalize whole false l t'=wh at *
   obtain ⟨⟨h1,h2,h3,h4⟩,h5⟩:=wh
   simp only at KT2 hQ hpr
   have HPR:=show Hid (∃ u,h5=t' ++ u) from hpr
   have HQ2:=show Hid (ans=if h3=0 then (((r,h1),(0,Sx.tz)),h5) else (((Bt.Bs.zero,0),(h3,h4)),t)) from hQ
   clear hpr hQ HQ HI KU KT HL HG
   go_wp2_with fail
   refine KT2.out.mono ?_
   rintro e w2 ⟨v1,hT1,hl1,hk1,rfl,ha1⟩
   have HP2:=show Hid (PtW w w2 b m v t h5 r) from HP.out.call hT1 hl1 hk1 ha1 (by obtain ⟨u,hu⟩:=HP.out.pre;obtain ⟨u2,hu2⟩:=HPR.out;exact ⟨u ++ u2,by rw [hu2,hu,List.append_assoc]⟩)
   clear hT1 hl1 hk1 ha1 KT2 HP HPR
   have hb3:Below w2.heap.size w2 (w2.alloc (Obj.cells #[.int .i64 h3,.int .i64 h4.l,.int .i64 h4.c,.int .i64 h4.o] 52)):=below_alloc _ _
   obtain ⟨w3,hw3⟩:∃ w3,w3=w2.alloc (Obj.cells #[.int .i64 h3,.int .i64 h4.l,.int .i64 h4.c,.int .i64 h4.o] 52):=⟨_,rfl⟩
   rw [← hw3] at hb3
   have hs3:Fl w3 w2.heap.size h3 h4.l h4.c h4.o:=by rw [hw3];exact heap_alloc_new _ _
   have HP3:=show Hid (PtW w w3 b m v t h5 r∧Fl w3 w2.heap.size h3 h4.l h4.c h4.o) from ⟨HP2.out.later hb3,hs3⟩
   have s0:=hs3.c0
   have hge:w.heap.size+4<w2.heap.size:=by have:=HP2.out.sv.lt;omega
   by_cases hz3:h3=0
   ·subst hz3
    have hQ:=HQ2.out
    simp only [if_true] at hQ
    have cg:=HP3.out.1.sv.goal HP3.out.1.ok.1
    have fg:=HP3.out.1.sv.fr 16
    have HANS:=show Hid (ans=(((r,h1),(0,Sx.tz)),h5)) from hQ
    have h16:r.length=16:=HP3.out.1.ok.1
    clear hQ HQ2 KR
    rw [hw3] at cg fg
    obtain ⟨x1,x2,x3,x4⟩:=HP2.out.goal h1 (Obj.cells #[.int .i64 0,.int .i64 h4.l,.int .i64 h4.c,.int .i64 h4.o] 52)
    have HX:=show Hid _ from x4
    have HX2:=show Hid _ from x2
    obtain ⟨e1,e2,e3⟩:=fin3 x1 x2 x3 r h1 0 0 0 0
    have hf5:=x3.kp (setRow_kp _ w.heap.size (cellsQ r h1)) (by omega)
    have q0:=hf5.c0;have q1:=hf5.c1;have q2:=hf5.c2;have q3:=hf5.c3;have qf:=hf5.fr
    have HE:=show Hid _ from And.intro e1 (And.intro e2 e3)
    clear x1 x2 x3 x4 e1 e2 e3 hf5
    go_wp2_with (first | (refine wpList_ldQQ _ _ rfl _ rfl HX.out h16 rfl ?_) | (refine wpList_stQ _ rfl rfl _ _ rfl _ rfl (r':=r) (g':=h1) rfl HX2.out zero_len h16 ?_))
    refine bodyPost_ret (results_seq_cell rfl _ _ w.heap.size (w.heap.size+1) _ _ _ _ _ _ _ _ rfl HE.out.1 rfl HE.out.2.1 Tryz.underlying27 rfl (by rw [cellsQ_size h16];exact sizeQ) Tryz.underlying52 rfl (by kernel_rfl)) rfl ?_
    rw [HANS.out]
    exact ⟨rfl,HE.out.2.2⟩
   ·have hQ:=HQ2.out
    rw [if_neg hz3] at hQ
    have hz3':(h3 != 0)=true:=by simpa using hz3
    clear HQ2
    go_wp2_with fail
    rw [← hw3]
    clear hw3 hs3 hb3 s0
    refine (KR.out _ _ _ _ HP3.out.1.aft HP3.out.1.pre HP3.out.1.tab HP3.out.1.num).mono ?_
    rintro e w9 ⟨v1,hT1,hl1,hk1,rfl,ha1⟩
    have XR:=show Hid (PtW w w9 b m v t t r∧Fl w9 w2.heap.size h3 h4.l h4.c h4.o) from ⟨HP3.out.1.call hT1 hl1 hk1 ha1 ⟨[],by simp⟩,HP3.out.2.kp ha1.kp (HP3.out.2.nft hT1)⟩
    have HANS:=show Hid (Ending.returned (.tuple #[.agg (cellsQ Bt.Bs.zero 0),.agg #[.int .i64 h3,.int .i64 h4.l,.int .i64 h4.c,.int .i64 h4.o]])=.returned (putV ans.1)∧t=ans.2) from by rw [hQ];exact ⟨rfl,rfl⟩
    clear hT1 hl1 hk1 ha1 HP3 HP2 KR hQ
    go_wp2_with fail
    refine wp_region_held_drew (S:=fun wx=>Fl wx w2.heap.size h3 h4.l h4.c h4.o) (by kernel_rfl) XR.out.2.drew (fun hH => ?_)
    refine takeV 0 (some 61) (.agg (cellsQ Bt.Bs.zero 0)) rfl rfl (by kernel_rfl) (by kernel_rfl) (by kernel_rfl) (fun _ _ _ h=>h) rfl (fun wx hx=>by kernel_rfl) hH ?_
    simp only [Act.put,List.setIfInBounds_toArray,List.set_cons_zero,List.set_cons_succ]
    refine takeV 1 (some 62) (.agg #[.int .i64 h3,.int .i64 h4.l,.int .i64 h4.c,.int .i64 h4.o]) rfl rfl (by kernel_rfl) (by kernel_rfl) (by kernel_rfl) (fun _ _ _ h=>h) rfl (fun wx hx=>by have c0:=hx.c0;have c1:=hx.c1;have c2:=hx.c2;have c3:=hx.c3;go_simp) hH ?_
    simp only [Act.put,List.setIfInBounds_toArray,List.set_cons_zero,List.set_cons_succ]
    have hP1:=XR.out.1.later (Below.refl _ _).drew
    refine oneH 2 (by kernel_rfl) rfl (stepStoreQ 2 rfl rfl _ _ rfl w.heap.size rfl (r':=Bt.Bs.zero) (g':=0) rfl hP1.res zero_len zero_len ?_ (fun hH2 => ?_))
    ·exact hH.kp (setRow_kp _ _ _) (by omega)
    have hf2:Fl (w9.drew.setRow w.heap.size (cellsQ Bt.Bs.zero 0)) (w.heap.size+1) 0 0 0 0:=hP1.flt.kp (setRow_kp _ _ _) (by omega)
    have q0:=hf2.c0;have q1:=hf2.c1;have q2:=hf2.c2;have q3:=hf2.c3;have qf:=hf2.fr
    refine oneH 3 (by kernel_rfl) rfl (stepU 3 (((((w9.drew.setRow w.heap.size (cellsQ Bt.Bs.zero 0)).setCell ⟨w.heap.size+1,0,none⟩ (.int .i64 h3)).setCell ⟨w.heap.size+1,1,none⟩ (.int .i64 h4.l)).setCell ⟨w.heap.size+1,2,none⟩ (.int .i64 h4.c)).setCell ⟨w.heap.size+1,3,none⟩ (.int .i64 h4.o)) rfl rfl (by go_simp) ?_ (fun hH3 => ?_))
    ·exact hH2.kp (KpP.set (p:=w.heap.size+1) (KpP.set (KpP.set (KpP.set (Kp.refl _ _) 0 _) 1 _) 2 _) 3 _) (by omega)
    refine wpAnyH_done (by kernel_rfl) ?_ _
    obtain ⟨e1,e2,e3⟩:=hP1.fin Bt.Bs.zero 0 h3 h4.l h4.c h4.o
    go_wp2_with fail
    refine bodyPost_ret (results_seq_cell rfl _ _ w.heap.size (w.heap.size+1) _ _ _ _ _ _ _ _ rfl e1 rfl e2 Tryz.underlying27 rfl (by kernel_rfl) Tryz.underlying52 rfl (by kernel_rfl)) rfl ?_
    exact ⟨HANS.out.1,HANS.out.2 ▸ e3⟩
end
end Go.Proofs.YtkmmlimekachbaaGreatDoor
