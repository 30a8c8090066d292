/-
  ordered: the order of a shaped model is reckoned, and a function value tells it. No condition.
-/
import Derived.Test.YtoedidbbjnnpnaaQWUp
import Derived.Laws.MakeOwn
import Derived.Laws.OwnMore
import Derived.Deep.OwnRows
namespace Go.Proofs.Ytoedidbbjnnpnaa.Wm
open Go.RowKit Go.Maps
open Wd (Md Mid Rc Ed Sub upd vl allW names)
set_option linter.unusedSimpArgs false
def Uq (w:World) (B:Nat) (T:TypeId) (d:Bool):Prop:=∀ (k:Nat) (cs:Array Value),B≤k→w.heap[k]?=some (Obj.cells cs T (0,0))→d=true∧∀ (k':Nat) (cs':Array Value),B≤k'→w.heap[k']?=some (Obj.cells cs' T (0,0))→k'=k
theorem Uq.up {w:World} {B:Nat} {T:TypeId} {d d':Bool} (h:Uq w B T d) (hd:d=true→d'=true):Uq w B T d':=fun k cs hk hb=>⟨hd (h k cs hk hb).1,(h k cs hk hb).2⟩
theorem Uq.alloc {w:World} {B:Nat} {T T':TypeId} {d:Bool} {cs0:Array Value} (h:Uq w B T d) (hT:T'≠T):Uq (w.alloc (Obj.cells cs0 T')) B T d:=by
 have hb:∀ (k:Nat) (cs:Array Value),(w.alloc (Obj.cells cs0 T')).heap[k]?=some (Obj.cells cs T (0,0))→w.heap[k]?=some (Obj.cells cs T (0,0)):=fun k cs hk=>by
  have hk2:(w.heap.push (Obj.cells cs0 T'))[k]?=some (Obj.cells cs T (0,0)):=hk
  rw [Array.getElem?_push] at hk2
  split at hk2
  ·have:=Option.some.inj hk2
   injection this with h1 h2
   exact absurd h2 hT
  ·exact hk2
 exact fun k cs hk hb1=>⟨(h k cs hk (hb k cs hb1)).1,fun k' cs' hk' hb2=>(h k cs hk (hb k cs hb1)).2 k' cs' hk' (hb k' cs' hb2)⟩
theorem Uq.make {w:World} {B:Nat} {T:TypeId} (h:Uq w B T false) (cs0:Array Value):Uq (w.alloc (Obj.cells cs0 T)) B T true:=by
 have hb:∀ (k:Nat) (cs:Array Value),B≤k→(w.alloc (Obj.cells cs0 T)).heap[k]?=some (Obj.cells cs T (0,0))→k=w.heap.size:=fun k cs hB hk=>by
  have hk2:(w.heap.push (Obj.cells cs0 T))[k]?=some (Obj.cells cs T (0,0)):=hk
  rw [Array.getElem?_push] at hk2
  split at hk2
  ·assumption
  ·have:=(h k cs hB hk2).1;cases this
 exact fun k cs hk hb1=>⟨rfl,fun k' cs' hk' hb2=>(hb k' cs' hk' hb2).trans (hb k cs hk hb1).symm⟩
theorem setRow_ne (w:World) (b k:Nat) (c:Array Value) (h:k≠b):(w.setRow b c).heap[k]?=w.heap[k]?:=setRow_other w b k c h
theorem Uq.setRow {w:World} {B R:Nat} {T:TypeId} {d:Bool} {cs:Array Value} (h:Uq w B T d) (hR:Cl w R cs T) (c:Array Value):Uq (w.setRow R c) B T d:=by
 have hb:∀ (k:Nat) (x:Array Value),(w.setRow R c).heap[k]?=some (Obj.cells x T (0,0))→∃ y,w.heap[k]?=some (Obj.cells y T (0,0)):=fun k x hk=>by
  by_cases e:k=R
  ·subst e;exact ⟨cs,hR⟩
  ·rw [setRow_ne w R k c e] at hk;exact ⟨x,hk⟩
 intro k x hk hb1
 obtain ⟨y,hy⟩:=hb k x hb1
 refine ⟨(h k y hk hy).1,fun k' x' hk' hb2 => ?_⟩
 obtain ⟨y',hy'⟩:=hb k' x' hb2
 exact (h k y hk hy).2 k' y' hk' hy'
def LeT (T:TypeId) (w w':World):Prop:=(∀ k:Nat,k<w.heap.size→(∀ cs,w.heap[k]?≠some (Obj.cells cs T (0,0)))→w'.heap[k]?=w.heap[k]?)∧∀ (k:Nat) (cs:Array Value),w.heap[k]?=some (Obj.cells cs T (0,0))→∃ cs',w'.heap[k]?=some (Obj.cells cs' T (0,0))∧cs'.size=cs.size
theorem LeT.refl (T:TypeId) (w:World):LeT T w w:=⟨fun _ _ _=>rfl,fun _ cs h=>⟨cs,h,rfl⟩⟩
theorem LeT.alloc (T:TypeId) (w:World) (o:Obj):LeT T w (w.alloc o):=by
 have hb:=below_alloc w o
 exact ⟨fun k hk _=>hb.block k hk,fun k cs h=>⟨cs,(hb.block k (lt_of_block h)).trans h,rfl⟩⟩
theorem LeT.setRow {T:TypeId} {w:World} {R:Nat} {cs c:Array Value} (hR:Cl w R cs T) (hs:c.size=cs.size):LeT T w (w.setRow R c):=by
 refine ⟨fun k hk hn=>setRow_ne w R k c fun e=>by subst e;exact hn _ hR,fun k x hx => ?_⟩
 by_cases e:k=R
 ·subst e
  have:=hR.symm.trans hx
  injection this with h1
  injection h1 with h2
  subst h2
  exact ⟨c,setRow_heap w k _ _ _ _ hR,hs⟩
 ·exact ⟨x,(setRow_ne w R k c e).trans hx,rfl⟩
theorem LeT.rw {T T':TypeId} {w w':World} {g n:Nat} {F:Nat→Value} (h:LeT T w w') (hT:T'≠T) (hR:Rw w g n T' F):Rw w' g n T' F :=
 hR.keep (h.1 g hR.lt fun cs hc=>by
  have h1:=hR.symm.trans hc
  injection h1 with h2
  injection h2 with _ h3
  exact hT h3)
theorem LeT.ws {w w':World} {g n:Nat} {ws:Nat→Nat} (h:LeT 128 w w') (hR:Ws w g n 129 ws):Ws w' g n 129 ws:=⟨h.rw (by decide) hR.row,hR.lt⟩
theorem types_ne {w:World} {g n:Nat} {T T':TypeId} {cs:Array Value} {F:Nat→Value} (h:Cl w g cs T) (k:Rw w g n T' F) (hT:T≠T'):False:=by
 have h1:=h.symm.trans k
 injection h1 with h2
 injection h2 with _ h3
 exact hT h3
theorem types_ne2 {w:World} {g n n':Nat} {T T':TypeId} {F F':Nat→Value} (h:Rw w g n T F) (k:Rw w g n' T' F') (hT:T≠T'):False:=types_ne h k hT
theorem below_row {B R:Nat} {w w':World} (h:Below B w w') (hR:B≤R) (c:Array Value):Below B w (w'.setRow R c) :=
 ⟨h.os,h.tape,h.output,Nat.le_trans h.size (by simp),fun k hk=>(setRow_ne w' R k c (by omega)).trans (h.block k hk)⟩
theorem infoS:(Try.prog.info? 129).map (fun i=>(i.zero,i.size,i.bytes))=some (some (.agg #[.int .u64 0,.int .u64 0,.int .u64 0,.int .u64 0,.int .u64 0,.int .u64 0,.int .u64 0,.int .u64 0]),8,64):=by kernel_rfl
theorem sizeR:(Try.prog.info? 128).map (·.size)=some 4:=by kernel_rfl
theorem build_rec (w:World) (a b c d:Option Addr) (n1 n2 n3 n4 k1 k2 k3 k4:Nat):(Instr.build 128 #[(0,.agg #[.slice a n1 k1,.slice b n2 k2]),(1,.slice c n3 k3),(2,.slice d n4 k4)]).run Try.prog w=.ok (.agg #[.slice a n1 k1,.slice b n2 k2,.slice c n3 k3,.slice d n4 k4]) w:=by kernel_rfl
theorem zero_rec (w:World):(zeroValue 128).run Try.prog w=.ok (.agg #[.slice none 0 0,.slice none 0 0,.slice none 0 0,.slice none 0 0]) w:=by kernel_rfl
theorem ws_made (w:World) (n:Nat):Ws (w.alloc (.cells (madeCells #[.int .u64 0,.int .u64 0,.int .u64 0,.int .u64 0,.int .u64 0,.int .u64 0,.int .u64 0,.int .u64 0] (n * 8)) 129)) w.heap.size (n * 8) 129 (fun _=>0):=by
 refine ⟨?_,fun _=>by decide⟩
 unfold Rw
 rw [heap_alloc_new]
 congr 2
 apply Array.ext
 ·simp [madeCells]
 ·intro i h1 h2
  simp only [madeCells,wdV,Array.getElem_map,List.getElem_toArray,List.getElem_map,List.getElem_range,Array.getElem_range]
  have h3:i % 8<8:=Nat.mod_lt _ (by decide)
  show (#[Value.int .u64 0,.int .u64 0,.int .u64 0,.int .u64 0,.int .u64 0,.int .u64 0,.int .u64 0,.int .u64 0]:Array Value)[i % 8]! = _
  generalize i % 8=j at *
  match j,h3 with
  | 0,_=>rfl
  | 1,_=>rfl
  | 2,_=>rfl
  | 3,_=>rfl
  | 4,_=>rfl
  | 5,_=>rfl
  | 6,_=>rfl
  | 7,_=>rfl
theorem rw_made (w:World) (n:Nat):Rw (w.alloc (.cells (madeCells #[.int .i64 0] n) 3)) w.heap.size n 3 (fun _=>.int .i64 0):=by
 unfold Rw
 rw [heap_alloc_new]
 congr 2
 apply Array.ext'
 rw [toList_madeCells_one]
 simp [List.map_const']
set_option maxRecDepth 100000 in
set_option maxHeartbeats 4000000 in
theorem ordered_any (w:World) {L:Nat} {uv vv:Value} {m:Md} (hm:IsM w L uv vv m) (hs:Wd.shaped m=true) (hf:Fit m) (hL:L≤w.heap.size) :
 Calls Try.prog 77 #[.agg #[uv,vv]] w fun e w'=>Below w.heap.size w w'∧((e=.returned (.tuple #[.nilFunc,.bool false])∧¬ Wd.Good m) ∨
  ∃ R A S st ws,e=.returned (.tuple #[.func (.func 93) #[] #[.pointer (some ⟨R,0,none⟩)],.bool true])∧Rk w' L R A S uv vv m st ws∧Wd.Good m∧Wd.Inv m st (abW ws)∧(∀ a,a<m.up.length→st a=2)∧w.heap.size≤R∧w.heap.size≤A∧w.heap.size≤S):=by
 obtain ⟨hn1,hn2,hvl,-,-⟩:=Wd.shaped_and hs
 obtain ⟨pu,cu,rfl⟩:=IsS.form hm.up
 obtain ⟨pv,cv,rfl⟩:=IsS.form hm.val
 have HM:=show Hid _ from hm
 have HUP:=show Hid (∀ N R A S,UpC N L R A S (.slice pu m.up.length cu) (.slice pv m.val.length cv) m) from fun N R A S=>up_all hs hf N
 have HGO:=show Hid (∀ (st:Nat→Nat) (ab:Nat→Nat→Bool),Wd.Inv m st ab→(∀ a,a<m.up.length→st a=2)→Wd.Good m) from fun st ab h1 h2=>Wd.good_of hs h1 h2
 have HMA:=show Hid (∀ W:World,(Instr.makeSlice 126 (.int .i64 (m.up.length:Int)) (.int .i64 (m.up.length:Int))).run Try.prog W=.ok (.slice (some ⟨W.heap.size,0,none⟩) m.up.length m.up.length) (W.alloc (.cells (madeCells #[.int .u64 0,.int .u64 0,.int .u64 0,.int .u64 0,.int .u64 0,.int .u64 0,.int .u64 0,.int .u64 0] (m.up.length * 8)) 129))) from fun W=>by
  obtain ⟨i0,hi,hz0,hz1,hz2⟩:=info_parts infoS
  have h:=run_makeSlice (P:=Try.prog) W 126 129 i0 _ Try.underlying126 hi hz0 .i64 .i64 (m.up.length:Int) (m.up.length:Int) (by omega) (Int.le_refl _) (by rw [hz1];omega) (by rw [hz2];omega) (by omega)
  simp only [Int.toNat_natCast,hz1] at h
  exact h
 have HMS:=show Hid (∀ W:World,(Instr.makeSlice 27 (.int .i64 (m.up.length:Int)) (.int .i64 (m.up.length:Int))).run Try.prog W=.ok (.slice (some ⟨W.heap.size,0,none⟩) m.up.length m.up.length) (W.alloc (.cells (madeCells #[.int .i64 0] m.up.length) 3))) from fun W =>
  run_make_row' (P:=Try.prog) 27 3 (.int .i64 0) 8 Try.underlying27 infoI rfl .i64 .i64 m.up.length (by omega) (by omega) W
 have HI0:=show Hid (Wd.Inv m (fun _=>0) (abW fun _=>0)) from by
  have:(abW fun _=>0)=fun _ _=>false:=by funext a b;simp [abW,bit]
  rw [this];exact Wd.inv0 m
 clear hm hs hf hvl
 go_enter Try.func77,Try.ntmps77
 go_wp2_with (refine wpList_box 25 _ rfl _ rfl rfl ?_)
 intro w1 b1 hN
 have HB:=show Hid (Below w.heap.size w w1∧Cl w1 b1 #[.slice pu m.up.length cu,.slice pv m.val.length cv] 25) from ⟨hN.bel,hN.blk⟩
 have HU0:=show Hid (Uq w1.drew w1.heap.size 128 false) from fun k cs hk hb=>by
  have:k<w1.heap.size:=lt_of_block (w:=w1.drew) hb
  omega
 clear hN
 go_wp2_with fail
 refine wp_region_dep (by kernel_rfl) [some 6,some 7,some 8,some 9,some 10,some 11,some 12,some 13,some 14,some 15,some 4,none] [[],[],[1],[2],[3],[],[5],[6],[7],[0,4,8],[],[10,9]] [[],[],[1],[2,1],[3,2,1],[],[5],[6,5],[7,6,5],[0,4,3,2,1,8,7,6,5],[],[10,9,0,4,3,2,1,8,7,6,5]] (by kernel_rfl) (by decide) (fun i v W=>match i with | 0=>v=.agg #[.slice pu m.up.length cu,.slice pv m.val.length cv] | 1=>v=.pointer (some ⟨b1,0,none⟩) | 2=>v=.slice pu m.up.length cu | 3=>v=.int .i64 (m.up.length:Int) | 4=>∃ A,v=.slice (some ⟨A,0,none⟩) m.up.length m.up.length∧Ws W A (m.up.length * 8) 129 (fun _=>0)∧w1.heap.size≤A | 5=>v=.pointer (some ⟨b1,0,none⟩) | 6=>v=.slice pu m.up.length cu | 7=>v=.int .i64 (m.up.length:Int) | 8=>∃ S,v=.slice (some ⟨S,0,none⟩) m.up.length m.up.length∧Rw W S m.up.length 3 (fun _=>.int .i64 0)∧w1.heap.size≤S | 9=>∃ A S,v=.agg #[.slice pu m.up.length cu,.slice pv m.val.length cv,.slice (some ⟨A,0,none⟩) m.up.length m.up.length,.slice (some ⟨S,0,none⟩) m.up.length m.up.length]∧(Ws W A (m.up.length * 8) 129 (fun _=>0)∧w1.heap.size≤A)∧Rw W S m.up.length 3 (fun _=>.int .i64 0)∧w1.heap.size≤S | 10=>∃ R cs,v=.pointer (some ⟨R,0,none⟩)∧Cl W R cs 128∧cs.size=4∧w1.heap.size≤R | 11=>∃ R A S,Cl W R #[.slice pu m.up.length cu,.slice pv m.val.length cv,.slice (some ⟨A,0,none⟩) m.up.length m.up.length,.slice (some ⟨S,0,none⟩) m.up.length m.up.length] 128∧w1.heap.size≤R∧(Ws W A (m.up.length * 8) 129 (fun _=>0)∧w1.heap.size≤A)∧Rw W S m.up.length 3 (fun _=>.int .i64 0)∧w1.heap.size≤S | _=>True) (fun done W=>Below w1.heap.size w1 W∧Uq W w1.heap.size 128 (done 10)) (fun i W W'=>i<12∧LeT 128 W W') ?hle ⟨(Below.refl _ _).drew,HU0.out⟩ (allLt 12 ?steps) ?fin
 case hle =>
  intro i j v W W' hij hn ⟨h12,hl⟩ h
  match j,h,hij,hn with
  | 0,h,_,_=>exact h
  | 1,h,_,_=>exact h
  | 2,h,_,_=>exact h
  | 3,h,_,_=>exact h
  | 4,⟨A,h1,h2,h3⟩,_,_=>exact ⟨A,h1,hl.ws h2,h3⟩
  | 5,h,_,_=>exact h
  | 6,h,_,_=>exact h
  | 7,h,_,_=>exact h
  | 8,⟨S,h1,h2,h3⟩,_,_=>exact ⟨S,h1,hl.rw (by decide) h2,h3⟩
  | 9,⟨A,S,h1,⟨h2,h3⟩,h4,h5⟩,_,_=>exact ⟨A,S,h1,⟨hl.ws h2,h3⟩,hl.rw (by decide) h4,h5⟩
  | 10,⟨R,cs,h1,h2,h3,h4⟩,_,_ =>
   obtain ⟨cs',h5,h6⟩:=hl.2 R cs h2
   exact ⟨R,cs',h1,h5,h6.trans h3,h4⟩
  | 11,h,hij,hn =>
   match i,hij,hn with
   | 0,_,hn=>exact absurd (by decide) hn
   | 1,_,hn=>exact absurd (by decide) hn
   | 2,_,hn=>exact absurd (by decide) hn
   | 3,_,hn=>exact absurd (by decide) hn
   | 4,_,hn=>exact absurd (by decide) hn
   | 5,_,hn=>exact absurd (by decide) hn
   | 6,_,hn=>exact absurd (by decide) hn
   | 7,_,hn=>exact absurd (by decide) hn
   | 8,_,hn=>exact absurd (by decide) hn
   | 9,_,hn=>exact absurd (by decide) hn
   | 10,_,hn=>exact absurd (by decide) hn
   | 11,hij,_=>exact absurd rfl hij
   | i+12,_,_=>exact absurd h12 (by omega)
  | j+12,_,_,_=>trivial
 case steps =>
  refine ⟨⟨⟨⟨⟨⟨⟨⟨⟨⟨⟨⟨trivial,?s0⟩,?s1⟩,?s2⟩,?s3⟩,?s4⟩,?s5⟩,?s6⟩,?s7⟩,?s8⟩,?s9⟩,?s10⟩,?s11⟩
  case s0 =>
   intro done a W hS hd hnd hno hO hN
   have o1:a.tmps[1]?=some (.pointer (some ⟨b1,0,none⟩)):=(hO.out 1 (by decide)).trans rfl
   have hcl:Cl W b1 #[.slice pu m.up.length cu,.slice pv m.val.length cv] 25:=(hS.1.block b1 HB.out.2.lt).trans HB.out.2
   have hrun:(Instr.loadAt 25 (.pointer (some ⟨b1,0,none⟩))).run Try.prog W=.ok (.agg #[.slice pu m.up.length cu,.slice pv m.val.length cv]) W:=by
    simp only [Instr.loadAt,Instr.sureAddr,Sem.run_bind,Sem.run_pure,Result.andThen]
    exact run_loadVar_row W b1 25 25 _ _ _ hcl Try.underlying25 rfl sizeM
   exact relVal rfl (.agg #[.slice pu m.up.length cu,.slice pv m.val.length cv]) _ rfl (by simp [execOp,Act.eval,o1,hrun,Result.andThen]) ⟨_,rfl,rfl,⟨hS.1,hS.2.up fun h=>by simp [h]⟩,⟨by decide,LeT.refl _ _⟩⟩
  case s1 =>
   intro done a W hS hd hnd hno hO hN
   have o1:a.tmps[1]?=some (.pointer (some ⟨b1,0,none⟩)):=(hO.out 1 (by decide)).trans rfl
   exact relVal rfl (.pointer (some ⟨b1,0,none⟩)) _ rfl (by go_simp) ⟨_,rfl,rfl,⟨hS.1,hS.2.up fun h=>by simp [h]⟩,⟨by decide,LeT.refl _ _⟩⟩
  case s2 =>
   intro done a W hS hd hnd hno hO hN
   obtain ⟨v1,g1,r1⟩:=hN 1 (by decide)
   have g1:a.tmps[7]?=some v1:=g1
   have e1:v1=.pointer (some ⟨b1,0,none⟩):=r1
   rw [e1] at g1
   have hcl:W.cell? ⟨b1,0,none⟩=some (.slice pu m.up.length cu):=Cl.cell (T:=25) ((hS.1.block b1 HB.out.2.lt).trans HB.out.2) 0
   exact relVal rfl (.slice pu m.up.length cu) _ rfl (by go_simp) ⟨_,rfl,rfl,⟨hS.1,hS.2.up fun h=>by simp [h]⟩,⟨by decide,LeT.refl _ _⟩⟩
  case s3 =>
   intro done a W hS hd hnd hno hO hN
   obtain ⟨v2,g2,r2⟩:=hN 2 (by decide)
   have g2:a.tmps[8]?=some v2:=g2
   have e2:v2=.slice pu m.up.length cu:=r2
   rw [e2] at g2
   exact relVal rfl (.int .i64 (m.up.length:Int)) _ rfl (by go_simp) ⟨_,rfl,rfl,⟨hS.1,hS.2.up fun h=>by simp [h]⟩,⟨by decide,LeT.refl _ _⟩⟩
  case s4 =>
   intro done a W hS hd hnd hno hO hN
   obtain ⟨v3,g3,r3⟩:=hN 3 (by decide)
   have g3:a.tmps[9]?=some v3:=g3
   have e3:v3=.int .i64 (m.up.length:Int):=r3
   rw [e3] at g3
   exact relVal rfl (.slice (some ⟨W.heap.size,0,none⟩) m.up.length m.up.length) _ rfl (by simp [execOp,Act.eval,g3,HMA.out W,Result.andThen]) ⟨_,rfl,⟨_,rfl,ws_made W _,hS.1.size⟩,⟨hS.1.alloc hS.1.size _,(hS.2.alloc (by decide)).up fun h=>by simp [h]⟩,⟨by decide,LeT.alloc _ _ _⟩⟩
  case s5 =>
   intro done a W hS hd hnd hno hO hN
   have o1:a.tmps[1]?=some (.pointer (some ⟨b1,0,none⟩)):=(hO.out 1 (by decide)).trans rfl
   exact relVal rfl (.pointer (some ⟨b1,0,none⟩)) _ rfl (by go_simp) ⟨_,rfl,rfl,⟨hS.1,hS.2.up fun h=>by simp [h]⟩,⟨by decide,LeT.refl _ _⟩⟩
  case s6 =>
   intro done a W hS hd hnd hno hO hN
   obtain ⟨v5,g5,r5⟩:=hN 5 (by decide)
   have g5:a.tmps[11]?=some v5:=g5
   have e5:v5=.pointer (some ⟨b1,0,none⟩):=r5
   rw [e5] at g5
   have hcl:W.cell? ⟨b1,0,none⟩=some (.slice pu m.up.length cu):=Cl.cell (T:=25) ((hS.1.block b1 HB.out.2.lt).trans HB.out.2) 0
   exact relVal rfl (.slice pu m.up.length cu) _ rfl (by go_simp) ⟨_,rfl,rfl,⟨hS.1,hS.2.up fun h=>by simp [h]⟩,⟨by decide,LeT.refl _ _⟩⟩
  case s7 =>
   intro done a W hS hd hnd hno hO hN
   obtain ⟨v6,g6,r6⟩:=hN 6 (by decide)
   have g6:a.tmps[12]?=some v6:=g6
   have e6:v6=.slice pu m.up.length cu:=r6
   rw [e6] at g6
   exact relVal rfl (.int .i64 (m.up.length:Int)) _ rfl (by go_simp) ⟨_,rfl,rfl,⟨hS.1,hS.2.up fun h=>by simp [h]⟩,⟨by decide,LeT.refl _ _⟩⟩
  case s8 =>
   intro done a W hS hd hnd hno hO hN
   obtain ⟨v7,g7,r7⟩:=hN 7 (by decide)
   have g7:a.tmps[13]?=some v7:=g7
   have e7:v7=.int .i64 (m.up.length:Int):=r7
   rw [e7] at g7
   exact relVal rfl (.slice (some ⟨W.heap.size,0,none⟩) m.up.length m.up.length) _ rfl (by simp [execOp,Act.eval,g7,HMS.out W,Result.andThen]) ⟨_,rfl,⟨_,rfl,rw_made W _,hS.1.size⟩,⟨hS.1.alloc hS.1.size _,(hS.2.alloc (by decide)).up fun h=>by simp [h]⟩,⟨by decide,LeT.alloc _ _ _⟩⟩
  case s9 =>
   intro done a W hS hd hnd hno hO hN
   obtain ⟨v0,g0,r0⟩:=hN 0 (by decide)
   have g0:a.tmps[6]?=some v0:=g0
   have e0:v0=.agg #[.slice pu m.up.length cu,.slice pv m.val.length cv]:=r0
   rw [e0] at g0
   obtain ⟨v4,g4,r4⟩:=hN 4 (by decide)
   have g4:a.tmps[10]?=some v4:=g4
   obtain ⟨v8,g8,r8⟩:=hN 8 (by decide)
   have g8:a.tmps[14]?=some v8:=g8
   obtain ⟨A,e4,hA1,hA2⟩:=r4
   obtain ⟨S,e8,hS1,hS2⟩:=r8
   rw [e4] at g4
   rw [e8] at g8
   have hb:=build_rec W pu pv (some ⟨A,0,none⟩) (some ⟨S,0,none⟩) m.up.length m.val.length m.up.length m.up.length cu cv m.up.length m.up.length
   exact relVal rfl (.agg #[.slice pu m.up.length cu,.slice pv m.val.length cv,.slice (some ⟨A,0,none⟩) m.up.length m.up.length,.slice (some ⟨S,0,none⟩) m.up.length m.up.length]) _ rfl (by simp [execOp,Act.eval,g0,g4,g8,hb,Result.andThen]) ⟨_,rfl,⟨A,S,rfl,⟨hA1,hA2⟩,hS1,hS2⟩,⟨hS.1,hS.2.up fun h=>by simp [h]⟩,⟨by decide,LeT.refl _ _⟩⟩
  case s10 =>
   intro done a W hS hd hnd hno hO hN
   have hal:=zero_rec
   exact relVal rfl (.pointer (some ⟨W.heap.size,0,none⟩)) (W.alloc (.cells #[.slice none 0 0,.slice none 0 0,.slice none 0 0,.slice none 0 0] 128)) rfl (by simp [execOp,Instr.alloc,hal,go_sem,Result.andThen]) ⟨_,rfl,⟨_,_,rfl,heap_alloc_last W _,rfl,hS.1.size⟩,⟨hS.1.alloc hS.1.size _,by rw [hd] at hS;exact (hS.2.make _).up fun h=>by simp⟩,⟨by decide,LeT.alloc _ _ _⟩⟩
  case s11 =>
   intro done a W hS hd hnd hno hO hN
   obtain ⟨v10,g10,r10⟩:=hN 10 (by decide)
   have g10:a.tmps[4]?=some v10:=g10
   obtain ⟨v9,g9,r9⟩:=hN 9 (by decide)
   have g9:a.tmps[15]?=some v9:=g9
   obtain ⟨A,S,e9,⟨hA1,hA2⟩,hS1,hS2⟩:=r9
   obtain ⟨R,cs,e10,hR1,hR2,hR3⟩:=r10
   rw [e9] at g9
   rw [e10] at g10
   have hst:(Instr.storeAt 128 (.pointer (some ⟨R,0,none⟩)) (.agg #[.slice pu m.up.length cu,.slice pv m.val.length cv,.slice (some ⟨A,0,none⟩) m.up.length m.up.length,.slice (some ⟨S,0,none⟩) m.up.length m.up.length])).run Try.prog W=.ok () (W.setRow R #[.slice pu m.up.length cu,.slice pv m.val.length cv,.slice (some ⟨A,0,none⟩) m.up.length m.up.length,.slice (some ⟨S,0,none⟩) m.up.length m.up.length]):=by
    simp only [Instr.storeAt,Instr.sureAddr,Sem.run_bind,Sem.run_pure,Result.andThen]
    exact run_storeVar_row W R 128 128 cs _ hR1 sizeR (by rw [hR2];rfl) (by simp [Value.oneCell'])
   have hle:LeT 128 W (W.setRow R #[.slice pu m.up.length cu,.slice pv m.val.length cv,.slice (some ⟨A,0,none⟩) m.up.length m.up.length,.slice (some ⟨S,0,none⟩) m.up.length m.up.length]):=LeT.setRow hR1 (by rw [hR2];rfl)
   exact relSkip rfl _ rfl (by simp [execOp,Act.eval,g9,g10,hst,Result.andThen]) ⟨_,rfl,⟨R,A,S,setRow_heap W R _ _ _ _ hR1,hR3,⟨hle.ws hA1,hA2⟩,hle.rw (by decide) hS1,hS2⟩,⟨below_row hS.1 hR3 _,(hS.2.setRow hR1 _).up fun h=>by simp [h]⟩,⟨by decide,hle⟩⟩
 case fin =>
  intro vs done W hdone hS hV
  obtain ⟨R0,cs0,e10,hR0,-,hR3⟩:∃ R cs,vs 10=.pointer (some ⟨R,0,none⟩)∧Cl W R cs 128∧cs.size=4∧w1.heap.size≤R:=hV 10 (by decide)
  obtain ⟨R,A,S,hR1,hR4,⟨hA1,hA2⟩,hS1,hS2⟩:∃ R A S,Cl W R #[.slice pu m.up.length cu,.slice pv m.val.length cv,.slice (some ⟨A,0,none⟩) m.up.length m.up.length,.slice (some ⟨S,0,none⟩) m.up.length m.up.length] 128∧w1.heap.size≤R∧(Ws W A (m.up.length * 8) 129 (fun _=>0)∧w1.heap.size≤A)∧Rw W S m.up.length 3 (fun _=>.int .i64 0)∧w1.heap.size≤S:=hV 11 (by decide)
  obtain rfl:R0=R:=(hS.2 R _ hR4 hR1).2 R0 _ hR3 hR0
  have HBW:=show Hid (Below w.heap.size w W∧Below w1.heap.size w1 W∧w1.heap.size≤R0∧w1.heap.size≤A∧w1.heap.size≤S) from ⟨HB.out.1.trans (hS.1.mono HB.out.1.size),hS.1,hR4,hA2,hS2⟩
  have HRK:=show Hid (Rk W L R0 A S (.slice pu m.up.length cu) (.slice pv m.val.length cv) m (fun _=>0) (fun _=>0)) from ⟨hR1,hA1,hS1,HM.out.keep fun k hk=>HBW.out.1.block k (by omega),by have:=HB.out.1.size;omega,by have:=HB.out.1.size;omega,fun e=>by subst e;exact types_ne hR1 hA1.row (by decide),fun e=>by subst e;exact types_ne hR1 hS1 (by decide),fun e=>by subst e;exact types_ne2 hA1.row hS1 (by decide),fun _=>by simp⟩
  clear hS hV hR0 hR3 hR1 hR4 hA1 hA2 hS1 hS2
  simp only [putAll,Act.put,List.setIfInBounds_toArray,List.set_cons_zero,List.set_cons_succ,e10]
  clear e10
  simp only [Nat.reduceAdd]
  have HST:=show Hid (∃ st ws:Nat→Nat,Rk W L R0 A S (.slice pu m.up.length cu) (.slice pv m.val.length cv) m st ws∧Wd.Inv m st (abW ws)∧(∀ a,a<0→st a=2)∧(∀ a,st a≠1)∧Below w.heap.size w W∧Cl W b1 #[.slice pu m.up.length cu,.slice pv m.val.length cv] 25) from ⟨_,_,HRK.out,HI0.out,fun a h=>absurd h (Nat.not_lt_zero _),fun a h=>(by cases h),HBW.out.1,(HBW.out.2.1.block b1 HB.out.2.lt).trans HB.out.2⟩
  have HNE:=show Hid (w.heap.size≤R0∧w.heap.size≤A∧w.heap.size≤S∧b1≠A∧b1≠S) from by
   have h1:=HB.out.1.size
   have h2:=HB.out.2.lt
   have h3:=HBW.out.2.2
   exact ⟨by omega,by omega,by omega,by omega,by omega⟩
  have hcb:W.cell? ⟨b1,0,none⟩=some (.slice pu m.up.length cu):=by
   obtain ⟨_,_,_,_,_,_,_,h⟩:=HST.out
   exact Cl.cell (T:=25) h 0
  clear HRK HBW HB HU0 HMA HMS HI0 HM
  go_wp2_with fail
  go_loopw [5,19] (fun _ i wr=>∃ (k:Nat) (st ws:Nat→Nat),k≤m.up.length∧i=.int .i64 (k:Int)∧Hid (Rk wr L R0 A S (.slice pu m.up.length cu) (.slice pv m.val.length cv) m st ws∧Wd.Inv m st (abW ws)∧(∀ a,a<k→st a=2)∧(∀ a,st a≠1)∧Below w.heap.size w wr∧Cl wr b1 #[.slice pu m.up.length cu,.slice pv m.val.length cv] 25)) (fun _ i _=>m.up.length - (intOf i).toNat)
  case atStart =>
   obtain ⟨st,ws,h⟩:=HST.out
   exact ⟨0,st,ws,Nat.zero_le _,rfl,h⟩
  case round =>
   obtain ⟨k,st,ws,hk,rfl,H1⟩:=hrel
   clear HST hcb
   by_cases hlt:k<m.up.length
   ·have hki:(k:Int)<(m.up.length:Int):=by omega
    have c3:=H1.out.1.c3
    have cs:=H1.out.1.cs hlt
    have hle:=H1.out.1.le k
    by_cases h0:st k=0
    ·have e0:((st k:Int) == 0)=true:=by simp [h0]
     have KU:=show Hid _ from HUP.out _ R0 A S wr st ws k H1.out.1 H1.out.2.1 hlt h0 (fun g hg=>absurd hg (H1.out.2.2.2.1 g)) (Nat.le_refl _)
     clear h0
     go_wp2_with fail
     refine Calls.mono KU.out ?_
     rintro e w4 ⟨r,rfl,hk4,hbad,hgood⟩
     have HB4:=show Hid (Below w.heap.size w w4∧Cl w4 b1 #[.slice pu m.up.length cu,.slice pv m.val.length cv] 25) from ⟨H1.out.2.2.2.2.1.trans (hk4.below H1.out.2.2.2.2.1.size fun j hj=>by have:=HNE.out;rcases hj with rfl | rfl <;> omega),H1.out.2.2.2.2.2.kp hk4 (by have:=HNE.out;omega)⟩
     clear KU hk4
     cases r
     ·have HX:=show Hid (¬ Wd.Good m) from hbad rfl
      clear hbad hgood
      go_wp2_with fail
      go_ret2
      exact ⟨HB4.out.1,Or.inl ⟨rfl,HX.out⟩⟩
     ·obtain ⟨st',ws',h1,h2,h3,h4⟩:=hgood rfl
      have HN:=show Hid (Rk w4 L R0 A S (.slice pu m.up.length cu) (.slice pv m.val.length cv) m st' ws'∧Wd.Inv m st' (abW ws')∧(∀ a,a<k+1→st' a=2)∧(∀ a,st' a≠1)∧Below w.heap.size w w4∧Cl w4 b1 #[.slice pu m.up.length cu,.slice pv m.val.length cv] 25) from ⟨h1,h2,fun a ha=>by
       by_cases e:a=k
       ·rw [e];exact h3
       ·have h9:=H1.out.2.2.1 a (by omega)
        rw [h4.hst a (by rw [h9];decide)];exact h9,fun a ha=>by
       by_cases e:st a=0
       ·rcases h4.hz a e with h9 | h9 <;> rw [h9] at ha <;> cases ha
       ·rw [h4.hst a e] at ha;exact H1.out.2.2.2.1 a ha,HB4.out⟩
      clear hbad hgood h1 h2 h3 h4 HB4 H1 c3 cs
      go_wp2_with fail
      go_roundw
      case rel=>exact ⟨k+1,st',ws',by omega,val_int (by omega),HN⟩
      case measure=>(simp only [intOf];omega)
    ·have e0:((st k:Int) == 0)=false:=by simp;omega
     have HN:=show Hid (∀ a,a<k+1→st a=2) from fun a ha=>by
      by_cases e:a=k
      ·have:=H1.out.2.2.2.1 k;rw [e];omega
      ·exact H1.out.2.2.1 a (by omega)
     clear h0
     go_wp2_with fail
     go_roundw
     case rel=>exact ⟨k+1,st,ws,by omega,val_int (by omega),⟨H1.out.1,H1.out.2.1,HN.out,H1.out.2.2.2⟩⟩
     case measure=>(simp only [intOf];omega)
   ·have HG:=show Hid (Wd.Good m) from HGO.out st _ H1.out.2.1 (fun a ha=>H1.out.2.2.1 a (by omega))
    have H2:=show Hid (∀ a,a<m.up.length→st a=2) from fun a ha=>H1.out.2.2.1 a (by omega)
    go_wp2_with fail
    go_ret2
    exact ⟨H1.out.2.2.2.2.1,Or.inr ⟨R0,A,S,st,ws,rfl,H1.out.1,HG.out,H1.out.2.1,H2.out,HNE.out.1,HNE.out.2.1,HNE.out.2.2.1⟩⟩
end Go.Proofs.Ytoedidbbjnnpnaa.Wm
