/-
  The Builder's WriteString: what it turns, and nothing else. For every text that a machine can hold. No other condition.
-/
import Derived.Test.YtkmmlimekachbaaGreatDoorSG1
import Derived.Lib.Builder
import Derived.Lib.AppendStr
import Derived.Lib.UnsafeStr
import Derived.Laws.Externs
import Derived.Lib.Walk
import Derived.Maps.AppendAt
import Derived.Test.YtkmmlimekachbaaGreatDoorSG6
namespace Go.Proofs.YtkmmlimekachbaaGreatDoor
open Go.RowKit Go.Maps
theorem str_at {P:Program} {w:World} {base:Nat} {t u ty e:TypeId} {i:TypeInfo} (ht:P.underlying t=some (.slice e)) (hu:P.underlying u=some .string) (hi:P.info? e=some i) (hz:i.zero=some (.int .u8 0))
 (hsize:i.size=1) (hby:i.bytes=1) {v:Value} {n:Nat} {xs:List Value} (hown:w.ownsRow base e 1 v n xs) {s:ByteArray} (h63:n+s.size≤maxLen) (hbytes:n+s.size≤140737488355328)
 {v':Value} {w':World} (hr:(Builtin.append_ #[t,u] ty #[v,.string s]).run P w=.ok v' w'):v'.ownBlock=v.ownBlock∨∀ k,v'.ownBlock=some k→w.heap.size≤k:=by
 rcases hown.2 with ⟨rfl,rfl⟩ | ⟨g,cap,cur,rfl,hbg,hg,hnc,hcm,hcs,htake⟩
 ·right
  obtain ⟨v2,w2,hr2,ho2,_,_⟩:=Lib.run_append_own_string (P:=P) w w.heap.size t u ty e i ht hu hi hz hsize hby _ 0 [] (World.ownsRow_nil w w.heap.size e 1) s h63 hbytes (Nat.le_refl _)
  rw [hr2] at hr
  obtain ⟨rfl,rfl⟩:=Result.ok.inj hr
  exact fun k hk=>(ho2.lt k hk).1
 ·by_cases hroom:n+s.size≤cap
  ·left
   have hcc:cur.size=cap:=by simpa using hcs
   have hr2:=Lib.run_append_room_string (P:=P) w t u ty e i ht hu hi hsize g n cap cur hg s hroom (by omega)
   rw [hr2] at hr
   obtain ⟨rfl,rfl⟩:=Result.ok.inj hr
   rfl
  ·right
   have hxl:xs.length=n:=by simpa using hown.1
   have holds:∀ j u,xs[j]?=some u→w.cell? ((⟨g,0,none⟩:Addr).add j)=some u:=hown.cells (g:=g) rfl
   have hr2:=Lib.run_append_grow_string (P:=P) w t u ty e i (.int .u8 0) ht hu hi hz ⟨g,0,none⟩ n cap xs (by rw [hsize];simpa using hxl) holds s (by omega) (by simp only [maxLen] at h63;omega) (by rw [hby];exact growslice_fits (by omega) (by omega))
   rw [hr2] at hr
   obtain ⟨rfl,rfl⟩:=Result.ok.inj hr
   intro k hk
   have:w.heap.size=k:=Option.some.inj hk
   omega
theorem append_str_at {P:Program} (w:World) {ops:Array Oper} {rest:List Oper} {o:Oper} {a:Act} {Q:Exit→Act→World→Prop} (hgd:o.guard=none) (sl x:Operand) (t u:TypeId)
 (ho:o.op=.call { callee:=.builtin .append,args:=#[sl,x],argTypes:=#[t,u] })
 (base:Nat) (e:TypeId) (i:TypeInfo) (ht:P.underlying t=some (.slice e)) (hu:P.underlying u=some .string) (hi:P.info? e=some i) (hz:i.zero=some (.int .u8 0)) (hsize:i.size=1) (hby:i.bytes=1)
 (v:Value) (n:Nat) (xs:List Value) (hs:a.eval sl=v) (hown:w.ownsRow base e 1 v n xs) (s:ByteArray) (hx:a.eval x=.string s)
 (h63:n+s.size≤maxLen) (hbytes:n+s.size≤140737488355328) (hbase:base≤w.heap.size)
 (h:∀ v' w',w'.ownsRow base e 1 v' (n+s.size) (xs ++ Lib.strCells s)→w.grownBy w' v.ownBlock→(v'.ownBlock=v.ownBlock∨∀ k,v'.ownBlock=some k→w.heap.size≤k)→wpList P ops Q rest (a.put o.dst v') w'):wpList P ops Q (o :: rest) a w:=by
 refine wpList_plain hgd fun K hK => ?_
 obtain ⟨v',w',hr,h2,h3,_⟩:=Lib.run_append_own_string (P:=P) w base t u o.type e i ht hu hi hz hsize hby v n xs hown s h63 hbytes hbase
 have h5:=str_at ht hu hi hz hsize hby hown h63 hbytes hr
 unfold Oper.wp execOp
 simp only [ho,resolve,invoke,builtin,Sem.run_bind,Sem.run_pure,Result.andThen_ok,List.map_toArray,List.map_cons,List.map_nil,hs,hx,hr]
 exact hK _ _ (h v' w' h2 h3 h5)
def Bd (w:World) (b:Nat) (v:Value) (l:List Value):Prop :=
 ∃ p,(p=.pointer none∨p=.pointer (some ⟨b,0,none⟩))∧w.heap[b]?=some (.cells #[p,v] 115 (0,0))∧w.ownsRow 0 5 1 v l.length l
theorem info_u8:(Tryz.prog.info? 5).map (fun i=>(i.zero,i.size,i.bytes))=some (some (.int .u8 0),1,1):=by kernel_rfl
theorem size_bd:(Tryz.prog.info? 115).map (·.size)=some 2:=by kernel_rfl
theorem lies_bd:liesAt Tryz.prog Tryz.prog.depth 115 (2 / Tryz.prog.cellsOf 115) 0 115 1=true:=by kernel_rfl
section
variable (w:World) {b:Nat} {v:Value}
set_option maxHeartbeats 1000000 in
set_option maxRecDepth 100000 in
theorem check_used (h0:w.cell? ⟨b,0,none⟩=some (.pointer (some ⟨b,0,none⟩))) :
 Calls Tryz.prog 118 #[.pointer (some ⟨b,0,none⟩)] w fun e w'=>e=.returned (.tuple #[])∧w'=w:=by
 obtain ⟨j,hj,_⟩:=Option.map_eq_some_iff.1 size_bd
 go_enter Tryz.func118,Tryz.ntmps118
 go_wp2
 rw [Lib.run_neq_ptr_same w _ Tryz.underlying112 hj]
 go_wp2
 go_end0
 exact ⟨rfl,rfl⟩
set_option maxHeartbeats 1000000 in
set_option maxRecDepth 100000 in
theorem check_fresh (h0:w.cell? ⟨b,0,none⟩=some (.pointer none)) (hsh:w.shape? b=some (115,2)) (hfz:w.frozen? ⟨b,0,none⟩=false) :
 Calls Tryz.prog 118 #[.pointer (some ⟨b,0,none⟩)] w fun e w'=>e=.returned (.tuple #[])∧w'=w.setCell ⟨b,0,none⟩ (.pointer (some ⟨b,0,none⟩)):=by
 obtain ⟨j,hj,hjs⟩:=Option.map_eq_some_iff.1 size_bd
 go_enter Tryz.func118,Tryz.ntmps118
 go_wp2
 rw [Lib.run_to_unsafe w ⟨b,0,none⟩ Tryz.underlying112 Tryz.underlying219 hj (by rw [hjs];decide) hsh (Nat.zero_lt_succ 1)]
 simp only [Result.andThen]
 rw [Oper.upon_value]
 go_wp2
 rw [run_callFunc_extern Tryz.func165 (by kernel_rfl) (by kernel_rfl) (by kernel_rfl) (e:=Extern.AbiNoEscape.same) (by kernel_rfl)]
 rw [Lib.run_noEscape]
 simp only [Result.andThen]
 rw [Oper.upon_value]
 go_wp2
 rw [Lib.run_from_unsafe w ⟨b,0,none⟩ Tryz.underlying219 Tryz.underlying112 hj hsh lies_bd]
 simp only [Result.andThen]
 rw [Oper.upon_value]
 go_wp2
 go_end0
 exact ⟨rfl,rfl⟩
theorem Bd.lt {w:World} {b:Nat} {v:Value} {l:List Value} (h:Bd w b v l):b<w.heap.size:=by obtain ⟨p,_,h,_⟩:=h;exact lt_of_block h
theorem Bd.own {w:World} {b:Nat} {v:Value} {l:List Value} (h:Bd w b v l):∀ k,v.ownBlock=some k→k<w.heap.size∧∃ cur,w.heap[k]?=some (.cells cur 5 (0,0)):=by
 obtain ⟨p,_,_,h⟩:=h
 intro k hk
 rcases h.2 with ⟨rfl,_⟩ | ⟨g,cap,cur,rfl,_,hh,_⟩
 ·cases hk
 ·obtain rfl:g=k:=Option.some.inj hk
  exact ⟨lt_of_block hh,cur,hh⟩
theorem Bd.ne {w:World} {b:Nat} {v:Value} {l:List Value} (h:Bd w b v l):v.ownBlock≠some b:=by
 intro e
 obtain ⟨_,cur,hh⟩:=h.own b e
 obtain ⟨p,_,h,_⟩:=h
 rw [h] at hh
 simp at hh
theorem Bd.shape {w:World} {b:Nat} {v:Value} {l:List Value} (h:Bd w b v l):w.shape? b=some (115,2):=by
 obtain ⟨p,_,h,_⟩:=h
 simp [World.shape?,h]
theorem row_keep {w w':World} {v:Value} {l:List Value} (h:w.ownsRow 0 5 1 v l.length l) (hk:∀ k,v.ownBlock=some k→w'.heap[k]?=w.heap[k]?):w'.ownsRow 0 5 1 v l.length l:=by
 refine ⟨h.1,?_⟩
 rcases h.2 with h2 | ⟨g,cap,cur,rfl,hg,hh,r⟩
 ·exact Or.inl h2
 ·exact Or.inr ⟨g,cap,cur,rfl,hg,(hk g rfl).trans hh,r⟩
theorem copy_check {l:List Value} (h:Bd w b v l):Calls Tryz.prog 118 #[.pointer (some ⟨b,0,none⟩)] w fun e w'=>e=.returned (.tuple #[])∧(w'.heap[b]?=some (.cells #[.pointer (some ⟨b,0,none⟩),v] 115 (0,0))∧w'.ownsRow 0 5 1 v l.length l∧Kp (fun k=>k=b) w w'∧w'.heap.size=w.heap.size):=by
 have hne:=h.ne
 have hsh:=h.shape
 obtain ⟨p,hp,hb,ho⟩:=h
 rcases hp with rfl | rfl
 ·refine (check_fresh w (by rw [cell_of_row w b 0 _ _ _ hb];rfl) hsh (frozen_of_row w b 0 _ _ hb)).mono ?_
  rintro e w' ⟨rfl,rfl⟩
  refine ⟨rfl,heap_setCell_same w b 0 _ _ _ hb,row_keep ho fun k hk=>Below.heap_setCell _ _ _ _ (fun e=>hne (by subst e;exact hk)),⟨rfl,rfl,rfl,by simp,fun k _ hn=>Below.heap_setCell _ _ _ _ hn⟩,by simp⟩
 ·refine (check_used w (by rw [cell_of_row w b 0 _ _ _ hb];rfl)).mono ?_
  rintro e w' ⟨rfl,rfl⟩
  exact ⟨rfl,hb,ho,Kp.refl _ _,rfl⟩
set_option maxRecDepth 100000 in
set_option maxHeartbeats 2000000 in
theorem write_any {l:List Value} (h:Bd w b v l) (s:ByteArray) (hlen:l.length+s.size≤140737488355328) :
 Calls Tryz.prog 59 #[.pointer (some ⟨b,0,none⟩),.string s] w fun e w'=>e=.returned (.tuple #[.int .i64 s.size,.nilIface])∧∃ v',Bd w' b v' (l ++ Lib.strCells s)∧(v'.ownBlock=v.ownBlock∨∀ k,v'.ownBlock=some k→w.heap.size≤k)∧Kp (fun k=>k=b∨v.ownBlock=some k) w w':=by
 obtain ⟨i0,hi,hz0,hz1,hz2⟩:=info_parts info_u8
 have KC:=show Hid (Calls Tryz.prog 118 #[.pointer (some ⟨b,0,none⟩)] w fun e w'=>e=.returned (.tuple #[])∧(w'.heap[b]?=some (.cells #[.pointer (some ⟨b,0,none⟩),v] 115 (0,0))∧w'.ownsRow 0 5 1 v l.length l∧Kp (fun k=>k=b) w w'∧w'.heap.size=w.heap.size)) from copy_check w h
 have HN:=show Hid (v.ownBlock≠some b∧b<w.heap.size) from ⟨h.ne,h.lt⟩
 have hm:l.length+s.size≤maxLen:=by unfold maxLen;omega
 clear h
 go_enter Tryz.func59,Tryz.ntmps59
 go_wp2_with fail
 refine KC.out.mono ?_
 rintro e w1 ⟨rfl,hb,ho,hk,hsz⟩
 have X:=show Hid (w1.heap[b]?=some (.cells #[.pointer (some ⟨b,0,none⟩),v] 115 (0,0))∧Kp (fun k=>k=b) w w1∧w1.heap.size=w.heap.size) from ⟨hb,hk,hsz⟩
 have HO:=show Hid (w1.ownsRow 0 5 1 v l.length l) from ho
 have c1:w1.cell? ⟨b,1,none⟩=some v:=by rw [cell_of_row w1 b 1 _ _ _ hb];rfl
 obtain ⟨pv,nv,cv,rfl⟩:∃ pv nv cv,v=.slice pv nv cv:=by
  rcases ho.2 with ⟨h,_⟩ | ⟨g,cap,cur,h,_⟩
  ·exact ⟨_,_,_,h⟩
  ·exact ⟨_,_,_,h⟩
 clear hb ho hk hsz KC
 go_wp2_with (at_builtin;refine append_str_at _ rfl (.tmp 12) (.tmp 13) 113 9 rfl 0 5 i0 Tryz.underlying113 Tryz.underlying9 hi hz0 hz1 hz2 _ l.length l rfl HO.out s rfl hm hlen (Nat.zero_le _) ?_)
 intro v' w2 ho2 hg2 hat
 have hb2:w2.heap[b]?=some (.cells #[.pointer (some ⟨b,0,none⟩),.slice pv nv cv] 115 (0,0)):=(hg2.block b (by have:=HN.out.2;have:=X.out.2.2;omega) (fun e=>HN.out.1 e.symm)).trans X.out.1
 have hf2:=frozen_of_row w2 b 1 _ _ hb2
 have c2:w2.cell? ⟨b,1,none⟩=some (.slice pv nv cv):=by rw [cell_of_row w2 b 1 _ _ _ hb2];rfl
 obtain ⟨pv',nv',cv',rfl⟩:∃ pv nv cv,v'=.slice pv nv cv:=by
  rcases ho2.2 with ⟨h,_⟩ | ⟨g,cap,cur,h,_⟩
  ·exact ⟨_,_,_,h⟩
  ·exact ⟨_,_,_,h⟩
 have Y:=show Hid (w2.ownsRow 0 5 1 (.slice pv' nv' cv') (l.length+s.size) (l ++ Lib.strCells s)∧w1.grownBy w2 (Value.slice pv nv cv).ownBlock∧((Value.slice pv' nv' cv').ownBlock=(Value.slice pv nv cv).ownBlock∨∀ k,(Value.slice pv' nv' cv').ownBlock=some k→w1.heap.size≤k)∧w2.heap[b]?=some (.cells #[.pointer (some ⟨b,0,none⟩),.slice pv nv cv] 115 (0,0))) from ⟨ho2,hg2,hat,hb2⟩
 clear ho2 hg2 hat hb2 c1
 go_wp2_with fail
 go_ret2
 obtain ⟨ho2,hg2,hat,hb2⟩:=Y.out
 obtain ⟨hb1,hk1,hs1⟩:=X.out
 have hne2:(Value.slice pv' nv' cv').ownBlock≠some b:=by
  rcases hat with h | h
  ·rw [h];exact HN.out.1
  ·intro e;have:=h b e;have:=HN.out.2;omega
 have hll:(l ++ Lib.strCells s).length=l.length+s.size:=by have:=ho2.1;simpa using this
 refine ⟨rfl,.slice pv' nv' cv',⟨.pointer (some ⟨b,0,none⟩),Or.inr rfl,heap_setCell_same w2 b 1 _ _ _ hb2,?_⟩,?_,?_⟩
 ·rw [← hll] at ho2
  exact row_keep ho2 fun k hk=>Below.heap_setCell _ _ _ _ (fun e=>hne2 (by subst e;exact hk))
 ·rcases hat with h | h
  ·exact Or.inl h
  ·exact Or.inr fun k hk=>by have:=h k hk;omega
 ·have hk2:Kp (fun k=>k=b∨(Value.slice pv nv cv).ownBlock=some k) w w2:=⟨hg2.os.trans hk1.os,hg2.tape.trans hk1.tape,hg2.output.trans hk1.output,by have:=hg2.size;omega,fun k hk hn=>(hg2.block k (by omega) (fun e=>hn (Or.inr e.symm))).trans (hk1.block k hk fun e=>hn (Or.inl e))⟩
  refine ⟨hk2.os,hk2.tape,hk2.output,by simpa using hk2.size,fun k hk hn=>(Below.heap_setCell _ _ _ _ (fun e=>hn (Or.inl e))).trans (hk2.block k hk hn)⟩
end
end Go.Proofs.YtkmmlimekachbaaGreatDoor
/-
  The closures of Print: a text is written piece by piece. For every table and number whose text is at most 65536 bytes. No other condition.
-/
namespace Go.Proofs.YtkmmlimekachbaaGreatDoor
open Go.RowKit Go.Maps
open Fm (Nd)
open Pr (Pc)
structure PS (w0:World) (B:Nat) (w:World) (hp ho hw b m:Nat) (v:Value) (t:List Nd) (l:List UInt8):Prop where
 p:Box w hp (.pointer (some ⟨b,0,none⟩)) 222
 f:Box w hw (.func (.func 167) #[] #[.pointer (some ⟨hp,0,none⟩),.pointer (some ⟨ho,0,none⟩),.pointer (some ⟨hw,0,none⟩)]) 180
 bd:∃ vb,Bd w ho vb (Lib.byteCells l)∧∀ k,vb.ownBlock=some k→B≤k
 tb:Tb w b m v t
 be:Below B w0 w
 hB:B≤ho
 hBw:B≤w.heap.size
section
variable {w0 w w':World} {B hp ho hw b m:Nat} {v:Value} {t:List Nd} {l:List UInt8}
theorem PS.later (h:PS w0 B w hp ho hw b m v t l) (hb:Below w.heap.size w w'):PS w0 B w' hp ho hw b m v t l:=by
 obtain ⟨vb,h1,h2⟩:=h.bd
 refine ⟨(hb.block _ h.p.lt).trans h.p,(hb.block _ h.f.lt).trans h.f,⟨vb,?_,h2⟩,h.tb.later hb,h.be.trans (hb.mono h.hBw),h.hB,Nat.le_trans h.hBw hb.size⟩
 have hown:=h1.own
 have hlt:=h1.lt
 obtain ⟨p,hp,hh,ho⟩:=h1
 exact ⟨p,hp,(hb.block _ hlt).trans hh,row_keep ho fun k hk=>hb.block k (hown k hk).1⟩
theorem strCells_eq (s:ByteArray):Lib.strCells s=Lib.byteCells s.data.toList:=rfl
theorem PS.written (h:PS w0 B w hp ho hw b m v t l) {vb vb':Value} (h1:Bd w ho vb (Lib.byteCells l)) (h2:∀ k,vb.ownBlock=some k→B≤k) {s:ByteArray} (h3:Bd w' ho vb' (Lib.byteCells l ++ Lib.strCells s)) (h4:vb'.ownBlock=vb.ownBlock∨∀ k,vb'.ownBlock=some k→w.heap.size≤k)
 (hk:Kp (fun k=>k=ho∨vb.ownBlock=some k) w w'):PS w0 B w' hp ho hw b m v t (l ++ s.data.toList)∧KW w w':=by
 have hS:∀ k,(k=ho∨vb.ownBlock=some k)→∃ cs ty fr,w.heap[k]?=some (.cells cs ty fr)∧(ty=115∨ty=5):=by
  rintro k (rfl | e)
  ·obtain ⟨p,_,hh,_⟩:=h1
   exact ⟨_,_,_,hh,Or.inl rfl⟩
  ·obtain ⟨_,cur,hh⟩:=h1.own k e
   exact ⟨_,_,_,hh,Or.inr rfl⟩
 have hkw:KW w w':=⟨hk.size,fun k cs ty fr hh ht=>hk.block k (lt_of_block hh) fun hs=>by
  obtain ⟨cs2,ty2,fr2,hh2,ht2⟩:=hS k hs
  rw [hh] at hh2
  simp only [Option.some.injEq,Obj.cells.injEq] at hh2
  obtain ⟨_,rfl,_⟩:=hh2
  rcases ht with rfl | rfl | rfl | rfl <;> rcases ht2 with h | h <;> exact absurd h (by decide)⟩
 refine ⟨⟨hkw.box h.p (Or.inl rfl),hkw.box h.f (Or.inr (Or.inr (Or.inl rfl))),⟨vb',?_,?_⟩,h.tb.keep fun k hf=>hk.block k (h.tb.foot k hf) fun hs => ?_,?_,h.hB,Nat.le_trans h.hBw hk.size⟩,hkw⟩
 ·rw [strCells_eq] at h3
  have e:Lib.byteCells (l ++ s.data.toList)=Lib.byteCells l ++ Lib.byteCells s.data.toList:=by simp [Lib.byteCells]
  rw [e]
  exact h3
 ·rcases h4 with h4 | h4
  ·rw [h4];exact h2
  ·exact fun k hk=>Nat.le_trans h.hBw (h4 k hk)
 ·obtain ⟨cs,ty,fr,hh,ht⟩:=hS k hs
  rcases hf with rfl | rfl | e
  ·rw [h.tb.tab] at hh
   simp only [Option.some.injEq,Obj.cells.injEq] at hh
   obtain ⟨_,rfl,_⟩:=hh
   rcases ht with h | h <;> exact absurd h (by decide)
  ·obtain ⟨D,⟨es,cl,hm,_⟩,_⟩:=h.tb.map
   rw [hh] at hm
   cases hm
  ·obtain ⟨_,cur,hc⟩:=h.tb.row.lt k e
   rw [hc] at hh
   simp only [Option.some.injEq,Obj.cells.injEq] at hh
   obtain ⟨_,rfl,_⟩:=hh
   rcases ht with h | h <;> exact absurd h (by decide)
 ·refine h.be.trans (Kp.below hk h.hBw ?_)
  rintro k (rfl | e)
  ·exact h.hB
  ·exact h2 k e
set_option maxHeartbeats 1000000 in
theorem print11_any (h:PS w0 B w hp ho hw b m v t l) (s:ByteArray) (hl:l.length+s.size≤65536) :
 Calls Tryz.prog 169 #[.string s,.pointer (some ⟨ho,0,none⟩)] w fun e w'=>e=.returned (.tuple #[])∧PS w0 B w' hp ho hw b m v t (l ++ s.data.toList)∧KW w w':=by
 have K:=show Hid (Calls Tryz.prog 59 #[.pointer (some ⟨ho,0,none⟩),.string s] w fun e w'=>e=.returned (.tuple #[.int .i64 s.size,.nilIface])∧PS w0 B w' hp ho hw b m v t (l ++ s.data.toList)∧KW w w') from by
  obtain ⟨vb,h1,h2⟩:=h.bd
  refine (write_any w h1 s (by simp [Lib.byteCells];omega)).mono fun e w' hh => ?_
  obtain ⟨he,vb',h3,h4,h5⟩:=hh
  exact ⟨he,h.written h1 h2 h3 h4 h5⟩
 clear h hl
 go_enter Tryz.func169,Tryz.ntmps169
 go_wp2_with fail
 refine K.out.mono ?_
 rintro e w1 ⟨rfl,h1,h2⟩
 have X:=show Hid _ from (⟨h1,h2⟩:_∧_)
 clear h1 h2 K
 go_wp2_with fail
 go_end0
 exact ⟨rfl,X.out.1,X.out.2⟩
set_option maxRecDepth 100000 in
set_option maxHeartbeats 1000000 in
theorem print1_step (i:Int) (hi:Fm.has t i=true) (h:PS w0 B w hp ho hw b m v t l) (hl:l.length+(Pr.text t i).length≤65536)
 (IH:∀ (w:World) (l:List UInt8) (j:Int),Fm.has t j=true→j<i→PS w0 B w hp ho hw b m v t l→l.length+(Pr.text t j).length≤65536→Calls Tryz.prog 167 #[.int .i64 j,.pointer (some ⟨hp,0,none⟩),.pointer (some ⟨ho,0,none⟩),.pointer (some ⟨hw,0,none⟩)] w fun e w'=>e=.returned (.tuple #[])∧PS w0 B w' hp ho hw b m v t (l ++ Pr.text t j)∧KW w w') :
 Calls Tryz.prog 167 #[.int .i64 i,.pointer (some ⟨hp,0,none⟩),.pointer (some ⟨ho,0,none⟩),.pointer (some ⟨hw,0,none⟩)] w fun e w'=>e=.returned (.tuple #[])∧PS w0 B w' hp ho hw b m v t (l ++ Pr.text t i)∧KW w w':=by
 have hOk:=h.tb.ok
 have hte:=Pr.text_eq hOk hi
 have WK:Wk t b m v (fun dn w=>PS w0 B w hp ho hw b m v t (l ++ Pr.textOf t dn)) 169 167 #[.pointer (some ⟨ho,0,none⟩)] #[.pointer (some ⟨hp,0,none⟩),.pointer (some ⟨ho,0,none⟩),.pointer (some ⟨hw,0,none⟩)]
  (fun dn x=>l.length+(Pr.textOf t (dn ++ [x])).length≤65536∧∀ j,x=.pt j→Fm.has t j=true∧j<i):=by
  refine ⟨fun dn w h=>h.tb,fun dn w w' h hb=>h.later hb,fun dn w s h hk => ?_,fun dn w j h hk => ?_,fun _ _=>by simp [go_sem],fun _ _=>by simp [go_sem]⟩
  ·have hlen:=hk.1
   rw [Pr.textOf_app,Pr.textOf_one,List.length_append] at hlen
   have e1:(Pr.pc t (.tx s)).length=s.size:=rfl
   refine (print11_any h s (by rw [List.length_append];omega)).mono fun e w' hh=>⟨hh.1,?_,hh.2.2⟩
   rw [Pr.textOf_app,Pr.textOf_one,← List.append_assoc]
   exact hh.2.1
  ·have hlen:=hk.1
   rw [Pr.textOf_app,Pr.textOf_one,List.length_append] at hlen
   have e1:(Pr.pc t (.pt j)).length=(Pr.text t j).length:=rfl
   have hj:=hk.2 j rfl
   refine (IH w _ j hj.1 hj.2 h (by rw [List.length_append];omega)).mono fun e w' hh=>⟨hh.1,?_,hh.2.2⟩
   rw [Pr.textOf_app,Pr.textOf_one,← List.append_assoc]
   exact hh.2.1
 have K:=show Hid (Calls Tryz.prog 168 #[.agg #[.pointer (some ⟨b,0,none⟩)],.int .i64 i,.func (.func 169) #[] #[.pointer (some ⟨ho,0,none⟩)],.func (.func 167) #[] #[.pointer (some ⟨hp,0,none⟩),.pointer (some ⟨ho,0,none⟩),.pointer (some ⟨hw,0,none⟩)]] w fun e w'=>e=.returned (.tuple #[])∧PS w0 B w' hp ho hw b m v t (l ++ Pr.text t i)∧KW w w') from by
  rw [hte]
  refine walk_any w WK (by simpa [Pr.textOf] using h) i fun pre x post he=>⟨?_,fun j hj => ?_⟩
  ·have h1:(Pr.textOf t (Pr.pcs t i)).length=(Pr.textOf t (pre ++ [x])).length+(Pr.textOf t post).length:=by
    rw [he,show pre ++ x :: post=(pre ++ [x]) ++ post by simp,Pr.textOf_app _ (pre ++ [x]) post,List.length_append]
   rw [← hte] at h1
   omega
  ·have hx:x ∈ Pr.pcs t i:=by rw [he];simp
   subst hj
   rcases Pr.pcs_mem hOk hi hx with ⟨s,hs,_⟩ | ⟨j',hj',h1,h2,_⟩
   ·cases hs
   ·cases hj'
    exact ⟨h1,h2⟩
 have hmf:=mkFunc
 have c0:=h.p.c0
 have c1:=h.f.c0
 generalize Pr.text t i=tx at *
 clear h hl IH WK hte hOk hi
 go_enter Tryz.func167,Tryz.ntmps167
 go_wp2_with fail
 refine K.out.mono ?_
 rintro e w1 ⟨rfl,h1,h2⟩
 have X:=show Hid _ from (⟨h1,h2⟩:_∧_)
 clear h1 h2 K
 go_wp2_with fail
 go_end0
 exact ⟨rfl,X.out.1,X.out.2⟩
theorem print1_any:∀ (n:Nat) (w:World) (l:List UInt8) (i:Int),i.toNat<n→Fm.has t i=true→PS w0 B w hp ho hw b m v t l→l.length+(Pr.text t i).length≤65536 →
 Calls Tryz.prog 167 #[.int .i64 i,.pointer (some ⟨hp,0,none⟩),.pointer (some ⟨ho,0,none⟩),.pointer (some ⟨hw,0,none⟩)] w fun e w'=>e=.returned (.tuple #[])∧PS w0 B w' hp ho hw b m v t (l ++ Pr.text t i)∧KW w w'
 | 0,_,_,i,hn,_,_,_=>absurd hn (by omega)
 | n+1,w,l,i,hn,hi,h,hl=>print1_step i hi h hl fun w l j hj hji h hl=>print1_any n w l j (by have:=Fm.has_iff.1 hj;omega) hj h hl
end
end Go.Proofs.YtkmmlimekachbaaGreatDoor
