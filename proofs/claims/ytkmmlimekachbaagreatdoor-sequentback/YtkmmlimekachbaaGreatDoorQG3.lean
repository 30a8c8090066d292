/-
  The call Weights of a sequent: for every table that calls made and every sequent. No other condition than that the table of TrailingZeros stands. (Written by genqwts.py.)
-/
import Derived.Test.YtkmmlimekachbaaGreatDoorQG2
import Derived.Test.YtkmmlimekachbaaGreatDoorMG2
import Derived.Maps.AppendAt
namespace Go.Proofs.YtkmmlimekachbaaGreatDoor
open Go.RowKit Go.Shelf Go.Maps
open Fm (Nd)
open Bt.Bs (Ok wd)
def wtsQ (t:List Nd) (ids:List Int):List Int × Int:=if ids.all (Fm.has t) then (Ms.fall (wts t ids),0) else ([],31)
theorem mweights_any (w:World) {b m:Nat} {v:Value} {t:List Nd} (hT:Tb w b m v t) (iv:Value) (ids:List Int) (hv:IsL w iv ids) (hl:ids.length * 8≤140737488355328) :
 Calls Tryz.prog 40 #[.pointer (some ⟨b,0,none⟩),iv] w fun e w'=>∃ p c,e=.returned (.tuple #[.slice p (wtsQ t ids).1.length c,.int .i64 (wtsQ t ids).2])∧IsL w' (.slice p (wtsQ t ids).1.length c) (wtsQ t ids).1∧Below w.heap.size w w':=by
 unfold wtsQ
 cases h:ids.all (Fm.has t)
 ·refine (weightsM_out w hT iv ids hv h).mono ?_
  rintro e w' ⟨he,hb⟩
  exact ⟨none,0,he,⟨none,0,rfl,by simp,fun k hk=>by simp at hk⟩,hb⟩
 ·exact weightsM_in w hT iv ids hv h hl
section
variable {ops:Array Oper} {Q:Exit→Act→World→Prop} {S:World→Prop} {fuel:Nat} {listed:Array Bool} {a:Act} {w:World}
theorem stepApp (i:Nat) (d:Option Tmp) {oi:Oper} (hd:oi.dst=d) (hw:Region.wanted oi (yielded ops a.tmps)=true) (s x:Operand) (t:TypeId) (ho:oi.op=.call { callee:=.builtin .append,args:=#[s,x],argTypes:=#[t,t] })
 (base:Nat) (e:TypeId) (i0:TypeInfo) (z:Value) (size bytes:Nat) (ht:Tryz.prog.underlying t=some (.slice e)) (hi:Tryz.prog.info? e=some i0) (hz:i0.zero=some z)
 (hsize:i0.size=size) (hby:i0.bytes=bytes) (hzs:z.cells.size=size) (hsz:0<size)
 (v:Value) (n:Nat) (xs:List Value) (hs:a.eval s=v) (hown:w.ownsRow base e size v n xs)
 (ad:Addr) (m c:Nat) (news:List Value) (hx:a.eval x=.slice (some ad) m c) (hl:news.length=m * size) (hnews:∀ j u,news[j]?=some u→w.cell? (ad.add j)=some u) (h1:∀ u ∈ news,u.oneCell'=true)
 (h63:n+m≤maxLen) (hbytes:(n+m) * bytes≤140737488355328) (hbase:base≤w.heap.size)
 (h:∀ v' w',w'.ownsRow base e size v' (n+m) (xs ++ news)→w.grownBy w' v.ownBlock→S w'∧wpAnyH Tryz.prog .any ops Q S fuel (listed.setIfInBounds i true) (a.put d v') w'):StepH ops Q S fuel listed a w i oi:=by
 obtain ⟨v',w',hr,h2,h3,_,_⟩:=run_append_own_at (P:=Tryz.prog) w base t oi.type e i0 z size bytes ht hi hz hsize hby hzs hsz v n xs hown ad m c news hl hnews h1 h63 hbytes hbase
 obtain ⟨q1,q2⟩:=h v' w' h2 h3
 refine stepW i d v' w' hd hw ?_ q1 (fun _=>q2)
 unfold execOp
 simp only [ho,resolve,invoke,builtin,Sem.run_bind,Sem.run_pure,Result.andThen_ok,List.map_toArray,List.map_cons,List.map_nil,hs,hx,hr]
end
theorem CK.later {w wx w':World} {r:List Nat} {g:Int} (h:CK w wx r g) (hb:Below wx.heap.size wx w'):CK w w' r g:=⟨h.seq.later hb h.seq.lt,h.bel.trans (hb.mono h.bel.size)⟩
def idsQ (r:List Nat) (g:Int):List Int:=((Bt.Bs.nums r).map fun n:Nat=>(n:Int)) ++ [g]
set_option maxRecDepth 100000 in
set_option maxHeartbeats 4000000 in
theorem qweights_any (w:World) {b m:Nat} {v:Value} {t:List Nd} (hT:Tb w b m v t) (hZ:Bt.Tz w) {r:List Nat} (hr:Ok r) (g:Int) :
 Calls Tryz.prog 12 #[.pointer (some ⟨b,0,none⟩),.agg (cellsQ r g)] w fun e w'=>∃ p c,e=.returned (.tuple #[.slice p (wtsQ t (idsQ r g)).1.length c,.int .i64 (wtsQ t (idsQ r g)).2])∧IsL w' (.slice p (wtsQ t (idsQ r g)).1.length c) (wtsQ t (idsQ r g)).1∧Below w.heap.size w w':=by
 obtain ⟨i0,hi,hz0,hz1,hz2⟩:=info_parts Bt.infoI
 have hl:=hr.1
 have hnl:(Bt.Bs.nums r).length≤1024:=Bt.Bs.nums_len_le r
 have KL:=show Hid (∀ w',Below w.heap.size w w'→Calls Tryz.prog 41 #[.agg (Bt.cellsB r)] w' fun e w''=>∃ v,e=.returned v∧w''.ownsRow w'.heap.size 3 1 v (Bt.Bs.nums r).length (((Bt.Bs.nums r).map fun n:Nat=>(n:Int)).map (Value.int .i64))∧Below w'.heap.size w' w'') from fun w' hb=>(Bt.list_any w' (Bt.tz_block hZ hb) hr).mono fun e w'' ⟨v,he,ho,hb⟩=>⟨v,he,by rw [List.map_map];exact ho,hb⟩
 have KW:=show Hid (∀ w' iv,Below w.heap.size w w'→IsL w' iv (idsQ r g)→Calls Tryz.prog 40 #[.pointer (some ⟨b,0,none⟩),iv] w' fun e w''=>∃ p c,e=.returned (.tuple #[.slice p (wtsQ t (idsQ r g)).1.length c,.int .i64 (wtsQ t (idsQ r g)).2])∧IsL w'' (.slice p (wtsQ t (idsQ r g)).1.length c) (wtsQ t (idsQ r g)).1∧Below w'.heap.size w' w'') from fun w' iv hb hv=>mweights_any w' (hT.later hb) iv _ hv (by unfold idsQ;simp;omega)
 have HC:=show Hid (CK w (w.alloc (.cells (cellsQ r g) 27)) r g) from ⟨seq_new w r g,below_alloc w _⟩
 have HID:=show Hid (((Bt.Bs.nums r).map fun n:Nat=>(n:Int)).map (Value.int .i64) ++ [.int .i64 g]=(idsQ r g).map (Value.int .i64)∧(idsQ r g).length=(Bt.Bs.nums r).length+1) from ⟨by unfold idsQ;simp,by unfold idsQ;simp⟩
 clear hT hZ hr
 generalize wtsQ t (idsQ r g)=res at *
 obtain ⟨rl,re⟩:=res
 simp only at KW
 generalize idsQ r g=ids at *
 generalize ((Bt.Bs.nums r).map fun n:Nat=>(n:Int)).map (Value.int .i64)=ns at *
 generalize (Bt.Bs.nums r).length=nl at *
 go_enter Tryz.func12,Tryz.ntmps12
 go_wp2_with fail
 refine wp_region_held_drew (S:=fun wx=>CK w wx r g) (by kernel_rfl) ⟨HC.out.seq,HC.out.bel.drew⟩ (fun hH => ?_)
 clear HC
 refine takeV 0 (some 6) (.pointer (some ⟨b,0,none⟩)) rfl rfl (by kernel_rfl) (by kernel_rfl) (by kernel_rfl) (fun _ _ _ h=>h) rfl (fun wx hx=>by go_simp) hH ?_
 simp only [Act.put,List.setIfInBounds_toArray,List.set_cons_zero,List.set_cons_succ]
 refine takeV 1 (some 7) (.pointer (some ⟨w.heap.size,0,none⟩)) rfl rfl (by kernel_rfl) (by kernel_rfl) (by kernel_rfl) (fun _ _ _ h=>h) rfl (fun wx hx=>by go_simp) hH ?_
 simp only [Act.put,List.setIfInBounds_toArray,List.set_cons_zero,List.set_cons_succ]
 refine takeQ (v:=.agg (Bt.cellsB r)) 2 (some 8) rfl rfl (by kernel_rfl) (by kernel_rfl) (by kernel_rfl) (fun _ _ _ h=>h) rfl _ rfl (w.heap.size) rfl r rfl hl (fun wx hx=>⟨_,hx.seq⟩) hH ?_
 simp only [Act.put,List.setIfInBounds_toArray,List.set_cons_zero,List.set_cons_succ]
 refine takeV 4 (some 10) (.pointer (some ⟨w.heap.size,16,none⟩)) rfl rfl (by kernel_rfl) (by kernel_rfl) (by kernel_rfl) (fun _ _ _ h=>h) rfl (fun wx hx=>by go_simp) hH ?_
 simp only [Act.put,List.setIfInBounds_toArray,List.set_cons_zero,List.set_cons_succ]
 refine takeV 5 (some 11) (.int .i64 g) rfl rfl (by kernel_rfl) (by kernel_rfl) (by kernel_rfl) (fun _ _ _ h=>h) rfl (fun wx hx=>by have hcc:=hx.seq.goal hl;go_simp) hH ?_
 simp only [Act.put,List.setIfInBounds_toArray,List.set_cons_zero,List.set_cons_succ]
 generalize hw0:(w.alloc (.cells (cellsQ r g) 27)).drew=w0 at *
 have hs0:w.heap.size<w0.heap.size:=hH.seq.lt
 refine twoH 3 6 (by kernel_rfl) rfl rfl ?_ ?_
 ·refine stepC 3 (some 9) rfl rfl 41 _ _ rfl [.agg (Bt.cellsB r)] rfl (fun _ _=>Tryz.call41 _ _) ?_
  refine (KL.out w0 hH.bel).mono ?_
  rintro e w1 ⟨lv,rfl,ho1,hb1⟩
  have hH1:CK w w1 r g:=hH.later hb1
  refine ⟨_,rfl,hH1,fun _ => ?_⟩
  simp only [Act.put,List.setIfInBounds_toArray,List.set_cons_zero,List.set_cons_succ]
  have HOW:=show Hid ((w1.alloc (.cells #[.int .i64 g] 3)).ownsRow w0.heap.size 3 1 lv nl ns) from ho1.alloc _
  have hH2:CK w (w1.alloc (.cells #[.int .i64 g] 3)) r g:=hH1.later (below_alloc _ _)
  have HSZ:=show Hid (w0.heap.size≤(w1.alloc (.cells #[.int .i64 g] 3)).heap.size) from (by have:=hb1.size;rw [World.size_alloc];omega:w0.heap.size≤(w1.alloc (.cells #[.int .i64 g] 3)).heap.size)
  refine oneH 6 (by kernel_rfl) rfl (stepW 6 (some 12) (.slice (some ⟨w1.heap.size,0,none⟩) 1 1) (w1.alloc (.cells #[.int .i64 g] 3)) rfl rfl (by go_simp) hH2 (fun _ => ?_))
  simp only [Act.put,List.setIfInBounds_toArray,List.set_cons_zero,List.set_cons_succ]
  have HSB:=show Hid _ from cell_one_new w1 (.int .i64 g) 3
  generalize w1.heap.size=sb at *
  generalize w1.alloc (.cells #[.int .i64 g] 3)=w2 at *
  clear ho1 hb1 hH1
  refine oneH 7 (by kernel_rfl) rfl (stepApp 7 (some 13) rfl rfl (.tmp 9) (.tmp 12) 28 rfl w0.heap.size 3 i0 _ 1 8 Tryz.underlying28 hi hz0 hz1 hz2 rfl (by decide) lv nl ns rfl HOW.out ⟨sb,0,none⟩ 1 1 [.int .i64 g] rfl rfl HSB.out (by intro u hu;simp at hu;subst hu;rfl) (by unfold maxLen;omega) (by omega) HSZ.out (fun v3 w3 ho3 hg3 => ?_))
  have hH3:CK w w3 r g:=⟨(hg3.block _ hH2.seq.lt (fun e=>by have:=(HOW.out.lt _ e.symm).1;omega)).trans hH2.seq,hH2.bel.grown hg3 hH2.bel.size (fun k e=>by have:=(HOW.out.lt k e).1;omega)⟩
  refine ⟨hH3,?_⟩
  simp only [Act.put,List.setIfInBounds_toArray,List.set_cons_zero,List.set_cons_succ]
  rw [HID.out.1] at ho3
  have hI3:IsL w3 v3 ids:=isL_own ho3 (by omega)
  refine oneH 8 (by kernel_rfl) rfl (stepC 8 (some 14) rfl rfl 40 _ _ rfl [.pointer (some ⟨b,0,none⟩),v3] rfl (fun _ _=>Tryz.call40 _ _) ?_)
  refine (KW.out w3 v3 hH3.bel hI3).mono ?_
  rintro e w4 ⟨p4,c4,rfl,hr4,hb4⟩
  have hH4:CK w w4 r g:=hH3.later hb4
  refine ⟨_,rfl,hH4,fun _ => ?_⟩
  simp only [Act.put,List.setIfInBounds_toArray,List.set_cons_zero,List.set_cons_succ]
  refine takeV 9 (some 15) (.slice p4 rl.length c4) rfl rfl (by kernel_rfl) (by kernel_rfl) (by kernel_rfl) (fun _ _ _ h=>h) rfl (fun wx hx=>by go_simp) hH4 ?_
  simp only [Act.put,List.setIfInBounds_toArray,List.set_cons_zero,List.set_cons_succ]
  refine takeV 10 (some 16) (.int .i64 re) rfl rfl (by kernel_rfl) (by kernel_rfl) (by kernel_rfl) (fun _ _ _ h=>h) rfl (fun wx hx=>by go_simp) hH4 ?_
  simp only [Act.put,List.setIfInBounds_toArray,List.set_cons_zero,List.set_cons_succ]
  refine takeV 11 (some 4) (.slice p4 rl.length c4) rfl rfl (by kernel_rfl) (by kernel_rfl) (by kernel_rfl) (fun _ _ _ h=>h) rfl (fun wx hx=>by go_simp) hH4 ?_
  simp only [Act.put,List.setIfInBounds_toArray,List.set_cons_zero,List.set_cons_succ]
  refine takeV 12 (some 5) (.int .i64 re) rfl rfl (by kernel_rfl) (by kernel_rfl) (by kernel_rfl) (fun _ _ _ h=>h) rfl (fun wx hx=>by go_simp) hH4 ?_
  simp only [Act.put,List.setIfInBounds_toArray,List.set_cons_zero,List.set_cons_succ]
  refine wpAnyH_done (by kernel_rfl) ?_ _
  have HE:=show Hid (IsL w4 (.slice p4 rl.length c4) rl∧Below w.heap.size w w4) from ⟨hr4,hH4.bel⟩
  clear hH hH2 hH3 hH4 hr4 hb4 hI3 ho3 hg3 KW KL HID HOW HSB HSZ
  go_wp2_with fail
  go_ret2
  exact ⟨p4,c4,rfl,HE.out⟩
 ·have hH1:CK w (w0.alloc (.cells #[.int .i64 g] 3)) r g:=hH.later (below_alloc _ _)
  refine stepW 6 (some 12) (.slice (some ⟨w0.heap.size,0,none⟩) 1 1) (w0.alloc (.cells #[.int .i64 g] 3)) rfl rfl (by go_simp) hH1 (fun _ => ?_)
  simp only [Act.put,List.setIfInBounds_toArray,List.set_cons_zero,List.set_cons_succ]
  refine oneH 3 (by kernel_rfl) rfl (stepC 3 (some 9) rfl rfl 41 _ _ rfl [.agg (Bt.cellsB r)] rfl (fun _ _=>Tryz.call41 _ _) ?_)
  refine (KL.out _ hH1.bel).mono ?_
  rintro e w2 ⟨lv,rfl,ho1,hb1⟩
  have hH2:CK w w2 r g:=hH1.later hb1
  refine ⟨_,rfl,hH2,fun _ => ?_⟩
  simp only [Act.put,List.setIfInBounds_toArray,List.set_cons_zero,List.set_cons_succ]
  have hsz1:(w0.alloc (.cells #[.int .i64 g] 3)).heap.size=w0.heap.size+1:=by simp
  have HOW:=show Hid (w2.ownsRow w0.heap.size 3 1 lv nl ns) from ⟨ho1.1,ho1.2.imp (fun h=>h) fun ⟨g,cap,cur,e1,hg,r⟩=>⟨g,cap,cur,e1,by omega,r⟩⟩
  have HSZ:=show Hid (w0.heap.size≤w2.heap.size) from (by have:=hb1.size;omega:w0.heap.size≤w2.heap.size)
  have HSB:=show Hid (∀ j u,[Value.int .i64 g][j]?=some u→w2.cell? ((⟨w0.heap.size,0,none⟩:Addr).add j)=some u) from fun j u hj=>by
   have h:=cell_one_new w0 (.int .i64 g) 3 j u hj
   have h0:((⟨w0.heap.size,0,none⟩:Addr).add j).block=w0.heap.size:=by rw [Addr.add_mid]
   exact (hb1.cell (by rw [hsz1,h0];omega)).trans h
  generalize w0.heap.size=sb at *
  clear ho1 hb1 hH1
  refine oneH 7 (by kernel_rfl) rfl (stepApp 7 (some 13) rfl rfl (.tmp 9) (.tmp 12) 28 rfl sb 3 i0 _ 1 8 Tryz.underlying28 hi hz0 hz1 hz2 rfl (by decide) lv nl ns rfl HOW.out ⟨sb,0,none⟩ 1 1 [.int .i64 g] rfl rfl HSB.out (by intro u hu;simp at hu;subst hu;rfl) (by unfold maxLen;omega) (by omega) HSZ.out (fun v3 w3 ho3 hg3 => ?_))
  have hH3:CK w w3 r g:=⟨(hg3.block _ hH2.seq.lt (fun e=>by have:=(HOW.out.lt _ e.symm).1;omega)).trans hH2.seq,hH2.bel.grown hg3 hH2.bel.size (fun k e=>by have:=(HOW.out.lt k e).1;omega)⟩
  refine ⟨hH3,?_⟩
  simp only [Act.put,List.setIfInBounds_toArray,List.set_cons_zero,List.set_cons_succ]
  rw [HID.out.1] at ho3
  have hI3:IsL w3 v3 ids:=isL_own ho3 (by omega)
  refine oneH 8 (by kernel_rfl) rfl (stepC 8 (some 14) rfl rfl 40 _ _ rfl [.pointer (some ⟨b,0,none⟩),v3] rfl (fun _ _=>Tryz.call40 _ _) ?_)
  refine (KW.out w3 v3 hH3.bel hI3).mono ?_
  rintro e w4 ⟨p4,c4,rfl,hr4,hb4⟩
  have hH4:CK w w4 r g:=hH3.later hb4
  refine ⟨_,rfl,hH4,fun _ => ?_⟩
  simp only [Act.put,List.setIfInBounds_toArray,List.set_cons_zero,List.set_cons_succ]
  refine takeV 9 (some 15) (.slice p4 rl.length c4) rfl rfl (by kernel_rfl) (by kernel_rfl) (by kernel_rfl) (fun _ _ _ h=>h) rfl (fun wx hx=>by go_simp) hH4 ?_
  simp only [Act.put,List.setIfInBounds_toArray,List.set_cons_zero,List.set_cons_succ]
  refine takeV 10 (some 16) (.int .i64 re) rfl rfl (by kernel_rfl) (by kernel_rfl) (by kernel_rfl) (fun _ _ _ h=>h) rfl (fun wx hx=>by go_simp) hH4 ?_
  simp only [Act.put,List.setIfInBounds_toArray,List.set_cons_zero,List.set_cons_succ]
  refine takeV 11 (some 4) (.slice p4 rl.length c4) rfl rfl (by kernel_rfl) (by kernel_rfl) (by kernel_rfl) (fun _ _ _ h=>h) rfl (fun wx hx=>by go_simp) hH4 ?_
  simp only [Act.put,List.setIfInBounds_toArray,List.set_cons_zero,List.set_cons_succ]
  refine takeV 12 (some 5) (.int .i64 re) rfl rfl (by kernel_rfl) (by kernel_rfl) (by kernel_rfl) (fun _ _ _ h=>h) rfl (fun wx hx=>by go_simp) hH4 ?_
  simp only [Act.put,List.setIfInBounds_toArray,List.set_cons_zero,List.set_cons_succ]
  refine wpAnyH_done (by kernel_rfl) ?_ _
  have HE:=show Hid (IsL w4 (.slice p4 rl.length c4) rl∧Below w.heap.size w w4) from ⟨hr4,hH4.bel⟩
  clear hH hH2 hH3 hH4 hr4 hb4 hI3 ho3 hg3 KW KL HID HOW HSB HSZ
  go_wp2_with fail
  go_ret2
  exact ⟨p4,c4,rfl,HE.out⟩
end Go.Proofs.YtkmmlimekachbaaGreatDoor
/-
  The iterator of slices.Values over a row of numbers, for every loop that keeps what lay below. No other condition.
-/
namespace Go.Proofs.YtkmmlimekachbaaGreatDoor
open Go.RowKit Go.Shelf Go.Maps
attribute [local go_sem] Oper.semAt_some
set_option maxHeartbeats 400000 in
theorem values_any (w:World) (p:Option Addr) (n c:Nat):Calls Tryz.prog 37 #[.slice p n c] w fun e w'=>e=.returned (.func (.func 82) #[] #[.pointer (some ⟨w.heap.size,0,none⟩)])∧w'=w.alloc (.cells #[.slice p n c] 28):=by
 go_enter Tryz.func37,Tryz.ntmps37
 go_wp2
 go_ret
 exact ⟨rfl,rfl⟩
set_option maxRecDepth 100000 in
set_option maxHeartbeats 2000000 in
theorem vals1_any (n:Nat) (hn:1≤n) (l q n₀:Nat) (p:Option Addr) (c:Nat) (xs:List Int) (hxl:xs.length≤9223372036854775807) (J Jx:List Int→World→Prop)
 (hY:∀ pre x W,J pre W→pre.length<xs.length→YieldAt Fence.wide (n - 1) Tryz.prog l #[.int .i64 x] W fun e W' =>
  (e=.returned (.bool true)∧J (pre ++ [x]) W'∧Below n₀ W W')∨(e=.returned (.bool false)∧Jx (pre ++ [x]) W'))
 (W:World) (hq:Boxed W q 28 (.slice p xs.length c)) (hC:∀ W',Below n₀ W W'→∀ k (hk:k<xs.length),∃ b o,p=some ⟨b,o,none⟩∧W'.cell? ⟨b,o+k,none⟩=some (.int .i64 xs[k])) (h0:J [] W) :
 CallsIn Fence.wide n Tryz.prog 82 #[.func (.yield l) #[] #[],.pointer (some ⟨q,0,none⟩)] W fun e W'=>(∃ v,e=.returned v) ∧
  ((∃ ys,ys=xs∧J ys W')∨(∃ pre,pre <+: xs∧Jx pre W')):=by
 have HYY:=show Hid (∀ pre x W,J pre W→pre.length<xs.length→YieldAt Fence.wide (n - 1) Tryz.prog l #[.int .i64 x] W fun e W'=>(e=.returned (.bool true)∧J (pre ++ [x]) W'∧Below n₀ W W')∨(e=.returned (.bool false)∧Jx (pre ++ [x]) W')) from hY
 have HC:=show Hid (∀ W',Below n₀ W W'→∀ k (hk:k<xs.length),∃ b o,p=some ⟨b,o,none⟩∧W'.cell? ⟨b,o+k,none⟩=some (.int .i64 xs[k])) from hC
 have HJ0:=show Hid (J [] W) from h0
 have c0:=hq.cell
 have HTK:=show Hid (∀ k (hk:k<xs.length),xs.take k ++ [xs[k]]=xs.take (k+1)) from fun k hk=>(List.take_succ_eq_append_getElem hk).symm
 clear hY hC hq h0
 refine callsIn_of_wp Tryz.func82 rfl trivial ?_ rfl
 simp only [Tryz.ntmps82,List.size_toArray,List.length_cons,List.length_nil,Nat.reduceAdd,Nat.reduceSub,Array.replicate_succ,Array.replicate_zero,List.push_toArray,List.append_toArray,List.nil_append,List.cons_append]
 gi_wp2
 gi_loopw [7] (fun iv wr=>∃ k:Nat,k≤xs.length∧iv=.int .i64 (k:Int)∧Hid (J (xs.take k) wr∧Below n₀ W wr)) (fun iv _=>xs.length - (intOf iv).toNat)
 case atStart=>exact ⟨0,by omega,rfl,by rw [List.take_zero];exact HJ0.out,Below.refl _ _⟩
 case round =>
  obtain ⟨k,hk,rfl,HI⟩:=hrel
  clear HJ0 c0
  by_cases hlt:k<xs.length
  ·have hki:(k:Int)<(xs.length:Int):=by omega
   obtain ⟨b,o,rfl,hcell⟩:=HC.out wr HI.out.2 k hlt
   obtain ⟨fn,tmps,assign,body,hy,hR⟩:=HYY.out (xs.take k) xs[k] wr HI.out.1 (by rw [List.length_take];omega)
   rw [HTK.out k hlt] at hR
   generalize xs[k]=x at *
   gi_wp2
   refine hR.mono ?_
   clear hR
   rintro e W3 (⟨rfl,hJ3,hk3⟩ | ⟨rfl,hJx3⟩)
   ·gi_wp2
    go_roundw
    case rel=>exact ⟨k+1,by omega,by go_num,hJ3,HI.out.2.trans hk3⟩
    case measure=>first | (simp [intOf];done) | (simp [intOf];omega)
   ·gi_wp2
    refine bodyPost_ret (results_none rfl _ _ _) rfl ?_
    exact ⟨⟨_,rfl⟩,.inr ⟨xs.take (k+1),List.take_prefix _ _,hJx3⟩⟩
  ·obtain rfl:k=xs.length:=by omega
   have HJ:=show Hid (J xs wr) from by have h:=HI.out.1;rw [List.take_length] at h;exact h
   clear HI HC HYY HTK
   gi_wp2
   go_end0
   exact ⟨⟨_,rfl⟩,.inl ⟨xs,rfl,HJ.out⟩⟩
theorem vals_stops (n:Nat) (hn:1≤n) (q n₀:Nat) (v:Value) (xs:List Int) (w:World) (hq:Boxed w q 28 v) (hv:IsL w v xs) (hn₀:w.heap.size≤n₀) :
 SeqStopsK Fence.wide n Tryz.prog 82 #[.pointer (some ⟨q,0,none⟩)] (fun x:Int=>#[Value.int .i64 x]) (Below n₀) (fun ys=>ys=xs) (fun pre=>pre <+: xs) xs.length w:=fun l J Jx W hW _ _ hY h0=>by
 obtain ⟨p,c,rfl,hl,hc⟩:=hv
 refine vals1_any n hn l q n₀ p c xs hl J Jx hY W (box_later hq hW hq.lt) (fun W' hb k hk => ?_) h0
 obtain ⟨b,o,hp,hcell⟩:=hc k hk
 refine ⟨b,o,hp,?_⟩
 have hlt:=World.block_lt_of_cell? w _ hcell
 have h1:W.cell? ⟨b,o+k,none⟩=some (.int .i64 xs[k]):=(hW.cell (p:=⟨b,_,none⟩) hlt).trans hcell
 exact (hb.cell (p:=⟨b,_,none⟩) (Nat.lt_of_lt_of_le hlt hn₀)).trans h1
theorem refused_list (w:World) {b m:Nat} {v:Value} {t:List Fm.Nd} (hT:Tb w b m v t) {iv:Value} {xs:List Int} {q:Nat} (hq:Boxed w q 28 iv) (hv:IsL w iv xs) (g:Int) :
 Calls Tryz.prog 36 #[.pointer (some ⟨b,0,none⟩),.func (.func 82) #[] #[.pointer (some ⟨q,0,none⟩)],.int .i64 g] w fun e w'=>e=.returned (.int .i64 (refQ t xs g))∧Below w.heap.size w w':=by
 have h:=qrefused_any w hT (fun x:Int=>x) xs 82 #[.pointer (some ⟨q,0,none⟩)] (enters_of Tryz.func82 (by kernel_rfl) rfl)
  (fun w' n₀ hb hn=>by
   have hs:SeqStopsK Fence.wide 4 Tryz.prog 82 #[.pointer (some ⟨q,0,none⟩)] (fun x:Int=>#[Value.int .i64 x]) (Below n₀) (fun ys=>ys=xs) (fun pre=>pre <+: xs) xs.length w:=vals_stops 4 (by omega) q n₀ iv xs w hq hv hn
   exact fun l J Jx W hW=>hs l J Jx W (hb.trans (hW.mono hb.size))) g
 rw [List.map_id'] at h
 exact h
end Go.Proofs.YtkmmlimekachbaaGreatDoor
/-
  The call Of: for every table that calls made, every row of numbers and every goal. No other condition.
-/
namespace Go.Proofs.YtkmmlimekachbaaGreatDoor
open Go.RowKit Go.Shelf Go.Maps
open Fm (Nd)
open Bt.Bs (Ok wd)
theorem sizeQ:(Tryz.prog.info? 27).map (·.size)=some 17:=by kernel_rfl
theorem zeroQ:(Tryz.prog.info? 27).map (fun i=>(i.zero,i.size))=some (some (.agg (cellsQ Bt.Bs.zero 0)),17):=by kernel_rfl
theorem cellsQ_one (r:List Nat) (g:Int):(cellsQ r g).all (·.oneCell')=true:=by
 simp [cellsQ,Bt.listB,Value.oneCell']
theorem storeQ (w:World) (b:Nat) {r r':List Nat} {g g':Int} (h:SeqAt w b r g) (hs:r.length=16) (hs':r'.length=16):(Instr.storeAt 27 (.pointer (some ⟨b,0,none⟩)) (.agg (cellsQ r' g'))).run Tryz.prog w=.ok () (w.setRow b (cellsQ r' g')):=by
 simp only [Instr.storeAt,Instr.sureAddr,Sem.run_bind,Sem.run_pure,Result.andThen]
 exact run_storeVar_row w b 27 27 (cellsQ r g) (cellsQ r' g') h (by rw [sizeQ,cellsQ_size hs']) (by rw [cellsQ_size hs,cellsQ_size hs']) (cellsQ_one r' g')
theorem SeqAt.setRow {w:World} {b:Nat} {r:List Nat} {g:Int} (h:SeqAt w b r g) (r':List Nat) (g':Int):SeqAt (w.setRow b (cellsQ r' g')) b r' g':=setRow_heap w b _ _ _ _ h
theorem SeqAt.all {w:World} {b:Nat} {r:List Nat} {g:Int} (h:SeqAt w b r g):w.rangeAt b 0 (Bt.listB r ++ [.int .i64 g]):=fun j v hv=>by
 rw [cell_of_row w b _ _ _ _ h,Nat.zero_add]
 simp only [cellsQ,List.getElem?_toArray]
 exact hv
theorem loadVarQ (w:World) (b:Nat) {r:List Nat} {g:Int} (h:SeqAt w b r g) (hs:r.length=16):(loadVar 27 ⟨b,0,none⟩).run Tryz.prog w=.ok (.agg (cellsQ r g)) w :=
 run_loadVar_mid (P:=Tryz.prog) w b 0 27 (Bt.listB r ++ [.int .i64 g]) _ h.all Tryz.underlying27 rfl (by rw [sizeQ];simp [Bt.listB,hs])
theorem results_seq_tmp {fn:Func} {p t2:Tmp} (h:fn.results=#[.cell p 27,.tmp t2]) (tmps:Array Value) (w:World) (b:Nat) {r:List Nat} {g:Int} (hp:tmps.getD p undef=.pointer (some ⟨b,0,none⟩)) (hr:SeqAt w b r g) (hs:r.length=16) :
 (results fn tmps).run Tryz.prog w=.ok (.tuple #[.agg (cellsQ r g),tmps.getD t2 undef]) w:=by
 rw [_root_.Go.results_cell_tmp h,hp]
 simp [asAddr,loadVarQ w b hr hs,Result.andThen]
theorem wpList_stQ {ops:Array Oper} {rest:List Oper} {o:Oper} {a:Act} {Q:Exit→Act→World→Prop} (w:World) (hg:o.guard=none) (hd:o.dst=none) (x y:Operand) (hop:o.op=Op.store 27 x y) (b:Nat) (hx:a.eval x=.pointer (some ⟨b,0,none⟩))
 {r':List Nat} {g':Int} (hy:a.eval y=.agg (cellsQ r' g')) {r:List Nat} {g:Int} (h:SeqAt w b r g) (hs:r.length=16) (hs':r'.length=16) (hK:wpList Tryz.prog ops Q rest a (w.setRow b (cellsQ r' g'))):wpList Tryz.prog ops Q (o :: rest) a w:=by
 refine wpList_plain hg fun K' hK' => ?_
 have hrun:=storeQ (g':=g') w b h hs hs'
 unfold Oper.wp
 simp [execOp,hop,hx,hy,hrun,Result.andThen]
 rw [Oper.upon_skip,hd]
 exact hK' _ _ hK
theorem below_setRow {w0 w:World} {b:Nat} {c:Array Value} (h:Below w0.heap.size w0 w) (hb:w0.heap.size≤b):Below w0.heap.size w0 (w.setRow b c) :=
 ⟨h.os,h.tape,h.output,by have:=h.size;simpa using this,fun k hk=>(setRow_other w b k c (by omega)).trans (h.block k hk)⟩
theorem buildQ16 (w:World) (r0 r1 r2 r3 r4 r5 r6 r7 r8 r9 r10 r11 r12 r13 r14 r15:Nat) (g:Int):(Instr.build 27 #[(0,.agg (Bt.cellsB [r0,r1,r2,r3,r4,r5,r6,r7,r8,r9,r10,r11,r12,r13,r14,r15])),(1,.int .i64 g)]).run Tryz.prog w=.ok (.agg (cellsQ [r0,r1,r2,r3,r4,r5,r6,r7,r8,r9,r10,r11,r12,r13,r14,r15] g)) w:=by kernel_rfl
theorem buildQ (w:World) {r:List Nat} (hr:r.length=16) (g:Int):(Instr.build 27 #[(0,.agg (Bt.cellsB r)),(1,.int .i64 g)]).run Tryz.prog w=.ok (.agg (cellsQ r g)) w:=by
 match r,hr with
 | [r0,r1,r2,r3,r4,r5,r6,r7,r8,r9,r10,r11,r12,r13,r14,r15],_=>exact buildQ16 w r0 r1 r2 r3 r4 r5 r6 r7 r8 r9 r10 r11 r12 r13 r14 r15 g
theorem wpList_buildQ {ops:Array Oper} {rest:List Oper} {o:Oper} {a:Act} {Q:Exit→Act→World→Prop} (w:World) (hg:o.guard=none) (x y:Operand) (hop:o.op=Op.build 27 #[(0,x),(1,y)]) {r:List Nat} {g:Int} (hx:a.eval x=.agg (Bt.cellsB r)) (hy:a.eval y=.int .i64 g) (hr:r.length=16)
 (hK:wpList Tryz.prog ops Q rest (a.put o.dst (.agg (cellsQ r g))) w):wpList Tryz.prog ops Q (o :: rest) a w:=by
 refine wpList_plain hg fun K' hK' => ?_
 have hrun:=buildQ w hr g
 unfold Oper.wp
 simp [execOp,hop,hx,hy,hrun,Result.andThen]
 exact hK' _ _ hK
theorem ofR_fits:∀ (xs:List Int) (b:List Nat),(∀ x ∈ xs,0≤x∧x<1024)→(Bt.ofR xs b).2=0
 | [],_,_=>rfl
 | x :: l,b,h=>by
  have h1:=h x (by simp)
  unfold Bt.ofR
  rw [if_pos h1]
  exact ofR_fits l _ fun y hy=>h y (by simp [hy])
theorem zero_len:Bt.Bs.zero.length=16:=rfl
set_option maxRecDepth 100000 in
set_option maxHeartbeats 2000000 in
theorem qof_any (w:World) {b m:Nat} {v:Value} {t:List Nd} (hT:Tb w b m v t) (p:Option Addr) (n c:Nat) (xs:List Int) (hv:IsL w (.slice p n c) xs) (g:Int) :
 Calls Tryz.prog 10 #[.pointer (some ⟨b,0,none⟩),.slice p n c,.int .i64 g] w fun e w'=>e=.returned (.tuple #[.agg (cellsQ (if refQ t xs g=0 then (Bt.ofR xs Bt.Bs.zero).1 else Bt.Bs.zero) (if refQ t xs g=0 then g else 0)),.int .i64 (refQ t xs g)])∧Below w.heap.size w w':=by
 have KV:=show Hid (∀ w,Calls Tryz.prog 37 #[.slice p n c] w fun e w'=>e=.returned (.func (.func 82) #[] #[.pointer (some ⟨w.heap.size,0,none⟩)])∧w'=w.alloc (.cells #[.slice p n c] 28)) from fun w=>values_any w p n c
 have KR:=show Hid (∀ w' q,Below w.heap.size w w'→Boxed w' q 28 (.slice p n c)→Calls Tryz.prog 36 #[.pointer (some ⟨b,0,none⟩),.func (.func 82) #[] #[.pointer (some ⟨q,0,none⟩)],.int .i64 g] w' fun e w''=>e=.returned (.int .i64 (refQ t xs g))∧Below w'.heap.size w' w'') from fun w' q hb hq=>refused_list w' (hT.later hb) hq (hv.later hb) g
 have KO:=show Hid (∀ w',Below w.heap.size w w'→Calls Tryz.prog 38 #[.slice p n c] w' fun e w''=>e=.returned (.tuple #[.agg (Bt.cellsB (Bt.ofR xs Bt.Bs.zero).1),.int .i64 (Bt.ofR xs Bt.Bs.zero).2])∧Below w'.heap.size w' w'') from fun w' hb=>Bt.of_any w' _ xs (hv.later hb)
 have HXS:=show Hid (refQ t xs g=0→(Bt.ofR xs Bt.Bs.zero).2=0) from fun h=>ofR_fits xs _ fun x hx=>by
  have hlen:=hT.ok.len
  unfold refQ at h
  by_cases h2:(xs.all (Fm.has t) && Fm.has t g)=true
  ·have h3:=Fm.has_iff.1 (List.all_eq_true.1 (Bool.and_eq_true_iff.1 h2).1 x hx)
   omega
  ·rw [if_neg h2] at h
   cases h
 clear hT hv
 generalize refQ t xs g=rq at *
 go_enter Tryz.func10,Tryz.ntmps10
 go_wp2_with fail
 have HS0:=show Hid (SeqAt (w.alloc (.cells (cellsQ Bt.Bs.zero 0) 27)) w.heap.size Bt.Bs.zero 0∧Below w.heap.size w (w.alloc (.cells (cellsQ Bt.Bs.zero 0) 27))) from ⟨seq_new w _ _,below_alloc w _⟩
 change Calls _ _ _ (w.alloc (.cells (cellsQ Bt.Bs.zero 0) 27)) _
 generalize w.alloc (.cells (cellsQ Bt.Bs.zero 0) 27)=w0 at *
 refine (KV.out _).mono ?_
 rintro e w1 ⟨rfl,hw1⟩
 have H1:=show Hid (SeqAt w1 w.heap.size Bt.Bs.zero 0∧Below w.heap.size w w1∧Boxed w1 w0.heap.size 28 (.slice p n c)) from by
  rw [hw1]
  exact ⟨HS0.out.1.later (below_alloc _ _) HS0.out.1.lt,HS0.out.2.alloc HS0.out.2.size _,Boxed.new w0 _ _⟩
 clear hw1 HS0 KV
 go_wp2_with fail
 refine (KR.out w1 _ H1.out.2.1 H1.out.2.2).mono ?_
 rintro e w2 ⟨rfl,hb2⟩
 have H2:=show Hid (SeqAt w2 w.heap.size Bt.Bs.zero 0∧Below w.heap.size w w2) from ⟨H1.out.1.later hb2 H1.out.1.lt,H1.out.2.1.trans (hb2.mono H1.out.2.1.size)⟩
 clear hb2 H1 KR
 by_cases hz:rq=0
 ·subst hz
  have hxs:=HXS.out rfl
  rw [hxs] at KO
  have K3:=show Hid _ from KO.out w2 H2.out.2
  have HLR:=show Hid (Ok (Bt.ofR xs Bt.Bs.zero).1) from Bt.ofR_ok xs Bt.Bs.zero_ok
  obtain ⟨rr,hrr⟩:∃ q,q=(Bt.ofR xs Bt.Bs.zero).1:=⟨_,rfl⟩
  rw [← hrr] at K3 HLR
  have HRR:=show Hid _ from hrr
  clear KO HXS hxs hrr
  go_wp2_with fail
  refine Calls.mono K3.out ?_
  rintro e w3 ⟨rfl,hb3⟩
  have H3:=show Hid (SeqAt w3 w.heap.size Bt.Bs.zero 0∧Below w.heap.size w w3) from ⟨H2.out.1.later hb3 H2.out.1.lt,H2.out.2.trans (hb3.mono H2.out.2.size)⟩
  clear hb3 H2 K3
  have HR5:=show Hid (Bt.RowAt (w3.alloc (.cells (Bt.cellsB rr) 25)) w3.heap.size rr) from heap_alloc_last w3 _
  have H4:=show Hid (SeqAt (w3.alloc (.cells (Bt.cellsB rr) 25)) w.heap.size Bt.Bs.zero 0∧Below w.heap.size w (w3.alloc (.cells (Bt.cellsB rr) 25))) from ⟨H3.out.1.later (below_alloc _ _) H3.out.1.lt,H3.out.2.alloc H3.out.2.size _⟩
  go_wp2_with (first | (refine Bt.wpList_st _ _ _ _ rfl rfl rfl rfl rfl rfl HLR.out.1 ?_) | (refine Bt.wpList_ld _ _ rfl _ rfl HR5.out HLR.out.1 rfl ?_) | (refine wpList_buildQ _ rfl _ _ rfl (r:=rr) (g:=g) rfl rfl HLR.out.1 ?_) | (refine wpList_stQ _ rfl rfl _ _ rfl _ rfl (r':=rr) (g':=g) rfl H4.out.1 zero_len HLR.out.1 ?_))
  refine bodyPost_ret (results_seq_tmp rfl _ _ w.heap.size rfl (H4.out.1.setRow _ _) HLR.out.1) rfl ?_
  refine ⟨?_,below_setRow H4.out.2 (Nat.le_refl _)⟩
  rw [← HRR.out]
  rfl
 ·have hzb:(rq != 0)=true:=by simpa using hz
  go_wp2_with (refine wpList_stQ _ rfl rfl _ _ rfl _ rfl (r':=Bt.Bs.zero) (g':=0) rfl H2.out.1 zero_len zero_len ?_)
  refine bodyPost_ret (results_seq_tmp rfl _ _ w.heap.size rfl (H2.out.1.setRow _ _) zero_len) rfl ?_
  refine ⟨?_,below_setRow H2.out.2 (Nat.le_refl _)⟩
  first | rfl | (rw [if_neg hz,if_neg hz];rfl)
end Go.Proofs.YtkmmlimekachbaaGreatDoor
