/-
  isBounded: of any two well-formed models, and a map into the second one's worlds. No condition.
-/
import Derived.Test.YtoedidbbjnnpnaaTH12
import Derived.Test.YtoedidbbjnnpnaaTH10
import Derived.Test.YtoedidbbjnnpnaaQWFine
namespace Go.Proofs.Ytoedidbbjnnpnaa.Wm
open Go.RowKit Go.Maps
open Wd (Md Rc Ed upd vl allW)
set_option linter.unusedSimpArgs false
set_option linter.unusedVariables false
theorem run_ldM {w:World} {b:Nat} {u v:Value} (h:Cl w b #[u,v] 25):(Instr.loadAt 25 (.pointer (some ⟨b,0,none⟩))).run Try.prog w=.ok (.agg #[u,v]) w:=by
 simp only [Instr.loadAt,Instr.sureAddr,Sem.run_bind,Sem.run_pure,Result.andThen]
 exact run_loadVar_row w b 25 25 #[u,v] _ _ h Try.underlying25 rfl sizeM
theorem relCallWF {P:Program} {ops:Array Oper} {Q:Exit→Act→World→Prop} {i:Nat} {o:Oper} {a:Act} {w:World} {K:Act→World→Prop} (ho:ops[i]?=some o) (hw:Region.wanted o (yielded ops a.tmps)=true) (f:FuncId) (xs:List Operand) (ts:Array TypeId) (hop:o.op=Op.call { callee:=Callee.value (Operand.func f),args:=xs.toArray,argTypes:=ts }) (vs:List Value) (hv:xs.map a.eval=vs)
 (hcf:∀ vs w,(callFunc f vs).run P w=.ok (.enter f vs) w) (h:Calls P f vs.toArray w fun e w'=>∃ v,e=.returned v∧K (a.put o.dst v) w'):wpOp P ops Q i K a w :=
 relCallW ho hw f (.func f) xs ts hop vs [] rfl hv hcf (by rw [List.append_nil];exact h)
def BndP (m n:Md) (fl:List Int):Prop:=∀ a,a<m.up.length→vl m a=vl n (numF fl a)∧∀ c,(∃ b,Rc m.up a b∧numF fl b=c) ↔ Rc n.up (numF fl a) c
theorem numF_range {n b:Nat} (h:b<n):numF ((List.range n).map fun k:Nat=>(k:Int)) b=b:=by
 unfold numF
 rw [List.getD_eq_getElem?_getD,List.getElem?_map,List.getElem?_range h]
 rfl
theorem rc_to {m:Md} (hG:Wd.Good m) {a b:Nat} (ha:a<m.up.length) (h:Rc m.up a b):b<m.up.length:=Wd.rc_lt (Wd.shaped_and hG.shape).2.2.2.1 h ha
theorem numF_at {fl:List Int} {k:Nat} (h:k<fl.length):numF fl k=fl[k].toNat:=by
 unfold numF
 rw [List.getD_eq_getElem?_getD,List.getElem?_eq_getElem h]
 rfl
theorem vl_at {m:Md} {k:Nat} (h:k<m.val.length):vl m k=m.val[k]:=by
 unfold vl
 rw [List.getD_eq_getElem?_getD,List.getElem?_eq_getElem h]
 rfl
set_option maxRecDepth 100000 in
set_option maxHeartbeats 8000000 in
theorem isBounded_any (w:World) {L:Nat} {um vm un vn fv:Value} {m n:Md} {fl:List Int} (hm:IsM w L um vm m) (hmf:Fit m) (hmG:Wd.Good m) (hn:IsM w L un vn n) (hnf:Fit n) (hnG:Wd.Good n) (hf:IsI w L fv fl) (hL:L≤w.heap.size) (hfl:fl.length=m.up.length) (hfb:∀ i ∈ fl,0≤i∧i<(n.up.length:Int)) :
 Calls Try.prog 51 #[.agg #[um,vm],.agg #[un,vn],fv] w fun e w'=>(∃ r:Bool,e=.returned (.bool r)∧(r=true ↔ BndP m n fl))∧Below w.heap.size w w':=by
 obtain ⟨hm1,hm5,hmv,-,-⟩:=Wd.shaped_and hmG.shape
 obtain ⟨hn1,hn5,hnv,-,-⟩:=Wd.shaped_and hnG.shape
 have HS1:=show Hid (∀ W,Below w.heap.size w W→Calls Try.prog 65 #[.agg #[um,vm],fv] W fun e w'=>∃ A,e=.returned (.slice (some ⟨A,0,none⟩) m.up.length m.up.length)∧∃ ws,Ws w' A (m.up.length * 8) 103 ws∧(∀ a c,a<m.up.length→(abW ws a c=true ↔ ∃ b,Rc m.up a b∧numF fl b=c))∧W.heap.size≤A∧Below W.heap.size W w') from fun W hW =>
  seen_any W (hm.below (hW.mono hL)) hmf hmG (hf.keep fun k hk=>hW.block k (by omega)) (Nat.le_trans hL hW.size) hfl (fun i hi=>by have:=hfb i hi;omega)
 have HS2:=show Hid (∀ W v,Below w.heap.size w W→IsI W W.heap.size v ((List.range n.up.length).map fun k:Nat=>(k:Int))→Calls Try.prog 65 #[.agg #[un,vn],v] W fun e w'=>∃ A,e=.returned (.slice (some ⟨A,0,none⟩) n.up.length n.up.length)∧∃ ws,Ws w' A (n.up.length * 8) 103 ws∧(∀ a c,a<n.up.length→(abW ws a c=true ↔ Rc n.up a c))∧W.heap.size≤A∧Below W.heap.size W w') from fun W v hW hv=>by
  have hwide:IsM W W.heap.size un vn n:=by
   have h1:=hn.below (hW.mono hL)
   have h2:=Nat.le_trans hL hW.size
   exact ⟨(IsS.keep (R':=fun r x=>IsI W W.heap.size x r) h1.up (fun _ _=>rfl) fun _ _ h=>IsS.wide h h2).wide h2,(IsS.keep (R':=fun r x=>IsN W W.heap.size x r) h1.val (fun _ _=>rfl) fun _ _ h=>IsS.wide h h2).wide h2⟩
  refine (seen_any W hwide hnf hnG hv (Nat.le_refl _) (by simp) (fun i hi => ?_)).mono ?_
  ·obtain ⟨k,hk,rfl⟩:=List.mem_map.1 hi
   have:=List.mem_range.1 hk
   omega
  ·rintro e w' ⟨A,rfl,ws,h1,h2,h3,h4⟩
   refine ⟨A,rfl,ws,h1,fun a c ha=>(h2 a c ha).trans ⟨fun ⟨b,hb,hc⟩ => ?_,fun h=>⟨c,h,numF_range (rc_to hnG ha h)⟩⟩,h3,h4⟩
   rw [numF_range (rc_to hnG ha hb)] at hc
   rw [← hc];exact hb
 have HU:=show Hid (∀ W,Calls Try.prog 74 #[.int .i64 (n.up.length:Int)] W fun e w'=>∃ v,e=.returned v∧OwnZ W.heap.size w' v ((List.range n.up.length).map fun k:Nat=>(k:Int))∧Below W.heap.size W w') from fun W=>upTo_any W n.up.length hn5
 have HG:=show Hid (Wd.Good m∧Wd.Good n∧Fit m∧Fit n∧m.val.length=m.up.length∧n.val.length=n.up.length) from ⟨hmG,hnG,hmf,hnf,hmv,hnv⟩
 have HFB:=show Hid (∀ k (hk:k<fl.length),∃ c:Nat,fl[k]=(c:Int)∧c<n.up.length∧numF fl k=c) from fun k hk=>by
  have h:=hfb _ (List.getElem_mem hk)
  exact ⟨fl[k].toNat,by omega,by omega,numF_at hk⟩
 have HFL:=show Hid (fl.length=m.up.length) from hfl
 obtain ⟨pf,cf,rfl,hfat⟩:=hf
 obtain ⟨pm,cm,rfl⟩:=IsS.form hm.up
 obtain ⟨pvm,cvm,rfl,hmr⟩:=hm.val.row
 obtain ⟨pn,cn,rfl⟩:=IsS.form hn.up
 obtain ⟨pvn,cvn,rfl,hnr⟩:=hn.val.row
 have HFA:=show Hid (∀ k (hk:k<fl.length),∃ b o,b<w.heap.size∧pf=some ⟨b,o,none⟩∧w.cell? ⟨b,o+k,none⟩=some (.int .i64 fl[k])) from fun k hk=>by
  obtain ⟨b,o,_,h1,h2⟩:=hfat (by omega)
  obtain ⟨x,hx,rfl⟩:=h2 k hk
  exact ⟨b,o,World.block_lt_of_cell? w _ hx,h1,hx⟩
 have HMV:=show Hid (∀ (j:Nat) (hj:j<m.val.length),∃ b o q n,pvm=some ⟨b,o,none⟩∧b<w.heap.size∧w.cell? ⟨b,o+j,none⟩=some (.slice q m.val[j].length n)∧IsN w w.heap.size (.slice q m.val[j].length n) m.val[j]) from fun j hj=>by
  obtain ⟨b,o,q,n',h1,h2,h3,h4⟩:=hmr j hj
  exact ⟨b,o,q,n',h1,by omega,h3,IsS.wide h4 hL⟩
 have HNV:=show Hid (∀ (j:Nat) (hj:j<n.val.length),∃ b o q n',pvn=some ⟨b,o,none⟩∧b<w.heap.size∧w.cell? ⟨b,o+j,none⟩=some (.slice q n.val[j].length n')∧IsN w w.heap.size (.slice q n.val[j].length n') n.val[j]) from fun j hj=>by
  obtain ⟨b,o,q,n',h1,h2,h3,h4⟩:=hnr j hj
  exact ⟨b,o,q,n',h1,by omega,h3,IsS.wide h4 hL⟩
 clear hm hmf hmG hn hnf hnG hL hfl hfb hfat hmr hnr hm1 hn1 hmv hnv
 go_enter Try.func51,Try.ntmps51
 go_wp2_with (refine wpList_box 25 _ rfl _ rfl rfl ?_)
 intro w1 b3 hN1
 have H1:=show Hid (Below w.heap.size w w1∧Cl w1 b3 #[.slice pm m.up.length cm,.slice pvm m.val.length cvm] 25) from ⟨hN1.bel,hN1.blk⟩
 clear hN1
 go_wp2_with (refine wpList_box 25 _ rfl _ rfl rfl ?_)
 intro w2 b4 hN2
 have H2:=show Hid (∀ W,Below w2.heap.size w2 W→Below w.heap.size w W∧Cl W b3 #[.slice pm m.up.length cm,.slice pvm m.val.length cvm] 25∧Cl W b4 #[.slice pn n.up.length cn,.slice pvn n.val.length cvn] 25) from fun W hW=>by
  have h:=H1.out.1.trans (hN2.bel.mono H1.out.1.size)
  exact ⟨h.trans (hW.mono h.size),(H1.out.2.later hN2.bel).later hW,(show Cl w2 b4 #[.slice pn n.up.length cn,.slice pvn n.val.length cvn] 25 from hN2.blk).later hW⟩
 clear hN2 H1
 go_wp2_with fail
 refine wp_region_dep (by kernel_rfl) [some 11,some 12,some 13,some 14,some 15,some 16,some 17,some 18,some 19,some 7,some 8] [[],[],[0,1],[],[],[4],[5],[6],[3,7],[2],[8]] [[],[],[0,1],[],[],[4],[5,4],[6,5,4],[3,7,6,5,4],[2,0,1],[8,3,7,6,5,4]] (by kernel_rfl) (by decide) (fun i v W=>match i with | 0=>v=.agg #[.slice pm m.up.length cm,.slice pvm m.val.length cvm] | 1=>v=.slice pf fl.length cf | 2=>∃ A ws,v=.slice (some ⟨A,0,none⟩) m.up.length m.up.length∧Ws W A (m.up.length * 8) 103 ws∧(∀ a c,a<m.up.length→(abW ws a c=true ↔ ∃ b,Rc m.up a b∧numF fl b=c)) | 3=>v=.agg #[.slice pn n.up.length cn,.slice pvn n.val.length cvn] | 4=>v=.pointer (some ⟨b4,0,none⟩) | 5=>v=.slice pn n.up.length cn | 6=>v=.int .i64 (n.up.length:Int) | 7=>∃ p c,v=.slice p n.up.length c∧IsI W W.heap.size v ((List.range n.up.length).map fun k:Nat=>(k:Int)) | 8=>∃ A ws,v=.slice (some ⟨A,0,none⟩) n.up.length n.up.length∧Ws W A (n.up.length * 8) 103 ws∧(∀ a c,a<n.up.length→(abW ws a c=true ↔ Rc n.up a c)) | 9=>∃ A ws,v=.slice (some ⟨A,0,none⟩) m.up.length m.up.length∧Ws W A (m.up.length * 8) 103 ws∧(∀ a c,a<m.up.length→(abW ws a c=true ↔ ∃ b,Rc m.up a b∧numF fl b=c)) | 10=>∃ A ws,v=.slice (some ⟨A,0,none⟩) n.up.length n.up.length∧Ws W A (n.up.length * 8) 103 ws∧(∀ a c,a<n.up.length→(abW ws a c=true ↔ Rc n.up a c)) | _=>True) (fun _ W=>Below w2.heap.size w2 W) (fun _ W W'=>Below W.heap.size W W') ?hle ((Below.refl _ _).drew) (allLt 11 ?steps) ?fin
 case hle =>
  intro i j v W W' hij hn hl h
  match j,h with
  | 0,h=>exact h
  | 1,h=>exact h
  | 2,h =>
   obtain ⟨A,ws,h1,h2,h3⟩:=h
   exact ⟨A,ws,h1,h2.keep (hl.block A h2.row.lt),h3⟩
  | 3,h=>exact h
  | 4,h=>exact h
  | 5,h=>exact h
  | 6,h=>exact h
  | 7,h =>
   obtain ⟨p,c,h1,h2⟩:=h
   exact ⟨p,c,h1,IsS.wide (h2.keep fun k hk=>hl.block k hk) hl.size⟩
  | 8,h =>
   obtain ⟨A,ws,h1,h2,h3⟩:=h
   exact ⟨A,ws,h1,h2.keep (hl.block A h2.row.lt),h3⟩
  | 9,h =>
   obtain ⟨A,ws,h1,h2,h3⟩:=h
   exact ⟨A,ws,h1,h2.keep (hl.block A h2.row.lt),h3⟩
  | 10,h =>
   obtain ⟨A,ws,h1,h2,h3⟩:=h
   exact ⟨A,ws,h1,h2.keep (hl.block A h2.row.lt),h3⟩
  | _+11,_=>trivial
 case steps =>
  refine ⟨⟨⟨⟨⟨⟨⟨⟨⟨⟨⟨trivial,?s0⟩,?s1⟩,?s2⟩,?s3⟩,?s4⟩,?s5⟩,?s6⟩,?s7⟩,?s8⟩,?s9⟩,?s10⟩
  case s0 =>
   intro done a W hW hd hnd hno hO hN
   have o3:a.tmps[3]?=some (.pointer (some ⟨b3,0,none⟩)):=(hO.out 3 (by decide)).trans rfl
   have hl:=run_ldM (H2.out W hW).2.1
   exact relVal rfl (.agg #[.slice pm m.up.length cm,.slice pvm m.val.length cvm]) _ rfl (by simp [execOp,Act.eval,o3,hl,Result.andThen]) ⟨_,rfl,rfl,hW,Below.refl _ _⟩
  case s1 =>
   intro done a W hW hd hnd hno hO hN
   have o2:a.tmps[2]?=some (.slice pf fl.length cf):=(hO.out 2 (by decide)).trans rfl
   exact relVal rfl (.slice pf fl.length cf) _ rfl (by go_simp) ⟨_,rfl,rfl,hW,Below.refl _ _⟩
  case s2 =>
   intro done a W hW hd hnd hno hO hN
   obtain ⟨v0,g0,r0⟩:=hN 0 (by decide)
   have g0:a.tmps[11]?=some v0:=g0
   have e0:v0=.agg #[.slice pm m.up.length cm,.slice pvm m.val.length cvm]:=r0
   rw [e0] at g0
   obtain ⟨v1,g1,r1⟩:=hN 1 (by decide)
   have g1:a.tmps[12]?=some v1:=g1
   have e1:v1=.slice pf fl.length cf:=r1
   rw [e1] at g1
   refine relCallF rfl rfl 65 [.tmp 11,.tmp 12] #[25,27] rfl [.agg #[.slice pm m.up.length cm,.slice pvm m.val.length cvm],.slice pf fl.length cf] (by simp [Act.eval,g0,g1]) (fun _ _=>by kernel_rfl) (Calls.mono (HS1.out W (H2.out W hW).1) ?_)
   rintro e W2 ⟨A,rfl,ws,h1,h2,h3,h4⟩
   exact ⟨_,rfl,_,rfl,⟨A,ws,rfl,h1,h2⟩,hW.trans (h4.mono hW.size),h4⟩
  case s3 =>
   intro done a W hW hd hnd hno hO hN
   have o4:a.tmps[4]?=some (.pointer (some ⟨b4,0,none⟩)):=(hO.out 4 (by decide)).trans rfl
   have hl:=run_ldM (H2.out W hW).2.2
   exact relVal rfl (.agg #[.slice pn n.up.length cn,.slice pvn n.val.length cvn]) _ rfl (by simp [execOp,Act.eval,o4,hl,Result.andThen]) ⟨_,rfl,rfl,hW,Below.refl _ _⟩
  case s4 =>
   intro done a W hW hd hnd hno hO hN
   have o4:a.tmps[4]?=some (.pointer (some ⟨b4,0,none⟩)):=(hO.out 4 (by decide)).trans rfl
   exact relVal rfl (.pointer (some ⟨b4,0,none⟩)) _ rfl (by go_simp) ⟨_,rfl,rfl,hW,Below.refl _ _⟩
  case s5 =>
   intro done a W hW hd hnd hno hO hN
   obtain ⟨v4,g4,r4⟩:=hN 4 (by decide)
   have g4:a.tmps[15]?=some v4:=g4
   have e4:v4=.pointer (some ⟨b4,0,none⟩):=r4
   rw [e4] at g4
   have c0:W.cell? ⟨b4,0,none⟩=some (.slice pn n.up.length cn):=(H2.out W hW).2.2.cell 0
   exact relVal rfl (.slice pn n.up.length cn) _ rfl (by go_simp) ⟨_,rfl,rfl,hW,Below.refl _ _⟩
  case s6 =>
   intro done a W hW hd hnd hno hO hN
   obtain ⟨v5,g5,r5⟩:=hN 5 (by decide)
   have g5:a.tmps[16]?=some v5:=g5
   have e5:v5=.slice pn n.up.length cn:=r5
   rw [e5] at g5
   exact relVal rfl (.int .i64 (n.up.length:Int)) _ rfl (by go_simp) ⟨_,rfl,rfl,hW,Below.refl _ _⟩
  case s7 =>
   intro done a W hW hd hnd hno hO hN
   obtain ⟨v6,g6,r6⟩:=hN 6 (by decide)
   have g6:a.tmps[17]?=some v6:=g6
   have e6:v6=.int .i64 (n.up.length:Int):=r6
   rw [e6] at g6
   refine relCallF rfl rfl 74 [.tmp 17] #[3] rfl [.int .i64 (n.up.length:Int)] (by simp [Act.eval,g6]) (fun _ _=>by kernel_rfl) (Calls.mono (HU.out W) ?_)
   rintro e W2 ⟨v,rfl,h1,h2⟩
   obtain ⟨p,c,e9⟩:=h1.slice
   exact ⟨_,rfl,_,rfl,⟨p,c,by rw [e9];simp,h1.isI⟩,hW.trans (h2.mono hW.size),h2⟩
  case s8 =>
   intro done a W hW hd hnd hno hO hN
   obtain ⟨v3,g3,r3⟩:=hN 3 (by decide)
   have g3:a.tmps[14]?=some v3:=g3
   have e3:v3=.agg #[.slice pn n.up.length cn,.slice pvn n.val.length cvn]:=r3
   rw [e3] at g3
   obtain ⟨v7,g7,r7⟩:=hN 7 (by decide)
   have g7:a.tmps[18]?=some v7:=g7
   obtain ⟨p7,c7,e7,hI7⟩:=r7
   rw [e7] at g7 hI7
   refine relCallF rfl rfl 65 [.tmp 14,.tmp 18] #[25,27] rfl [.agg #[.slice pn n.up.length cn,.slice pvn n.val.length cvn],.slice p7 n.up.length c7] (by simp [Act.eval,g3,g7]) (fun _ _=>by kernel_rfl) (Calls.mono (HS2.out W _ (H2.out W hW).1 hI7) ?_)
   rintro e W2 ⟨A,rfl,ws,h1,h2,h3,h4⟩
   exact ⟨_,rfl,_,rfl,⟨A,ws,rfl,h1,h2⟩,hW.trans (h4.mono hW.size),h4⟩
  case s9 =>
   intro done a W hW hd hnd hno hO hN
   obtain ⟨v2,g2,r2⟩:=hN 2 (by decide)
   have g2:a.tmps[13]?=some v2:=g2
   obtain ⟨A2,ws2,e2,hA2,hC2⟩:=r2
   rw [e2] at g2
   exact relVal rfl (.slice (some ⟨A2,0,none⟩) m.up.length m.up.length) _ rfl (by go_simp) ⟨_,rfl,⟨A2,ws2,rfl,hA2,hC2⟩,hW,Below.refl _ _⟩
  case s10 =>
   intro done a W hW hd hnd hno hO hN
   obtain ⟨v8,g8,r8⟩:=hN 8 (by decide)
   have g8:a.tmps[19]?=some v8:=g8
   obtain ⟨A8,ws8,e8,hA8,hC8⟩:=r8
   rw [e8] at g8
   exact relVal rfl (.slice (some ⟨A8,0,none⟩) n.up.length n.up.length) _ rfl (by go_simp) ⟨_,rfl,⟨A8,ws8,rfl,hA8,hC8⟩,hW,Below.refl _ _⟩
 case fin =>
  intro vs done w1 hdone hS hV
  obtain ⟨A,ws,e9,hA,hCA⟩:∃ A ws,vs 9=.slice (some ⟨A,0,none⟩) m.up.length m.up.length∧Ws w1 A (m.up.length * 8) 103 ws∧(∀ a c,a<m.up.length→(abW ws a c=true ↔ ∃ b,Rc m.up a b∧numF fl b=c)):=hV 9 (by decide)
  obtain ⟨B,wt,e10,hB,hCB⟩:∃ A ws,vs 10=.slice (some ⟨A,0,none⟩) n.up.length n.up.length∧Ws w1 A (n.up.length * 8) 103 ws∧(∀ a c,a<n.up.length→(abW ws a c=true ↔ Rc n.up a c)):=hV 10 (by decide)
  have H3:=show Hid (∀ W,Below w1.heap.size w1 W→Below w.heap.size w W∧W.cell? ⟨b3,1,none⟩=some (.slice pvm m.val.length cvm)∧W.cell? ⟨b4,1,none⟩=some (.slice pvn n.val.length cvn)∧Ws W A (m.up.length * 8) 103 ws∧Ws W B (n.up.length * 8) 103 wt) from fun W hW=>by
   have h:=H2.out W (hS.trans (hW.mono hS.size))
   exact ⟨h.1,h.2.1.cell 1,h.2.2.cell 1,hA.keep (hW.block A hA.row.lt),hB.keep (hW.block B hB.row.lt)⟩
  have HCH:=show Hid ((∀ a c,a<m.up.length→(abW ws a c=true ↔ ∃ b,Rc m.up a b∧numF fl b=c))∧(∀ a c,a<n.up.length→(abW wt a c=true ↔ Rc n.up a c))∧(∀ k,ws k<18446744073709551616)∧∀ k,wt k<18446744073709551616) from ⟨hCA,hCB,hA.lt,hB.lt⟩
  simp only [putAll,Act.put,List.setIfInBounds_toArray,List.set_cons_zero,List.set_cons_succ,Nat.reduceAdd,e9,e10]
  clear hV hS hA hB hCA hCB e9 e10 HS1 HS2 HU H2
  go_wp2_with fail
  generalize w1=w0 at *
  have HA0:=show Hid (Below w0.heap.size w0 w0) from Below.refl _ _
  go_loopw [9,10,22] (fun _ _ i wr=>∃ k:Nat,k≤fl.length∧i=.int .i64 (k:Int)∧Hid (Below w0.heap.size w0 wr)∧Hid (∀ a,a<k→vl m a=vl n (numF fl a)∧∀ c,(∃ b,Rc m.up a b∧numF fl b=c) ↔ Rc n.up (numF fl a) c)) (fun _ _ i _=>fl.length - (intOf i).toNat)
  case atStart=>exact ⟨0,Nat.zero_le _,rfl,HA0.out,fun a h=>absurd h (Nat.not_lt_zero _)⟩
  case round =>
   clear HA0
   obtain ⟨k,hk,rfl,HB0,HI⟩:=hrel
   by_cases hlt:k<fl.length
   ·obtain ⟨c,hce,hcn,hcf⟩:=HFB.out k hlt
    obtain ⟨bf,of,hbf,rfl,hcc⟩:=HFA.out k hlt
    have hkm:k<m.up.length:=by have:=HFL.out;omega
    have hkv:k<m.val.length:=by have:=HG.out.2.2.2.2.1;omega
    have hcv:c<n.val.length:=by have:=HG.out.2.2.2.2.2;omega
    obtain ⟨bm,om,qm,nm,rfl,hbm,hcm,him⟩:=HMV.out k hkv
    obtain ⟨bn,on,qn,nn,rfl,hbn,hcn2,hin⟩:=HNV.out c hcv
    have HBW:=show Hid (∀ W,Below wr.heap.size wr W→Below w.heap.size w W) from fun W hW=>(H3.out W (HB0.out.trans (hW.mono HB0.out.size))).1
    have c0:wr.cell? ⟨bf,of+k,none⟩=some (.int .i64 (c:Int)):=by
     rw [← hce]
     exact (World.cell?_of_block (a:=⟨bf,of+k,none⟩) ((HBW.out wr (Below.refl _ _)).block bf hbf)).trans hcc
    have HE:=show Hid (m.val[k]=vl m k∧n.val[c]=vl n (numF fl k)) from ⟨(vl_at hkv).symm,by rw [hcf];exact (vl_at hcv).symm⟩
    have HLN:=show Hid (m.val[k].length≤140737488351232∧n.val[c].length≤140737488351232) from ⟨(HG.out.2.2.1.2.2.2 _ (List.getElem_mem hkv)).1,(HG.out.2.2.2.1.2.2.2 _ (List.getElem_mem hcv)).1⟩
    have HW:=show Hid (∀ W,Below wr.heap.size wr W→W.cell? ⟨b3,1,none⟩=some (.slice (some ⟨bm,om,none⟩) m.val.length cvm)∧W.cell? ⟨b4,1,none⟩=some (.slice (some ⟨bn,on,none⟩) n.val.length cvn)∧W.cell? ⟨bm,om+k,none⟩=some (.slice qm m.val[k].length nm)∧W.cell? ⟨bn,on+c,none⟩=some (.slice qn n.val[c].length nn)∧Ws W A (m.up.length * 8) 103 ws∧Ws W B (n.up.length * 8) 103 wt) from fun W hW=>by
     obtain ⟨x1,x2,x3,x4,x5⟩:=H3.out W (HB0.out.trans (hW.mono HB0.out.size))
     exact ⟨x2,x3,(World.cell?_of_block (a:=⟨bm,om+k,none⟩) (x1.block bm hbm)).trans hcm,(World.cell?_of_block (a:=⟨bn,on+c,none⟩) (x1.block bn hbn)).trans hcn2,x4,x5⟩
    have KE0:=show Hid (∀ W,Below wr.heap.size wr W→Calls Try.prog 64 #[.slice qm m.val[k].length nm,.slice qn n.val[c].length nn] W fun e w'=>(∃ r:Bool,e=.returned (.bool r)∧(r=true ↔ m.val[k]=n.val[c]))∧Below W.heap.size W w') from fun W hW=>eqlN_any W (IsN.keep him fun j hj=>(HBW.out W hW).block j hj) (IsN.keep hin fun j hj=>(HBW.out W hW).block j hj) HLN.out.1 HLN.out.2
    have HSM:=show Hid (((∀ c',(∃ b,Rc m.up k b∧numF fl b=c') ↔ Rc n.up (numF fl k) c')→∀ x,x<512→abW ws k x=abW wt c x)∧((∀ x,x<512→abW ws k x=abW wt c x)→∀ c',(∃ b,Rc m.up k b∧numF fl b=c') ↔ Rc n.up (numF fl k) c')∧k<m.up.length) from by
     obtain ⟨y1,y2,-,-⟩:=HCH.out
     rw [hcf]
     refine ⟨fun h x hx => ?_,fun h c' => ?_,hkm⟩
     ·rw [Bool.eq_iff_iff,y1 k x hkm,y2 c x hcn]
      exact h x
     ·have hb1:(∃ b,Rc m.up k b∧numF fl b=c')→c'<512:=fun ⟨b,h1,h2⟩=>by
       have h3:=rc_to HG.out.1 hkm h1
       obtain ⟨c2,_,h5,h6⟩:=HFB.out b (by rw [HFL.out];exact h3)
       omega
      have hb2:Rc n.up c c'→c'<512:=fun h1=>by
       have h3:=rc_to HG.out.2.1 hcn h1
       omega
      constructor
      ·intro h1
       have h2:=h c' (hb1 h1)
       rw [Bool.eq_iff_iff,y1 k c' hkm,y2 c c' hcn] at h2
       exact h2.1 h1
      ·intro h1
       have h2:=h c' (hb2 h1)
       rw [Bool.eq_iff_iff,y1 k c' hkm,y2 c c' hcn] at h2
       exact h2.2 h1
    have hki:(k:Int)<(fl.length:Int):=by omega
    have hkmi:(k:Int)<(m.up.length:Int):=by omega
    have hkvi:(k:Int)<(m.val.length:Int):=by omega
    have hcvi:(c:Int)<(n.val.length:Int):=by omega
    have hcni:(c:Int)<(n.up.length:Int):=by omega
    clear hcc hce hcm him hcn2 hin hcf HBW HLN
    generalize m.val[k]=xm at *
    generalize n.val[c]=xn at *
    by_cases hv:xm=xn
    ·have KE:=show Hid (∀ W,Below wr.heap.size wr W→Calls Try.prog 64 #[.slice qm xm.length nm,.slice qn xn.length nn] W fun e w'=>e=.returned (.bool true)∧Below W.heap.size W w') from fun W hW=>(KE0.out W hW).mono fun e w' ⟨⟨r,h1,h2⟩,h3⟩=>⟨by rw [h1,h2.2 hv],h3⟩
     have HEV:=show Hid (vl m k=vl n (numF fl k)) from by
      show vl m k=vl n (numF fl k)
      rw [← HE.out.1,← HE.out.2,hv]
     clear KE0 hv HE
     go_wp2_with fail
     refine wp_region_dep (by kernel_rfl) [some 27,some 28,some 29,some 30,some 31,some 32,some 33,some 34,some 35,some 36,some 37,some 38,some 39,some 40,some 41,some 42,some 43,some 44,some 45,some 46,some 47,some 48,some 49] [[],[0],[],[1,2],[3],[],[5],[],[6,7],[8],[4,9],[10],[11],[12],[12],[13,14,12],[15,12],[12],[12],[17,18,12],[19,12],[16,20,12],[12,21]] [[],[0],[],[1,0,2],[3,1,0,2],[],[5],[],[6,5,7],[8,6,5,7],[4,3,1,0,2,9,8,6,5,7],[10,4,3,1,0,2,9,8,6,5,7],[11,10,4,3,1,0,2,9,8,6,5,7],[12,11,10,4,3,1,0,2,9,8,6,5,7],[12,11,10,4,3,1,0,2,9,8,6,5,7],[13,12,11,10,4,3,1,0,2,9,8,6,5,7,14],[15,13,12,11,10,4,3,1,0,2,9,8,6,5,7,14],[12,11,10,4,3,1,0,2,9,8,6,5,7],[12,11,10,4,3,1,0,2,9,8,6,5,7],[17,12,11,10,4,3,1,0,2,9,8,6,5,7,18],[19,17,12,11,10,4,3,1,0,2,9,8,6,5,7,18],[16,15,13,12,11,10,4,3,1,0,2,9,8,6,5,7,14,20,19,17,18],[12,11,10,4,3,1,0,2,9,8,6,5,7,21,16,15,13,14,20,19,17,18]] (by kernel_rfl) (by decide) (fun i v W=>match i with | 0=>v=.pointer (some ⟨b3,1,none⟩) | 1=>v=.slice (some ⟨bm,om,none⟩) m.val.length cvm | 2=>v=.int .i64 (k:Int) | 3=>v=.pointer (some ⟨bm,om+k,none⟩) | 4=>v=.slice qm xm.length nm | 5=>v=.pointer (some ⟨b4,1,none⟩) | 6=>v=.slice (some ⟨bn,on,none⟩) n.val.length cvn | 7=>v=.int .i64 (c:Int) | 8=>v=.pointer (some ⟨bn,on+c,none⟩) | 9=>v=.slice qn xn.length nn | 10=>v=.bool true | 11=>v=.bool false | 12=>v=.bool false | 13=>v=.slice (some ⟨A,0,none⟩) m.up.length m.up.length | 14=>v=.int .i64 (k:Int) | 15=>v=.pointer (some ⟨A,k * 8,none⟩) | 16=>v=.agg (c8 ws k).toArray | 17=>v=.slice (some ⟨B,0,none⟩) n.up.length n.up.length | 18=>v=.int .i64 (c:Int) | 19=>v=.pointer (some ⟨B,c * 8,none⟩) | 20=>v=.agg (c8 wt c).toArray | 21=>v=.bool (!(same8 ws wt k c)) | 22=>v=.bool (!(same8 ws wt k c)) | _=>True) (fun _ W=>Below wr.heap.size wr W) (fun _ W W'=>Below W.heap.size W W') ?hle ((Below.refl _ _).drew) (allLt 23 ?steps) ?fin
     case hle =>
      intro i j v W W' hij hn hl h
      match j,h with
      | 0,h=>exact h
      | 1,h=>exact h
      | 2,h=>exact h
      | 3,h=>exact h
      | 4,h=>exact h
      | 5,h=>exact h
      | 6,h=>exact h
      | 7,h=>exact h
      | 8,h=>exact h
      | 9,h=>exact h
      | 10,h=>exact h
      | 11,h=>exact h
      | 12,h=>exact h
      | 13,h=>exact h
      | 14,h=>exact h
      | 15,h=>exact h
      | 16,h=>exact h
      | 17,h=>exact h
      | 18,h=>exact h
      | 19,h=>exact h
      | 20,h=>exact h
      | 21,h=>exact h
      | 22,h=>exact h
      | _+23,_=>trivial
     case steps =>
      refine ⟨⟨⟨⟨⟨⟨⟨⟨⟨⟨⟨⟨⟨⟨⟨⟨⟨⟨⟨⟨⟨⟨⟨trivial,?s0⟩,?s1⟩,?s2⟩,?s3⟩,?s4⟩,?s5⟩,?s6⟩,?s7⟩,?s8⟩,?s9⟩,?s10⟩,?s11⟩,?s12⟩,?s13⟩,?s14⟩,?s15⟩,?s16⟩,?s17⟩,?s18⟩,?s19⟩,?s20⟩,?s21⟩,?s22⟩
      case s0 =>
       intro done a W hW hd hnd hno hO hN
       have o3:a.tmps[3]?=some (.pointer (some ⟨b3,0,none⟩)):=(hO.out 3 (by decide)).trans rfl
       exact relVal rfl (.pointer (some ⟨b3,1,none⟩)) _ rfl (by go_simp) ⟨_,rfl,rfl,hW,Below.refl _ _⟩
      case s1 =>
       intro done a W hW hd hnd hno hO hN
       obtain ⟨v0,g0,r0⟩:=hN 0 (by decide)
       have g0:a.tmps[27]?=some v0:=g0
       have e0:v0=.pointer (some ⟨b3,1,none⟩):=r0
       rw [e0] at g0
       have c0:W.cell? ⟨b3,1,none⟩=some (.slice (some ⟨bm,om,none⟩) m.val.length cvm):=(HW.out W hW).1
       exact relVal rfl (.slice (some ⟨bm,om,none⟩) m.val.length cvm) _ rfl (by go_simp) ⟨_,rfl,rfl,hW,Below.refl _ _⟩
      case s2 =>
       intro done a W hW hd hnd hno hO hN
       have o9:a.tmps[9]?=some (.int .i64 (k:Int)):=(hO.out 9 (by decide)).trans rfl
       exact relVal rfl (.int .i64 (k:Int)) _ rfl (by go_simp) ⟨_,rfl,rfl,hW,Below.refl _ _⟩
      case s3 =>
       intro done a W hW hd hnd hno hO hN
       obtain ⟨v1,g1,r1⟩:=hN 1 (by decide)
       have g1:a.tmps[28]?=some v1:=g1
       have e1:v1=.slice (some ⟨bm,om,none⟩) m.val.length cvm:=r1
       rw [e1] at g1
       obtain ⟨v2,g2,r2⟩:=hN 2 (by decide)
       have g2:a.tmps[29]?=some v2:=g2
       have e2:v2=.int .i64 (k:Int):=r2
       rw [e2] at g2
       exact relVal rfl (.pointer (some ⟨bm,om+k,none⟩)) _ rfl (by go_simp) ⟨_,rfl,rfl,hW,Below.refl _ _⟩
      case s4 =>
       intro done a W hW hd hnd hno hO hN
       obtain ⟨v3,g3,r3⟩:=hN 3 (by decide)
       have g3:a.tmps[30]?=some v3:=g3
       have e3:v3=.pointer (some ⟨bm,om+k,none⟩):=r3
       rw [e3] at g3
       have c0:W.cell? ⟨bm,om+k,none⟩=some (.slice qm xm.length nm):=(HW.out W hW).2.2.1
       exact relVal rfl (.slice qm xm.length nm) _ rfl (by go_simp) ⟨_,rfl,rfl,hW,Below.refl _ _⟩
      case s5 =>
       intro done a W hW hd hnd hno hO hN
       have o4:a.tmps[4]?=some (.pointer (some ⟨b4,0,none⟩)):=(hO.out 4 (by decide)).trans rfl
       exact relVal rfl (.pointer (some ⟨b4,1,none⟩)) _ rfl (by go_simp) ⟨_,rfl,rfl,hW,Below.refl _ _⟩
      case s6 =>
       intro done a W hW hd hnd hno hO hN
       obtain ⟨v5,g5,r5⟩:=hN 5 (by decide)
       have g5:a.tmps[32]?=some v5:=g5
       have e5:v5=.pointer (some ⟨b4,1,none⟩):=r5
       rw [e5] at g5
       have c0:W.cell? ⟨b4,1,none⟩=some (.slice (some ⟨bn,on,none⟩) n.val.length cvn):=(HW.out W hW).2.1
       exact relVal rfl (.slice (some ⟨bn,on,none⟩) n.val.length cvn) _ rfl (by go_simp) ⟨_,rfl,rfl,hW,Below.refl _ _⟩
      case s7 =>
       intro done a W hW hd hnd hno hO hN
       have o10:a.tmps[10]?=some (.int .i64 (c:Int)):=(hO.out 10 (by decide)).trans rfl
       exact relVal rfl (.int .i64 (c:Int)) _ rfl (by go_simp) ⟨_,rfl,rfl,hW,Below.refl _ _⟩
      case s8 =>
       intro done a W hW hd hnd hno hO hN
       obtain ⟨v6,g6,r6⟩:=hN 6 (by decide)
       have g6:a.tmps[33]?=some v6:=g6
       have e6:v6=.slice (some ⟨bn,on,none⟩) n.val.length cvn:=r6
       rw [e6] at g6
       obtain ⟨v7,g7,r7⟩:=hN 7 (by decide)
       have g7:a.tmps[34]?=some v7:=g7
       have e7:v7=.int .i64 (c:Int):=r7
       rw [e7] at g7
       exact relVal rfl (.pointer (some ⟨bn,on+c,none⟩)) _ rfl (by go_simp) ⟨_,rfl,rfl,hW,Below.refl _ _⟩
      case s9 =>
       intro done a W hW hd hnd hno hO hN
       obtain ⟨v8,g8,r8⟩:=hN 8 (by decide)
       have g8:a.tmps[35]?=some v8:=g8
       have e8:v8=.pointer (some ⟨bn,on+c,none⟩):=r8
       rw [e8] at g8
       have c0:W.cell? ⟨bn,on+c,none⟩=some (.slice qn xn.length nn):=(HW.out W hW).2.2.2.1
       exact relVal rfl (.slice qn xn.length nn) _ rfl (by go_simp) ⟨_,rfl,rfl,hW,Below.refl _ _⟩
      case s10 =>
       intro done a W hW hd hnd hno hO hN
       obtain ⟨v4,g4,r4⟩:=hN 4 (by decide)
       have g4:a.tmps[31]?=some v4:=g4
       have e4:v4=.slice qm xm.length nm:=r4
       rw [e4] at g4
       obtain ⟨v9,g9,r9⟩:=hN 9 (by decide)
       have g9:a.tmps[36]?=some v9:=g9
       have e9:v9=.slice qn xn.length nn:=r9
       rw [e9] at g9
       refine relCallF rfl rfl 64 [.tmp 31,.tmp 36] #[34,34] rfl [.slice qm xm.length nm,.slice qn xn.length nn] (by simp [Act.eval,g4,g9]) (fun _ _=>by kernel_rfl) (Calls.mono (KE.out W hW) ?_)
       rintro e W2 ⟨rfl,h2⟩
       exact ⟨_,rfl,_,rfl,rfl,hW.trans (h2.mono hW.size),h2⟩
      case s11 =>
       intro done a W hW hd hnd hno hO hN
       obtain ⟨v10,g10,r10⟩:=hN 10 (by decide)
       have g10:a.tmps[37]?=some v10:=g10
       have e10:v10=.bool true:=r10
       rw [e10] at g10
       exact relVal rfl (.bool false) _ rfl (by go_simp) ⟨_,rfl,rfl,hW,Below.refl _ _⟩
      case s12 =>
       intro done a W hW hd hnd hno hO hN
       obtain ⟨v11,g11,r11⟩:=hN 11 (by decide)
       have g11:a.tmps[38]?=some v11:=g11
       have e11:v11=.bool false:=r11
       rw [e11] at g11
       exact relVal rfl (.bool false) _ rfl (by go_simp) ⟨_,rfl,rfl,hW,Below.refl _ _⟩
      case s13 =>
       intro done a W hW hd hnd hno hO hN
       obtain ⟨v12,g12,r12⟩:=hN 12 (by decide)
       have g12:a.tmps[39]?=some v12:=g12
       have e12:v12=.bool false:=r12
       rw [e12] at g12
       have o7:a.tmps[7]?=some (.slice (some ⟨A,0,none⟩) m.up.length m.up.length):=(hO.out 7 (by decide)).trans rfl
       exact relValW rfl (.slice (some ⟨A,0,none⟩) m.up.length m.up.length) _ ((wanted_is rfl rfl g12).trans rfl) (by go_simp) ⟨_,rfl,rfl,hW,Below.refl _ _⟩
      case s14 =>
       intro done a W hW hd hnd hno hO hN
       obtain ⟨v12,g12,r12⟩:=hN 12 (by decide)
       have g12:a.tmps[39]?=some v12:=g12
       have e12:v12=.bool false:=r12
       rw [e12] at g12
       have o9:a.tmps[9]?=some (.int .i64 (k:Int)):=(hO.out 9 (by decide)).trans rfl
       exact relValW rfl (.int .i64 (k:Int)) _ ((wanted_is rfl rfl g12).trans rfl) (by go_simp) ⟨_,rfl,rfl,hW,Below.refl _ _⟩
      case s15 =>
       intro done a W hW hd hnd hno hO hN
       obtain ⟨v13,g13,r13⟩:=hN 13 (by decide)
       have g13:a.tmps[40]?=some v13:=g13
       have e13:v13=.slice (some ⟨A,0,none⟩) m.up.length m.up.length:=r13
       rw [e13] at g13
       obtain ⟨v14,g14,r14⟩:=hN 14 (by decide)
       have g14:a.tmps[41]?=some v14:=g14
       have e14:v14=.int .i64 (k:Int):=r14
       rw [e14] at g14
       obtain ⟨v12,g12,r12⟩:=hN 12 (by decide)
       have g12:a.tmps[39]?=some v12:=g12
       have e12:v12=.bool false:=r12
       rw [e12] at g12
       exact relValW rfl (.pointer (some ⟨A,k * 8,none⟩)) _ ((wanted_is rfl rfl g12).trans rfl) (by go_simp) ⟨_,rfl,rfl,hW,Below.refl _ _⟩
      case s16 =>
       intro done a W hW hd hnd hno hO hN
       obtain ⟨v15,g15,r15⟩:=hN 15 (by decide)
       have g15:a.tmps[42]?=some v15:=g15
       have e15:v15=.pointer (some ⟨A,k * 8,none⟩):=r15
       rw [e15] at g15
       obtain ⟨v12,g12,r12⟩:=hN 12 (by decide)
       have g12:a.tmps[39]?=some v12:=g12
       have e12:v12=.bool false:=r12
       rw [e12] at g12
       have hl:=ldSet (HW.out W hW).2.2.2.2.1 (a:=k) (by omega)
       exact relValW rfl (.agg (c8 ws k).toArray) _ ((wanted_is rfl rfl g12).trans rfl) (by simp [execOp,Act.eval,g15,hl,Result.andThen]) ⟨_,rfl,rfl,hW,Below.refl _ _⟩
      case s17 =>
       intro done a W hW hd hnd hno hO hN
       obtain ⟨v12,g12,r12⟩:=hN 12 (by decide)
       have g12:a.tmps[39]?=some v12:=g12
       have e12:v12=.bool false:=r12
       rw [e12] at g12
       have o8:a.tmps[8]?=some (.slice (some ⟨B,0,none⟩) n.up.length n.up.length):=(hO.out 8 (by decide)).trans rfl
       exact relValW rfl (.slice (some ⟨B,0,none⟩) n.up.length n.up.length) _ ((wanted_is rfl rfl g12).trans rfl) (by go_simp) ⟨_,rfl,rfl,hW,Below.refl _ _⟩
      case s18 =>
       intro done a W hW hd hnd hno hO hN
       obtain ⟨v12,g12,r12⟩:=hN 12 (by decide)
       have g12:a.tmps[39]?=some v12:=g12
       have e12:v12=.bool false:=r12
       rw [e12] at g12
       have o10:a.tmps[10]?=some (.int .i64 (c:Int)):=(hO.out 10 (by decide)).trans rfl
       exact relValW rfl (.int .i64 (c:Int)) _ ((wanted_is rfl rfl g12).trans rfl) (by go_simp) ⟨_,rfl,rfl,hW,Below.refl _ _⟩
      case s19 =>
       intro done a W hW hd hnd hno hO hN
       obtain ⟨v17,g17,r17⟩:=hN 17 (by decide)
       have g17:a.tmps[44]?=some v17:=g17
       have e17:v17=.slice (some ⟨B,0,none⟩) n.up.length n.up.length:=r17
       rw [e17] at g17
       obtain ⟨v18,g18,r18⟩:=hN 18 (by decide)
       have g18:a.tmps[45]?=some v18:=g18
       have e18:v18=.int .i64 (c:Int):=r18
       rw [e18] at g18
       obtain ⟨v12,g12,r12⟩:=hN 12 (by decide)
       have g12:a.tmps[39]?=some v12:=g12
       have e12:v12=.bool false:=r12
       rw [e12] at g12
       exact relValW rfl (.pointer (some ⟨B,c * 8,none⟩)) _ ((wanted_is rfl rfl g12).trans rfl) (by go_simp) ⟨_,rfl,rfl,hW,Below.refl _ _⟩
      case s20 =>
       intro done a W hW hd hnd hno hO hN
       obtain ⟨v19,g19,r19⟩:=hN 19 (by decide)
       have g19:a.tmps[46]?=some v19:=g19
       have e19:v19=.pointer (some ⟨B,c * 8,none⟩):=r19
       rw [e19] at g19
       obtain ⟨v12,g12,r12⟩:=hN 12 (by decide)
       have g12:a.tmps[39]?=some v12:=g12
       have e12:v12=.bool false:=r12
       rw [e12] at g12
       have hl:=ldSet (HW.out W hW).2.2.2.2.2 (a:=c) (by omega)
       exact relValW rfl (.agg (c8 wt c).toArray) _ ((wanted_is rfl rfl g12).trans rfl) (by simp [execOp,Act.eval,g19,hl,Result.andThen]) ⟨_,rfl,rfl,hW,Below.refl _ _⟩
      case s21 =>
       intro done a W hW hd hnd hno hO hN
       obtain ⟨v16,g16,r16⟩:=hN 16 (by decide)
       have g16:a.tmps[43]?=some v16:=g16
       have e16:v16=.agg (c8 ws k).toArray:=r16
       rw [e16] at g16
       obtain ⟨v20,g20,r20⟩:=hN 20 (by decide)
       have g20:a.tmps[47]?=some v20:=g20
       have e20:v20=.agg (c8 wt c).toArray:=r20
       rw [e20] at g20
       obtain ⟨v12,g12,r12⟩:=hN 12 (by decide)
       have g12:a.tmps[39]?=some v12:=g12
       have e12:v12=.bool false:=r12
       rw [e12] at g12
       have hl:=equal_set W ws wt k c
       exact relValW rfl (.bool (!(same8 ws wt k c))) _ ((wanted_is rfl rfl g12).trans rfl) (by simp [execOp,Act.eval,g16,g20,eqGuard,binOp,hl,Result.andThen]) ⟨_,rfl,rfl,hW,Below.refl _ _⟩
      case s22 =>
       intro done a W hW hd hnd hno hO hN
       obtain ⟨v12,g12,r12⟩:=hN 12 (by decide)
       have g12:a.tmps[39]?=some v12:=g12
       have e12:v12=.bool false:=r12
       rw [e12] at g12
       obtain ⟨v21,g21,r21⟩:=hN 21 (by decide)
       have g21:a.tmps[48]?=some v21:=g21
       have e21:v21=.bool (!(same8 ws wt k c)):=r21
       rw [e21] at g21
       exact relVal rfl (.bool (!(same8 ws wt k c))) _ rfl (by go_simp) ⟨_,rfl,rfl,hW,Below.refl _ _⟩
     case fin =>
      intro vs done w1 hdone hS hV
      have e22:vs 22=.bool (!(same8 ws wt k c)):=hV 22 (by decide)
      have HB8:=show Hid (Below w0.heap.size w0 w1) from HB0.out.trans (hS.mono HB0.out.size)
      simp only [putAll,Act.put,List.setIfInBounds_toArray,List.set_cons_zero,List.set_cons_succ,Nat.reduceAdd,e22]
      clear hV hS e22 KE HB0 HW c0
      cases hq:same8 ws wt k c
      ·have HNO:=show Hid (¬ BndP m n fl) from fun h=>by
        have h2:=(same8_iff HCH.out.2.2.1 HCH.out.2.2.2).2 (HSM.out.1 (h k HSM.out.2.2).2)
        rw [hq] at h2;cases h2
       clear hq HSM
       go_wp2_with fail
       go_ret
       first | exact ⟨⟨false,rfl,⟨fun h=>(by cases h),fun h=>absurd h HNO.out⟩⟩,(H3.out _ HB8.out).1⟩ | exact ⟨Or.inl ⟨rfl,HNO.out⟩,(H3.out _ HB8.out).1⟩
      ·have HN:=show Hid (∀ a,a<k+1→vl m a=vl n (numF fl a)∧∀ c,(∃ b,Rc m.up a b∧numF fl b=c) ↔ Rc n.up (numF fl a) c) from fun a ha=>by
        by_cases e:a=k
        ·subst e
         exact ⟨HEV.out,HSM.out.2.1 ((same8_iff HCH.out.2.2.1 HCH.out.2.2.2).1 hq)⟩
        ·exact HI.out a (by omega)
       clear hq HSM HEV HI
       go_wp2_with fail
       go_roundw
       case rel=>exact ⟨k+1,by omega,val_int (by omega),HB8.out,HN.out⟩
       case measure=>(simp only [intOf];omega)
    ·have KE:=show Hid (∀ W,Below wr.heap.size wr W→Calls Try.prog 64 #[.slice qm xm.length nm,.slice qn xn.length nn] W fun e w'=>e=.returned (.bool false)∧Below W.heap.size W w') from fun W hW=>(KE0.out W hW).mono fun e w' ⟨⟨r,h1,h2⟩,h3⟩=>⟨by rw [h1];cases r;rfl;exact absurd (h2.1 rfl) hv,h3⟩
     have HNO:=show Hid (¬ BndP m n fl) from fun h=>hv (by rw [HE.out.1,HE.out.2];exact (h k hkm).1)
     clear KE0 hv HE HSM HI
     go_wp2_with fail
     refine wp_region_dep (by kernel_rfl) [some 27,some 28,some 29,some 30,some 31,some 32,some 33,some 34,some 35,some 36,some 37,some 38,some 39,some 40,some 41,some 42,some 43,some 44,some 45,some 46,some 47,some 48,some 49] [[],[0],[],[1,2],[3],[],[5],[],[6,7],[8],[4,9],[10],[11],[12],[12],[13,14,12],[15,12],[12],[12],[17,18,12],[19,12],[16,20,12],[12,21]] [[],[0],[],[1,0,2],[3,1,0,2],[],[5],[],[6,5,7],[8,6,5,7],[4,3,1,0,2,9,8,6,5,7],[10,4,3,1,0,2,9,8,6,5,7],[11,10,4,3,1,0,2,9,8,6,5,7],[12,11,10,4,3,1,0,2,9,8,6,5,7],[12,11,10,4,3,1,0,2,9,8,6,5,7],[13,12,11,10,4,3,1,0,2,9,8,6,5,7,14],[15,13,12,11,10,4,3,1,0,2,9,8,6,5,7,14],[12,11,10,4,3,1,0,2,9,8,6,5,7],[12,11,10,4,3,1,0,2,9,8,6,5,7],[17,12,11,10,4,3,1,0,2,9,8,6,5,7,18],[19,17,12,11,10,4,3,1,0,2,9,8,6,5,7,18],[16,15,13,12,11,10,4,3,1,0,2,9,8,6,5,7,14,20,19,17,18],[12,11,10,4,3,1,0,2,9,8,6,5,7,21,16,15,13,14,20,19,17,18]] (by kernel_rfl) (by decide) (fun i v W=>match i with | 0=>v=.pointer (some ⟨b3,1,none⟩) | 1=>v=.slice (some ⟨bm,om,none⟩) m.val.length cvm | 2=>v=.int .i64 (k:Int) | 3=>v=.pointer (some ⟨bm,om+k,none⟩) | 4=>v=.slice qm xm.length nm | 5=>v=.pointer (some ⟨b4,1,none⟩) | 6=>v=.slice (some ⟨bn,on,none⟩) n.val.length cvn | 7=>v=.int .i64 (c:Int) | 8=>v=.pointer (some ⟨bn,on+c,none⟩) | 9=>v=.slice qn xn.length nn | 10=>v=.bool false | 11=>v=.bool true | 12=>v=.bool true | 13=>v=undef | 14=>v=undef | 15=>v=undef | 16=>v=undef | 17=>v=undef | 18=>v=undef | 19=>v=undef | 20=>v=undef | 21=>v=undef | 22=>v=.bool true | _=>True) (fun _ W=>Below wr.heap.size wr W) (fun _ W W'=>Below W.heap.size W W') ?hle ((Below.refl _ _).drew) (allLt 23 ?steps) ?fin
     case hle =>
      intro i j v W W' hij hn hl h
      match j,h with
      | 0,h=>exact h
      | 1,h=>exact h
      | 2,h=>exact h
      | 3,h=>exact h
      | 4,h=>exact h
      | 5,h=>exact h
      | 6,h=>exact h
      | 7,h=>exact h
      | 8,h=>exact h
      | 9,h=>exact h
      | 10,h=>exact h
      | 11,h=>exact h
      | 12,h=>exact h
      | 13,h=>exact h
      | 14,h=>exact h
      | 15,h=>exact h
      | 16,h=>exact h
      | 17,h=>exact h
      | 18,h=>exact h
      | 19,h=>exact h
      | 20,h=>exact h
      | 21,h=>exact h
      | 22,h=>exact h
      | _+23,_=>trivial
     case steps =>
      refine ⟨⟨⟨⟨⟨⟨⟨⟨⟨⟨⟨⟨⟨⟨⟨⟨⟨⟨⟨⟨⟨⟨⟨trivial,?s0⟩,?s1⟩,?s2⟩,?s3⟩,?s4⟩,?s5⟩,?s6⟩,?s7⟩,?s8⟩,?s9⟩,?s10⟩,?s11⟩,?s12⟩,?s13⟩,?s14⟩,?s15⟩,?s16⟩,?s17⟩,?s18⟩,?s19⟩,?s20⟩,?s21⟩,?s22⟩
      case s0 =>
       intro done a W hW hd hnd hno hO hN
       have o3:a.tmps[3]?=some (.pointer (some ⟨b3,0,none⟩)):=(hO.out 3 (by decide)).trans rfl
       exact relVal rfl (.pointer (some ⟨b3,1,none⟩)) _ rfl (by go_simp) ⟨_,rfl,rfl,hW,Below.refl _ _⟩
      case s1 =>
       intro done a W hW hd hnd hno hO hN
       obtain ⟨v0,g0,r0⟩:=hN 0 (by decide)
       have g0:a.tmps[27]?=some v0:=g0
       have e0:v0=.pointer (some ⟨b3,1,none⟩):=r0
       rw [e0] at g0
       have c0:W.cell? ⟨b3,1,none⟩=some (.slice (some ⟨bm,om,none⟩) m.val.length cvm):=(HW.out W hW).1
       exact relVal rfl (.slice (some ⟨bm,om,none⟩) m.val.length cvm) _ rfl (by go_simp) ⟨_,rfl,rfl,hW,Below.refl _ _⟩
      case s2 =>
       intro done a W hW hd hnd hno hO hN
       have o9:a.tmps[9]?=some (.int .i64 (k:Int)):=(hO.out 9 (by decide)).trans rfl
       exact relVal rfl (.int .i64 (k:Int)) _ rfl (by go_simp) ⟨_,rfl,rfl,hW,Below.refl _ _⟩
      case s3 =>
       intro done a W hW hd hnd hno hO hN
       obtain ⟨v1,g1,r1⟩:=hN 1 (by decide)
       have g1:a.tmps[28]?=some v1:=g1
       have e1:v1=.slice (some ⟨bm,om,none⟩) m.val.length cvm:=r1
       rw [e1] at g1
       obtain ⟨v2,g2,r2⟩:=hN 2 (by decide)
       have g2:a.tmps[29]?=some v2:=g2
       have e2:v2=.int .i64 (k:Int):=r2
       rw [e2] at g2
       exact relVal rfl (.pointer (some ⟨bm,om+k,none⟩)) _ rfl (by go_simp) ⟨_,rfl,rfl,hW,Below.refl _ _⟩
      case s4 =>
       intro done a W hW hd hnd hno hO hN
       obtain ⟨v3,g3,r3⟩:=hN 3 (by decide)
       have g3:a.tmps[30]?=some v3:=g3
       have e3:v3=.pointer (some ⟨bm,om+k,none⟩):=r3
       rw [e3] at g3
       have c0:W.cell? ⟨bm,om+k,none⟩=some (.slice qm xm.length nm):=(HW.out W hW).2.2.1
       exact relVal rfl (.slice qm xm.length nm) _ rfl (by go_simp) ⟨_,rfl,rfl,hW,Below.refl _ _⟩
      case s5 =>
       intro done a W hW hd hnd hno hO hN
       have o4:a.tmps[4]?=some (.pointer (some ⟨b4,0,none⟩)):=(hO.out 4 (by decide)).trans rfl
       exact relVal rfl (.pointer (some ⟨b4,1,none⟩)) _ rfl (by go_simp) ⟨_,rfl,rfl,hW,Below.refl _ _⟩
      case s6 =>
       intro done a W hW hd hnd hno hO hN
       obtain ⟨v5,g5,r5⟩:=hN 5 (by decide)
       have g5:a.tmps[32]?=some v5:=g5
       have e5:v5=.pointer (some ⟨b4,1,none⟩):=r5
       rw [e5] at g5
       have c0:W.cell? ⟨b4,1,none⟩=some (.slice (some ⟨bn,on,none⟩) n.val.length cvn):=(HW.out W hW).2.1
       exact relVal rfl (.slice (some ⟨bn,on,none⟩) n.val.length cvn) _ rfl (by go_simp) ⟨_,rfl,rfl,hW,Below.refl _ _⟩
      case s7 =>
       intro done a W hW hd hnd hno hO hN
       have o10:a.tmps[10]?=some (.int .i64 (c:Int)):=(hO.out 10 (by decide)).trans rfl
       exact relVal rfl (.int .i64 (c:Int)) _ rfl (by go_simp) ⟨_,rfl,rfl,hW,Below.refl _ _⟩
      case s8 =>
       intro done a W hW hd hnd hno hO hN
       obtain ⟨v6,g6,r6⟩:=hN 6 (by decide)
       have g6:a.tmps[33]?=some v6:=g6
       have e6:v6=.slice (some ⟨bn,on,none⟩) n.val.length cvn:=r6
       rw [e6] at g6
       obtain ⟨v7,g7,r7⟩:=hN 7 (by decide)
       have g7:a.tmps[34]?=some v7:=g7
       have e7:v7=.int .i64 (c:Int):=r7
       rw [e7] at g7
       exact relVal rfl (.pointer (some ⟨bn,on+c,none⟩)) _ rfl (by go_simp) ⟨_,rfl,rfl,hW,Below.refl _ _⟩
      case s9 =>
       intro done a W hW hd hnd hno hO hN
       obtain ⟨v8,g8,r8⟩:=hN 8 (by decide)
       have g8:a.tmps[35]?=some v8:=g8
       have e8:v8=.pointer (some ⟨bn,on+c,none⟩):=r8
       rw [e8] at g8
       have c0:W.cell? ⟨bn,on+c,none⟩=some (.slice qn xn.length nn):=(HW.out W hW).2.2.2.1
       exact relVal rfl (.slice qn xn.length nn) _ rfl (by go_simp) ⟨_,rfl,rfl,hW,Below.refl _ _⟩
      case s10 =>
       intro done a W hW hd hnd hno hO hN
       obtain ⟨v4,g4,r4⟩:=hN 4 (by decide)
       have g4:a.tmps[31]?=some v4:=g4
       have e4:v4=.slice qm xm.length nm:=r4
       rw [e4] at g4
       obtain ⟨v9,g9,r9⟩:=hN 9 (by decide)
       have g9:a.tmps[36]?=some v9:=g9
       have e9:v9=.slice qn xn.length nn:=r9
       rw [e9] at g9
       refine relCallF rfl rfl 64 [.tmp 31,.tmp 36] #[34,34] rfl [.slice qm xm.length nm,.slice qn xn.length nn] (by simp [Act.eval,g4,g9]) (fun _ _=>by kernel_rfl) (Calls.mono (KE.out W hW) ?_)
       rintro e W2 ⟨rfl,h2⟩
       exact ⟨_,rfl,_,rfl,rfl,hW.trans (h2.mono hW.size),h2⟩
      case s11 =>
       intro done a W hW hd hnd hno hO hN
       obtain ⟨v10,g10,r10⟩:=hN 10 (by decide)
       have g10:a.tmps[37]?=some v10:=g10
       have e10:v10=.bool false:=r10
       rw [e10] at g10
       exact relVal rfl (.bool true) _ rfl (by go_simp) ⟨_,rfl,rfl,hW,Below.refl _ _⟩
      case s12 =>
       intro done a W hW hd hnd hno hO hN
       obtain ⟨v11,g11,r11⟩:=hN 11 (by decide)
       have g11:a.tmps[38]?=some v11:=g11
       have e11:v11=.bool true:=r11
       rw [e11] at g11
       exact relVal rfl (.bool true) _ rfl (by go_simp) ⟨_,rfl,rfl,hW,Below.refl _ _⟩
      case s13 =>
       intro done a W hW hd hnd hno hO hN
       obtain ⟨v12,g12,r12⟩:=hN 12 (by decide)
       have g12:a.tmps[39]?=some v12:=g12
       have e12:v12=.bool true:=r12
       rw [e12] at g12
       have o7:a.tmps[7]?=some (.slice (some ⟨A,0,none⟩) m.up.length m.up.length):=(hO.out 7 (by decide)).trans rfl
       exact relNo rfl ((wanted_is rfl rfl g12).trans rfl) ⟨_,rfl,rfl,hW,Below.refl _ _⟩
      case s14 =>
       intro done a W hW hd hnd hno hO hN
       obtain ⟨v12,g12,r12⟩:=hN 12 (by decide)
       have g12:a.tmps[39]?=some v12:=g12
       have e12:v12=.bool true:=r12
       rw [e12] at g12
       have o9:a.tmps[9]?=some (.int .i64 (k:Int)):=(hO.out 9 (by decide)).trans rfl
       exact relNo rfl ((wanted_is rfl rfl g12).trans rfl) ⟨_,rfl,rfl,hW,Below.refl _ _⟩
      case s15 =>
       intro done a W hW hd hnd hno hO hN
       obtain ⟨v13,g13,r13⟩:=hN 13 (by decide)
       have g13:a.tmps[40]?=some v13:=g13
       have e13:v13=undef:=r13
       rw [e13] at g13
       obtain ⟨v14,g14,r14⟩:=hN 14 (by decide)
       have g14:a.tmps[41]?=some v14:=g14
       have e14:v14=undef:=r14
       rw [e14] at g14
       obtain ⟨v12,g12,r12⟩:=hN 12 (by decide)
       have g12:a.tmps[39]?=some v12:=g12
       have e12:v12=.bool true:=r12
       rw [e12] at g12
       exact relNo rfl ((wanted_is rfl rfl g12).trans rfl) ⟨_,rfl,rfl,hW,Below.refl _ _⟩
      case s16 =>
       intro done a W hW hd hnd hno hO hN
       obtain ⟨v15,g15,r15⟩:=hN 15 (by decide)
       have g15:a.tmps[42]?=some v15:=g15
       have e15:v15=undef:=r15
       rw [e15] at g15
       obtain ⟨v12,g12,r12⟩:=hN 12 (by decide)
       have g12:a.tmps[39]?=some v12:=g12
       have e12:v12=.bool true:=r12
       rw [e12] at g12
       exact relNo rfl ((wanted_is rfl rfl g12).trans rfl) ⟨_,rfl,rfl,hW,Below.refl _ _⟩
      case s17 =>
       intro done a W hW hd hnd hno hO hN
       obtain ⟨v12,g12,r12⟩:=hN 12 (by decide)
       have g12:a.tmps[39]?=some v12:=g12
       have e12:v12=.bool true:=r12
       rw [e12] at g12
       have o8:a.tmps[8]?=some (.slice (some ⟨B,0,none⟩) n.up.length n.up.length):=(hO.out 8 (by decide)).trans rfl
       exact relNo rfl ((wanted_is rfl rfl g12).trans rfl) ⟨_,rfl,rfl,hW,Below.refl _ _⟩
      case s18 =>
       intro done a W hW hd hnd hno hO hN
       obtain ⟨v12,g12,r12⟩:=hN 12 (by decide)
       have g12:a.tmps[39]?=some v12:=g12
       have e12:v12=.bool true:=r12
       rw [e12] at g12
       have o10:a.tmps[10]?=some (.int .i64 (c:Int)):=(hO.out 10 (by decide)).trans rfl
       exact relNo rfl ((wanted_is rfl rfl g12).trans rfl) ⟨_,rfl,rfl,hW,Below.refl _ _⟩
      case s19 =>
       intro done a W hW hd hnd hno hO hN
       obtain ⟨v17,g17,r17⟩:=hN 17 (by decide)
       have g17:a.tmps[44]?=some v17:=g17
       have e17:v17=undef:=r17
       rw [e17] at g17
       obtain ⟨v18,g18,r18⟩:=hN 18 (by decide)
       have g18:a.tmps[45]?=some v18:=g18
       have e18:v18=undef:=r18
       rw [e18] at g18
       obtain ⟨v12,g12,r12⟩:=hN 12 (by decide)
       have g12:a.tmps[39]?=some v12:=g12
       have e12:v12=.bool true:=r12
       rw [e12] at g12
       exact relNo rfl ((wanted_is rfl rfl g12).trans rfl) ⟨_,rfl,rfl,hW,Below.refl _ _⟩
      case s20 =>
       intro done a W hW hd hnd hno hO hN
       obtain ⟨v19,g19,r19⟩:=hN 19 (by decide)
       have g19:a.tmps[46]?=some v19:=g19
       have e19:v19=undef:=r19
       rw [e19] at g19
       obtain ⟨v12,g12,r12⟩:=hN 12 (by decide)
       have g12:a.tmps[39]?=some v12:=g12
       have e12:v12=.bool true:=r12
       rw [e12] at g12
       exact relNo rfl ((wanted_is rfl rfl g12).trans rfl) ⟨_,rfl,rfl,hW,Below.refl _ _⟩
      case s21 =>
       intro done a W hW hd hnd hno hO hN
       obtain ⟨v16,g16,r16⟩:=hN 16 (by decide)
       have g16:a.tmps[43]?=some v16:=g16
       have e16:v16=undef:=r16
       rw [e16] at g16
       obtain ⟨v20,g20,r20⟩:=hN 20 (by decide)
       have g20:a.tmps[47]?=some v20:=g20
       have e20:v20=undef:=r20
       rw [e20] at g20
       obtain ⟨v12,g12,r12⟩:=hN 12 (by decide)
       have g12:a.tmps[39]?=some v12:=g12
       have e12:v12=.bool true:=r12
       rw [e12] at g12
       exact relNo rfl ((wanted_is rfl rfl g12).trans rfl) ⟨_,rfl,rfl,hW,Below.refl _ _⟩
      case s22 =>
       intro done a W hW hd hnd hno hO hN
       obtain ⟨v12,g12,r12⟩:=hN 12 (by decide)
       have g12:a.tmps[39]?=some v12:=g12
       have e12:v12=.bool true:=r12
       rw [e12] at g12
       obtain ⟨v21,g21,r21⟩:=hN 21 (by decide)
       have g21:a.tmps[48]?=some v21:=g21
       have e21:v21=undef:=r21
       rw [e21] at g21
       exact relVal rfl (.bool true) _ rfl (by go_simp) ⟨_,rfl,rfl,hW,Below.refl _ _⟩
     case fin =>
      intro vs done w1 hdone hS hV
      have e22:vs 22=.bool true:=hV 22 (by decide)
      have HB8:=show Hid (Below w0.heap.size w0 w1) from HB0.out.trans (hS.mono HB0.out.size)
      simp only [putAll,Act.put,List.setIfInBounds_toArray,List.set_cons_zero,List.set_cons_succ,Nat.reduceAdd,e22]
      clear hV hS e22 KE HB0 HW c0
      go_wp2_with fail
      go_ret
      first | exact ⟨⟨false,rfl,⟨fun h=>(by cases h),fun h=>absurd h HNO.out⟩⟩,(H3.out _ HB8.out).1⟩ | exact ⟨Or.inl ⟨rfl,HNO.out⟩,(H3.out _ HB8.out).1⟩
   ·obtain rfl:k=fl.length:=by omega
    have hki:¬ (fl.length:Int)<(fl.length:Int):=by omega
    have HY:=show Hid (BndP m n fl) from fun a ha=>HI.out a (by rw [HFL.out];exact ha)
    have HZ:=show Hid (Below w.heap.size w wr) from (H3.out wr HB0.out).1
    clear HI HB0
    go_wp2_with fail
    go_ret
    first | exact ⟨⟨true,rfl,⟨fun _=>HY.out,fun _=>rfl⟩⟩,HZ.out⟩ | exact ⟨Or.inr ⟨rfl,HY.out⟩,HZ.out⟩
end Go.Proofs.Ytoedidbbjnnpnaa.Wm
