/-
  Above: the model of the worlds above one, of any model. No condition but what a machine can hold.
-/
import Derived.Test.YtoedidbbjnnpnaaTH20
import Derived.Test.YtoedidbbjnnpnaaTH11
namespace Go.Proofs.Ytoedidbbjnnpnaa.Wm
open Go.RowKit Go.Maps
open Wd (Md Rc Ed upd vl allW inW)
set_option linter.unusedSimpArgs false
set_option linter.unusedVariables false
theorem cf_abv1:Cf 32:=fun _ _=>by kernel_rfl
theorem abvL_ok {M:Nat→Nat→Bool} {n a:Nat}:(∀ v ∈ numsTo (abP M a) n,v<n∧M a v=true)∧(numsTo (abP M a) n).length≤n:=by
 refine ⟨fun v hv => ?_,numsTo_len _ _⟩
 unfold numsTo at hv
 obtain ⟨h1,h2⟩:=List.mem_filter.1 hv
 exact ⟨List.mem_range.1 h1,by simpa [abP] using h2⟩
structure AK (w W:World) (b2 b9 Pb n:Nat) (uv vv:Value) (F:Nat→Nat):Prop where
 bel:Below w.heap.size w W
 box:Cl W b2 #[uv,vv] 25
 pb:Cl W b9 #[.slice (some ⟨Pb,0,none⟩) n n] 27
 row:Rw W Pb n 3 (fun v=>.int .i64 (F v:Int))
theorem AK.later {w W W':World} {b2 b9 Pb n:Nat} {uv vv:Value} {F:Nat→Nat} (h:AK w W b2 b9 Pb n uv vv F) (hb:Below W.heap.size W W'):AK w W' b2 b9 Pb n uv vv F :=
 ⟨h.bel.trans (hb.mono h.bel.size),h.box.later hb,h.pb.later hb,h.row.keep (hb.block Pb h.row.lt)⟩
theorem AK.kp {w W W':World} {b b2 b9 Pb n:Nat} {uv vv:Value} {F:Nat→Nat} (h:AK w W b2 b9 Pb n uv vv F) (hk:Kp (fun k=>k=b) W W') (h2:b2≠b) (h9:b9≠b) (hp:Pb≠b) (hw:w.heap.size≤b):AK w W' b2 b9 Pb n uv vv F :=
 ⟨h.bel.trans (hk.below h.bel.size fun k e=>by omega),h.box.kp hk h2,h.pb.kp hk h9,h.row.kp hk hp⟩
theorem AK.set {w W:World} {b2 b9 Pb n:Nat} {uv vv:Value} {F:Nat→Nat} (h:AK w W b2 b9 Pb n uv vv F) (v j:Nat) (h2:b2≠Pb) (h9:b9≠Pb) (hw:w.heap.size≤Pb):AK w (W.setCell ⟨Pb,v,none⟩ (.int .i64 (j:Int))) b2 b9 Pb n uv vv (upd F v j):=by
 have hk:Kp (fun k=>k=Pb) W (W.setCell ⟨Pb,v,none⟩ (.int .i64 (j:Int))):=(Kp.refl (fun k=>k=Pb) W).set (p:=Pb) rfl v _
 refine ⟨h.bel.trans (hk.below h.bel.size fun k e=>by omega),h.box.kp hk h2,h.pb.kp hk h9,(h.row.set v (.int .i64 (j:Int))).same fun i _ => ?_⟩
 by_cases e:i=v
 ·subst e;rw [Wd.upd_same,Wd.upd_same]
 ·rw [Wd.upd_other _ _ _ e,Wd.upd_other _ _ _ e]
theorem AK.isI {w W:World} {b2 b9 Pb n:Nat} {uv vv:Value} {F:Nat→Nat} (h:AK w W b2 b9 Pb n uv vv F):IsI W W.heap.size (.slice (some ⟨Pb,0,none⟩) n n) ((List.range n).map fun v=>(F v:Int)):=by
 refine ⟨some ⟨Pb,0,none⟩,n,by rw [List.length_map,List.length_range],fun h0=>⟨Pb,0,h.row.lt,rfl,fun j hj=>⟨.int .i64 (F j:Int),?_,?_⟩⟩⟩
 ·rw [Nat.zero_add]
  exact h.row.cell (by simpa using hj)
 ·simp only [List.getElem_map,List.getElem_range];rfl
theorem results_m_tt {fn:Func} {p t2 t3:Tmp} (h:fn.results=#[.cell p 25,.tmp t2,.tmp t3]) (tmps:Array Value) (w:World) (g:Nat) {uv vv:Value} (hp:tmps.getD p undef=.pointer (some ⟨g,0,none⟩)) (hr:Cl w g #[uv,vv] 25) :
 (results fn tmps).run Try.prog w=.ok (.tuple #[.agg #[uv,vv],tmps.getD t2 undef,tmps.getD t3 undef]) w:=by
 have hk:=run_loadVar_row w g 25 25 #[uv,vv] (0,0) _ hr Try.underlying25 rfl sizeM
 have hp':tmps[p]?.getD undef=.pointer (some ⟨g,0,none⟩):=by simpa using hp
 simp [results,h,hp',asAddr,hk,Result.andThen]
set_option maxRecDepth 100000 in
set_option maxHeartbeats 16000000 in
theorem topAbove_any (w:World) {M:Nat→Nat→Bool} {L:Nat} {uv vv:Value} {m:Md} (hO:IsO m.up M) (hm:IsM w L uv vv m) (hf:Fit m) (hL:L≤w.heap.size) (hfv:∀ r ∈ m.val,r.length * 16≤140737488355328) (hfu:∀ r ∈ m.up,r.length * 8≤140737488355328) (a:Int) (ha : -9223372036854775808≤a∧a≤9223372036854775807) :
 Calls Try.prog 10 #[.agg #[uv,vv],.int .i64 a] w fun e w'=>∃ u' v' lv er,e=.returned (.tuple #[.agg #[u',v'],lv,.int .i64 er])∧AbmR w' w.heap.size m M a u' v' lv er∧Below w.heap.size w w':=by
 have HKA:=show Hid (∀ W,Below w.heap.size w W→Calls Try.prog 30 #[.agg #[uv,vv],.int .i64 a] W _) from fun W hW=>above_any W hO (hm.below (hW.mono hL)) hf (Nat.le_trans hL hW.size) a ha
 have HF:=show Hid (IsO m.up M∧Fit m∧(∀ r ∈ m.val,r.length * 16≤140737488355328)∧∀ r ∈ m.up,r.length * 8≤140737488355328) from ⟨hO,hf,hfv,hfu⟩
 have HMU:=show Hid (∀ k (hk:k<m.up.length),∃ b o q n c,uv=.slice (some ⟨b,o,none⟩) m.up.length c∧b<w.heap.size∧w.cell? ⟨b,o+k,none⟩=some (.slice q (m.up.getD k []).length n)∧IsI w w.heap.size (.slice q (m.up.getD k []).length n) (m.up.getD k [])) from fun k hk=>by
  have e:m.up.getD k []=m.up[k]:=by rw [List.getD_eq_getElem?_getD,List.getElem?_eq_getElem hk];rfl
  rw [e]
  obtain ⟨pu,cu,rfl⟩:=IsS.form hm.up
  obtain ⟨b,o,hbL,rfl,h2⟩:=(IsS.at hm.up).2 (by omega)
  obtain ⟨x,hx,hi⟩:=h2 k hk
  obtain ⟨q,n,rfl⟩:=IsS.form hi
  exact ⟨b,o,q,n,cu,rfl,by omega,hx,IsS.wide hi hL⟩
 have HMV:=show Hid (∀ k (hk:k<m.val.length),∃ b o q n c,vv=.slice (some ⟨b,o,none⟩) m.val.length c∧b<w.heap.size∧w.cell? ⟨b,o+k,none⟩=some (.slice q (vl m k).length n)∧IsN w w.heap.size (.slice q (vl m k).length n) (vl m k)) from fun k hk=>by
  rw [vl_at hk]
  obtain ⟨pv,cv,rfl⟩:=IsS.form hm.val
  obtain ⟨b,o,hbL,rfl,h2⟩:=(IsS.at hm.val).2 (by omega)
  obtain ⟨x,hx,hi⟩:=h2 k hk
  obtain ⟨q,n,rfl⟩:=IsS.form hi
  exact ⟨b,o,q,n,cv,rfl,by omega,hx,IsS.wide hi hL⟩
 obtain ⟨pu,cu,rfl⟩:=IsS.form hm.up
 obtain ⟨pv,cv,rfl⟩:=IsS.form hm.val
 clear hm hf hO hfv hfu
 go_enter Try.func10,Try.ntmps10
 go_wp2_with (refine wpList_box 25 _ rfl _ rfl rfl ?_)
 intro w1 b2 hN1
 have H1:=show Hid (Below w.heap.size w w1∧Cl w1 b2 #[.slice pu m.up.length cu,.slice pv m.val.length cv] 25∧w.heap.size≤b2) from ⟨hN1.bel,hN1.blk,hN1.ge⟩
 clear hN1
 go_wp2_with (refine wpList_alloc 25 rfl _ zero_md rfl ?_)
 intro w2 b4 hN2
 have H2:=show Hid (Below w.heap.size w w2∧Cl w2 b2 #[.slice pu m.up.length cu,.slice pv m.val.length cv] 25∧Cl w2 b4 #[.slice none 0 0,.slice none 0 0] 25∧w.heap.size≤b2∧w.heap.size≤b4∧b2<b4) from
  ⟨H1.out.1.trans (hN2.bel.mono H1.out.1.size),H1.out.2.1.later hN2.bel,hN2.blk,H1.out.2.2,Nat.le_trans H1.out.1.size hN2.ge,Nat.lt_of_lt_of_le H1.out.2.1.lt hN2.ge⟩
 clear hN2 H1
 go_wp2_with (refine wpList_ldw 25 _ rfl b2 rfl _ _ H2.out.2.1 rfl Try.underlying25 sizeM rfl ?_)
 refine Calls.mono (HKA.out w2 H2.out.1) ?_
 rintro e w3 ⟨lv,er,rfl,hR,hb3⟩
 have H3:=show Hid (Below w.heap.size w w3∧Cl w3 b2 #[.slice pu m.up.length cu,.slice pv m.val.length cv] 25∧Cl w3 b4 #[.slice none 0 0,.slice none 0 0] 25∧w.heap.size≤b2∧w.heap.size≤b4∧b2<b4) from
  ⟨H2.out.1.trans (hb3.mono H2.out.1.size),H2.out.2.1.later hb3,H2.out.2.2.1.later hb3,H2.out.2.2.2⟩
 have HR:=show Hid (AbvR w3 w2.heap.size M m a lv er∧w.heap.size≤w2.heap.size) from ⟨hR,H2.out.1.size⟩
 clear hR hb3 H2 HKA
 rcases HR.out.1 with ⟨g,rfl,rfl⟩ | ⟨g,hin,rfl,rfl⟩ | ⟨g,hin,hl,rfl⟩
 ·have HX:=show Hid (¬ Wd.Good m) from g
  clear g HR
  go_wp2_with (refine wpList_st 25 rfl rfl _ _ rfl b4 rfl _ rfl _ _ H3.out.2.2.1 sizeM rfl (by simp [Value.oneCell']) ?_)
  intro w4 hc4 hk4
  have H4:=show Hid (Below w.heap.size w w4∧Cl w4 b4 #[.slice none 0 0,.slice none 0 0] 25) from ⟨H3.out.1.trans (hk4.below H3.out.1.size fun k e=>by have:=H3.out.2.2.2.2.1;omega),hc4⟩
  clear hc4 hk4 H3
  go_wp2_with fail
  refine bodyPost_ret (results_m_tt rfl _ _ b4 rfl H4.out.2) rfl ?_
  exact ⟨_,_,_,_,rfl,Or.inl ⟨HX.out,rfl,rfl,rfl,rfl⟩,H4.out.1⟩
 ·have HX:=show Hid (Wd.Good m∧inW m.up.length a=false) from ⟨g,hin⟩
  clear g hin HR
  go_wp2_with (refine wpList_st 25 rfl rfl _ _ rfl b4 rfl _ rfl _ _ H3.out.2.2.1 sizeM rfl (by simp [Value.oneCell']) ?_)
  intro w4 hc4 hk4
  have H4:=show Hid (Below w.heap.size w w4∧Cl w4 b4 #[.slice none 0 0,.slice none 0 0] 25) from ⟨H3.out.1.trans (hk4.below H3.out.1.size fun k e=>by have:=H3.out.2.2.2.2.1;omega),hc4⟩
  clear hc4 hk4 H3
  go_wp2_with fail
  refine bodyPost_ret (results_m_tt rfl _ _ b4 rfl H4.out.2) rfl ?_
  exact ⟨_,_,_,_,rfl,Or.inr (Or.inl ⟨HX.out.1,HX.out.2,rfl,rfl,rfl,rfl⟩),H4.out.1⟩
 ·obtain ⟨x,rfl,hx⟩:∃ x:Nat,a=(x:Int)∧x<m.up.length:=by
   have h:=hin
   unfold inW at h
   simp only [Bool.and_eq_true,decide_eq_true_eq] at h
   exact ⟨a.toNat,by omega,by omega⟩
  rw [Int.toNat_natCast] at hl
  obtain ⟨l,hle⟩:∃ l,l=numsTo (abP M x) m.up.length:=⟨_,rfl⟩
  rw [← hle] at hl
  have hle2:l=numsTo (fun z=>M x z.toNat) m.up.length:=hle
  have HG:=show Hid (Wd.Good m∧inW m.up.length (x:Int)=true∧x<m.up.length∧l=numsTo (fun z=>M x z.toNat) m.up.length∧m.up.length≤512∧m.val.length=m.up.length) from ⟨g,hin,hx,hle2,(Wd.shaped_and g.shape).2.1,(Wd.shaped_and g.shape).2.2.1⟩
  have HLM:=show Hid (∀ i (hi:i<l.length),l[i]<m.up.length) from fun i hi=>((ab_mem hle2).1 (List.getElem_mem hi)).1
  obtain ⟨plv,clv,rfl⟩:=hl.slice
  have hl5:l.length≤512:=by
   have h1:l.length≤m.up.length:=by rw [hle];exact numsTo_len _ _
   have h2:=HG.out.2.2.2.2.1
   omega
  have HL:=show Hid (OwnI w2.heap.size w3 (.slice plv l.length clv) l∧w.heap.size≤w2.heap.size) from ⟨hl,HR.out.2⟩
  have hn5:=HG.out.2.2.2.2.1
  clear g hin hl hle hle2 HR
  have c2:w3.cell? ⟨b2,0,none⟩=some (.slice pu m.up.length cu):=H3.out.2.1.cell 0
  have hmk:=show ∀ W:World,(Instr.makeSlice 27 (.int .i64 (m.up.length:Int)) (.int .i64 (m.up.length:Int))).run Try.prog W=.ok (.slice (some ⟨W.heap.size,0,none⟩) m.up.length m.up.length) (W.alloc (.cells (madeCells #[.int .i64 0] m.up.length) 3)) from fun W=>by
   obtain ⟨i0,hi,hz0,hz1,hz2⟩:=info_parts infoI
   have h:=run_makeSlice (P:=Try.prog) W 27 3 i0 _ Try.underlying27 hi hz0 .i64 .i64 (m.up.length:Int) (m.up.length:Int) (by omega) (Int.le_refl _) (by rw [hz1];omega) (by rw [hz2];omega) (by omega)
   simp only [Int.toNat_natCast,hz1,Nat.mul_one] at h
   exact h
  have hms:=hmk w3
  have HA:=show Hid (AK w ((w3.alloc (.cells (madeCells #[.int .i64 0] m.up.length) 3)).alloc (.cells #[.slice (some ⟨w3.heap.size,0,none⟩) m.up.length m.up.length] 27)) b2 (w3.heap.size+1) w3.heap.size m.up.length (.slice pu m.up.length cu) (.slice pv m.val.length cv) (plF l 0)∧Cl ((w3.alloc (.cells (madeCells #[.int .i64 0] m.up.length) 3)).alloc (.cells #[.slice (some ⟨w3.heap.size,0,none⟩) m.up.length m.up.length] 27)) b4 #[.slice none 0 0,.slice none 0 0] 25∧OwnI w2.heap.size ((w3.alloc (.cells (madeCells #[.int .i64 0] m.up.length) 3)).alloc (.cells #[.slice (some ⟨w3.heap.size,0,none⟩) m.up.length m.up.length] 27)) (.slice plv l.length clv) l) from by
   have a1:=below_alloc w3 (.cells (madeCells #[.int .i64 0] m.up.length) 3)
   have a2:=below_alloc (w3.alloc (.cells (madeCells #[.int .i64 0] m.up.length) 3)) (.cells #[.slice (some ⟨w3.heap.size,0,none⟩) m.up.length m.up.length] 27)
   have hb:=a1.trans (a2.mono a1.size)
   refine ⟨⟨H3.out.1.trans (hb.mono H3.out.1.size),H3.out.2.1.later hb,?_,?_⟩,H3.out.2.2.1.later hb,HL.out.1.later hb⟩
   ·have h9:=heap_alloc_new (w3.alloc (.cells (madeCells #[.int .i64 0] m.up.length) 3)) (.cells #[.slice (some ⟨w3.heap.size,0,none⟩) m.up.length m.up.length] 27)
    have s1:(w3.alloc (.cells (madeCells #[.int .i64 0] m.up.length) 3)).heap.size=w3.heap.size+1:=by simp
    rw [s1] at h9
    exact h9
   have h1:Rw (w3.alloc (.cells (madeCells #[.int .i64 0] m.up.length) 3)) w3.heap.size m.up.length 3 (fun _=>.int .i64 0):=by
    unfold Rw
    rw [heap_alloc_new]
    congr 2
    apply Array.ext'
    rw [toList_madeCells_one]
    simp [List.map_const']
   exact (h1.keep (a2.block _ (by simp)))
  have HB:=show Hid (w.heap.size≤b2∧w.heap.size≤b4∧b2<b4∧b4<w3.heap.size) from ⟨H3.out.2.2.2.1,H3.out.2.2.2.2.1,H3.out.2.2.2.2.2,H3.out.2.2.1.lt⟩
  go_wp2_with (simp only [hms])
  have HPL:=show Hid ((Value.slice plv l.length clv).ownBlock≠some w3.heap.size) from fun e=>by have:=(own_blk HL.out.1 e).2.1;omega
  have HW2:=show Hid (w.heap.size≤w2.heap.size) from HL.out.2
  clear hms hmk c2 H3 HL
  generalize (w3.alloc (.cells (madeCells #[.int .i64 0] m.up.length) 3)).alloc (.cells #[.slice (some ⟨w3.heap.size,0,none⟩) m.up.length m.up.length] 27)=W1 at *
  generalize w3.heap.size=Pb at *
  go_loopw [10,11,31] (fun _ _ i wr=>∃ j:Nat,j≤l.length∧i=.int .i64 (j:Int)∧Hid (AK w wr b2 (Pb+1) Pb m.up.length (.slice pu m.up.length cu) (.slice pv m.val.length cv) (plF l j)∧Cl wr b4 #[.slice none 0 0,.slice none 0 0] 25∧OwnI w2.heap.size wr (.slice plv l.length clv) l)) (fun _ _ i _=>l.length - (intOf i).toNat)
  case atStart=>exact ⟨0,Nat.zero_le _,rfl,HA.out⟩
  case round =>
   clear HA
   obtain ⟨j,hj,rfl,HI⟩:=hrel
   by_cases hlt:j<l.length
   ·have hv:=HLM.out j hlt
    obtain ⟨bl,ol,_,rfl,hat⟩:=(IsS.at HI.out.2.2.isI).2 (by rw [List.length_map];omega)
    obtain ⟨y,cl0,hy⟩:=hat j (by rw [List.length_map];exact hlt)
    rw [List.getElem_map] at hy
    cases hy
    have c9:wr.cell? ⟨Pb+1,0,none⟩=some (.slice (some ⟨Pb,0,none⟩) m.up.length m.up.length):=HI.out.1.pb.cell 0
    have cP:wr.cell? ⟨Pb,l[j],none⟩=some (.int .i64 (plF l j l[j]:Int)):=HI.out.1.row.cell hv
    have fP:wr.frozen? ⟨Pb,l[j],none⟩=false:=HI.out.1.row.fr _
    have HX:=show Hid (AK w (wr.setCell ⟨Pb,l[j],none⟩ (.int .i64 (j:Int))) b2 (Pb+1) Pb m.up.length (.slice pu m.up.length cu) (.slice pv m.val.length cv) (plF l (j+1))∧Cl (wr.setCell ⟨Pb,l[j],none⟩ (.int .i64 (j:Int))) b4 #[.slice none 0 0,.slice none 0 0] 25∧OwnI w2.heap.size (wr.setCell ⟨Pb,l[j],none⟩ (.int .i64 (j:Int))) (.slice (some ⟨bl,ol,none⟩) l.length clv) l) from by
     have hb:=HB.out
     have e:l.getD j 0=l[j]:=by rw [List.getD_eq_getElem?_getD,List.getElem?_eq_getElem hlt];rfl
     have hk:Kp (fun k=>k=Pb) wr (wr.setCell ⟨Pb,l[j],none⟩ (.int .i64 (j:Int))):=(Kp.refl (fun k=>k=Pb) wr).set (p:=Pb) rfl _ _
     refine ⟨?_,HI.out.2.1.kp hk (by omega),?_⟩
     ·have h:=HI.out.1.set l[j] j (by omega) (by omega) (by omega)
      show AK w _ b2 (Pb+1) Pb m.up.length _ _ (upd (plF l j) (l.getD j 0) j)
      rw [e];exact h
     ·refine own_kp HI.out.2.2 fun k cs hk1 hc he=>hk.block k (lt_of_block hc) fun e2=>HPL.out ?_
      rw [← e2];exact he
    have hji:(j:Int)<(l.length:Int):=by omega
    have hvi:(l[j]:Int)<(m.up.length:Int):=by omega
    clear hat HI
    generalize l[j]=vj at *
    go_wp2_with fail
    go_roundw
    case rel=>exact ⟨j+1,by omega,val_int (by omega),HX.out⟩
    case measure=>(simp only [intOf];omega)
   ·obtain rfl:j=l.length:=by omega
    have hji:¬ (l.length:Int)<(l.length:Int):=by omega
    have hpos:1≤l.length:=ab_pos HF.out.1 HG.out.2.2.1 HG.out.2.2.2.1
    obtain ⟨bl,ol,hbl,rfl,hat⟩:=(IsS.at HI.out.2.2.isI).2 (by rw [List.length_map];omega)
    have HLC:=show Hid (bl<wr.heap.size∧∀ i (hi:i<l.length),wr.cell? ⟨bl,ol+i,none⟩=some (.int .i64 (l[i]:Int))) from ⟨hbl,fun i hi=>by
     obtain ⟨y,h1,h2⟩:=hat i (by rw [List.length_map];exact hi)
     rw [List.getElem_map] at h2
     cases h2
     exact h1⟩
    clear hat hbl
    go_wp2_with (refine wpList_alloc 25 rfl _ zero_md rfl ?_)
    intro w5 b12 hN5
    have HT0:=show Hid (PT w5 w5 w.heap.size b12 (.slice none 0 0) (.slice none 0 0) [] []) from
     ⟨hN5.blk,⟨[],World.ownsRow_nil _ _ _ _,fun i hi=>absurd hi (Nat.not_lt_zero _)⟩,⟨[],World.ownsRow_nil _ _ _ _,fun i hi=>absurd hi (Nat.not_lt_zero _)⟩,Kp.refl _ _⟩
    have H5:=show Hid (AK w w5 b2 (Pb+1) Pb m.up.length (.slice pu m.up.length cu) (.slice pv m.val.length cv) (plF l l.length)∧Cl w5 b4 #[.slice none 0 0,.slice none 0 0] 25∧OwnI w2.heap.size w5 (.slice (some ⟨bl,ol,none⟩) l.length clv) l∧Below wr.heap.size wr w5) from
     ⟨HI.out.1.later hN5.bel,HI.out.2.1.later hN5.bel,HI.out.2.2.later hN5.bel,hN5.bel⟩
    have HB5:=show Hid (w.heap.size≤b12∧b12<w5.heap.size∧b2<b12∧b4<b12∧Pb+1<b12∧bl<b12∧∀ W,Kp (fun k=>k=b12) w5 W→∀ i (hi:i<l.length),W.cell? ⟨bl,ol+i,none⟩=some (.int .i64 (l[i]:Int))) from by
     have h1:=hN5.eq
     have h2:=HI.out.1.bel.size
     have h3:=HI.out.1.box.lt
     have h4:=HI.out.2.1.lt
     have h5:=HI.out.1.pb.lt
     have h6:=hN5.up
     have h7:=HLC.out.1
     refine ⟨by omega,by omega,by omega,by omega,by omega,by omega,fun W hW i hi => ?_⟩
     exact (World.cell?_of_block (a:=⟨bl,ol+i,none⟩) ((hW.block bl (by omega) (by omega)).trans (hN5.bel.block bl h7))).trans (HLC.out.2 i hi)
    clear hN5 HI HLC
    go_wp2_with fail
    go_loopw [14,43] (fun _ i wr=>∃ (j:Nat) (uv2 vv2:Value),j≤l.length∧i=.int .i64 (j:Int)∧Hid (PT w5 wr w.heap.size b12 uv2 vv2 ((abU m l).take j) ((l.map (vl m)).take j))) (fun _ i _=>l.length - (intOf i).toNat)
    case atStart=>exact ⟨0,_,_,Nat.zero_le _,rfl,HT0.out⟩
    case round =>
     clear HT0
     obtain ⟨j,uv2,vv2,hj,rfl,HP0⟩:=hrel
     by_cases hlt:j<l.length
     ·have hv:=HLM.out j hlt
      have cl0:=HB5.out.2.2.2.2.2.2 wr HP0.out.kp j hlt
      have hvv:l[j]<m.val.length:=by have:=HG.out.2.2.2.2.2;omega
      obtain ⟨bu,ou,qu,nu,cu',eu,hbu,hcu,hiu⟩:=HMU.out l[j] hv
      obtain ⟨bw,ow,qw,nw,cv',ev,hbw,hcw,hiw⟩:=HMV.out l[j] hvv
      obtain ⟨rfl,rfl⟩:pu=some ⟨bu,ou,none⟩∧cu=cu':=by injection eu with e1 e2 e3;exact ⟨e1,e3⟩
      obtain ⟨rfl,rfl⟩:pv=some ⟨bw,ow,none⟩∧cv=cv':=by injection ev with e1 e2 e3;exact ⟨e1,e3⟩
      have HST:=show Hid ((abU m l).take (j+1)=(abU m l).take j ++ [(m.up.getD l[j] []).map fun u:Int=>(plF l l.length u.toNat:Int)]∧(l.map (vl m)).take (j+1)=(l.map (vl m)).take j ++ [vl m l[j]]) from by
       refine ⟨?_,?_⟩
       ·show (abU m l).take (j+1)=_
        have h1:j<(abU m l).length:=by simp [abU];exact hlt
        rw [List.take_succ_eq_append_getElem h1]
        congr 2
        simp only [abU,List.getElem_map]
       ·show (l.map (vl m)).take (j+1)=_
        have h1:j<(l.map (vl m)).length:=by simp;exact hlt
        rw [List.take_succ_eq_append_getElem h1]
        congr 2
        rw [List.getElem_map]
      have HUL:=show Hid (((abU m l).take j).length=j∧((l.map (vl m)).take j).length=j) from ⟨by simp [abU];omega,by simp;omega⟩
      have HVI:=show Hid (l[j]<m.up.length∧l[j]<m.val.length∧l[j]≤512) from ⟨hv,hvv,by omega⟩
      have hvi:(l[j]:Int)<(m.up.length:Int):=by omega
      have hvi2:(l[j]:Int)<(m.val.length:Int):=by omega
      have hji:(j:Int)<(l.length:Int):=by omega
      have hmem:m.up.getD l[j] [] ∈ m.up:=by
       rw [List.getD_eq_getElem?_getD,List.getElem?_eq_getElem hv];exact List.getElem_mem hv
      have KR:=show Hid (∀ W,Below wr.heap.size wr W→Calls Try.prog 31 #[.slice qu (m.up.getD l[j] []).length nu,.func (.func 32) #[] #[.pointer (some ⟨Pb+1,0,none⟩)]] W fun e w'=>∃ v',e=.returned v'∧OwnZ W.heap.size w' v' ((m.up.getD l[j] []).map fun u:Int=>(plF l l.length u.toNat:Int))∧Below W.heap.size W w') from fun W hW=>by
       have hAK:=(H5.out.1.kp HP0.out.kp (by have:=HB5.out;omega) (by have:=HB5.out;omega) (by have:=HB5.out;omega) HB5.out.1).later hW
       have hrw:∀ u ∈ (m.up.getD l[j] []),0≤u∧u<(m.up.length:Int):=fun u hu=>by
        have h1:=(Wd.shaped_and HG.out.1.shape).2.2.2.1 (m.up.getD l[j] []) hmem
        have h2:inW m.up.length u=true:=List.all_eq_true.1 h1 u hu
        unfold inW at h2
        simp only [Bool.and_eq_true,decide_eq_true_eq] at h2
        exact h2
       have K:=renumbered_any W (L:=W.heap.size) (Ls:=w.heap.size) (D:=fun u=>0≤u∧u<(m.up.length:Int)) (fv:=.func (.func 32) #[] #[.pointer (some ⟨Pb+1,0,none⟩)]) (g:=fun u=>((List.range m.up.length).map fun v=>(plF l l.length v:Int)).getD u.toNat 0)
        ⟨32,[.pointer (some ⟨Pb+1,0,none⟩)],rfl,cf_abv1,fun W2 u hW2 hu=>row1_any (n:=0) _ (Or.inl rfl) W2 (hAK.later hW2).pb (hAK.later hW2).isI (by simpa using hu)⟩
        (hiu.keep fun k hk=>hAK.bel.block k hk) hrw hAK.bel.size (Nat.le_refl _) (HF.out.2.2.2 _ hmem)
       have e:((m.up.getD l[j] []).map fun u=>((List.range m.up.length).map fun v=>(plF l l.length v:Int)).getD u.toNat 0)=(m.up.getD l[j] []).map fun u:Int=>(plF l l.length u.toNat:Int):=by
        refine List.map_congr_left fun u hu => ?_
        have:=hrw u hu
        rw [List.getD_eq_getElem?_getD,List.getElem?_map,List.getElem?_range (by omega)];rfl
       rw [e] at K
       exact K
      have HRV:=show Hid (IsN w5 w.heap.size (.slice qw (vl m l[j]).length nw) (vl m l[j])) from hiw.keep fun k hk=>H5.out.1.bel.block k hk
      have HWC:=show Hid (∀ W,Kp (fun k=>k=b12) w5 W→W.cell? ⟨b2,0,none⟩=some (.slice (some ⟨bu,ou,none⟩) m.up.length cu)∧W.cell? ⟨b2,1,none⟩=some (.slice (some ⟨bw,ow,none⟩) m.val.length cv)∧W.cell? ⟨bu,ou+l[j],none⟩=some (.slice qu (m.up.getD l[j] []).length nu)∧W.cell? ⟨bw,ow+l[j],none⟩=some (.slice qw (vl m l[j]).length nw)) from fun W hW=>by
       have hAK:=H5.out.1.kp hW (by have:=HB5.out;omega) (by have:=HB5.out;omega) (by have:=HB5.out;omega) HB5.out.1
       exact ⟨hAK.box.cell 0,hAK.box.cell 1,(World.cell?_of_block (a:=⟨bu,ou+l[j],none⟩) (hAK.bel.block bu hbu)).trans hcu,(World.cell?_of_block (a:=⟨bw,ow+l[j],none⟩) (hAK.bel.block bw hbw)).trans hcw⟩
      have HLU:=show Hid ((m.up.getD l[j] []).length≤140737488351232) from (HF.out.2.1.2.2.1 _ hmem).1
      clear hmem hiu hiw hcu hcw hv hvv eu ev HMU HMV
      generalize hvj:l[j]=vj at *
      generalize hrow:(m.up.getD vj []).map (fun u:Int=>(plF l l.length u.toNat:Int))=row at *
      generalize (m.up.getD vj []).length=lu at *
      generalize vl m vj=nrow at *
      generalize (abU m l).take j=up at *
      generalize (l.map (vl m)).take j=val at *
      obtain ⟨xs,hx1,hx2⟩:=HP0.out.up
      obtain ⟨ys,hy1,hy2⟩:=HP0.out.val
      obtain ⟨pu2,cu2,rfl⟩:=own_form hx1
      obtain ⟨pv2,cv2,rfl⟩:=own_form hy1
      have HP:=show Hid (PT w5 wr w.heap.size b12 (.slice pu2 up.length cu2) (.slice pv2 val.length cv2) up val) from HP0.out
      have HXS:=show Hid (wr.ownsRow w5.heap.size 27 1 (.slice pu2 up.length cu2) up.length xs∧∀ (i:Nat) (hi:i<up.length),∃ x,xs[i]?=some x∧OwnZ w5.heap.size wr x up[i]) from ⟨hx1,hx2⟩
      have hul:up.length<512:=by have:=HUL.out.1;omega
      have hvl:val.length<512:=by have:=HUL.out.2;omega
      obtain ⟨i9,hi9,hz90,hz91,hz92⟩:=info_parts infoLI
      obtain ⟨iS,hiS,hzS0,hzS1,hzS2⟩:=info_parts infoLS
      clear hx1 hx2 hy1 hy2 HP0 hrow hvj
      go_wp2_with fail
      refine wp_region_dep (by kernel_rfl) [some 47,some 48,some 49,some 50,some 51,some 52,some 53,some 54,some 55,some 56,some 57,some 58,none] [[],[0],[],[2],[],[3,4],[5],[],[6,7],[8],[1,9],[],[11,10]] [[],[0],[],[2],[],[3,2,4],[5,3,2,4],[],[6,5,3,2,4,7],[8,6,5,3,2,4,7],[1,0,9,8,6,5,3,2,4,7],[],[11,10,1,0,9,8,6,5,3,2,4,7]] (by kernel_rfl) (by decide) (fun i v W=>match i with | 0=>v=.pointer (some ⟨b12,0,none⟩) | 1=>v=(.slice pu2 up.length cu2) | 2=>v=.pointer (some ⟨b2,0,none⟩) | 3=>v=.slice (some ⟨bu,ou,none⟩) m.up.length cu | 4=>v=.int .i64 (vj:Int) | 5=>v=.pointer (some ⟨bu,ou+vj,none⟩) | 6=>v=.slice qu lu nu | 7=>v=.func (.func 32) #[] #[.pointer (some ⟨Pb+1,0,none⟩)] | 8=>(fun x W=>OwnZ wr.heap.size W x row) v W | 9=>NqG b12 27 (.slice pu2 up.length cu2) (fun x W=>OwnZ wr.heap.size W x row) v W | 10=>GwG wr b12 0 w5.heap.size up.length 27 (.slice pu2 up.length cu2) xs (fun x W=>OwnZ wr.heap.size W x row) v W | 11=>v=.pointer (some ⟨b12,0,none⟩) | 12=>True | _=>True) (SG 10 12 wr b12 0 w5.heap.size up.length 27 #[(.slice pu2 up.length cu2),(.slice pv2 val.length cv2)] (.slice pu2 up.length cu2) xs (fun x W=>OwnZ wr.heap.size W x row)) (LG 8 9 10 12 b12 0 27 (.slice pu2 up.length cu2)) ?hle ⟨fun _=>(Below.refl _ _).drew,fun _=>HP.out.box,fun h=>(by cases h)⟩ (allLt 13 ?steps) ?fin
      case hle =>
       intro i j v W W' hij hn hl h
       match j,h with
       | 0,h=>exact h
       | 1,h=>exact h
       | 2,h=>exact h
       | 3,h=>exact h
       | 4,h=>exact h
       | 5,h=>exact h
       | 6,h=>exact h
       | 7,h=>exact h
       | 8,h=>exact (fun _ _ _ h ho=>KT.own h (by decide) (by decide) ho) v W W' hl.1 h
       | 9,h=>exact nqG_le (fun _ _ _ h ho=>KT.own h (by decide) (by decide) ho) hl h
       | 10,h=>exact gwG_le (fun e=>hn (by subst e;decide)) (fun e=>hn (by subst e;decide)) hij hl h
       | 11,h=>exact h
       | 12,_=>trivial
       | _+13,_=>trivial
      case steps =>
       refine ⟨⟨⟨⟨⟨⟨⟨⟨⟨⟨⟨⟨⟨trivial,?s0⟩,?s1⟩,?s2⟩,?s3⟩,?s4⟩,?s5⟩,?s6⟩,?s7⟩,?s8⟩,?s9⟩,?s10⟩,?s11⟩,?s12⟩
       case s0 =>
        intro done a W hW hd hnd hno hO hN
        have o12:a.tmps[12]?=some (.pointer (some ⟨b12,0,none⟩)):=(hO.out 12 (by decide)).trans rfl
        have hB:=hW.1 (hno 10 (by decide))
        have hCb:=hW.2.1 (hno 12 (by decide))
        exact relVal rfl (.pointer (some ⟨b12,0,none⟩)) _ rfl (by go_simp) ⟨_,rfl,rfl,⟨fun h=>hW.1 (by simpa using h),fun h=>hW.2.1 (by simpa using h),fun h=>hW.2.2 (by simpa using h)⟩,LG.same (by decide) (by decide)⟩
       case s1 =>
        intro done a W hW hd hnd hno hO hN
        obtain ⟨v0,g0,r0⟩:=hN 0 (by decide)
        have g0:a.tmps[47]?=some v0:=g0
        have e0:v0=.pointer (some ⟨b12,0,none⟩):=r0
        rw [e0] at g0
        have hB:=hW.1 (hno 10 (by decide))
        have hCb:=hW.2.1 (hno 12 (by decide))
        have c0:W.cell? ⟨b12,0,none⟩=some ((.slice pu2 up.length cu2)):=Cl.cell hCb 0
        exact relVal rfl ((.slice pu2 up.length cu2)) _ rfl (by go_simp) ⟨_,rfl,rfl,⟨fun h=>hW.1 (by simpa using h),fun h=>hW.2.1 (by simpa using h),fun h=>hW.2.2 (by simpa using h)⟩,LG.same (by decide) (by decide)⟩
       case s2 =>
        intro done a W hW hd hnd hno hO hN
        have o2:a.tmps[2]?=some (.pointer (some ⟨b2,0,none⟩)):=(hO.out 2 (by decide)).trans rfl
        have hB:=hW.1 (hno 10 (by decide))
        have hCb:=hW.2.1 (hno 12 (by decide))
        exact relVal rfl (.pointer (some ⟨b2,0,none⟩)) _ rfl (by go_simp) ⟨_,rfl,rfl,⟨fun h=>hW.1 (by simpa using h),fun h=>hW.2.1 (by simpa using h),fun h=>hW.2.2 (by simpa using h)⟩,LG.same (by decide) (by decide)⟩
       case s3 =>
        intro done a W hW hd hnd hno hO hN
        obtain ⟨v2,g2,r2⟩:=hN 2 (by decide)
        have g2:a.tmps[49]?=some v2:=g2
        have e2:v2=.pointer (some ⟨b2,0,none⟩):=r2
        rw [e2] at g2
        have hB:=hW.1 (hno 10 (by decide))
        have hCb:=hW.2.1 (hno 12 (by decide))
        have c0:=(HWC.out W (HP.out.later hB).kp).1
        exact relVal rfl (.slice (some ⟨bu,ou,none⟩) m.up.length cu) _ rfl (by go_simp) ⟨_,rfl,rfl,⟨fun h=>hW.1 (by simpa using h),fun h=>hW.2.1 (by simpa using h),fun h=>hW.2.2 (by simpa using h)⟩,LG.same (by decide) (by decide)⟩
       case s4 =>
        intro done a W hW hd hnd hno hO hN
        have o14:a.tmps[14]?=some (.int .i64 (vj:Int)):=(hO.out 14 (by decide)).trans rfl
        have hB:=hW.1 (hno 10 (by decide))
        have hCb:=hW.2.1 (hno 12 (by decide))
        exact relVal rfl (.int .i64 (vj:Int)) _ rfl (by go_simp) ⟨_,rfl,rfl,⟨fun h=>hW.1 (by simpa using h),fun h=>hW.2.1 (by simpa using h),fun h=>hW.2.2 (by simpa using h)⟩,LG.same (by decide) (by decide)⟩
       case s5 =>
        intro done a W hW hd hnd hno hO hN
        obtain ⟨v3,g3,r3⟩:=hN 3 (by decide)
        have g3:a.tmps[50]?=some v3:=g3
        have e3:v3=.slice (some ⟨bu,ou,none⟩) m.up.length cu:=r3
        rw [e3] at g3
        obtain ⟨v4,g4,r4⟩:=hN 4 (by decide)
        have g4:a.tmps[51]?=some v4:=g4
        have e4:v4=.int .i64 (vj:Int):=r4
        rw [e4] at g4
        have hB:=hW.1 (hno 10 (by decide))
        have hCb:=hW.2.1 (hno 12 (by decide))
        exact relVal rfl (.pointer (some ⟨bu,ou+vj,none⟩)) _ rfl (by go_simp) ⟨_,rfl,rfl,⟨fun h=>hW.1 (by simpa using h),fun h=>hW.2.1 (by simpa using h),fun h=>hW.2.2 (by simpa using h)⟩,LG.same (by decide) (by decide)⟩
       case s6 =>
        intro done a W hW hd hnd hno hO hN
        obtain ⟨v5,g5,r5⟩:=hN 5 (by decide)
        have g5:a.tmps[52]?=some v5:=g5
        have e5:v5=.pointer (some ⟨bu,ou+vj,none⟩):=r5
        rw [e5] at g5
        have hB:=hW.1 (hno 10 (by decide))
        have hCb:=hW.2.1 (hno 12 (by decide))
        have c0:=(HWC.out W (HP.out.later hB).kp).2.2.1
        exact relVal rfl (.slice qu lu nu) _ rfl (by go_simp) ⟨_,rfl,rfl,⟨fun h=>hW.1 (by simpa using h),fun h=>hW.2.1 (by simpa using h),fun h=>hW.2.2 (by simpa using h)⟩,LG.same (by decide) (by decide)⟩
       case s7 =>
        intro done a W hW hd hnd hno hO hN
        have o9:a.tmps[9]?=some (.pointer (some ⟨Pb+1,0,none⟩)):=(hO.out 9 (by decide)).trans rfl
        have hB:=hW.1 (hno 10 (by decide))
        have hCb:=hW.2.1 (hno 12 (by decide))
        exact relVal rfl (.func (.func 32) #[] #[.pointer (some ⟨Pb+1,0,none⟩)]) _ rfl (by go_simp) ⟨_,rfl,rfl,⟨fun h=>hW.1 (by simpa using h),fun h=>hW.2.1 (by simpa using h),fun h=>hW.2.2 (by simpa using h)⟩,LG.same (by decide) (by decide)⟩
       case s8 =>
        intro done a W hW hd hnd hno hO hN
        obtain ⟨v6,g6,r6⟩:=hN 6 (by decide)
        have g6:a.tmps[53]?=some v6:=g6
        have e6:v6=.slice qu lu nu:=r6
        rw [e6] at g6
        obtain ⟨v7,g7,r7⟩:=hN 7 (by decide)
        have g7:a.tmps[54]?=some v7:=g7
        have e7:v7=.func (.func 32) #[] #[.pointer (some ⟨Pb+1,0,none⟩)]:=r7
        rw [e7] at g7
        have hB:=hW.1 (hno 10 (by decide))
        have hCb:=hW.2.1 (hno 12 (by decide))
        refine relCallF rfl rfl 31 [.tmp 53,.tmp 54] #[27,65] rfl [.slice qu lu nu,.func (.func 32) #[] #[.pointer (some ⟨Pb+1,0,none⟩)]] (by simp [Act.eval,g6,g7]) (fun _ _=>by kernel_rfl) (Calls.mono (KR.out W hB) ?_)
        rintro e W2 ⟨v',rfl,h1,hb2⟩
        exact ⟨_,rfl,v',rfl,own_base h1 hB.size,⟨fun _=>hB.trans ((hb2).mono hB.size),fun _=>Cl.later (hW.2.1 (hno 12 (by decide))) (hb2),fun h=>absurd (h.symm.trans (by simpa using hno 12 (by decide))) (by decide)⟩,LG.made (by decide) (by decide) (Or.inl rfl) hb2⟩
       case s9 =>
        intro done a W hW hd hnd hno hO hN
        obtain ⟨v8,g8,r8⟩:=hN 8 (by decide)
        have g8:a.tmps[55]?=some v8:=g8
        have hB:=hW.1 (hno 10 (by decide))
        have hCb:=hW.2.1 (hno 12 (by decide))
        have r8:OwnZ wr.heap.size W v8 row:=r8
        obtain ⟨px,cx,ex⟩:=OwnZ.slice r8
        rw [ex] at g8 r8
        have hbs:=bsLI W px row.length cx
        exact relVal rfl (.slice (some ⟨W.heap.size,0,none⟩) 1 1) (W.alloc (.cells #[(.slice px row.length cx)] 27)) rfl (by simp [execOp,Act.eval,g8,hbs,Result.andThen]) ⟨_,rfl,⟨W.heap.size,(.slice px row.length cx),rfl,fun e=>by have:=Cl.lt hCb;omega,fun e=>by have:=(own_blk (own_later (HXS.out.1) hB) e).2.1;omega,heap_alloc_new _ _,own_later r8 (below_alloc W _),rfl⟩,⟨fun _=>hB.trans ((below_alloc W _).mono hB.size),fun _=>Cl.later (hW.2.1 (hno 12 (by decide))) (below_alloc W _),fun h=>absurd (h.symm.trans (by simpa using hno 12 (by decide))) (by decide)⟩,LG.made (by decide) (by decide) (Or.inr rfl) (below_alloc W _)⟩
       case s10 =>
        intro done a W hW hd hnd hno hO hN
        obtain ⟨v1,g1,r1⟩:=hN 1 (by decide)
        have g1:a.tmps[48]?=some v1:=g1
        have e1:v1=(.slice pu2 up.length cu2):=r1
        rw [e1] at g1
        obtain ⟨v9,g9,r9⟩:=hN 9 (by decide)
        have g9:a.tmps[56]?=some v9:=g9
        have hCb:=hW.2.1 (hno 12 (by decide))
        have hB:=hW.1 hd
        obtain ⟨q,x,e9,hqb,hqV,hcq,hpx,hox⟩:=r9
        rw [e9] at g9
        have hrow:=own_later (HXS.out.1) hB
        obtain ⟨v',W2,hrun,ho',hgr,_,hblk⟩:=run_append_own_at (P:=Try.prog) (w:=W) (w5.heap.size) 22 22 27 i9 (.slice none 0 0) 1 24 Try.underlying22 hi9 hz90 hz91 hz92 rfl (by decide) _ _ _ hrow ⟨q,0,none⟩ 1 1 [x] rfl (cell_one (hcq.cell 0)) (by intro u hu;simp at hu;subst hu;exact hox) (by unfold maxLen;omega) (by omega) (Nat.le_trans (HP.out.kp.size) hB.size)
        exact relVal rfl v' W2 rfl (by simp [execOp,Act.eval,resolve,invoke,builtin,g1,g9,hrun,Result.andThen]) ⟨_,rfl,⟨x,W,W2,hB,hpx,hgr,ho',Or.inl rfl⟩,⟨fun h=>(by simp at h),fun _=>(grow_old hrow hgr (HB5.out.2.1) (Nat.le_trans (HP.out.kp.size) hB.size)).trans (hW.2.1 (hno 12 (by decide))),fun h=>absurd (h.symm.trans (by simpa using hno 12 (by decide))) (by decide)⟩,LG.grew (by decide) hrow hgr⟩
       case s11 =>
        intro done a W hW hd hnd hno hO hN
        have o12:a.tmps[12]?=some (.pointer (some ⟨b12,0,none⟩)):=(hO.out 12 (by decide)).trans rfl
        have hCb:=hW.2.1 (hno 12 (by decide))
        exact relVal rfl (.pointer (some ⟨b12,0,none⟩)) _ rfl (by go_simp) ⟨_,rfl,rfl,⟨fun h=>hW.1 (by simpa using h),fun h=>hW.2.1 (by simpa using h),fun h=>hW.2.2 (by simpa using h)⟩,LG.same (by decide) (by decide)⟩
       case s12 =>
        intro done a W hW hd hnd hno hO hN
        obtain ⟨v11,g11,r11⟩:=hN 11 (by decide)
        have g11:a.tmps[58]?=some v11:=g11
        have e11:v11=.pointer (some ⟨b12,0,none⟩):=r11
        rw [e11] at g11
        obtain ⟨v10,g10,r10⟩:=hN 10 (by decide)
        have g10:a.tmps[57]?=some v10:=g10
        have hcl:=hW.2.1 hd
        obtain ⟨x,W1,W2,hb1,hpx,hg,ho,hor⟩:=r10
        have cG:W.cell? ⟨b12,0,none⟩=some ((.slice pu2 up.length cu2)):=Cl.cell hcl 0
        have fG:W.frozen? ⟨b12,0,none⟩=false:=Cl.fr hcl 0
        rcases hor with rfl | hne
        ·obtain ⟨pp,np,e8⟩:=own_form ho
         rw [e8] at g10
         have hlen:v10≠(.slice pu2 up.length cu2):=fun e=>by
          obtain ⟨p0,c0,e0⟩:=own_form (HXS.out.1)
          rw [e8,e0] at e
          have h9:up.length+1=up.length:=(Value.slice.inj e).2.1
          omega
         refine relSkip rfl (W.setCell ⟨b12,0,none⟩ (.slice pp (up.length+1) np)) rfl (by go_simp) ⟨.bool true,rfl,trivial,⟨fun h=>absurd ((hnd 10 (by decide)).symm.trans (by simpa using h)) (by decide),fun h=>(by simp at h),fun _=>⟨x,v10,W1,W,hb1,hpx,hg,ho,by rw [e8]⟩⟩,⟨KT.of_set hcl,fun h=>absurd h (by decide),fun _=>⟨fun h => ?_,fun b' hb'=>Below.heap_setCell _ ⟨b12,0,none⟩ _ b' hb'⟩,fun _ h=>absurd rfl h,fun _ _ _ h=>absurd rfl h⟩⟩
         have h0:=show Cl (W.setCell ⟨b12,0,none⟩ (.slice pp (up.length+1) np)) b12 _ 25 from heap_setCell_same W b12 0 _ _ _ hcl
         have h1:(W.setCell ⟨b12,0,none⟩ (.slice pp (up.length+1) np)).cell? ⟨b12,0,none⟩=some (.slice pp (up.length+1) np):=(Cl.cell h0 0).trans rfl
         rw [h1] at h
         exact hlen (e8.trans (Option.some.inj h))
        ·exact absurd cG hne
      case fin =>
       intro vs done w9 hdone hS hV
       have hF:=hS.2.2 (hdone 12 (by decide))
       obtain ⟨u',hPT⟩:=HP.out.upS HB5.out.2.1 HXS.out.1 HXS.out.2 hF
       have HP9:=show Hid (PT w5 w9 w.heap.size b12 u' (.slice pv2 val.length cv2) (up ++ [row]) val) from hPT
       simp only [putAll,Act.put,List.setIfInBounds_toArray,List.set_cons_zero,List.set_cons_succ,Nat.reduceAdd]
       clear hV hS hF hPT HXS HP KR
       obtain ⟨ys,hy1,hy2⟩:=HP9.out.val
       have HYS:=show Hid (w9.ownsRow w5.heap.size 34 1 (.slice pv2 val.length cv2) val.length ys∧∀ (i:Nat) (hi:i<val.length),∃ x,ys[i]?=some x∧IsN w5 w.heap.size x val[i]) from ⟨hy1,hy2⟩
       clear hy1 hy2
       go_wp2_with fail
       refine wp_region_dep (by kernel_rfl) [some 59,some 60,some 61,some 62,some 63,some 64,some 65,some 66,some 67,some 68,none] [[],[0],[],[2],[],[3,4],[5],[6],[1,7],[],[9,8]] [[],[0],[],[2],[],[3,2,4],[5,3,2,4],[6,5,3,2,4],[1,0,7,6,5,3,2,4],[],[9,8,1,0,7,6,5,3,2,4]] (by kernel_rfl) (by decide) (fun i v W=>match i with | 0=>v=.pointer (some ⟨b12,1,none⟩) | 1=>v=(.slice pv2 val.length cv2) | 2=>v=.pointer (some ⟨b2,1,none⟩) | 3=>v=.slice (some ⟨bw,ow,none⟩) m.val.length cv | 4=>v=.int .i64 (vj:Int) | 5=>v=.pointer (some ⟨bw,ow+vj,none⟩) | 6=>v=.slice qw nrow.length nw | 7=>NqG b12 34 (.slice pv2 val.length cv2) (fun x _=>x=.slice qw nrow.length nw) v W | 8=>GwG w9 b12 1 w5.heap.size val.length 34 (.slice pv2 val.length cv2) ys (fun x _=>x=.slice qw nrow.length nw) v W | 9=>v=.pointer (some ⟨b12,1,none⟩) | 10=>True | _=>True) (SG 8 10 w9 b12 1 w5.heap.size val.length 34 #[u',(.slice pv2 val.length cv2)] (.slice pv2 val.length cv2) ys (fun x _=>x=.slice qw nrow.length nw)) (LG 6 7 8 10 b12 1 34 (.slice pv2 val.length cv2)) ?hle ⟨fun _=>(Below.refl _ _).drew,fun _=>HP9.out.box,fun h=>(by cases h)⟩ (allLt 11 ?steps) ?fin
       case hle =>
        intro i j v W W' hij hn hl h
        match j,h with
        | 0,h=>exact h
        | 1,h=>exact h
        | 2,h=>exact h
        | 3,h=>exact h
        | 4,h=>exact h
        | 5,h=>exact h
        | 6,h=>exact h
        | 7,h=>exact nqG_le (fun _ _ _ _ h=>h) hl h
        | 8,h=>exact gwG_le (fun e=>hn (by subst e;decide)) (fun e=>hn (by subst e;decide)) hij hl h
        | 9,h=>exact h
        | 10,_=>trivial
        | _+11,_=>trivial
       case steps =>
        refine ⟨⟨⟨⟨⟨⟨⟨⟨⟨⟨⟨trivial,?s0⟩,?s1⟩,?s2⟩,?s3⟩,?s4⟩,?s5⟩,?s6⟩,?s7⟩,?s8⟩,?s9⟩,?s10⟩
        case s0 =>
         intro done a W hW hd hnd hno hO hN
         have o12:a.tmps[12]?=some (.pointer (some ⟨b12,0,none⟩)):=(hO.out 12 (by decide)).trans rfl
         have hB:=hW.1 (hno 8 (by decide))
         have hCb:=hW.2.1 (hno 10 (by decide))
         exact relVal rfl (.pointer (some ⟨b12,1,none⟩)) _ rfl (by go_simp) ⟨_,rfl,rfl,⟨fun h=>hW.1 (by simpa using h),fun h=>hW.2.1 (by simpa using h),fun h=>hW.2.2 (by simpa using h)⟩,LG.same (by decide) (by decide)⟩
        case s1 =>
         intro done a W hW hd hnd hno hO hN
         obtain ⟨v0,g0,r0⟩:=hN 0 (by decide)
         have g0:a.tmps[59]?=some v0:=g0
         have e0:v0=.pointer (some ⟨b12,1,none⟩):=r0
         rw [e0] at g0
         have hB:=hW.1 (hno 8 (by decide))
         have hCb:=hW.2.1 (hno 10 (by decide))
         have c0:W.cell? ⟨b12,1,none⟩=some ((.slice pv2 val.length cv2)):=Cl.cell hCb 1
         exact relVal rfl ((.slice pv2 val.length cv2)) _ rfl (by go_simp) ⟨_,rfl,rfl,⟨fun h=>hW.1 (by simpa using h),fun h=>hW.2.1 (by simpa using h),fun h=>hW.2.2 (by simpa using h)⟩,LG.same (by decide) (by decide)⟩
        case s2 =>
         intro done a W hW hd hnd hno hO hN
         have o2:a.tmps[2]?=some (.pointer (some ⟨b2,0,none⟩)):=(hO.out 2 (by decide)).trans rfl
         have hB:=hW.1 (hno 8 (by decide))
         have hCb:=hW.2.1 (hno 10 (by decide))
         exact relVal rfl (.pointer (some ⟨b2,1,none⟩)) _ rfl (by go_simp) ⟨_,rfl,rfl,⟨fun h=>hW.1 (by simpa using h),fun h=>hW.2.1 (by simpa using h),fun h=>hW.2.2 (by simpa using h)⟩,LG.same (by decide) (by decide)⟩
        case s3 =>
         intro done a W hW hd hnd hno hO hN
         obtain ⟨v2,g2,r2⟩:=hN 2 (by decide)
         have g2:a.tmps[61]?=some v2:=g2
         have e2:v2=.pointer (some ⟨b2,1,none⟩):=r2
         rw [e2] at g2
         have hB:=hW.1 (hno 8 (by decide))
         have hCb:=hW.2.1 (hno 10 (by decide))
         have c0:=(HWC.out W (HP9.out.later hB).kp).2.1
         exact relVal rfl (.slice (some ⟨bw,ow,none⟩) m.val.length cv) _ rfl (by go_simp) ⟨_,rfl,rfl,⟨fun h=>hW.1 (by simpa using h),fun h=>hW.2.1 (by simpa using h),fun h=>hW.2.2 (by simpa using h)⟩,LG.same (by decide) (by decide)⟩
        case s4 =>
         intro done a W hW hd hnd hno hO hN
         have o14:a.tmps[14]?=some (.int .i64 (vj:Int)):=(hO.out 14 (by decide)).trans rfl
         have hB:=hW.1 (hno 8 (by decide))
         have hCb:=hW.2.1 (hno 10 (by decide))
         exact relVal rfl (.int .i64 (vj:Int)) _ rfl (by go_simp) ⟨_,rfl,rfl,⟨fun h=>hW.1 (by simpa using h),fun h=>hW.2.1 (by simpa using h),fun h=>hW.2.2 (by simpa using h)⟩,LG.same (by decide) (by decide)⟩
        case s5 =>
         intro done a W hW hd hnd hno hO hN
         obtain ⟨v3,g3,r3⟩:=hN 3 (by decide)
         have g3:a.tmps[62]?=some v3:=g3
         have e3:v3=.slice (some ⟨bw,ow,none⟩) m.val.length cv:=r3
         rw [e3] at g3
         obtain ⟨v4,g4,r4⟩:=hN 4 (by decide)
         have g4:a.tmps[63]?=some v4:=g4
         have e4:v4=.int .i64 (vj:Int):=r4
         rw [e4] at g4
         have hB:=hW.1 (hno 8 (by decide))
         have hCb:=hW.2.1 (hno 10 (by decide))
         exact relVal rfl (.pointer (some ⟨bw,ow+vj,none⟩)) _ rfl (by go_simp) ⟨_,rfl,rfl,⟨fun h=>hW.1 (by simpa using h),fun h=>hW.2.1 (by simpa using h),fun h=>hW.2.2 (by simpa using h)⟩,LG.same (by decide) (by decide)⟩
        case s6 =>
         intro done a W hW hd hnd hno hO hN
         obtain ⟨v5,g5,r5⟩:=hN 5 (by decide)
         have g5:a.tmps[64]?=some v5:=g5
         have e5:v5=.pointer (some ⟨bw,ow+vj,none⟩):=r5
         rw [e5] at g5
         have hB:=hW.1 (hno 8 (by decide))
         have hCb:=hW.2.1 (hno 10 (by decide))
         have c0:=(HWC.out W (HP9.out.later hB).kp).2.2.2
         exact relVal rfl (.slice qw nrow.length nw) _ rfl (by go_simp) ⟨_,rfl,rfl,⟨fun h=>hW.1 (by simpa using h),fun h=>hW.2.1 (by simpa using h),fun h=>hW.2.2 (by simpa using h)⟩,LG.same (by decide) (by decide)⟩
        case s7 =>
         intro done a W hW hd hnd hno hO hN
         obtain ⟨v6,g6,r6⟩:=hN 6 (by decide)
         have g6:a.tmps[65]?=some v6:=g6
         have e6:v6=.slice qw nrow.length nw:=r6
         rw [e6] at g6
         have hB:=hW.1 (hno 8 (by decide))
         have hCb:=hW.2.1 (hno 10 (by decide))
         have hbs:=bsLS W qw nrow.length nw
         exact relVal rfl (.slice (some ⟨W.heap.size,0,none⟩) 1 1) (W.alloc (.cells #[(.slice qw nrow.length nw)] 34)) rfl (by simp [execOp,Act.eval,g6,hbs,Result.andThen]) ⟨_,rfl,⟨W.heap.size,(.slice qw nrow.length nw),rfl,fun e=>by have:=Cl.lt hCb;omega,fun e=>by have:=(own_blk (own_later (HYS.out.1) hB) e).2.1;omega,heap_alloc_new _ _,rfl,rfl⟩,⟨fun _=>hB.trans ((below_alloc W _).mono hB.size),fun _=>Cl.later (hW.2.1 (hno 10 (by decide))) (below_alloc W _),fun h=>absurd (h.symm.trans (by simpa using hno 10 (by decide))) (by decide)⟩,LG.made (by decide) (by decide) (Or.inr rfl) (below_alloc W _)⟩
        case s8 =>
         intro done a W hW hd hnd hno hO hN
         obtain ⟨v1,g1,r1⟩:=hN 1 (by decide)
         have g1:a.tmps[60]?=some v1:=g1
         have e1:v1=(.slice pv2 val.length cv2):=r1
         rw [e1] at g1
         obtain ⟨v7,g7,r7⟩:=hN 7 (by decide)
         have g7:a.tmps[66]?=some v7:=g7
         have hCb:=hW.2.1 (hno 10 (by decide))
         have hB:=hW.1 hd
         obtain ⟨q,x,e7,hqb,hqV,hcq,hpx,hox⟩:=r7
         rw [e7] at g7
         have hrow:=own_later (HYS.out.1) hB
         obtain ⟨v',W2,hrun,ho',hgr,_,hblk⟩:=run_append_own_at (P:=Try.prog) (w:=W) (w5.heap.size) 23 23 34 iS (.slice none 0 0) 1 24 Try.underlying23 hiS hzS0 hzS1 hzS2 rfl (by decide) _ _ _ hrow ⟨q,0,none⟩ 1 1 [x] rfl (cell_one (hcq.cell 0)) (by intro u hu;simp at hu;subst hu;exact hox) (by unfold maxLen;omega) (by omega) (Nat.le_trans (HP9.out.kp.size) hB.size)
         exact relVal rfl v' W2 rfl (by simp [execOp,Act.eval,resolve,invoke,builtin,g1,g7,hrun,Result.andThen]) ⟨_,rfl,⟨x,W,W2,hB,hpx,hgr,ho',Or.inl rfl⟩,⟨fun h=>(by simp at h),fun _=>(grow_old hrow hgr (HB5.out.2.1) (Nat.le_trans (HP9.out.kp.size) hB.size)).trans (hW.2.1 (hno 10 (by decide))),fun h=>absurd (h.symm.trans (by simpa using hno 10 (by decide))) (by decide)⟩,LG.grew (by decide) hrow hgr⟩
        case s9 =>
         intro done a W hW hd hnd hno hO hN
         have o12:a.tmps[12]?=some (.pointer (some ⟨b12,0,none⟩)):=(hO.out 12 (by decide)).trans rfl
         have hCb:=hW.2.1 (hno 10 (by decide))
         exact relVal rfl (.pointer (some ⟨b12,1,none⟩)) _ rfl (by go_simp) ⟨_,rfl,rfl,⟨fun h=>hW.1 (by simpa using h),fun h=>hW.2.1 (by simpa using h),fun h=>hW.2.2 (by simpa using h)⟩,LG.same (by decide) (by decide)⟩
        case s10 =>
         intro done a W hW hd hnd hno hO hN
         obtain ⟨v9,g9,r9⟩:=hN 9 (by decide)
         have g9:a.tmps[68]?=some v9:=g9
         have e9:v9=.pointer (some ⟨b12,1,none⟩):=r9
         rw [e9] at g9
         obtain ⟨v8,g8,r8⟩:=hN 8 (by decide)
         have g8:a.tmps[67]?=some v8:=g8
         have hcl:=hW.2.1 hd
         obtain ⟨x,W1,W2,hb1,hpx,hg,ho,hor⟩:=r8
         have cG:W.cell? ⟨b12,1,none⟩=some ((.slice pv2 val.length cv2)):=Cl.cell hcl 1
         have fG:W.frozen? ⟨b12,1,none⟩=false:=Cl.fr hcl 1
         rcases hor with rfl | hne
         ·obtain ⟨pp,np,e8⟩:=own_form ho
          rw [e8] at g8
          have hlen:v8≠(.slice pv2 val.length cv2):=fun e=>by
           obtain ⟨p0,c0,e0⟩:=own_form (HYS.out.1)
           rw [e8,e0] at e
           have h9:val.length+1=val.length:=(Value.slice.inj e).2.1
           omega
          refine relSkip rfl (W.setCell ⟨b12,1,none⟩ (.slice pp (val.length+1) np)) rfl (by go_simp) ⟨.bool true,rfl,trivial,⟨fun h=>absurd ((hnd 8 (by decide)).symm.trans (by simpa using h)) (by decide),fun h=>(by simp at h),fun _=>⟨x,v8,W1,W,hb1,hpx,hg,ho,by rw [e8]⟩⟩,⟨KT.of_set hcl,fun h=>absurd h (by decide),fun _=>⟨fun h => ?_,fun b' hb'=>Below.heap_setCell _ ⟨b12,1,none⟩ _ b' hb'⟩,fun _ h=>absurd rfl h,fun _ _ _ h=>absurd rfl h⟩⟩
          have h0:=show Cl (W.setCell ⟨b12,1,none⟩ (.slice pp (val.length+1) np)) b12 _ 25 from heap_setCell_same W b12 1 _ _ _ hcl
          have h1:(W.setCell ⟨b12,1,none⟩ (.slice pp (val.length+1) np)).cell? ⟨b12,1,none⟩=some (.slice pp (val.length+1) np):=(Cl.cell h0 1).trans rfl
          rw [h1] at h
          exact hlen (e8.trans (Option.some.inj h))
         ·exact absurd cG hne
       case fin =>
        intro vs done w10 hdone hS hV
        have hF:=hS.2.2 (hdone 10 (by decide))
        obtain ⟨v'',hPT⟩:=HP9.out.valS HB5.out.2.1 HYS.out.1 HYS.out.2 HRV.out hF
        have HPX:=show Hid (PT w5 w10 w.heap.size b12 u' v'' (up ++ [row]) (val ++ [nrow])) from hPT
        simp only [putAll,Act.put,List.setIfInBounds_toArray,List.set_cons_zero,List.set_cons_succ,Nat.reduceAdd]
        clear hV hS hF hPT HYS HP9
        go_wp2_with fail
        go_roundw
        case rel=>exact ⟨j+1,_,_,by omega,val_int (by omega),by rw [HST.out.1,HST.out.2];exact HPX.out⟩
        case measure=>(simp only [intOf];omega)
     ·obtain rfl:j=l.length:=by omega
      have hji:¬ (l.length:Int)<(l.length:Int):=by omega
      have htk:(abU m l).take l.length=abU m l∧(l.map (vl m)).take l.length=l.map (vl m):=⟨List.take_of_length_le (by simp [abU]),List.take_of_length_le (by simp)⟩
      rw [htk.1,htk.2] at HP0
      have HP:=show Hid (PT w5 wr w.heap.size b12 uv2 vv2 (abM m l).up (abM m l).val) from HP0.out
      obtain ⟨M',hO'⟩:=isO_ex (abM m l).up
      have hgood:=ab_good HF.out.1 HG.out.1 HG.out.2.2.1 HG.out.2.2.2.1
      have hvm:∀ v ∈ l,vl m v ∈ m.val:=fun v hv=>by
       have h1:=(ab_mem HG.out.2.2.2.1).1 hv
       have h2:=HG.out.2.2.2.2.2
       rw [vl_at (by omega)]
       exact List.getElem_mem _
      have hum:∀ v ∈ l,m.up.getD v [] ∈ m.up:=fun v hv=>by
       have h1:=(ab_mem HG.out.2.2.2.1).1 hv
       rw [List.getD_eq_getElem?_getD,List.getElem?_eq_getElem h1.1]
       exact List.getElem_mem _
      have hfit:Fit (abM m l):=by
       obtain ⟨f1,f2,f3,f4⟩:=HF.out.2.1
       refine ⟨by simp [abM,abU];omega,by simp [abM];omega,fun r hr => ?_,fun r hr => ?_⟩
       ·have hall:=(Wd.shaped_and hgood.shape).2.2.2.1 r hr
        have hlen:(abM m l).up.length≤512:=(Wd.shaped_and hgood.shape).2.1
        refine ⟨?_,fun i hi => ?_⟩
        ·obtain ⟨v,hv,rfl⟩:=List.mem_map.1 hr
         rw [List.length_map]
         exact (f3 _ (hum v hv)).1
        ·have h2:inW (abM m l).up.length i=true:=List.all_eq_true.1 hall i hi
         unfold inW at h2
         simp only [Bool.and_eq_true,decide_eq_true_eq] at h2
         omega
       ·obtain ⟨v,hv,rfl⟩:=List.mem_map.1 hr
        exact f4 _ (hvm v hv)
      have hisM:=HP.out.isM HB5.out.1 HB5.out.2.1
      have KT:=show Hid _ from tidy_any wr (m:=abM m l) hO' hisM hfit (Nat.le_refl _) (fun r hr=>by
       obtain ⟨v,hv,rfl⟩:=List.mem_map.1 hr
       exact HF.out.2.2.1 _ (hvm v hv))
      have HGO:=show Hid (Wd.Good (abM m l)∧tdU M' (abM m l).up.length (abM m l).up.length=tdU (fun i j=>M (l.getD i 0) (l.getD j 0)) l.length l.length) from by
       refine ⟨hgood,?_⟩
       have e:(abM m l).up.length=l.length:=by simp [abM,abU]
       rw [e]
       exact tdU_congr (ab_isO HF.out.1 HG.out.1 HG.out.2.2.2.1 hO')
      clear htk hgood hvm hum hfit hisM HP0 HMU HMV
      go_wp2_with (refine wpList_ldw 25 _ rfl b12 rfl _ _ HP.out.box rfl Try.underlying25 sizeM rfl ?_)
      refine Calls.mono KT.out ?_
      rintro e w6 ⟨u',v',er,rfl,hR,hb6⟩
      obtain ⟨rfl,hU,hV⟩:er=0∧RowsZ wr.heap.size w6 u' (tdU (fun i j=>M (l.getD i 0) (l.getD j 0)) l.length l.length)∧RowsN wr.heap.size w6 v' (l.map (vl m)):=by
       rcases hR with ⟨h,_⟩ | ⟨_,h1,h2,h3⟩
       ·exact absurd HGO.out.1 h
       ·exact ⟨h1,by rw [← HGO.out.2];exact h2,h3⟩
      have H6:=show Hid (RowsZ wr.heap.size w6 u' (tdU (fun i j=>M (l.getD i 0) (l.getD j 0)) l.length l.length)∧RowsN wr.heap.size w6 v' (l.map (vl m))∧PT w5 w6 w.heap.size b12 uv2 vv2 (abM m l).up (abM m l).val∧b12<wr.heap.size) from ⟨hU,hV,HP.out.later hb6,HP.out.box.lt⟩
      obtain ⟨pt,nt,ct,rfl⟩:∃ p n c,u'=.slice p n c:=by obtain ⟨xs,h1,_⟩:=hU;obtain ⟨p,c,e⟩:=own_form h1;exact ⟨p,_,c,e⟩
      obtain ⟨pz,nz,cz,rfl⟩:∃ p n c,v'=.slice p n c:=by obtain ⟨xs,h1,_⟩:=hV;obtain ⟨p,c,e⟩:=own_form h1;exact ⟨p,_,c,e⟩
      clear hR hU hV hb6 KT HP
      go_wp2_with (refine wpList_st 25 rfl rfl _ _ rfl b12 rfl _ rfl _ _ H6.out.2.2.1.box sizeM rfl (by simp [Value.oneCell']) ?_)
      intro w7 hc7 hk7
      have H7:=show Hid (Cl w7 b12 #[.slice pt nt ct,.slice pz nz cz] 25∧RowsZ wr.heap.size w7 (.slice pt nt ct) (tdU (fun i j=>M (l.getD i 0) (l.getD j 0)) l.length l.length)∧RowsN wr.heap.size w7 (.slice pz nz cz) (l.map (vl m))∧Kp (fun k=>k=b12) w5 w7∧b12<wr.heap.size) from
       ⟨hc7,H6.out.1.keep (St.of_kp hk7 H6.out.2.2.2),H6.out.2.1.keep (St.of_kp hk7 H6.out.2.2.2),H6.out.2.2.1.kp.trans hk7 fun _ e=>Or.inl e,H6.out.2.2.2⟩
      have c4:=show Hid (Cl w7 b4 #[.slice none 0 0,.slice none 0 0] 25) from H5.out.2.1.kp H7.out.2.2.2.1 (by have:=HB5.out;omega)
      clear hc7 hk7 H6
      go_wp2_with (first | (refine wpList_ldw 25 _ rfl b12 rfl _ _ H7.out.1 rfl Try.underlying25 sizeM rfl ?_) | (refine wpList_st 25 rfl rfl _ _ rfl b4 rfl _ rfl _ _ c4.out sizeM rfl (by simp [Value.oneCell']) ?_))
      intro w8 hc8 hk8
      have h48:b4<wr.heap.size:=by have h1:=HB5.out;have h2:=H7.out.2.2.2.2;omega
      have hwwr:w.heap.size≤wr.heap.size:=by have h1:=HB5.out.1;have h2:=H7.out.2.2.2.2;omega
      have H8:=show Hid (Cl w8 b4 #[.slice pt nt ct,.slice pz nz cz] 25∧RowsZ w.heap.size w8 (.slice pt nt ct) (tdU (fun i j=>M (l.getD i 0) (l.getD j 0)) l.length l.length)∧RowsN w.heap.size w8 (.slice pz nz cz) (l.map (vl m))∧Below w.heap.size w w8∧OwnI w.heap.size w8 (.slice (some ⟨bl,ol,none⟩) l.length clv) l) from by
       have hb7:Below w.heap.size w w7:=H5.out.1.bel.trans (H7.out.2.2.2.1.below H5.out.1.bel.size fun k e=>by have:=HB5.out.1;omega)
       refine ⟨hc8,(H7.out.2.1.keep (St.of_kp hk8 h48)).base hwwr,(H7.out.2.2.1.keep (St.of_kp hk8 h48)).base hwwr,hb7.trans (hk8.below hb7.size fun k e=>by have:=HB.out.2.1;omega),?_⟩
       refine OwnI.base (own_kp (own_kp H5.out.2.2.1 fun k cs _ hc he=>H7.out.2.2.2.1.block k (lt_of_block hc) fun e => ?_) fun k cs _ hc he=>hk8.block k (lt_of_block hc) fun e => ?_) HW2.out
       ·have h1:bl=k:=Option.some.inj he
        have:=HB5.out;omega
       ·subst e
        have h1:=c4.out
        have h2:=h1.symm.trans hc
        injection h2 with h3
        injection h3 with _ h4
        exact absurd h4 (by decide)
      clear hc8 hk8 H7 c4
      go_wp2_with fail
      refine bodyPost_ret (results_m_tt rfl _ _ b4 rfl H8.out.1) rfl ?_
      exact ⟨_,_,_,_,rfl,Or.inr (Or.inr ⟨HG.out.1,HG.out.2.1,rfl,l,HG.out.2.2.2.1,H8.out.2.2.2.2,H8.out.2.1,H8.out.2.2.1⟩),H8.out.2.2.2.1⟩
end Go.Proofs.Ytoedidbbjnnpnaa.Wm
