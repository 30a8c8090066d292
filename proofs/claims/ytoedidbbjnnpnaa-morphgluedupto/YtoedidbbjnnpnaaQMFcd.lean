/-
  Forced: where each formula of a table is forced, walked. No condition.
-/
import Derived.Test.YtoedidbbjnnpnaaTH26
import Derived.Test.YtoedidbbjnnpnaaTH23
import Derived.Test.YtoedidbbjnnpnaaQWFine
namespace Go.Proofs.Ytoedidbbjnnpnaa.Wm
open Go.RowKit Go.Maps
open Wd (Md Rc Ed upd vl allW inW)
open Fm (Nd)
set_option linter.unusedSimpArgs false
set_option linter.unusedVariables false
theorem relStore {P:Program} {ops:Array Oper} {Q:Exit→Act→World→Prop} {i:Nat} {o:Oper} {a:Act} {w w':World} {K:Act→World→Prop} (ho:ops[i]?=some o) (hg:o.guard=none) (T:TypeId) (x y:Operand) (hop:o.op=.store T x y) {px vy:Value} (hx:a.eval x=px) (hy:a.eval y=vy) (hrun:(Instr.storeAt T px vy).run P w=.ok () w') (hK:K (a.put o.dst undef) w'):wpOp P ops Q i K a w:=by
 refine relSkip ho w' hg ?_ hK
 simp only [execOp,hop,hx,hy,Sem.run_bind,hrun,Result.andThen_ok,Sem.run_pure]
theorem eqS_dec (x y:ByteArray):decide (x=y)=(x.toList == y.toList):=by
 by_cases h:x=y
 ·rw [beqS_eq h,decide_eq_true h]
 ·rw [beqS_ne h,decide_eq_false h]
theorem sizeNd:(Try.prog.info? 116).map (·.size)=some 4:=by kernel_rfl
theorem ndAll (n:Nd):(ndC n).toArray.all (·.oneCell')=true:=by simp [ndC,Value.oneCell']
theorem zero_nd (w:World):(zeroValue 116).run Try.prog w=.ok (.agg #[.int .i64 0,.string ⟨#[]⟩,.int .i64 0,.int .i64 0]) w:=by kernel_rfl
theorem run_nd (w:World) {b o:Nat} {n:Nd} (h:At4 w b o n):(Instr.loadAt 116 (.pointer (some ⟨b,o,none⟩))).run Try.prog w=.ok (.agg (ndC n).toArray) w :=
 run_loadAt_mid (P:=Try.prog) w b o 116 (ndC n) _ (fun j v hv=>by
  match j,hv with
  | 0,hv=>rw [Nat.add_zero,h.c0];exact hv
  | 1,hv=>rw [h.c1];exact hv
  | 2,hv=>rw [h.c2];exact hv
  | 3,hv=>rw [h.c3];exact hv) Try.underlying116 rfl (by rw [sizeNd];rfl)
theorem wpList_nd {ops:Array Oper} {rest:List Oper} {o:Oper} {a:Act} {Q:Exit→Act→World→Prop} {w:World} (hg:Region.wanted o (yielded ops a.tmps)=true) (x:Operand) (hop:o.op=Op.load 116 x) (b k:Nat) (hx:a.eval x=.pointer (some ⟨b,k,none⟩)) {n:Nd} (h:At4 w b k n)
 (hK:wpList Try.prog ops Q rest (a.put o.dst (.agg (ndC n).toArray)) w):wpList Try.prog ops Q (o :: rest) a w:=by
 refine wpList_want hg fun K' hK' => ?_
 have hrun:=run_nd w h
 unfold Oper.wp
 simp [execOp,hop,hx,hrun,Result.andThen]
 exact hK' _ _ hK
theorem IsT.nd {w:World} {v:Value} {t:List Nd} (h:IsT w v t):∃ p c,v=.slice p t.length c∧∀ i,i<t.length→∃ b o,p=some ⟨b,o,none⟩∧∀ W,Below w.heap.size w W→At4 W b (o+i * 4) (rwD t i):=by
 obtain ⟨p,c,e,h1,h2,h3⟩:=h.1.at
 refine ⟨p,c,e,fun i hi => ?_⟩
 obtain ⟨b,o,e2,h4⟩:=h3 (by omega)
 exact ⟨b,o,e2,fun W hW=>by rw [rwD_at hi];exact h4 W hW i hi⟩
def cuF (S:Nat→Nat→Bool) (i a b:Nat):Bool:=decide (b<a) && S i b
def stA (S:Nat→Nat→Bool) (i a:Nat) (z:Bool):Nat→Nat→Bool:=upd S i (upd (cuF S i a) a z)
theorem stA_old {S:Nat→Nat→Bool} {i a j:Nat} (z:Bool) (hj:j<i) (b:Nat):stA S i a z j b=S j b:=by
 unfold stA;rw [Wd.upd_other _ _ _ (by omega)]
theorem stA_at {S:Nat→Nat→Bool} {i a:Nat} (z:Bool):stA S i a z i a=z:=by
 unfold stA;rw [Wd.upd_same,Wd.upd_same]
section
variable {w:World} {B O r n i a:Nat} {Ra:Nat→Nat} {S:Nat→Nat→Bool}
theorem Ot.beg (h:Ot w B O r n (i+1) Ra (upd S i (cuF S i a))):Ot w B O r n (i+1) Ra (stA S i a false):=h.same fun j hj b hb=>by
 unfold stA
 by_cases e:j=i
 ·subst e
  rw [Wd.upd_same,Wd.upd_same]
  by_cases e2:b=a
  ·subst e2;rw [Wd.upd_same];unfold cuF;simp
  ·rw [Wd.upd_other _ _ _ e2]
 ·rw [Wd.upd_other _ _ _ e,Wd.upd_other _ _ _ e]
theorem Ot.put {z:Bool} (h:Ot w B O r n (i+1) Ra (stA S i a z)) (y:Bool):Ot (w.setCell ⟨Ra i,a,none⟩ (.bool y)) B O r n (i+1) Ra (stA S i a y):=(h.set (Nat.lt_succ_self i) a y).same fun j hj b hb=>by
 unfold stA
 by_cases e:j=i
 ·subst e
  rw [Wd.upd_same,Wd.upd_same,Wd.upd_same]
  by_cases e2:b=a
  ·subst e2;rw [Wd.upd_same,Wd.upd_same]
  ·rw [Wd.upd_other _ _ _ e2,Wd.upd_other _ _ _ e2,Wd.upd_other _ _ _ e2]
 ·rw [Wd.upd_other _ _ _ e,Wd.upd_other _ _ _ e,Wd.upd_other _ _ _ e]
theorem Ot.fin {z:Bool} (h:Ot w B O r n (i+1) Ra (stA S i a z)) (hz:z=S i a):Ot w B O r n (i+1) Ra (upd S i (cuF S i (a+1))):=h.same fun j hj b hb=>by
 unfold stA
 by_cases e:j=i
 ·subst e
  rw [Wd.upd_same,Wd.upd_same]
  by_cases e2:b=a
  ·subst e2;rw [Wd.upd_same,hz];unfold cuF;simp
  ·rw [Wd.upd_other _ _ _ e2];unfold cuF
   have:decide (b<a)=decide (b<a+1):=decide_eq_decide.2 (by omega)
   rw [this]
 ·rw [Wd.upd_other _ _ _ e,Wd.upd_other _ _ _ e]
theorem Ot.row0 (h:Ot w B O r n (i+1) Ra (upd S i fun _=>false)):Ot w B O r n (i+1) Ra (upd S i (cuF S i 0)):=h.same fun j hj b hb=>by
 by_cases e:j=i
 ·subst e;rw [Wd.upd_same,Wd.upd_same];unfold cuF;simp
 ·rw [Wd.upd_other _ _ _ e,Wd.upd_other _ _ _ e]
theorem Ot.rowN (h:Ot w B O r n (i+1) Ra (upd S i (cuF S i n))):Ot w B O r n (i+1) Ra S:=h.same fun j hj b hb=>by
 by_cases e:j=i
 ·subst e;rw [Wd.upd_same];unfold cuF;simp [hb]
 ·rw [Wd.upd_other _ _ _ e]
end
structure FW (w1 wr:World) (F r n i bX:Nat) (nd:Nd) (Ra:Nat→Nat) (S:Nat→Nat→Bool):Prop where
 bel:Below w1.heap.size w1 wr
 tab:Ot wr w1.heap.size F r n (i+1) Ra S
 box:Cl wr bX (ndC nd).toArray 116
 ge:w1.heap.size≤bX
 ne:bX≠Ra i
theorem FW.put {w1 wr:World} {F r n i bX a:Nat} {nd:Nd} {Ra:Nat→Nat} {S:Nat→Nat→Bool} {z:Bool} (h:FW w1 wr F r n i bX nd Ra (stA S i a z)) (y:Bool):FW w1 (wr.setCell ⟨Ra i,a,none⟩ (.bool y)) F r n i bX nd Ra (stA S i a y):=by
 have hk:Kp (fun g=>g=Ra i) wr (wr.setCell ⟨Ra i,a,none⟩ (.bool y)):=(Kp.refl (fun g=>g=Ra i) wr).set (p:=Ra i) rfl a _
 exact ⟨h.bel.trans (h.tab.kb h.bel.size (Nat.lt_succ_self i) a _),h.tab.put y,h.box.kp hk h.ne,h.ge,h.ne⟩
theorem FW.drew {w1 wr:World} {F r n i bX:Nat} {nd:Nd} {Ra:Nat→Nat} {S:Nat→Nat→Bool} (h:FW w1 wr F r n i bX nd Ra S):FW w1 wr.drew F r n i bX nd Ra S :=
 ⟨h.bel.drew,h.tab.keep rfl fun _ _=>rfl,h.box,h.ge,h.ne⟩
set_option maxRecDepth 100000 in
set_option maxHeartbeats 8000000 in
theorem forced_any (w:World) {L O:Nat} {Ra:Nat→Nat} {M:Nat→Nat→Bool} {um vm rv:Value} {m:Md} {t:List Nd} (hm:IsM w L um vm m) (hmf:Fit m) (hG:Wd.Good m) (hO:∀ W,Below w.heap.size w W→Oc W O m.up.length Ra M) (hT:IsT w rv t) (hL:L≤w.heap.size) :
 Calls Try.prog 53 #[.agg #[um,vm],.slice (some ⟨O,0,none⟩) m.up.length m.up.length,rv] w fun e w'=>∃ F Rb,e=.returned (.slice (some ⟨F,0,none⟩) t.length t.length)∧Ot w' w.heap.size F t.length m.up.length t.length Rb (sF M m.up.length (vl m) t)∧Below w.heap.size w w':=by
 obtain ⟨pm,cm,rfl⟩:=IsS.form hm.up
 obtain ⟨pv,cv,rfl,hvr⟩:=hm.val.row
 obtain ⟨pt,ct,rfl,hnd⟩:=hT.nd
 have hok:=hT.2
 have htl:=hok.len
 have hn5:m.up.length≤512:=(Wd.shaped_and hG.shape).2.1
 have HOK:=show Hid (Fm.Ok t) from hok
 have HND:=show Hid (∀ i,i<t.length→∃ b o,pt=some ⟨b,o,none⟩∧∀ W,Below w.heap.size w W→At4 W b (o+i * 4) (rwD t i)) from hnd
 have HVL:=show Hid (m.val.length=m.up.length) from (Wd.shaped_and hG.shape).2.2.1
 have HMV:=show Hid (∀ (j:Nat) (hj:j<m.val.length),∃ b o q n',pv=some ⟨b,o,none⟩∧(∀ W,Below w.heap.size w W→W.cell? ⟨b,o+j,none⟩=some (.slice q (vl m j).length n'))∧∀ k (hk:k<(vl m j).length),∃ br orr,q=some ⟨br,orr,none⟩∧∀ W,Below w.heap.size w W→W.cell? ⟨br,orr+k,none⟩=some (.string (vl m j)[k])) from fun j hj=>by
  obtain ⟨b,o,q,n',h1,h2,h3,p',c',e3,h4⟩:=hvr j hj
  obtain ⟨rfl,_,rfl⟩:=Value.slice.inj e3
  have ev:vl m j=m.val[j]:=vl_in hj
  rw [ev]
  refine ⟨b,o,q,n',h1,fun W hW=>(World.cell?_of_block (a:=⟨b,o+j,none⟩) (hW.block b (by omega))).trans h3,fun k hk => ?_⟩
  obtain ⟨br,orr,hl,e4,h5⟩:=h4 (by omega)
  obtain ⟨x,hx,rfl⟩:=h5 k hk
  exact ⟨br,orr,e4,fun W hW=>(World.cell?_of_block (a:=⟨br,orr+k,none⟩) (hW.block br (by omega))).trans hx⟩
 have HRL:=show Hid (∀ j,j<m.val.length→(vl m j).length≤140737488351232) from fun j hj=>by rw [vl_in hj];exact (hmf.2.2.2 _ (List.getElem_mem hj)).1
 have HOC:=show Hid (∀ W,Below w.heap.size w W→Oc W O m.up.length Ra M) from hO
 have HMO:=show Hid (∀ W:World,(Instr.makeSlice 68 (.int .i64 (t.length:Int)) (.int .i64 (t.length:Int))).run Try.prog W=.ok (.slice (some ⟨W.heap.size,0,none⟩) t.length t.length) (W.alloc (.cells (madeCells #[.slice none 0 0] t.length) 74))) from fun W =>
  run_make_row' (P:=Try.prog) 68 74 (.slice none 0 0) 24 Try.underlying68 (by kernel_rfl) rfl .i64 .i64 t.length (by omega) (by omega) W
 have HMR:=show Hid (∀ W:World,(Instr.makeSlice 74 (.int .i64 (m.up.length:Int)) (.int .i64 (m.up.length:Int))).run Try.prog W=.ok (.slice (some ⟨W.heap.size,0,none⟩) m.up.length m.up.length) (W.alloc (.cells (madeCells #[.bool false] m.up.length) 4))) from fun W =>
  run_make_row' (P:=Try.prog) 74 4 (.bool false) 1 Try.underlying74 (by kernel_rfl) rfl .i64 .i64 m.up.length (by omega) (by omega) W
 clear hm hmf hG hO hT hL hvr hnd hok
 go_enter Try.func53,Try.ntmps53
 go_wp2_with (refine wpList_box 25 _ rfl _ rfl rfl ?_)
 intro w1 bM hN1
 have H1:=show Hid (Below w.heap.size w w1∧Cl w1 bM #[.slice pm m.up.length cm,.slice pv m.val.length cv] 25) from ⟨hN1.bel,hN1.blk⟩
 have HU:=show Hid (∀ W,Below w1.heap.size w1 W→Below w.heap.size w W∧Cl W bM #[.slice pm m.up.length cm,.slice pv m.val.length cv] 25) from fun W hW=>⟨H1.out.1.trans (hW.mono H1.out.1.size),H1.out.2.later hW⟩
 have HS1:=show Hid (w.heap.size≤w1.heap.size) from H1.out.1.size
 clear hN1 H1
 go_wp2_with (refine wpList_ms rfl rfl _ _ _ _ _ rfl rfl (HMO.out w1) ?_)
 intro w2 F hN2
 have HST:=show Hid (Below w1.heap.size w1 w2∧∃ Rb,Ot w2 w1.heap.size F t.length m.up.length 0 Rb (sF M m.up.length (vl m) t)) from by
  refine ⟨hN2.bel,fun _=>0,?_⟩
  have h0:Ot (w1.alloc (.cells (madeCells #[.slice none 0 0] t.length) 74)) w1.heap.size w1.heap.size t.length m.up.length 0 (fun _=>0) (sF M m.up.length (vl m) t):=Ot.start w1 (Nat.le_refl _)
  have e:=hN2.eq
  subst e
  refine ⟨?_,fun j hj=>absurd hj (Nat.not_lt_zero _),fun i j hi=>absurd hi (Nat.not_lt_zero _),h0.hO⟩
  have h1:=h0.out
  unfold Rw at h1 ⊢
  rw [hN2.blk]
  rw [heap_alloc_last] at h1
  exact h1
 clear hN2 HMO
 generalize hS:sF M m.up.length (vl m) t=S at *
 go_wp2_with fail
 go_loopw [8] (fun iv wr=>∃ i:Nat,i≤t.length∧iv=.int .i64 (i:Int)∧Hid (Below w1.heap.size w1 wr∧∃ Rb,Ot wr w1.heap.size F t.length m.up.length i Rb S)) (fun iv _=>t.length - (intOf iv).toNat)
 case atStart=>exact ⟨0,Nat.zero_le _,rfl,HST.out⟩
 case round =>
  clear HST
  obtain ⟨i,hi,rfl,HI⟩:=hrel
  by_cases hlt:i<t.length
  ·skip
   obtain ⟨HB,Rb,hOt⟩:=HI.out
   obtain ⟨bt,ot,rfl,hat⟩:=HND.out i hlt
   have HA4:=show Hid (At4 wr bt (ot+i * 4) (rwD t i)) from hat wr (HU.out wr HB).1
   have hii:(i:Int)<(t.length:Int):=by omega
   have HOt:=show Hid (Ot wr w1.heap.size F t.length m.up.length i Rb S) from hOt
   have HBx:=show Hid (Below w1.heap.size w1 wr) from HB
   have hkd:=Fm.ok_kind HOK.out hlt
   rw [← rwD_at hlt] at hkd
   have HPL:=show Hid ((rwD t i).k=3∨(rwD t i).k=4∨(rwD t i).k=5→∃ x y:Nat,(rwD t i).l=(x:Int)∧(rwD t i).r=(y:Int)∧x<i∧y<i) from fun h=>by
    have hp:=prt_lt HOK.out hlt h
    exact ⟨(rwD t i).l.toNat,(rwD t i).r.toNat,by omega,by omega,by omega,by omega⟩
   have HSA:=show Hid ((rwD t i).k=1→∀ a,S i a=anyTo (vl m a) (rwD t i).s (vl m a).length) from fun h a=>by rw [← hS,sF_atom h,anyTo_all]
   have HSN:=show Hid ((rwD t i).k=3→∀ a,S i a=(S (rwD t i).l.toNat a && S (rwD t i).r.toNat a)) from fun h a=>by rw [← hS,sF_and HOK.out hlt h]
   have HSO:=show Hid ((rwD t i).k=4→∀ a,S i a=(S (rwD t i).l.toNat a || S (rwD t i).r.toNat a)) from fun h a=>by rw [← hS,sF_or HOK.out hlt h]
   have HSI:=show Hid ((rwD t i).k=5→∀ a,S i a=allTo (fun b => !(M a b && S (rwD t i).l.toNat b && !S (rwD t i).r.toNat b)) m.up.length) from fun h a=>by rw [← hS,sF_imp HOK.out hlt h];rfl
   have HSB:=show Hid ((rwD t i).k=2→∀ a,S i a=false) from fun h a=>by rw [← hS,sF_no (by omega) (by omega) (by omega) (by omega)]
   clear hOt hat HB HI hS HOK
   generalize rwD t i=nd at *
   go_wp2_with (first | (refine wpList_nd rfl _ rfl bt _ rfl HA4.out ?_) | (refine wpList_alloc 116 rfl _ zero_nd rfl ?_))
   intro w3 bX hn3
   go_wp2_with (refine wpList_st 116 rfl rfl _ _ rfl bX rfl (ndC nd).toArray rfl _ _ hn3.blk (by rw [sizeNd];rfl) rfl (ndAll _) ?_)
   intro w4 hc4 hk4
   have HB4:=show Hid (Below wr.heap.size wr w4∧wr.heap.size≤bX) from ⟨below_box hn3 hk4,hn3.ge⟩
   have HX4:=show Hid (Cl w4 bX (ndC nd).toArray 116) from hc4
   clear hn3 hc4 hk4 HA4
   go_wp2_with (refine wpList_ms rfl rfl _ _ _ _ _ rfl rfl (HMR.out w4) ?_)
   intro w5 q hN5
   have HO4:=show Hid (Ot w4 w1.heap.size F t.length m.up.length i Rb S) from HOt.out.later HB4.out.1
   have hF4:F<w4.heap.size:=HO4.out.out.lt
   have hoc:w5.cell? ⟨F,i,none⟩=some (.slice none 0 0):=((HO4.out.later hN5.bel).out.cell hlt).trans (by rw [if_neg (Nat.lt_irrefl _)])
   have hof:w5.frozen? ⟨F,i,none⟩=false:=(HO4.out.later hN5.bel).out.fr i
   have HFW0:=show Hid (∃ R1,R1 i=q∧FW w1 (w5.setCell ⟨F,i,none⟩ (.slice (some ⟨q,0,none⟩) m.up.length m.up.length)) F t.length m.up.length i bX nd R1 (upd S i (cuF S i 0))) from by
    have hq:=hN5.eq
    have hs1:=HBx.out.size
    have hs4:=HB4.out.1.size
    have hrow:Rw w5 q m.up.length 4 (fun _=>.bool false):=by
     have h:=rw_madeV w4 m.up.length (.bool false) 4
     unfold Rw at h ⊢
     rw [hN5.blk]
     rw [heap_alloc_last] at h
     exact h
    have hO5:=HO4.out.later hN5.bel
    have hO6:=hO5.add (q:=q) (T:=fun _=>false) hlt (by omega) (by omega) (fun j hj e=>by have:=(HO4.out.row j hj).1.lt;omega) hrow
    have hkp:Kp (fun g=>g=F) w5 (w5.setCell ⟨F,i,none⟩ (.slice (some ⟨q,0,none⟩) m.up.length m.up.length)):=(Kp.refl (fun g=>g=F) w5).set (p:=F) rfl i _
    have hb5:Below w1.heap.size w1 w5:=(HBx.out.trans (HB4.out.1.mono hs1)).trans (hN5.bel.mono (by omega))
    have hxl:=HX4.out.lt
    have hFl:=HOt.out.out.lt
    have hxge:=HB4.out.2
    exact ⟨upd Rb i q,Wd.upd_same _ _ _,hb5.trans (hO5.ko hb5.size i _),hO6.row0,(HX4.out.later hN5.bel).kp hkp (by omega),by omega,by rw [Wd.upd_same];omega⟩
   clear hN5 HO4 HX4 HB4 hF4 HOt HBx
   go_wp2_with fail
   generalize w5.setCell ⟨F,i,none⟩ (.slice (some ⟨q,0,none⟩) m.up.length m.up.length)=w6 at *
   obtain ⟨R1,hR1,hFW⟩:=HFW0.out
   have HFW0:=show Hid (FW w1 w6 F t.length m.up.length i bX nd R1 (upd S i (cuF S i 0))) from hFW
   have HR1:=show Hid (R1 i=q) from hR1
   clear hFW hR1 hoc hof
   go_loopw [10] (fun av wr=>∃ a:Nat,a≤m.up.length∧av=.int .i64 (a:Int)∧Hid (FW w1 wr F t.length m.up.length i bX nd R1 (upd S i (cuF S i a)))) (fun av _=>m.up.length - (intOf av).toNat)
   case atStart=>exact ⟨0,Nat.zero_le _,rfl,HFW0.out⟩
   case round =>
    clear HFW0
    obtain ⟨a,ha,rfl,HI⟩:=hrel
    by_cases hla:a<m.up.length
    ·skip
     have HI0:=show Hid (FW w1 wr F t.length m.up.length i bX nd R1 (stA S i a false)) from ⟨HI.out.bel,HI.out.tab.beg,HI.out.box,HI.out.ge,HI.out.ne⟩
     have hai:(a:Int)<(m.up.length:Int):=by omega
     have hav:a<m.val.length:=by have:=HVL.out;omega
     have hk0:wr.cell? ⟨bX,0,none⟩=some (.int .i64 nd.k):=HI.out.box.cell 0
     have hkc:nd.k=1∨nd.k=2∨nd.k=3∨nd.k=4∨nd.k=5:=by
      rcases hkd with e | e | e
      ·exact Or.inl e
      ·exact Or.inr (Or.inl e)
      ·unfold Fm.jn at e
       simp only [Bool.or_eq_true,beq_iff_eq] at e
       omega
     clear HI
     rcases hkc with ek | ek | ek | ek | ek
     ·skip
      rw [ek] at hk0
      have HSA2:=show Hid (∀ a,S i a=anyTo (vl m a) nd.s (vl m a).length) from HSA.out ek
      have HI1:=show Hid (FW w1 wr F t.length m.up.length i bX nd R1 (stA S i a (anyTo (vl m a) nd.s 0))) from HI0.out
      obtain ⟨bv,ov,qv,nv,rfl,hvc,hvs⟩:=HMV.out a hav
      have HVC:=show Hid (∀ W,Below w.heap.size w W→W.cell? ⟨bv,ov+a,none⟩=some (.slice qv (vl m a).length nv)) from hvc
      have HVS:=show Hid (∀ k (hk:k<(vl m a).length),∃ br orr,qv=some ⟨br,orr,none⟩∧∀ W,Below w.heap.size w W→W.cell? ⟨br,orr+k,none⟩=some (.string (vl m a)[k])) from hvs
      have hrl:=HRL.out a hav
      have havi:(a:Int)<(m.val.length:Int):=by omega
      clear hvc hvs HI0 HSA HSN HSO HSI HSB HPL hkd ek
      go_wp2_with fail
      clear hk0
      go_loopw [11] (fun kv wr=>∃ k:Nat,k≤(vl m a).length∧kv=.int .i64 (k:Int)∧Hid (FW w1 wr F t.length m.up.length i bX nd R1 (stA S i a (anyTo (vl m a) nd.s k)))) (fun kv _=>(vl m a).length - (intOf kv).toNat)
      case atStart=>exact ⟨0,Nat.zero_le _,rfl,HI1.out⟩
      case round =>
       clear HI1
       obtain ⟨k,hk,rfl,HQ⟩:=hrel
       have hm1:wr.cell? ⟨bM,1,none⟩=some (.slice (some ⟨bv,ov,none⟩) m.val.length cv):=(HU.out wr HQ.out.bel).2.cell 1
       have hm2:wr.cell? ⟨bv,ov+a,none⟩=some (.slice qv (vl m a).length nv):=HVC.out wr (HU.out wr HQ.out.bel).1
       by_cases hlk:k<(vl m a).length
       ·skip
        have hki:(k:Int)<((vl m a).length:Int):=by omega
        obtain ⟨br,orr,rfl,hsc⟩:=HVS.out k hlk
        have hm3:=hsc wr (HU.out wr HQ.out.bel).1
        have HNX:=show Hid (anyTo (vl m a) nd.s (k+1)=(anyTo (vl m a) nd.s k || decide ((vl m a)[k]=nd.s))) from anyTo_next hlk
        have h0:wr.cell? ⟨F,i,none⟩=some (.slice (some ⟨R1 i,0,none⟩) m.up.length m.up.length):=HQ.out.tab.co (Nat.lt_succ_self i) hlt
        have h1:wr.cell? ⟨R1 i,a,none⟩=some (.bool (anyTo (vl m a) nd.s k)):=(HQ.out.tab.cr (Nat.lt_succ_self i) hla).trans (by rw [stA_at])
        have h2:wr.cell? ⟨bX,1,none⟩=some (.string nd.s):=HQ.out.box.cell 1
        clear hsc
        generalize (vl m a)[k]=x at *
        generalize anyTo (vl m a) nd.s k=y at *
        go_wp2_with fail
        cases y
        ·skip
         refine wp_region_one (by kernel_rfl) 26 [some 52,some 53,some 54,some 55,some 56,some 57,some 58,some 59,some 60,some 61,some 62,some 63,some 64,some 65,some 66,some 67,some 68,some 69,some 70,some 71,some 72,some 73,some 74,some 75,some 76,some 77,none] [[],[],[0,1],[2],[],[],[],[5,6],[7],[],[8,9],[10],[11],[12],[13,12],[12],[14,15,12],[16,12],[12],[17,18,12],[19,12],[12],[21,12],[20,22,12],[12,23],[3,4],[25,24]] [[],[],[0,1],[2,0,1],[],[],[],[5,6],[7,5,6],[],[8,7,5,6,9],[10,8,7,5,6,9],[11,10,8,7,5,6,9],[12,11,10,8,7,5,6,9],[13,12,11,10,8,7,5,6,9],[12,11,10,8,7,5,6,9],[14,13,12,11,10,8,7,5,6,9,15],[16,14,13,12,11,10,8,7,5,6,9,15],[12,11,10,8,7,5,6,9],[17,16,14,13,12,11,10,8,7,5,6,9,15,18],[19,17,16,14,13,12,11,10,8,7,5,6,9,15,18],[12,11,10,8,7,5,6,9],[21,12,11,10,8,7,5,6,9],[20,19,17,16,14,13,12,11,10,8,7,5,6,9,15,18,22,21],[12,11,10,8,7,5,6,9,23,20,19,17,16,14,13,15,18,22,21],[3,2,0,1,4],[25,3,2,0,1,4,24,12,11,10,8,7,5,6,9,23,20,19,17,16,14,13,15,18,22,21]] (by kernel_rfl) (by decide) (fun ii vv wx=>match ii with | 0=>vv=.slice (some ⟨F,0,none⟩) t.length t.length | 1=>vv=.int .i64 (i:Int) | 2=>vv=.pointer (some ⟨F,i,none⟩) | 3=>vv=.slice (some ⟨R1 i,0,none⟩) m.up.length m.up.length | 4=>vv=.int .i64 (a:Int) | 5=>vv=.slice (some ⟨F,0,none⟩) t.length t.length | 6=>vv=.int .i64 (i:Int) | 7=>vv=.pointer (some ⟨F,i,none⟩) | 8=>vv=.slice (some ⟨R1 i,0,none⟩) m.up.length m.up.length | 9=>vv=.int .i64 (a:Int) | 10=>vv=.pointer (some ⟨R1 i,a,none⟩) | 11=>vv=.bool false | 12=>vv=.bool false | 13=>vv=.pointer (some ⟨bM,1,none⟩) | 14=>vv=.slice (some ⟨bv,ov,none⟩) m.val.length cv | 15=>vv=.int .i64 (a:Int) | 16=>vv=.pointer (some ⟨bv,ov+a,none⟩) | 17=>vv=.slice (some ⟨br,orr,none⟩) (vl m a).length nv | 18=>vv=.int .i64 (k:Int) | 19=>vv=.pointer (some ⟨br,orr+k,none⟩) | 20=>vv=.string x | 21=>vv=.pointer (some ⟨bX,1,none⟩) | 22=>vv=.string nd.s | 23=>vv=.bool (x.toList == nd.s.toList) | 24=>vv=.bool (x.toList == nd.s.toList) | 25=>vv=.pointer (some ⟨R1 i,a,none⟩) | 26=>vv=undef∧wx=wr.drew.setCell ⟨R1 i,a,none⟩ (.bool (x.toList == nd.s.toList)) | _=>True) ?hfree (allLt 27 ?steps) ?fin
         case hfree =>
          intro j v wx wy hj hn h
          match j,h,hj,hn with
          | 0,h,_,_=>exact h
          | 1,h,_,_=>exact h
          | 2,h,_,_=>exact h
          | 3,h,_,_=>exact h
          | 4,h,_,_=>exact h
          | 5,h,_,_=>exact h
          | 6,h,_,_=>exact h
          | 7,h,_,_=>exact h
          | 8,h,_,_=>exact h
          | 9,h,_,_=>exact h
          | 10,h,_,_=>exact h
          | 11,h,_,_=>exact h
          | 12,h,_,_=>exact h
          | 13,h,_,_=>exact h
          | 14,h,_,_=>exact h
          | 15,h,_,_=>exact h
          | 16,h,_,_=>exact h
          | 17,h,_,_=>exact h
          | 18,h,_,_=>exact h
          | 19,h,_,_=>exact h
          | 20,h,_,_=>exact h
          | 21,h,_,_=>exact h
          | 22,h,_,_=>exact h
          | 23,h,_,_=>exact h
          | 24,h,_,_=>exact h
          | 25,h,_,_=>exact h
          | 26,_,hj,_=>exact absurd rfl hj
          | _+27,_,_,_=>trivial
         case steps =>
          refine ⟨⟨⟨⟨⟨⟨⟨⟨⟨⟨⟨⟨⟨⟨⟨⟨⟨⟨⟨⟨⟨⟨⟨⟨⟨⟨⟨trivial,?s0⟩,?s1⟩,?s2⟩,?s3⟩,?s4⟩,?s5⟩,?s6⟩,?s7⟩,?s8⟩,?s9⟩,?s10⟩,?s11⟩,?s12⟩,?s13⟩,?s14⟩,?s15⟩,?s16⟩,?s17⟩,?s18⟩,?s19⟩,?s20⟩,?s21⟩,?s22⟩,?s23⟩,?s24⟩,?s25⟩,?s26⟩
          case s0 =>
           intro ax wx hw hO hN
           obtain rfl:wx=wr.drew:=hw (by decide)
           have o7:ax.tmps[7]?=some (.slice (some ⟨F,0,none⟩) t.length t.length):=(hO.out 7 (by decide)).trans rfl
           exact relVal rfl (.slice (some ⟨F,0,none⟩) t.length t.length) _ rfl (by go_simp) ⟨_,rfl,rfl,fun _=>rfl⟩
          case s1 =>
           intro ax wx hw hO hN
           obtain rfl:wx=wr.drew:=hw (by decide)
           have o8:ax.tmps[8]?=some (.int .i64 (i:Int)):=(hO.out 8 (by decide)).trans rfl
           exact relVal rfl (.int .i64 (i:Int)) _ rfl (by go_simp) ⟨_,rfl,rfl,fun _=>rfl⟩
          case s2 =>
           intro ax wx hw hO hN
           obtain rfl:wx=wr.drew:=hw (by decide)
           obtain ⟨v0,g0,r0⟩:=hN 0 (by decide)
           have g0:ax.tmps[52]?=some v0:=g0
           have e0:v0=.slice (some ⟨F,0,none⟩) t.length t.length:=r0
           rw [e0] at g0
           obtain ⟨v1,g1,r1⟩:=hN 1 (by decide)
           have g1:ax.tmps[53]?=some v1:=g1
           have e1:v1=.int .i64 (i:Int):=r1
           rw [e1] at g1
           exact relVal rfl (.pointer (some ⟨F,i,none⟩)) _ rfl (by go_simp) ⟨_,rfl,rfl,fun _=>rfl⟩
          case s3 =>
           intro ax wx hw hO hN
           obtain rfl:wx=wr.drew:=hw (by decide)
           obtain ⟨v2,g2,r2⟩:=hN 2 (by decide)
           have g2:ax.tmps[54]?=some v2:=g2
           have e2:v2=.pointer (some ⟨F,i,none⟩):=r2
           rw [e2] at g2
           have c0:wr.drew.cell? ⟨F,i,none⟩=some (.slice (some ⟨R1 i,0,none⟩) m.up.length m.up.length):=h0
           exact relVal rfl (.slice (some ⟨R1 i,0,none⟩) m.up.length m.up.length) _ rfl (by go_simp) ⟨_,rfl,rfl,fun _=>rfl⟩
          case s4 =>
           intro ax wx hw hO hN
           obtain rfl:wx=wr.drew:=hw (by decide)
           have o10:ax.tmps[10]?=some (.int .i64 (a:Int)):=(hO.out 10 (by decide)).trans rfl
           exact relVal rfl (.int .i64 (a:Int)) _ rfl (by go_simp) ⟨_,rfl,rfl,fun _=>rfl⟩
          case s5 =>
           intro ax wx hw hO hN
           obtain rfl:wx=wr.drew:=hw (by decide)
           have o7:ax.tmps[7]?=some (.slice (some ⟨F,0,none⟩) t.length t.length):=(hO.out 7 (by decide)).trans rfl
           exact relVal rfl (.slice (some ⟨F,0,none⟩) t.length t.length) _ rfl (by go_simp) ⟨_,rfl,rfl,fun _=>rfl⟩
          case s6 =>
           intro ax wx hw hO hN
           obtain rfl:wx=wr.drew:=hw (by decide)
           have o8:ax.tmps[8]?=some (.int .i64 (i:Int)):=(hO.out 8 (by decide)).trans rfl
           exact relVal rfl (.int .i64 (i:Int)) _ rfl (by go_simp) ⟨_,rfl,rfl,fun _=>rfl⟩
          case s7 =>
           intro ax wx hw hO hN
           obtain rfl:wx=wr.drew:=hw (by decide)
           obtain ⟨v5,g5,r5⟩:=hN 5 (by decide)
           have g5:ax.tmps[57]?=some v5:=g5
           have e5:v5=.slice (some ⟨F,0,none⟩) t.length t.length:=r5
           rw [e5] at g5
           obtain ⟨v6,g6,r6⟩:=hN 6 (by decide)
           have g6:ax.tmps[58]?=some v6:=g6
           have e6:v6=.int .i64 (i:Int):=r6
           rw [e6] at g6
           exact relVal rfl (.pointer (some ⟨F,i,none⟩)) _ rfl (by go_simp) ⟨_,rfl,rfl,fun _=>rfl⟩
          case s8 =>
           intro ax wx hw hO hN
           obtain rfl:wx=wr.drew:=hw (by decide)
           obtain ⟨v7,g7,r7⟩:=hN 7 (by decide)
           have g7:ax.tmps[59]?=some v7:=g7
           have e7:v7=.pointer (some ⟨F,i,none⟩):=r7
           rw [e7] at g7
           have c0:wr.drew.cell? ⟨F,i,none⟩=some (.slice (some ⟨R1 i,0,none⟩) m.up.length m.up.length):=h0
           exact relVal rfl (.slice (some ⟨R1 i,0,none⟩) m.up.length m.up.length) _ rfl (by go_simp) ⟨_,rfl,rfl,fun _=>rfl⟩
          case s9 =>
           intro ax wx hw hO hN
           obtain rfl:wx=wr.drew:=hw (by decide)
           have o10:ax.tmps[10]?=some (.int .i64 (a:Int)):=(hO.out 10 (by decide)).trans rfl
           exact relVal rfl (.int .i64 (a:Int)) _ rfl (by go_simp) ⟨_,rfl,rfl,fun _=>rfl⟩
          case s10 =>
           intro ax wx hw hO hN
           obtain rfl:wx=wr.drew:=hw (by decide)
           obtain ⟨v8,g8,r8⟩:=hN 8 (by decide)
           have g8:ax.tmps[60]?=some v8:=g8
           have e8:v8=.slice (some ⟨R1 i,0,none⟩) m.up.length m.up.length:=r8
           rw [e8] at g8
           obtain ⟨v9,g9,r9⟩:=hN 9 (by decide)
           have g9:ax.tmps[61]?=some v9:=g9
           have e9:v9=.int .i64 (a:Int):=r9
           rw [e9] at g9
           exact relVal rfl (.pointer (some ⟨R1 i,a,none⟩)) _ rfl (by go_simp) ⟨_,rfl,rfl,fun _=>rfl⟩
          case s11 =>
           intro ax wx hw hO hN
           obtain rfl:wx=wr.drew:=hw (by decide)
           obtain ⟨v10,g10,r10⟩:=hN 10 (by decide)
           have g10:ax.tmps[62]?=some v10:=g10
           have e10:v10=.pointer (some ⟨R1 i,a,none⟩):=r10
           rw [e10] at g10
           have c0:wr.drew.cell? ⟨R1 i,a,none⟩=some (.bool false):=h1
           exact relVal rfl (.bool false) _ rfl (by go_simp) ⟨_,rfl,rfl,fun _=>rfl⟩
          case s12 =>
           intro ax wx hw hO hN
           obtain rfl:wx=wr.drew:=hw (by decide)
           obtain ⟨v11,g11,r11⟩:=hN 11 (by decide)
           have g11:ax.tmps[63]?=some v11:=g11
           have e11:v11=.bool false:=r11
           rw [e11] at g11
           exact relVal rfl (.bool false) _ rfl (by go_simp) ⟨_,rfl,rfl,fun _=>rfl⟩
          case s13 =>
           intro ax wx hw hO hN
           obtain rfl:wx=wr.drew:=hw (by decide)
           obtain ⟨v12,g12,r12⟩:=hN 12 (by decide)
           have g12:ax.tmps[64]?=some v12:=g12
           have e12:v12=.bool false:=r12
           rw [e12] at g12
           have o3:ax.tmps[3]?=some (.pointer (some ⟨bM,0,none⟩)):=(hO.out 3 (by decide)).trans rfl
           exact relValW rfl (.pointer (some ⟨bM,1,none⟩)) _ ((wanted_is rfl rfl g12).trans rfl) (by go_simp) ⟨_,rfl,rfl,fun _=>rfl⟩
          case s14 =>
           intro ax wx hw hO hN
           obtain rfl:wx=wr.drew:=hw (by decide)
           obtain ⟨v13,g13,r13⟩:=hN 13 (by decide)
           have g13:ax.tmps[65]?=some v13:=g13
           have e13:v13=.pointer (some ⟨bM,1,none⟩):=r13
           rw [e13] at g13
           obtain ⟨v12,g12,r12⟩:=hN 12 (by decide)
           have g12:ax.tmps[64]?=some v12:=g12
           have e12:v12=.bool false:=r12
           rw [e12] at g12
           have c0:wr.drew.cell? ⟨bM,1,none⟩=some (.slice (some ⟨bv,ov,none⟩) m.val.length cv):=hm1
           exact relValW rfl (.slice (some ⟨bv,ov,none⟩) m.val.length cv) _ ((wanted_is rfl rfl g12).trans rfl) (by go_simp) ⟨_,rfl,rfl,fun _=>rfl⟩
          case s15 =>
           intro ax wx hw hO hN
           obtain rfl:wx=wr.drew:=hw (by decide)
           obtain ⟨v12,g12,r12⟩:=hN 12 (by decide)
           have g12:ax.tmps[64]?=some v12:=g12
           have e12:v12=.bool false:=r12
           rw [e12] at g12
           have o10:ax.tmps[10]?=some (.int .i64 (a:Int)):=(hO.out 10 (by decide)).trans rfl
           exact relValW rfl (.int .i64 (a:Int)) _ ((wanted_is rfl rfl g12).trans rfl) (by go_simp) ⟨_,rfl,rfl,fun _=>rfl⟩
          case s16 =>
           intro ax wx hw hO hN
           obtain rfl:wx=wr.drew:=hw (by decide)
           obtain ⟨v14,g14,r14⟩:=hN 14 (by decide)
           have g14:ax.tmps[66]?=some v14:=g14
           have e14:v14=.slice (some ⟨bv,ov,none⟩) m.val.length cv:=r14
           rw [e14] at g14
           obtain ⟨v15,g15,r15⟩:=hN 15 (by decide)
           have g15:ax.tmps[67]?=some v15:=g15
           have e15:v15=.int .i64 (a:Int):=r15
           rw [e15] at g15
           obtain ⟨v12,g12,r12⟩:=hN 12 (by decide)
           have g12:ax.tmps[64]?=some v12:=g12
           have e12:v12=.bool false:=r12
           rw [e12] at g12
           exact relValW rfl (.pointer (some ⟨bv,ov+a,none⟩)) _ ((wanted_is rfl rfl g12).trans rfl) (by go_simp) ⟨_,rfl,rfl,fun _=>rfl⟩
          case s17 =>
           intro ax wx hw hO hN
           obtain rfl:wx=wr.drew:=hw (by decide)
           obtain ⟨v16,g16,r16⟩:=hN 16 (by decide)
           have g16:ax.tmps[68]?=some v16:=g16
           have e16:v16=.pointer (some ⟨bv,ov+a,none⟩):=r16
           rw [e16] at g16
           obtain ⟨v12,g12,r12⟩:=hN 12 (by decide)
           have g12:ax.tmps[64]?=some v12:=g12
           have e12:v12=.bool false:=r12
           rw [e12] at g12
           have c0:wr.drew.cell? ⟨bv,ov+a,none⟩=some (.slice (some ⟨br,orr,none⟩) (vl m a).length nv):=hm2
           exact relValW rfl (.slice (some ⟨br,orr,none⟩) (vl m a).length nv) _ ((wanted_is rfl rfl g12).trans rfl) (by go_simp) ⟨_,rfl,rfl,fun _=>rfl⟩
          case s18 =>
           intro ax wx hw hO hN
           obtain rfl:wx=wr.drew:=hw (by decide)
           obtain ⟨v12,g12,r12⟩:=hN 12 (by decide)
           have g12:ax.tmps[64]?=some v12:=g12
           have e12:v12=.bool false:=r12
           rw [e12] at g12
           have o11:ax.tmps[11]?=some (.int .i64 (k:Int)):=(hO.out 11 (by decide)).trans rfl
           exact relValW rfl (.int .i64 (k:Int)) _ ((wanted_is rfl rfl g12).trans rfl) (by go_simp) ⟨_,rfl,rfl,fun _=>rfl⟩
          case s19 =>
           intro ax wx hw hO hN
           obtain rfl:wx=wr.drew:=hw (by decide)
           obtain ⟨v17,g17,r17⟩:=hN 17 (by decide)
           have g17:ax.tmps[69]?=some v17:=g17
           have e17:v17=.slice (some ⟨br,orr,none⟩) (vl m a).length nv:=r17
           rw [e17] at g17
           obtain ⟨v18,g18,r18⟩:=hN 18 (by decide)
           have g18:ax.tmps[70]?=some v18:=g18
           have e18:v18=.int .i64 (k:Int):=r18
           rw [e18] at g18
           obtain ⟨v12,g12,r12⟩:=hN 12 (by decide)
           have g12:ax.tmps[64]?=some v12:=g12
           have e12:v12=.bool false:=r12
           rw [e12] at g12
           exact relValW rfl (.pointer (some ⟨br,orr+k,none⟩)) _ ((wanted_is rfl rfl g12).trans rfl) (by go_simp) ⟨_,rfl,rfl,fun _=>rfl⟩
          case s20 =>
           intro ax wx hw hO hN
           obtain rfl:wx=wr.drew:=hw (by decide)
           obtain ⟨v19,g19,r19⟩:=hN 19 (by decide)
           have g19:ax.tmps[71]?=some v19:=g19
           have e19:v19=.pointer (some ⟨br,orr+k,none⟩):=r19
           rw [e19] at g19
           obtain ⟨v12,g12,r12⟩:=hN 12 (by decide)
           have g12:ax.tmps[64]?=some v12:=g12
           have e12:v12=.bool false:=r12
           rw [e12] at g12
           have c0:wr.drew.cell? ⟨br,orr+k,none⟩=some (.string x):=hm3
           exact relValW rfl (.string x) _ ((wanted_is rfl rfl g12).trans rfl) (by go_simp) ⟨_,rfl,rfl,fun _=>rfl⟩
          case s21 =>
           intro ax wx hw hO hN
           obtain rfl:wx=wr.drew:=hw (by decide)
           obtain ⟨v12,g12,r12⟩:=hN 12 (by decide)
           have g12:ax.tmps[64]?=some v12:=g12
           have e12:v12=.bool false:=r12
           rw [e12] at g12
           have o9:ax.tmps[9]?=some (.pointer (some ⟨bX,0,none⟩)):=(hO.out 9 (by decide)).trans rfl
           exact relValW rfl (.pointer (some ⟨bX,1,none⟩)) _ ((wanted_is rfl rfl g12).trans rfl) (by go_simp) ⟨_,rfl,rfl,fun _=>rfl⟩
          case s22 =>
           intro ax wx hw hO hN
           obtain rfl:wx=wr.drew:=hw (by decide)
           obtain ⟨v21,g21,r21⟩:=hN 21 (by decide)
           have g21:ax.tmps[73]?=some v21:=g21
           have e21:v21=.pointer (some ⟨bX,1,none⟩):=r21
           rw [e21] at g21
           obtain ⟨v12,g12,r12⟩:=hN 12 (by decide)
           have g12:ax.tmps[64]?=some v12:=g12
           have e12:v12=.bool false:=r12
           rw [e12] at g12
           have c0:wr.drew.cell? ⟨bX,1,none⟩=some (.string nd.s):=h2
           exact relValW rfl (.string nd.s) _ ((wanted_is rfl rfl g12).trans rfl) (by go_simp) ⟨_,rfl,rfl,fun _=>rfl⟩
          case s23 =>
           intro ax wx hw hO hN
           obtain rfl:wx=wr.drew:=hw (by decide)
           obtain ⟨v20,g20,r20⟩:=hN 20 (by decide)
           have g20:ax.tmps[72]?=some v20:=g20
           have e20:v20=.string x:=r20
           rw [e20] at g20
           obtain ⟨v22,g22,r22⟩:=hN 22 (by decide)
           have g22:ax.tmps[74]?=some v22:=g22
           have e22:v22=.string nd.s:=r22
           rw [e22] at g22
           obtain ⟨v12,g12,r12⟩:=hN 12 (by decide)
           have g12:ax.tmps[64]?=some v12:=g12
           have e12:v12=.bool false:=r12
           rw [e12] at g12
           exact relValW rfl (.bool (x.toList == nd.s.toList)) _ ((wanted_is rfl rfl g12).trans rfl) (by go_simp) ⟨_,rfl,rfl,fun _=>rfl⟩
          case s24 =>
           intro ax wx hw hO hN
           obtain rfl:wx=wr.drew:=hw (by decide)
           obtain ⟨v12,g12,r12⟩:=hN 12 (by decide)
           have g12:ax.tmps[64]?=some v12:=g12
           have e12:v12=.bool false:=r12
           rw [e12] at g12
           obtain ⟨v23,g23,r23⟩:=hN 23 (by decide)
           have g23:ax.tmps[75]?=some v23:=g23
           have e23:v23=.bool (x.toList == nd.s.toList):=r23
           rw [e23] at g23
           exact relVal rfl (.bool (x.toList == nd.s.toList)) _ rfl (by go_simp) ⟨_,rfl,rfl,fun _=>rfl⟩
          case s25 =>
           intro ax wx hw hO hN
           obtain rfl:wx=wr.drew:=hw (by decide)
           obtain ⟨v3,g3,r3⟩:=hN 3 (by decide)
           have g3:ax.tmps[55]?=some v3:=g3
           have e3:v3=.slice (some ⟨R1 i,0,none⟩) m.up.length m.up.length:=r3
           rw [e3] at g3
           obtain ⟨v4,g4,r4⟩:=hN 4 (by decide)
           have g4:ax.tmps[56]?=some v4:=g4
           have e4:v4=.int .i64 (a:Int):=r4
           rw [e4] at g4
           exact relVal rfl (.pointer (some ⟨R1 i,a,none⟩)) _ rfl (by go_simp) ⟨_,rfl,rfl,fun _=>rfl⟩
          case s26 =>
           intro ax wx hw hO hN
           obtain rfl:wx=wr.drew:=hw (by decide)
           obtain ⟨v25,g25,r25⟩:=hN 25 (by decide)
           have g25:ax.tmps[77]?=some v25:=g25
           have e25:v25=.pointer (some ⟨R1 i,a,none⟩):=r25
           rw [e25] at g25
           obtain ⟨v24,g24,r24⟩:=hN 24 (by decide)
           have g24:ax.tmps[76]?=some v24:=g24
           have e24:v24=.bool (x.toList == nd.s.toList):=r24
           rw [e24] at g24
           have hst:=run_stB (z:=x.toList == nd.s.toList) (show wr.drew.cell? ⟨R1 i,a,none⟩=some _ from HQ.out.tab.cr (Nat.lt_succ_self i) hla) (show wr.drew.frozen? ⟨R1 i,a,none⟩=false from HQ.out.tab.fr (Nat.lt_succ_self i) a)
           exact relStore rfl rfl 4 (.tmp 77) (.tmp 76) rfl (by simp [Act.eval,g25]) (by simp [Act.eval,g24]) hst ⟨_,rfl,⟨rfl,rfl⟩,fun h=>absurd rfl h⟩
         case fin =>
          intro vs wx hV
          obtain ⟨_,ew⟩:vs 26=undef∧wx=wr.drew.setCell ⟨R1 i,a,none⟩ (.bool (x.toList == nd.s.toList)):=hV 26 (by decide)
          subst ew
          have HQ2:=show Hid _ from HQ.out.drew.put (x.toList == nd.s.toList)
          generalize wr.drew.setCell ⟨R1 i,a,none⟩ (.bool (x.toList == nd.s.toList))=w9 at *
          simp only [putAll,Act.put,List.setIfInBounds_toArray,List.set_cons_zero,List.set_cons_succ,Nat.reduceAdd]
          have HN:=show Hid (FW w1 w9 F t.length m.up.length i bX nd R1 (stA S i a (anyTo (vl m a) nd.s (k+1)))) from by
           have h:=HQ2.out
           rw [show anyTo (vl m a) nd.s (k+1)=_ from HNX.out]
           exact (by rw [Bool.false_or];rw [show decide (x=nd.s)=(x.toList == nd.s.toList) from eqS_dec x nd.s];exact h)
          clear HQ2 HNX h0 h1 h2 hm1 hm2 hm3 HQ hV
          go_wp2_with fail
          go_roundw
          case rel=>exact ⟨k+1,by omega,val_int (by omega),HN.out⟩
          case measure=>(simp only [intOf];omega)
        ·skip
         refine wp_region_one (by kernel_rfl) 26 [some 52,some 53,some 54,some 55,some 56,some 57,some 58,some 59,some 60,some 61,some 62,some 63,some 64,some 65,some 66,some 67,some 68,some 69,some 70,some 71,some 72,some 73,some 74,some 75,some 76,some 77,none] [[],[],[0,1],[2],[],[],[],[5,6],[7],[],[8,9],[10],[11],[12],[13,12],[12],[14,15,12],[16,12],[12],[17,18,12],[19,12],[12],[21,12],[20,22,12],[12,23],[3,4],[25,24]] [[],[],[0,1],[2,0,1],[],[],[],[5,6],[7,5,6],[],[8,7,5,6,9],[10,8,7,5,6,9],[11,10,8,7,5,6,9],[12,11,10,8,7,5,6,9],[13,12,11,10,8,7,5,6,9],[12,11,10,8,7,5,6,9],[14,13,12,11,10,8,7,5,6,9,15],[16,14,13,12,11,10,8,7,5,6,9,15],[12,11,10,8,7,5,6,9],[17,16,14,13,12,11,10,8,7,5,6,9,15,18],[19,17,16,14,13,12,11,10,8,7,5,6,9,15,18],[12,11,10,8,7,5,6,9],[21,12,11,10,8,7,5,6,9],[20,19,17,16,14,13,12,11,10,8,7,5,6,9,15,18,22,21],[12,11,10,8,7,5,6,9,23,20,19,17,16,14,13,15,18,22,21],[3,2,0,1,4],[25,3,2,0,1,4,24,12,11,10,8,7,5,6,9,23,20,19,17,16,14,13,15,18,22,21]] (by kernel_rfl) (by decide) (fun ii vv wx=>match ii with | 0=>vv=.slice (some ⟨F,0,none⟩) t.length t.length | 1=>vv=.int .i64 (i:Int) | 2=>vv=.pointer (some ⟨F,i,none⟩) | 3=>vv=.slice (some ⟨R1 i,0,none⟩) m.up.length m.up.length | 4=>vv=.int .i64 (a:Int) | 5=>vv=.slice (some ⟨F,0,none⟩) t.length t.length | 6=>vv=.int .i64 (i:Int) | 7=>vv=.pointer (some ⟨F,i,none⟩) | 8=>vv=.slice (some ⟨R1 i,0,none⟩) m.up.length m.up.length | 9=>vv=.int .i64 (a:Int) | 10=>vv=.pointer (some ⟨R1 i,a,none⟩) | 11=>vv=.bool true | 12=>vv=.bool true | 13=>vv=undef | 14=>vv=undef | 15=>vv=undef | 16=>vv=undef | 17=>vv=undef | 18=>vv=undef | 19=>vv=undef | 20=>vv=undef | 21=>vv=undef | 22=>vv=undef | 23=>vv=undef | 24=>vv=.bool true | 25=>vv=.pointer (some ⟨R1 i,a,none⟩) | 26=>vv=undef∧wx=wr.drew.setCell ⟨R1 i,a,none⟩ (.bool (true)) | _=>True) ?hfree (allLt 27 ?steps) ?fin
         case hfree =>
          intro j v wx wy hj hn h
          match j,h,hj,hn with
          | 0,h,_,_=>exact h
          | 1,h,_,_=>exact h
          | 2,h,_,_=>exact h
          | 3,h,_,_=>exact h
          | 4,h,_,_=>exact h
          | 5,h,_,_=>exact h
          | 6,h,_,_=>exact h
          | 7,h,_,_=>exact h
          | 8,h,_,_=>exact h
          | 9,h,_,_=>exact h
          | 10,h,_,_=>exact h
          | 11,h,_,_=>exact h
          | 12,h,_,_=>exact h
          | 13,h,_,_=>exact h
          | 14,h,_,_=>exact h
          | 15,h,_,_=>exact h
          | 16,h,_,_=>exact h
          | 17,h,_,_=>exact h
          | 18,h,_,_=>exact h
          | 19,h,_,_=>exact h
          | 20,h,_,_=>exact h
          | 21,h,_,_=>exact h
          | 22,h,_,_=>exact h
          | 23,h,_,_=>exact h
          | 24,h,_,_=>exact h
          | 25,h,_,_=>exact h
          | 26,_,hj,_=>exact absurd rfl hj
          | _+27,_,_,_=>trivial
         case steps =>
          refine ⟨⟨⟨⟨⟨⟨⟨⟨⟨⟨⟨⟨⟨⟨⟨⟨⟨⟨⟨⟨⟨⟨⟨⟨⟨⟨⟨trivial,?s0⟩,?s1⟩,?s2⟩,?s3⟩,?s4⟩,?s5⟩,?s6⟩,?s7⟩,?s8⟩,?s9⟩,?s10⟩,?s11⟩,?s12⟩,?s13⟩,?s14⟩,?s15⟩,?s16⟩,?s17⟩,?s18⟩,?s19⟩,?s20⟩,?s21⟩,?s22⟩,?s23⟩,?s24⟩,?s25⟩,?s26⟩
          case s0 =>
           intro ax wx hw hO hN
           obtain rfl:wx=wr.drew:=hw (by decide)
           have o7:ax.tmps[7]?=some (.slice (some ⟨F,0,none⟩) t.length t.length):=(hO.out 7 (by decide)).trans rfl
           exact relVal rfl (.slice (some ⟨F,0,none⟩) t.length t.length) _ rfl (by go_simp) ⟨_,rfl,rfl,fun _=>rfl⟩
          case s1 =>
           intro ax wx hw hO hN
           obtain rfl:wx=wr.drew:=hw (by decide)
           have o8:ax.tmps[8]?=some (.int .i64 (i:Int)):=(hO.out 8 (by decide)).trans rfl
           exact relVal rfl (.int .i64 (i:Int)) _ rfl (by go_simp) ⟨_,rfl,rfl,fun _=>rfl⟩
          case s2 =>
           intro ax wx hw hO hN
           obtain rfl:wx=wr.drew:=hw (by decide)
           obtain ⟨v0,g0,r0⟩:=hN 0 (by decide)
           have g0:ax.tmps[52]?=some v0:=g0
           have e0:v0=.slice (some ⟨F,0,none⟩) t.length t.length:=r0
           rw [e0] at g0
           obtain ⟨v1,g1,r1⟩:=hN 1 (by decide)
           have g1:ax.tmps[53]?=some v1:=g1
           have e1:v1=.int .i64 (i:Int):=r1
           rw [e1] at g1
           exact relVal rfl (.pointer (some ⟨F,i,none⟩)) _ rfl (by go_simp) ⟨_,rfl,rfl,fun _=>rfl⟩
          case s3 =>
           intro ax wx hw hO hN
           obtain rfl:wx=wr.drew:=hw (by decide)
           obtain ⟨v2,g2,r2⟩:=hN 2 (by decide)
           have g2:ax.tmps[54]?=some v2:=g2
           have e2:v2=.pointer (some ⟨F,i,none⟩):=r2
           rw [e2] at g2
           have c0:wr.drew.cell? ⟨F,i,none⟩=some (.slice (some ⟨R1 i,0,none⟩) m.up.length m.up.length):=h0
           exact relVal rfl (.slice (some ⟨R1 i,0,none⟩) m.up.length m.up.length) _ rfl (by go_simp) ⟨_,rfl,rfl,fun _=>rfl⟩
          case s4 =>
           intro ax wx hw hO hN
           obtain rfl:wx=wr.drew:=hw (by decide)
           have o10:ax.tmps[10]?=some (.int .i64 (a:Int)):=(hO.out 10 (by decide)).trans rfl
           exact relVal rfl (.int .i64 (a:Int)) _ rfl (by go_simp) ⟨_,rfl,rfl,fun _=>rfl⟩
          case s5 =>
           intro ax wx hw hO hN
           obtain rfl:wx=wr.drew:=hw (by decide)
           have o7:ax.tmps[7]?=some (.slice (some ⟨F,0,none⟩) t.length t.length):=(hO.out 7 (by decide)).trans rfl
           exact relVal rfl (.slice (some ⟨F,0,none⟩) t.length t.length) _ rfl (by go_simp) ⟨_,rfl,rfl,fun _=>rfl⟩
          case s6 =>
           intro ax wx hw hO hN
           obtain rfl:wx=wr.drew:=hw (by decide)
           have o8:ax.tmps[8]?=some (.int .i64 (i:Int)):=(hO.out 8 (by decide)).trans rfl
           exact relVal rfl (.int .i64 (i:Int)) _ rfl (by go_simp) ⟨_,rfl,rfl,fun _=>rfl⟩
          case s7 =>
           intro ax wx hw hO hN
           obtain rfl:wx=wr.drew:=hw (by decide)
           obtain ⟨v5,g5,r5⟩:=hN 5 (by decide)
           have g5:ax.tmps[57]?=some v5:=g5
           have e5:v5=.slice (some ⟨F,0,none⟩) t.length t.length:=r5
           rw [e5] at g5
           obtain ⟨v6,g6,r6⟩:=hN 6 (by decide)
           have g6:ax.tmps[58]?=some v6:=g6
           have e6:v6=.int .i64 (i:Int):=r6
           rw [e6] at g6
           exact relVal rfl (.pointer (some ⟨F,i,none⟩)) _ rfl (by go_simp) ⟨_,rfl,rfl,fun _=>rfl⟩
          case s8 =>
           intro ax wx hw hO hN
           obtain rfl:wx=wr.drew:=hw (by decide)
           obtain ⟨v7,g7,r7⟩:=hN 7 (by decide)
           have g7:ax.tmps[59]?=some v7:=g7
           have e7:v7=.pointer (some ⟨F,i,none⟩):=r7
           rw [e7] at g7
           have c0:wr.drew.cell? ⟨F,i,none⟩=some (.slice (some ⟨R1 i,0,none⟩) m.up.length m.up.length):=h0
           exact relVal rfl (.slice (some ⟨R1 i,0,none⟩) m.up.length m.up.length) _ rfl (by go_simp) ⟨_,rfl,rfl,fun _=>rfl⟩
          case s9 =>
           intro ax wx hw hO hN
           obtain rfl:wx=wr.drew:=hw (by decide)
           have o10:ax.tmps[10]?=some (.int .i64 (a:Int)):=(hO.out 10 (by decide)).trans rfl
           exact relVal rfl (.int .i64 (a:Int)) _ rfl (by go_simp) ⟨_,rfl,rfl,fun _=>rfl⟩
          case s10 =>
           intro ax wx hw hO hN
           obtain rfl:wx=wr.drew:=hw (by decide)
           obtain ⟨v8,g8,r8⟩:=hN 8 (by decide)
           have g8:ax.tmps[60]?=some v8:=g8
           have e8:v8=.slice (some ⟨R1 i,0,none⟩) m.up.length m.up.length:=r8
           rw [e8] at g8
           obtain ⟨v9,g9,r9⟩:=hN 9 (by decide)
           have g9:ax.tmps[61]?=some v9:=g9
           have e9:v9=.int .i64 (a:Int):=r9
           rw [e9] at g9
           exact relVal rfl (.pointer (some ⟨R1 i,a,none⟩)) _ rfl (by go_simp) ⟨_,rfl,rfl,fun _=>rfl⟩
          case s11 =>
           intro ax wx hw hO hN
           obtain rfl:wx=wr.drew:=hw (by decide)
           obtain ⟨v10,g10,r10⟩:=hN 10 (by decide)
           have g10:ax.tmps[62]?=some v10:=g10
           have e10:v10=.pointer (some ⟨R1 i,a,none⟩):=r10
           rw [e10] at g10
           have c0:wr.drew.cell? ⟨R1 i,a,none⟩=some (.bool true):=h1
           exact relVal rfl (.bool true) _ rfl (by go_simp) ⟨_,rfl,rfl,fun _=>rfl⟩
          case s12 =>
           intro ax wx hw hO hN
           obtain rfl:wx=wr.drew:=hw (by decide)
           obtain ⟨v11,g11,r11⟩:=hN 11 (by decide)
           have g11:ax.tmps[63]?=some v11:=g11
           have e11:v11=.bool true:=r11
           rw [e11] at g11
           exact relVal rfl (.bool true) _ rfl (by go_simp) ⟨_,rfl,rfl,fun _=>rfl⟩
          case s13 =>
           intro ax wx hw hO hN
           obtain rfl:wx=wr.drew:=hw (by decide)
           obtain ⟨v12,g12,r12⟩:=hN 12 (by decide)
           have g12:ax.tmps[64]?=some v12:=g12
           have e12:v12=.bool true:=r12
           rw [e12] at g12
           have o3:ax.tmps[3]?=some (.pointer (some ⟨bM,0,none⟩)):=(hO.out 3 (by decide)).trans rfl
           exact relNo rfl ((wanted_is rfl rfl g12).trans rfl) ⟨_,rfl,rfl,fun _=>rfl⟩
          case s14 =>
           intro ax wx hw hO hN
           obtain rfl:wx=wr.drew:=hw (by decide)
           obtain ⟨v13,g13,r13⟩:=hN 13 (by decide)
           have g13:ax.tmps[65]?=some v13:=g13
           have e13:v13=undef:=r13
           rw [e13] at g13
           obtain ⟨v12,g12,r12⟩:=hN 12 (by decide)
           have g12:ax.tmps[64]?=some v12:=g12
           have e12:v12=.bool true:=r12
           rw [e12] at g12
           exact relNo rfl ((wanted_is rfl rfl g12).trans rfl) ⟨_,rfl,rfl,fun _=>rfl⟩
          case s15 =>
           intro ax wx hw hO hN
           obtain rfl:wx=wr.drew:=hw (by decide)
           obtain ⟨v12,g12,r12⟩:=hN 12 (by decide)
           have g12:ax.tmps[64]?=some v12:=g12
           have e12:v12=.bool true:=r12
           rw [e12] at g12
           have o10:ax.tmps[10]?=some (.int .i64 (a:Int)):=(hO.out 10 (by decide)).trans rfl
           exact relNo rfl ((wanted_is rfl rfl g12).trans rfl) ⟨_,rfl,rfl,fun _=>rfl⟩
          case s16 =>
           intro ax wx hw hO hN
           obtain rfl:wx=wr.drew:=hw (by decide)
           obtain ⟨v14,g14,r14⟩:=hN 14 (by decide)
           have g14:ax.tmps[66]?=some v14:=g14
           have e14:v14=undef:=r14
           rw [e14] at g14
           obtain ⟨v15,g15,r15⟩:=hN 15 (by decide)
           have g15:ax.tmps[67]?=some v15:=g15
           have e15:v15=undef:=r15
           rw [e15] at g15
           obtain ⟨v12,g12,r12⟩:=hN 12 (by decide)
           have g12:ax.tmps[64]?=some v12:=g12
           have e12:v12=.bool true:=r12
           rw [e12] at g12
           exact relNo rfl ((wanted_is rfl rfl g12).trans rfl) ⟨_,rfl,rfl,fun _=>rfl⟩
          case s17 =>
           intro ax wx hw hO hN
           obtain rfl:wx=wr.drew:=hw (by decide)
           obtain ⟨v16,g16,r16⟩:=hN 16 (by decide)
           have g16:ax.tmps[68]?=some v16:=g16
           have e16:v16=undef:=r16
           rw [e16] at g16
           obtain ⟨v12,g12,r12⟩:=hN 12 (by decide)
           have g12:ax.tmps[64]?=some v12:=g12
           have e12:v12=.bool true:=r12
           rw [e12] at g12
           exact relNo rfl ((wanted_is rfl rfl g12).trans rfl) ⟨_,rfl,rfl,fun _=>rfl⟩
          case s18 =>
           intro ax wx hw hO hN
           obtain rfl:wx=wr.drew:=hw (by decide)
           obtain ⟨v12,g12,r12⟩:=hN 12 (by decide)
           have g12:ax.tmps[64]?=some v12:=g12
           have e12:v12=.bool true:=r12
           rw [e12] at g12
           have o11:ax.tmps[11]?=some (.int .i64 (k:Int)):=(hO.out 11 (by decide)).trans rfl
           exact relNo rfl ((wanted_is rfl rfl g12).trans rfl) ⟨_,rfl,rfl,fun _=>rfl⟩
          case s19 =>
           intro ax wx hw hO hN
           obtain rfl:wx=wr.drew:=hw (by decide)
           obtain ⟨v17,g17,r17⟩:=hN 17 (by decide)
           have g17:ax.tmps[69]?=some v17:=g17
           have e17:v17=undef:=r17
           rw [e17] at g17
           obtain ⟨v18,g18,r18⟩:=hN 18 (by decide)
           have g18:ax.tmps[70]?=some v18:=g18
           have e18:v18=undef:=r18
           rw [e18] at g18
           obtain ⟨v12,g12,r12⟩:=hN 12 (by decide)
           have g12:ax.tmps[64]?=some v12:=g12
           have e12:v12=.bool true:=r12
           rw [e12] at g12
           exact relNo rfl ((wanted_is rfl rfl g12).trans rfl) ⟨_,rfl,rfl,fun _=>rfl⟩
          case s20 =>
           intro ax wx hw hO hN
           obtain rfl:wx=wr.drew:=hw (by decide)
           obtain ⟨v19,g19,r19⟩:=hN 19 (by decide)
           have g19:ax.tmps[71]?=some v19:=g19
           have e19:v19=undef:=r19
           rw [e19] at g19
           obtain ⟨v12,g12,r12⟩:=hN 12 (by decide)
           have g12:ax.tmps[64]?=some v12:=g12
           have e12:v12=.bool true:=r12
           rw [e12] at g12
           exact relNo rfl ((wanted_is rfl rfl g12).trans rfl) ⟨_,rfl,rfl,fun _=>rfl⟩
          case s21 =>
           intro ax wx hw hO hN
           obtain rfl:wx=wr.drew:=hw (by decide)
           obtain ⟨v12,g12,r12⟩:=hN 12 (by decide)
           have g12:ax.tmps[64]?=some v12:=g12
           have e12:v12=.bool true:=r12
           rw [e12] at g12
           have o9:ax.tmps[9]?=some (.pointer (some ⟨bX,0,none⟩)):=(hO.out 9 (by decide)).trans rfl
           exact relNo rfl ((wanted_is rfl rfl g12).trans rfl) ⟨_,rfl,rfl,fun _=>rfl⟩
          case s22 =>
           intro ax wx hw hO hN
           obtain rfl:wx=wr.drew:=hw (by decide)
           obtain ⟨v21,g21,r21⟩:=hN 21 (by decide)
           have g21:ax.tmps[73]?=some v21:=g21
           have e21:v21=undef:=r21
           rw [e21] at g21
           obtain ⟨v12,g12,r12⟩:=hN 12 (by decide)
           have g12:ax.tmps[64]?=some v12:=g12
           have e12:v12=.bool true:=r12
           rw [e12] at g12
           exact relNo rfl ((wanted_is rfl rfl g12).trans rfl) ⟨_,rfl,rfl,fun _=>rfl⟩
          case s23 =>
           intro ax wx hw hO hN
           obtain rfl:wx=wr.drew:=hw (by decide)
           obtain ⟨v20,g20,r20⟩:=hN 20 (by decide)
           have g20:ax.tmps[72]?=some v20:=g20
           have e20:v20=undef:=r20
           rw [e20] at g20
           obtain ⟨v22,g22,r22⟩:=hN 22 (by decide)
           have g22:ax.tmps[74]?=some v22:=g22
           have e22:v22=undef:=r22
           rw [e22] at g22
           obtain ⟨v12,g12,r12⟩:=hN 12 (by decide)
           have g12:ax.tmps[64]?=some v12:=g12
           have e12:v12=.bool true:=r12
           rw [e12] at g12
           exact relNo rfl ((wanted_is rfl rfl g12).trans rfl) ⟨_,rfl,rfl,fun _=>rfl⟩
          case s24 =>
           intro ax wx hw hO hN
           obtain rfl:wx=wr.drew:=hw (by decide)
           obtain ⟨v12,g12,r12⟩:=hN 12 (by decide)
           have g12:ax.tmps[64]?=some v12:=g12
           have e12:v12=.bool true:=r12
           rw [e12] at g12
           obtain ⟨v23,g23,r23⟩:=hN 23 (by decide)
           have g23:ax.tmps[75]?=some v23:=g23
           have e23:v23=undef:=r23
           rw [e23] at g23
           exact relVal rfl (.bool true) _ rfl (by go_simp) ⟨_,rfl,rfl,fun _=>rfl⟩
          case s25 =>
           intro ax wx hw hO hN
           obtain rfl:wx=wr.drew:=hw (by decide)
           obtain ⟨v3,g3,r3⟩:=hN 3 (by decide)
           have g3:ax.tmps[55]?=some v3:=g3
           have e3:v3=.slice (some ⟨R1 i,0,none⟩) m.up.length m.up.length:=r3
           rw [e3] at g3
           obtain ⟨v4,g4,r4⟩:=hN 4 (by decide)
           have g4:ax.tmps[56]?=some v4:=g4
           have e4:v4=.int .i64 (a:Int):=r4
           rw [e4] at g4
           exact relVal rfl (.pointer (some ⟨R1 i,a,none⟩)) _ rfl (by go_simp) ⟨_,rfl,rfl,fun _=>rfl⟩
          case s26 =>
           intro ax wx hw hO hN
           obtain rfl:wx=wr.drew:=hw (by decide)
           obtain ⟨v25,g25,r25⟩:=hN 25 (by decide)
           have g25:ax.tmps[77]?=some v25:=g25
           have e25:v25=.pointer (some ⟨R1 i,a,none⟩):=r25
           rw [e25] at g25
           obtain ⟨v24,g24,r24⟩:=hN 24 (by decide)
           have g24:ax.tmps[76]?=some v24:=g24
           have e24:v24=.bool true:=r24
           rw [e24] at g24
           have hst:=run_stB (z:=true) (show wr.drew.cell? ⟨R1 i,a,none⟩=some _ from HQ.out.tab.cr (Nat.lt_succ_self i) hla) (show wr.drew.frozen? ⟨R1 i,a,none⟩=false from HQ.out.tab.fr (Nat.lt_succ_self i) a)
           exact relStore rfl rfl 4 (.tmp 77) (.tmp 76) rfl (by simp [Act.eval,g25]) (by simp [Act.eval,g24]) hst ⟨_,rfl,⟨rfl,rfl⟩,fun h=>absurd rfl h⟩
         case fin =>
          intro vs wx hV
          obtain ⟨_,ew⟩:vs 26=undef∧wx=wr.drew.setCell ⟨R1 i,a,none⟩ (.bool (true)):=hV 26 (by decide)
          subst ew
          have HQ2:=show Hid _ from HQ.out.drew.put (true)
          generalize wr.drew.setCell ⟨R1 i,a,none⟩ (.bool (true))=w9 at *
          simp only [putAll,Act.put,List.setIfInBounds_toArray,List.set_cons_zero,List.set_cons_succ,Nat.reduceAdd]
          have HN:=show Hid (FW w1 w9 F t.length m.up.length i bX nd R1 (stA S i a (anyTo (vl m a) nd.s (k+1)))) from by
           have h:=HQ2.out
           rw [show anyTo (vl m a) nd.s (k+1)=_ from HNX.out]
           exact (by rw [Bool.true_or];exact h)
          clear HQ2 HNX h0 h1 h2 hm1 hm2 hm3 HQ hV
          go_wp2_with fail
          go_roundw
          case rel=>exact ⟨k+1,by omega,val_int (by omega),HN.out⟩
          case measure=>(simp only [intOf];omega)
       ·skip
        obtain rfl:k=(vl m a).length:=by omega
        have hki:¬ ((vl m a).length:Int)<((vl m a).length:Int):=by omega
        have HN:=show Hid (FW w1 wr F t.length m.up.length i bX nd R1 (upd S i (cuF S i (a+1)))) from ⟨HQ.out.bel,HQ.out.tab.fin ((HSA2.out a).symm),HQ.out.box,HQ.out.ge,HQ.out.ne⟩
        clear HQ HSA2 HVS HVC
        go_wp2_with fail
        go_roundw
        case rel=>exact ⟨a+1,by omega,val_int (by omega),HN.out⟩
        case measure=>(simp only [intOf];omega)
     ·skip
      rw [ek] at hk0
      have HN:=show Hid (FW w1 wr F t.length m.up.length i bX nd R1 (upd S i (cuF S i (a+1)))) from ⟨HI0.out.bel,HI0.out.tab.fin ((HSB.out ek a).symm),HI0.out.box,HI0.out.ge,HI0.out.ne⟩
      clear HI0
      go_wp2_with fail
      go_roundw
      case rel=>exact ⟨a+1,by omega,val_int (by omega),HN.out⟩
      case measure=>(simp only [intOf];omega)
     ·skip
      rw [ek] at hk0
      obtain ⟨x,y,hx,hy,hxi,hyi⟩:=HPL.out (by omega)
      have HSV:=show Hid (S i a=(S x a && S y a)) from by
       have h:=HSN.out ek a
       rw [hx,hy,Int.toNat_natCast,Int.toNat_natCast] at h
       exact h
      have HQ:=HI0
      have h0:wr.cell? ⟨F,i,none⟩=some (.slice (some ⟨R1 i,0,none⟩) m.up.length m.up.length):=HQ.out.tab.co (Nat.lt_succ_self i) hlt
      have hxc:wr.cell? ⟨F,x,none⟩=some (.slice (some ⟨R1 x,0,none⟩) m.up.length m.up.length):=HQ.out.tab.co (by omega) hlt
      have hyc:wr.cell? ⟨F,y,none⟩=some (.slice (some ⟨R1 y,0,none⟩) m.up.length m.up.length):=HQ.out.tab.co (by omega) hlt
      have hxv:wr.cell? ⟨R1 x,a,none⟩=some (.bool (S x a)):=(HQ.out.tab.cr (by omega) hla).trans (by rw [stA_old _ hxi])
      have hyv:wr.cell? ⟨R1 y,a,none⟩=some (.bool (S y a)):=(HQ.out.tab.cr (by omega) hla).trans (by rw [stA_old _ hyi])
      have hl2:wr.cell? ⟨bX,2,none⟩=some (.int .i64 (x:Int)):=(HQ.out.box.cell 2).trans (by rw [← hx];rfl)
      have hl3:wr.cell? ⟨bX,3,none⟩=some (.int .i64 (y:Int)):=(HQ.out.box.cell 3).trans (by rw [← hy];rfl)
      have hxt:(x:Int)<(t.length:Int):=by omega
      have hyt:(y:Int)<(t.length:Int):=by omega
      clear HI0 HSA HSN HSO HSI HSB HPL hkd ek hx hy
      generalize S x a=bx at *
      generalize S y a=yy at *
      go_wp2_with fail
      clear hk0
      cases bx
      ·skip
       refine wp_region_one (by kernel_rfl) 24 [some 80,some 81,some 82,some 83,some 84,some 85,some 86,some 87,some 88,some 89,some 90,some 91,some 92,some 93,some 94,some 95,some 96,some 97,some 98,some 99,some 100,some 101,some 102,some 103,none] [[],[],[0,1],[2],[],[],[],[6],[5,7],[8],[],[9,10],[11],[12],[13],[13],[15,13],[14,16,13],[17,13],[13],[18,19,13],[20,13],[13,21],[3,4],[23,22]] [[],[],[0,1],[2,0,1],[],[],[],[6],[5,7,6],[8,5,7,6],[],[9,8,5,7,6,10],[11,9,8,5,7,6,10],[12,11,9,8,5,7,6,10],[13,12,11,9,8,5,7,6,10],[13,12,11,9,8,5,7,6,10],[15,13,12,11,9,8,5,7,6,10],[14,13,12,11,9,8,5,7,6,10,16,15],[17,14,13,12,11,9,8,5,7,6,10,16,15],[13,12,11,9,8,5,7,6,10],[18,17,14,13,12,11,9,8,5,7,6,10,16,15,19],[20,18,17,14,13,12,11,9,8,5,7,6,10,16,15,19],[13,12,11,9,8,5,7,6,10,21,20,18,17,14,16,15,19],[3,2,0,1,4],[23,3,2,0,1,4,22,13,12,11,9,8,5,7,6,10,21,20,18,17,14,16,15,19]] (by kernel_rfl) (by decide) (fun ii vv wx=>match ii with | 0=>vv=.slice (some ⟨F,0,none⟩) t.length t.length | 1=>vv=.int .i64 (i:Int) | 2=>vv=.pointer (some ⟨F,i,none⟩) | 3=>vv=.slice (some ⟨R1 i,0,none⟩) m.up.length m.up.length | 4=>vv=.int .i64 (a:Int) | 5=>vv=.slice (some ⟨F,0,none⟩) t.length t.length | 6=>vv=.pointer (some ⟨bX,2,none⟩) | 7=>vv=.int .i64 (x:Int) | 8=>vv=.pointer (some ⟨F,x,none⟩) | 9=>vv=.slice (some ⟨R1 x,0,none⟩) m.up.length m.up.length | 10=>vv=.int .i64 (a:Int) | 11=>vv=.pointer (some ⟨R1 x,a,none⟩) | 12=>vv=.bool false | 13=>vv=.bool false | 14=>vv=undef | 15=>vv=undef | 16=>vv=undef | 17=>vv=undef | 18=>vv=undef | 19=>vv=undef | 20=>vv=undef | 21=>vv=undef | 22=>vv=.bool false | 23=>vv=.pointer (some ⟨R1 i,a,none⟩) | 24=>vv=undef∧wx=wr.drew.setCell ⟨R1 i,a,none⟩ (.bool (false)) | _=>True) ?hfree (allLt 25 ?steps) ?fin
       case hfree =>
        intro j v wx wy hj hn h
        match j,h,hj,hn with
        | 0,h,_,_=>exact h
        | 1,h,_,_=>exact h
        | 2,h,_,_=>exact h
        | 3,h,_,_=>exact h
        | 4,h,_,_=>exact h
        | 5,h,_,_=>exact h
        | 6,h,_,_=>exact h
        | 7,h,_,_=>exact h
        | 8,h,_,_=>exact h
        | 9,h,_,_=>exact h
        | 10,h,_,_=>exact h
        | 11,h,_,_=>exact h
        | 12,h,_,_=>exact h
        | 13,h,_,_=>exact h
        | 14,h,_,_=>exact h
        | 15,h,_,_=>exact h
        | 16,h,_,_=>exact h
        | 17,h,_,_=>exact h
        | 18,h,_,_=>exact h
        | 19,h,_,_=>exact h
        | 20,h,_,_=>exact h
        | 21,h,_,_=>exact h
        | 22,h,_,_=>exact h
        | 23,h,_,_=>exact h
        | 24,_,hj,_=>exact absurd rfl hj
        | _+25,_,_,_=>trivial
       case steps =>
        refine ⟨⟨⟨⟨⟨⟨⟨⟨⟨⟨⟨⟨⟨⟨⟨⟨⟨⟨⟨⟨⟨⟨⟨⟨⟨trivial,?s0⟩,?s1⟩,?s2⟩,?s3⟩,?s4⟩,?s5⟩,?s6⟩,?s7⟩,?s8⟩,?s9⟩,?s10⟩,?s11⟩,?s12⟩,?s13⟩,?s14⟩,?s15⟩,?s16⟩,?s17⟩,?s18⟩,?s19⟩,?s20⟩,?s21⟩,?s22⟩,?s23⟩,?s24⟩
        case s0 =>
         intro ax wx hw hO hN
         obtain rfl:wx=wr.drew:=hw (by decide)
         have o7:ax.tmps[7]?=some (.slice (some ⟨F,0,none⟩) t.length t.length):=(hO.out 7 (by decide)).trans rfl
         exact relVal rfl (.slice (some ⟨F,0,none⟩) t.length t.length) _ rfl (by go_simp) ⟨_,rfl,rfl,fun _=>rfl⟩
        case s1 =>
         intro ax wx hw hO hN
         obtain rfl:wx=wr.drew:=hw (by decide)
         have o8:ax.tmps[8]?=some (.int .i64 (i:Int)):=(hO.out 8 (by decide)).trans rfl
         exact relVal rfl (.int .i64 (i:Int)) _ rfl (by go_simp) ⟨_,rfl,rfl,fun _=>rfl⟩
        case s2 =>
         intro ax wx hw hO hN
         obtain rfl:wx=wr.drew:=hw (by decide)
         obtain ⟨v0,g0,r0⟩:=hN 0 (by decide)
         have g0:ax.tmps[80]?=some v0:=g0
         have e0:v0=.slice (some ⟨F,0,none⟩) t.length t.length:=r0
         rw [e0] at g0
         obtain ⟨v1,g1,r1⟩:=hN 1 (by decide)
         have g1:ax.tmps[81]?=some v1:=g1
         have e1:v1=.int .i64 (i:Int):=r1
         rw [e1] at g1
         exact relVal rfl (.pointer (some ⟨F,i,none⟩)) _ rfl (by go_simp) ⟨_,rfl,rfl,fun _=>rfl⟩
        case s3 =>
         intro ax wx hw hO hN
         obtain rfl:wx=wr.drew:=hw (by decide)
         obtain ⟨v2,g2,r2⟩:=hN 2 (by decide)
         have g2:ax.tmps[82]?=some v2:=g2
         have e2:v2=.pointer (some ⟨F,i,none⟩):=r2
         rw [e2] at g2
         have c0:wr.drew.cell? ⟨F,i,none⟩=some (.slice (some ⟨R1 i,0,none⟩) m.up.length m.up.length):=h0
         exact relVal rfl (.slice (some ⟨R1 i,0,none⟩) m.up.length m.up.length) _ rfl (by go_simp) ⟨_,rfl,rfl,fun _=>rfl⟩
        case s4 =>
         intro ax wx hw hO hN
         obtain rfl:wx=wr.drew:=hw (by decide)
         have o10:ax.tmps[10]?=some (.int .i64 (a:Int)):=(hO.out 10 (by decide)).trans rfl
         exact relVal rfl (.int .i64 (a:Int)) _ rfl (by go_simp) ⟨_,rfl,rfl,fun _=>rfl⟩
        case s5 =>
         intro ax wx hw hO hN
         obtain rfl:wx=wr.drew:=hw (by decide)
         have o7:ax.tmps[7]?=some (.slice (some ⟨F,0,none⟩) t.length t.length):=(hO.out 7 (by decide)).trans rfl
         exact relVal rfl (.slice (some ⟨F,0,none⟩) t.length t.length) _ rfl (by go_simp) ⟨_,rfl,rfl,fun _=>rfl⟩
        case s6 =>
         intro ax wx hw hO hN
         obtain rfl:wx=wr.drew:=hw (by decide)
         have o9:ax.tmps[9]?=some (.pointer (some ⟨bX,0,none⟩)):=(hO.out 9 (by decide)).trans rfl
         exact relVal rfl (.pointer (some ⟨bX,2,none⟩)) _ rfl (by go_simp) ⟨_,rfl,rfl,fun _=>rfl⟩
        case s7 =>
         intro ax wx hw hO hN
         obtain rfl:wx=wr.drew:=hw (by decide)
         obtain ⟨v6,g6,r6⟩:=hN 6 (by decide)
         have g6:ax.tmps[86]?=some v6:=g6
         have e6:v6=.pointer (some ⟨bX,2,none⟩):=r6
         rw [e6] at g6
         have c0:wr.drew.cell? ⟨bX,2,none⟩=some (.int .i64 (x:Int)):=hl2
         exact relVal rfl (.int .i64 (x:Int)) _ rfl (by go_simp) ⟨_,rfl,rfl,fun _=>rfl⟩
        case s8 =>
         intro ax wx hw hO hN
         obtain rfl:wx=wr.drew:=hw (by decide)
         obtain ⟨v5,g5,r5⟩:=hN 5 (by decide)
         have g5:ax.tmps[85]?=some v5:=g5
         have e5:v5=.slice (some ⟨F,0,none⟩) t.length t.length:=r5
         rw [e5] at g5
         obtain ⟨v7,g7,r7⟩:=hN 7 (by decide)
         have g7:ax.tmps[87]?=some v7:=g7
         have e7:v7=.int .i64 (x:Int):=r7
         rw [e7] at g7
         exact relVal rfl (.pointer (some ⟨F,x,none⟩)) _ rfl (by go_simp) ⟨_,rfl,rfl,fun _=>rfl⟩
        case s9 =>
         intro ax wx hw hO hN
         obtain rfl:wx=wr.drew:=hw (by decide)
         obtain ⟨v8,g8,r8⟩:=hN 8 (by decide)
         have g8:ax.tmps[88]?=some v8:=g8
         have e8:v8=.pointer (some ⟨F,x,none⟩):=r8
         rw [e8] at g8
         have c0:wr.drew.cell? ⟨F,x,none⟩=some (.slice (some ⟨R1 x,0,none⟩) m.up.length m.up.length):=hxc
         exact relVal rfl (.slice (some ⟨R1 x,0,none⟩) m.up.length m.up.length) _ rfl (by go_simp) ⟨_,rfl,rfl,fun _=>rfl⟩
        case s10 =>
         intro ax wx hw hO hN
         obtain rfl:wx=wr.drew:=hw (by decide)
         have o10:ax.tmps[10]?=some (.int .i64 (a:Int)):=(hO.out 10 (by decide)).trans rfl
         exact relVal rfl (.int .i64 (a:Int)) _ rfl (by go_simp) ⟨_,rfl,rfl,fun _=>rfl⟩
        case s11 =>
         intro ax wx hw hO hN
         obtain rfl:wx=wr.drew:=hw (by decide)
         obtain ⟨v9,g9,r9⟩:=hN 9 (by decide)
         have g9:ax.tmps[89]?=some v9:=g9
         have e9:v9=.slice (some ⟨R1 x,0,none⟩) m.up.length m.up.length:=r9
         rw [e9] at g9
         obtain ⟨v10,g10,r10⟩:=hN 10 (by decide)
         have g10:ax.tmps[90]?=some v10:=g10
         have e10:v10=.int .i64 (a:Int):=r10
         rw [e10] at g10
         exact relVal rfl (.pointer (some ⟨R1 x,a,none⟩)) _ rfl (by go_simp) ⟨_,rfl,rfl,fun _=>rfl⟩
        case s12 =>
         intro ax wx hw hO hN
         obtain rfl:wx=wr.drew:=hw (by decide)
         obtain ⟨v11,g11,r11⟩:=hN 11 (by decide)
         have g11:ax.tmps[91]?=some v11:=g11
         have e11:v11=.pointer (some ⟨R1 x,a,none⟩):=r11
         rw [e11] at g11
         have c0:wr.drew.cell? ⟨R1 x,a,none⟩=some (.bool false):=hxv
         exact relVal rfl (.bool false) _ rfl (by go_simp) ⟨_,rfl,rfl,fun _=>rfl⟩
        case s13 =>
         intro ax wx hw hO hN
         obtain rfl:wx=wr.drew:=hw (by decide)
         obtain ⟨v12,g12,r12⟩:=hN 12 (by decide)
         have g12:ax.tmps[92]?=some v12:=g12
         have e12:v12=.bool false:=r12
         rw [e12] at g12
         exact relVal rfl (.bool false) _ rfl (by go_simp) ⟨_,rfl,rfl,fun _=>rfl⟩
        case s14 =>
         intro ax wx hw hO hN
         obtain rfl:wx=wr.drew:=hw (by decide)
         obtain ⟨v13,g13,r13⟩:=hN 13 (by decide)
         have g13:ax.tmps[93]?=some v13:=g13
         have e13:v13=.bool false:=r13
         rw [e13] at g13
         have o7:ax.tmps[7]?=some (.slice (some ⟨F,0,none⟩) t.length t.length):=(hO.out 7 (by decide)).trans rfl
         exact relNo rfl ((wanted_is rfl rfl g13).trans rfl) ⟨_,rfl,rfl,fun _=>rfl⟩
        case s15 =>
         intro ax wx hw hO hN
         obtain rfl:wx=wr.drew:=hw (by decide)
         obtain ⟨v13,g13,r13⟩:=hN 13 (by decide)
         have g13:ax.tmps[93]?=some v13:=g13
         have e13:v13=.bool false:=r13
         rw [e13] at g13
         have o9:ax.tmps[9]?=some (.pointer (some ⟨bX,0,none⟩)):=(hO.out 9 (by decide)).trans rfl
         exact relNo rfl ((wanted_is rfl rfl g13).trans rfl) ⟨_,rfl,rfl,fun _=>rfl⟩
        case s16 =>
         intro ax wx hw hO hN
         obtain rfl:wx=wr.drew:=hw (by decide)
         obtain ⟨v15,g15,r15⟩:=hN 15 (by decide)
         have g15:ax.tmps[95]?=some v15:=g15
         have e15:v15=undef:=r15
         rw [e15] at g15
         obtain ⟨v13,g13,r13⟩:=hN 13 (by decide)
         have g13:ax.tmps[93]?=some v13:=g13
         have e13:v13=.bool false:=r13
         rw [e13] at g13
         exact relNo rfl ((wanted_is rfl rfl g13).trans rfl) ⟨_,rfl,rfl,fun _=>rfl⟩
        case s17 =>
         intro ax wx hw hO hN
         obtain rfl:wx=wr.drew:=hw (by decide)
         obtain ⟨v14,g14,r14⟩:=hN 14 (by decide)
         have g14:ax.tmps[94]?=some v14:=g14
         have e14:v14=undef:=r14
         rw [e14] at g14
         obtain ⟨v16,g16,r16⟩:=hN 16 (by decide)
         have g16:ax.tmps[96]?=some v16:=g16
         have e16:v16=undef:=r16
         rw [e16] at g16
         obtain ⟨v13,g13,r13⟩:=hN 13 (by decide)
         have g13:ax.tmps[93]?=some v13:=g13
         have e13:v13=.bool false:=r13
         rw [e13] at g13
         exact relNo rfl ((wanted_is rfl rfl g13).trans rfl) ⟨_,rfl,rfl,fun _=>rfl⟩
        case s18 =>
         intro ax wx hw hO hN
         obtain rfl:wx=wr.drew:=hw (by decide)
         obtain ⟨v17,g17,r17⟩:=hN 17 (by decide)
         have g17:ax.tmps[97]?=some v17:=g17
         have e17:v17=undef:=r17
         rw [e17] at g17
         obtain ⟨v13,g13,r13⟩:=hN 13 (by decide)
         have g13:ax.tmps[93]?=some v13:=g13
         have e13:v13=.bool false:=r13
         rw [e13] at g13
         exact relNo rfl ((wanted_is rfl rfl g13).trans rfl) ⟨_,rfl,rfl,fun _=>rfl⟩
        case s19 =>
         intro ax wx hw hO hN
         obtain rfl:wx=wr.drew:=hw (by decide)
         obtain ⟨v13,g13,r13⟩:=hN 13 (by decide)
         have g13:ax.tmps[93]?=some v13:=g13
         have e13:v13=.bool false:=r13
         rw [e13] at g13
         have o10:ax.tmps[10]?=some (.int .i64 (a:Int)):=(hO.out 10 (by decide)).trans rfl
         exact relNo rfl ((wanted_is rfl rfl g13).trans rfl) ⟨_,rfl,rfl,fun _=>rfl⟩
        case s20 =>
         intro ax wx hw hO hN
         obtain rfl:wx=wr.drew:=hw (by decide)
         obtain ⟨v18,g18,r18⟩:=hN 18 (by decide)
         have g18:ax.tmps[98]?=some v18:=g18
         have e18:v18=undef:=r18
         rw [e18] at g18
         obtain ⟨v19,g19,r19⟩:=hN 19 (by decide)
         have g19:ax.tmps[99]?=some v19:=g19
         have e19:v19=undef:=r19
         rw [e19] at g19
         obtain ⟨v13,g13,r13⟩:=hN 13 (by decide)
         have g13:ax.tmps[93]?=some v13:=g13
         have e13:v13=.bool false:=r13
         rw [e13] at g13
         exact relNo rfl ((wanted_is rfl rfl g13).trans rfl) ⟨_,rfl,rfl,fun _=>rfl⟩
        case s21 =>
         intro ax wx hw hO hN
         obtain rfl:wx=wr.drew:=hw (by decide)
         obtain ⟨v20,g20,r20⟩:=hN 20 (by decide)
         have g20:ax.tmps[100]?=some v20:=g20
         have e20:v20=undef:=r20
         rw [e20] at g20
         obtain ⟨v13,g13,r13⟩:=hN 13 (by decide)
         have g13:ax.tmps[93]?=some v13:=g13
         have e13:v13=.bool false:=r13
         rw [e13] at g13
         exact relNo rfl ((wanted_is rfl rfl g13).trans rfl) ⟨_,rfl,rfl,fun _=>rfl⟩
        case s22 =>
         intro ax wx hw hO hN
         obtain rfl:wx=wr.drew:=hw (by decide)
         obtain ⟨v13,g13,r13⟩:=hN 13 (by decide)
         have g13:ax.tmps[93]?=some v13:=g13
         have e13:v13=.bool false:=r13
         rw [e13] at g13
         obtain ⟨v21,g21,r21⟩:=hN 21 (by decide)
         have g21:ax.tmps[101]?=some v21:=g21
         have e21:v21=undef:=r21
         rw [e21] at g21
         exact relVal rfl (.bool false) _ rfl (by go_simp) ⟨_,rfl,rfl,fun _=>rfl⟩
        case s23 =>
         intro ax wx hw hO hN
         obtain rfl:wx=wr.drew:=hw (by decide)
         obtain ⟨v3,g3,r3⟩:=hN 3 (by decide)
         have g3:ax.tmps[83]?=some v3:=g3
         have e3:v3=.slice (some ⟨R1 i,0,none⟩) m.up.length m.up.length:=r3
         rw [e3] at g3
         obtain ⟨v4,g4,r4⟩:=hN 4 (by decide)
         have g4:ax.tmps[84]?=some v4:=g4
         have e4:v4=.int .i64 (a:Int):=r4
         rw [e4] at g4
         exact relVal rfl (.pointer (some ⟨R1 i,a,none⟩)) _ rfl (by go_simp) ⟨_,rfl,rfl,fun _=>rfl⟩
        case s24 =>
         intro ax wx hw hO hN
         obtain rfl:wx=wr.drew:=hw (by decide)
         obtain ⟨v23,g23,r23⟩:=hN 23 (by decide)
         have g23:ax.tmps[103]?=some v23:=g23
         have e23:v23=.pointer (some ⟨R1 i,a,none⟩):=r23
         rw [e23] at g23
         obtain ⟨v22,g22,r22⟩:=hN 22 (by decide)
         have g22:ax.tmps[102]?=some v22:=g22
         have e22:v22=.bool false:=r22
         rw [e22] at g22
         have hst:=run_stB (z:=false) (show wr.drew.cell? ⟨R1 i,a,none⟩=some _ from HQ.out.tab.cr (Nat.lt_succ_self i) hla) (show wr.drew.frozen? ⟨R1 i,a,none⟩=false from HQ.out.tab.fr (Nat.lt_succ_self i) a)
         exact relStore rfl rfl 4 (.tmp 103) (.tmp 102) rfl (by simp [Act.eval,g23]) (by simp [Act.eval,g22]) hst ⟨_,rfl,⟨rfl,rfl⟩,fun h=>absurd rfl h⟩
       case fin =>
        intro vs wx hV
        obtain ⟨_,ew⟩:vs 24=undef∧wx=wr.drew.setCell ⟨R1 i,a,none⟩ (.bool (false)):=hV 24 (by decide)
        subst ew
        have HQ2:=show Hid _ from HQ.out.drew.put (false)
        generalize wr.drew.setCell ⟨R1 i,a,none⟩ (.bool (false))=w9 at *
        simp only [putAll,Act.put,List.setIfInBounds_toArray,List.set_cons_zero,List.set_cons_succ,Nat.reduceAdd]
        have HN:=show Hid (FW w1 w9 F t.length m.up.length i bX nd R1 (upd S i (cuF S i (a+1)))) from ⟨HQ2.out.bel,HQ2.out.tab.fin (by rw [show S i a=_ from HSV.out];rfl),HQ2.out.box,HQ2.out.ge,HQ2.out.ne⟩
        clear HQ2 HQ HSV h0 hxc hyc hxv hyv hl2 hl3 hV
        go_wp2_with fail
        go_roundw
        case rel=>exact ⟨a+1,by omega,val_int (by omega),HN.out⟩
        case measure=>(simp only [intOf];omega)
      ·skip
       refine wp_region_one (by kernel_rfl) 24 [some 80,some 81,some 82,some 83,some 84,some 85,some 86,some 87,some 88,some 89,some 90,some 91,some 92,some 93,some 94,some 95,some 96,some 97,some 98,some 99,some 100,some 101,some 102,some 103,none] [[],[],[0,1],[2],[],[],[],[6],[5,7],[8],[],[9,10],[11],[12],[13],[13],[15,13],[14,16,13],[17,13],[13],[18,19,13],[20,13],[13,21],[3,4],[23,22]] [[],[],[0,1],[2,0,1],[],[],[],[6],[5,7,6],[8,5,7,6],[],[9,8,5,7,6,10],[11,9,8,5,7,6,10],[12,11,9,8,5,7,6,10],[13,12,11,9,8,5,7,6,10],[13,12,11,9,8,5,7,6,10],[15,13,12,11,9,8,5,7,6,10],[14,13,12,11,9,8,5,7,6,10,16,15],[17,14,13,12,11,9,8,5,7,6,10,16,15],[13,12,11,9,8,5,7,6,10],[18,17,14,13,12,11,9,8,5,7,6,10,16,15,19],[20,18,17,14,13,12,11,9,8,5,7,6,10,16,15,19],[13,12,11,9,8,5,7,6,10,21,20,18,17,14,16,15,19],[3,2,0,1,4],[23,3,2,0,1,4,22,13,12,11,9,8,5,7,6,10,21,20,18,17,14,16,15,19]] (by kernel_rfl) (by decide) (fun ii vv wx=>match ii with | 0=>vv=.slice (some ⟨F,0,none⟩) t.length t.length | 1=>vv=.int .i64 (i:Int) | 2=>vv=.pointer (some ⟨F,i,none⟩) | 3=>vv=.slice (some ⟨R1 i,0,none⟩) m.up.length m.up.length | 4=>vv=.int .i64 (a:Int) | 5=>vv=.slice (some ⟨F,0,none⟩) t.length t.length | 6=>vv=.pointer (some ⟨bX,2,none⟩) | 7=>vv=.int .i64 (x:Int) | 8=>vv=.pointer (some ⟨F,x,none⟩) | 9=>vv=.slice (some ⟨R1 x,0,none⟩) m.up.length m.up.length | 10=>vv=.int .i64 (a:Int) | 11=>vv=.pointer (some ⟨R1 x,a,none⟩) | 12=>vv=.bool true | 13=>vv=.bool true | 14=>vv=.slice (some ⟨F,0,none⟩) t.length t.length | 15=>vv=.pointer (some ⟨bX,3,none⟩) | 16=>vv=.int .i64 (y:Int) | 17=>vv=.pointer (some ⟨F,y,none⟩) | 18=>vv=.slice (some ⟨R1 y,0,none⟩) m.up.length m.up.length | 19=>vv=.int .i64 (a:Int) | 20=>vv=.pointer (some ⟨R1 y,a,none⟩) | 21=>vv=.bool yy | 22=>vv=.bool yy | 23=>vv=.pointer (some ⟨R1 i,a,none⟩) | 24=>vv=undef∧wx=wr.drew.setCell ⟨R1 i,a,none⟩ (.bool (yy)) | _=>True) ?hfree (allLt 25 ?steps) ?fin
       case hfree =>
        intro j v wx wy hj hn h
        match j,h,hj,hn with
        | 0,h,_,_=>exact h
        | 1,h,_,_=>exact h
        | 2,h,_,_=>exact h
        | 3,h,_,_=>exact h
        | 4,h,_,_=>exact h
        | 5,h,_,_=>exact h
        | 6,h,_,_=>exact h
        | 7,h,_,_=>exact h
        | 8,h,_,_=>exact h
        | 9,h,_,_=>exact h
        | 10,h,_,_=>exact h
        | 11,h,_,_=>exact h
        | 12,h,_,_=>exact h
        | 13,h,_,_=>exact h
        | 14,h,_,_=>exact h
        | 15,h,_,_=>exact h
        | 16,h,_,_=>exact h
        | 17,h,_,_=>exact h
        | 18,h,_,_=>exact h
        | 19,h,_,_=>exact h
        | 20,h,_,_=>exact h
        | 21,h,_,_=>exact h
        | 22,h,_,_=>exact h
        | 23,h,_,_=>exact h
        | 24,_,hj,_=>exact absurd rfl hj
        | _+25,_,_,_=>trivial
       case steps =>
        refine ⟨⟨⟨⟨⟨⟨⟨⟨⟨⟨⟨⟨⟨⟨⟨⟨⟨⟨⟨⟨⟨⟨⟨⟨⟨trivial,?s0⟩,?s1⟩,?s2⟩,?s3⟩,?s4⟩,?s5⟩,?s6⟩,?s7⟩,?s8⟩,?s9⟩,?s10⟩,?s11⟩,?s12⟩,?s13⟩,?s14⟩,?s15⟩,?s16⟩,?s17⟩,?s18⟩,?s19⟩,?s20⟩,?s21⟩,?s22⟩,?s23⟩,?s24⟩
        case s0 =>
         intro ax wx hw hO hN
         obtain rfl:wx=wr.drew:=hw (by decide)
         have o7:ax.tmps[7]?=some (.slice (some ⟨F,0,none⟩) t.length t.length):=(hO.out 7 (by decide)).trans rfl
         exact relVal rfl (.slice (some ⟨F,0,none⟩) t.length t.length) _ rfl (by go_simp) ⟨_,rfl,rfl,fun _=>rfl⟩
        case s1 =>
         intro ax wx hw hO hN
         obtain rfl:wx=wr.drew:=hw (by decide)
         have o8:ax.tmps[8]?=some (.int .i64 (i:Int)):=(hO.out 8 (by decide)).trans rfl
         exact relVal rfl (.int .i64 (i:Int)) _ rfl (by go_simp) ⟨_,rfl,rfl,fun _=>rfl⟩
        case s2 =>
         intro ax wx hw hO hN
         obtain rfl:wx=wr.drew:=hw (by decide)
         obtain ⟨v0,g0,r0⟩:=hN 0 (by decide)
         have g0:ax.tmps[80]?=some v0:=g0
         have e0:v0=.slice (some ⟨F,0,none⟩) t.length t.length:=r0
         rw [e0] at g0
         obtain ⟨v1,g1,r1⟩:=hN 1 (by decide)
         have g1:ax.tmps[81]?=some v1:=g1
         have e1:v1=.int .i64 (i:Int):=r1
         rw [e1] at g1
         exact relVal rfl (.pointer (some ⟨F,i,none⟩)) _ rfl (by go_simp) ⟨_,rfl,rfl,fun _=>rfl⟩
        case s3 =>
         intro ax wx hw hO hN
         obtain rfl:wx=wr.drew:=hw (by decide)
         obtain ⟨v2,g2,r2⟩:=hN 2 (by decide)
         have g2:ax.tmps[82]?=some v2:=g2
         have e2:v2=.pointer (some ⟨F,i,none⟩):=r2
         rw [e2] at g2
         have c0:wr.drew.cell? ⟨F,i,none⟩=some (.slice (some ⟨R1 i,0,none⟩) m.up.length m.up.length):=h0
         exact relVal rfl (.slice (some ⟨R1 i,0,none⟩) m.up.length m.up.length) _ rfl (by go_simp) ⟨_,rfl,rfl,fun _=>rfl⟩
        case s4 =>
         intro ax wx hw hO hN
         obtain rfl:wx=wr.drew:=hw (by decide)
         have o10:ax.tmps[10]?=some (.int .i64 (a:Int)):=(hO.out 10 (by decide)).trans rfl
         exact relVal rfl (.int .i64 (a:Int)) _ rfl (by go_simp) ⟨_,rfl,rfl,fun _=>rfl⟩
        case s5 =>
         intro ax wx hw hO hN
         obtain rfl:wx=wr.drew:=hw (by decide)
         have o7:ax.tmps[7]?=some (.slice (some ⟨F,0,none⟩) t.length t.length):=(hO.out 7 (by decide)).trans rfl
         exact relVal rfl (.slice (some ⟨F,0,none⟩) t.length t.length) _ rfl (by go_simp) ⟨_,rfl,rfl,fun _=>rfl⟩
        case s6 =>
         intro ax wx hw hO hN
         obtain rfl:wx=wr.drew:=hw (by decide)
         have o9:ax.tmps[9]?=some (.pointer (some ⟨bX,0,none⟩)):=(hO.out 9 (by decide)).trans rfl
         exact relVal rfl (.pointer (some ⟨bX,2,none⟩)) _ rfl (by go_simp) ⟨_,rfl,rfl,fun _=>rfl⟩
        case s7 =>
         intro ax wx hw hO hN
         obtain rfl:wx=wr.drew:=hw (by decide)
         obtain ⟨v6,g6,r6⟩:=hN 6 (by decide)
         have g6:ax.tmps[86]?=some v6:=g6
         have e6:v6=.pointer (some ⟨bX,2,none⟩):=r6
         rw [e6] at g6
         have c0:wr.drew.cell? ⟨bX,2,none⟩=some (.int .i64 (x:Int)):=hl2
         exact relVal rfl (.int .i64 (x:Int)) _ rfl (by go_simp) ⟨_,rfl,rfl,fun _=>rfl⟩
        case s8 =>
         intro ax wx hw hO hN
         obtain rfl:wx=wr.drew:=hw (by decide)
         obtain ⟨v5,g5,r5⟩:=hN 5 (by decide)
         have g5:ax.tmps[85]?=some v5:=g5
         have e5:v5=.slice (some ⟨F,0,none⟩) t.length t.length:=r5
         rw [e5] at g5
         obtain ⟨v7,g7,r7⟩:=hN 7 (by decide)
         have g7:ax.tmps[87]?=some v7:=g7
         have e7:v7=.int .i64 (x:Int):=r7
         rw [e7] at g7
         exact relVal rfl (.pointer (some ⟨F,x,none⟩)) _ rfl (by go_simp) ⟨_,rfl,rfl,fun _=>rfl⟩
        case s9 =>
         intro ax wx hw hO hN
         obtain rfl:wx=wr.drew:=hw (by decide)
         obtain ⟨v8,g8,r8⟩:=hN 8 (by decide)
         have g8:ax.tmps[88]?=some v8:=g8
         have e8:v8=.pointer (some ⟨F,x,none⟩):=r8
         rw [e8] at g8
         have c0:wr.drew.cell? ⟨F,x,none⟩=some (.slice (some ⟨R1 x,0,none⟩) m.up.length m.up.length):=hxc
         exact relVal rfl (.slice (some ⟨R1 x,0,none⟩) m.up.length m.up.length) _ rfl (by go_simp) ⟨_,rfl,rfl,fun _=>rfl⟩
        case s10 =>
         intro ax wx hw hO hN
         obtain rfl:wx=wr.drew:=hw (by decide)
         have o10:ax.tmps[10]?=some (.int .i64 (a:Int)):=(hO.out 10 (by decide)).trans rfl
         exact relVal rfl (.int .i64 (a:Int)) _ rfl (by go_simp) ⟨_,rfl,rfl,fun _=>rfl⟩
        case s11 =>
         intro ax wx hw hO hN
         obtain rfl:wx=wr.drew:=hw (by decide)
         obtain ⟨v9,g9,r9⟩:=hN 9 (by decide)
         have g9:ax.tmps[89]?=some v9:=g9
         have e9:v9=.slice (some ⟨R1 x,0,none⟩) m.up.length m.up.length:=r9
         rw [e9] at g9
         obtain ⟨v10,g10,r10⟩:=hN 10 (by decide)
         have g10:ax.tmps[90]?=some v10:=g10
         have e10:v10=.int .i64 (a:Int):=r10
         rw [e10] at g10
         exact relVal rfl (.pointer (some ⟨R1 x,a,none⟩)) _ rfl (by go_simp) ⟨_,rfl,rfl,fun _=>rfl⟩
        case s12 =>
         intro ax wx hw hO hN
         obtain rfl:wx=wr.drew:=hw (by decide)
         obtain ⟨v11,g11,r11⟩:=hN 11 (by decide)
         have g11:ax.tmps[91]?=some v11:=g11
         have e11:v11=.pointer (some ⟨R1 x,a,none⟩):=r11
         rw [e11] at g11
         have c0:wr.drew.cell? ⟨R1 x,a,none⟩=some (.bool true):=hxv
         exact relVal rfl (.bool true) _ rfl (by go_simp) ⟨_,rfl,rfl,fun _=>rfl⟩
        case s13 =>
         intro ax wx hw hO hN
         obtain rfl:wx=wr.drew:=hw (by decide)
         obtain ⟨v12,g12,r12⟩:=hN 12 (by decide)
         have g12:ax.tmps[92]?=some v12:=g12
         have e12:v12=.bool true:=r12
         rw [e12] at g12
         exact relVal rfl (.bool true) _ rfl (by go_simp) ⟨_,rfl,rfl,fun _=>rfl⟩
        case s14 =>
         intro ax wx hw hO hN
         obtain rfl:wx=wr.drew:=hw (by decide)
         obtain ⟨v13,g13,r13⟩:=hN 13 (by decide)
         have g13:ax.tmps[93]?=some v13:=g13
         have e13:v13=.bool true:=r13
         rw [e13] at g13
         have o7:ax.tmps[7]?=some (.slice (some ⟨F,0,none⟩) t.length t.length):=(hO.out 7 (by decide)).trans rfl
         exact relValW rfl (.slice (some ⟨F,0,none⟩) t.length t.length) _ ((wanted_is rfl rfl g13).trans rfl) (by go_simp) ⟨_,rfl,rfl,fun _=>rfl⟩
        case s15 =>
         intro ax wx hw hO hN
         obtain rfl:wx=wr.drew:=hw (by decide)
         obtain ⟨v13,g13,r13⟩:=hN 13 (by decide)
         have g13:ax.tmps[93]?=some v13:=g13
         have e13:v13=.bool true:=r13
         rw [e13] at g13
         have o9:ax.tmps[9]?=some (.pointer (some ⟨bX,0,none⟩)):=(hO.out 9 (by decide)).trans rfl
         exact relValW rfl (.pointer (some ⟨bX,3,none⟩)) _ ((wanted_is rfl rfl g13).trans rfl) (by go_simp) ⟨_,rfl,rfl,fun _=>rfl⟩
        case s16 =>
         intro ax wx hw hO hN
         obtain rfl:wx=wr.drew:=hw (by decide)
         obtain ⟨v15,g15,r15⟩:=hN 15 (by decide)
         have g15:ax.tmps[95]?=some v15:=g15
         have e15:v15=.pointer (some ⟨bX,3,none⟩):=r15
         rw [e15] at g15
         obtain ⟨v13,g13,r13⟩:=hN 13 (by decide)
         have g13:ax.tmps[93]?=some v13:=g13
         have e13:v13=.bool true:=r13
         rw [e13] at g13
         have c0:wr.drew.cell? ⟨bX,3,none⟩=some (.int .i64 (y:Int)):=hl3
         exact relValW rfl (.int .i64 (y:Int)) _ ((wanted_is rfl rfl g13).trans rfl) (by go_simp) ⟨_,rfl,rfl,fun _=>rfl⟩
        case s17 =>
         intro ax wx hw hO hN
         obtain rfl:wx=wr.drew:=hw (by decide)
         obtain ⟨v14,g14,r14⟩:=hN 14 (by decide)
         have g14:ax.tmps[94]?=some v14:=g14
         have e14:v14=.slice (some ⟨F,0,none⟩) t.length t.length:=r14
         rw [e14] at g14
         obtain ⟨v16,g16,r16⟩:=hN 16 (by decide)
         have g16:ax.tmps[96]?=some v16:=g16
         have e16:v16=.int .i64 (y:Int):=r16
         rw [e16] at g16
         obtain ⟨v13,g13,r13⟩:=hN 13 (by decide)
         have g13:ax.tmps[93]?=some v13:=g13
         have e13:v13=.bool true:=r13
         rw [e13] at g13
         exact relValW rfl (.pointer (some ⟨F,y,none⟩)) _ ((wanted_is rfl rfl g13).trans rfl) (by go_simp) ⟨_,rfl,rfl,fun _=>rfl⟩
        case s18 =>
         intro ax wx hw hO hN
         obtain rfl:wx=wr.drew:=hw (by decide)
         obtain ⟨v17,g17,r17⟩:=hN 17 (by decide)
         have g17:ax.tmps[97]?=some v17:=g17
         have e17:v17=.pointer (some ⟨F,y,none⟩):=r17
         rw [e17] at g17
         obtain ⟨v13,g13,r13⟩:=hN 13 (by decide)
         have g13:ax.tmps[93]?=some v13:=g13
         have e13:v13=.bool true:=r13
         rw [e13] at g13
         have c0:wr.drew.cell? ⟨F,y,none⟩=some (.slice (some ⟨R1 y,0,none⟩) m.up.length m.up.length):=hyc
         exact relValW rfl (.slice (some ⟨R1 y,0,none⟩) m.up.length m.up.length) _ ((wanted_is rfl rfl g13).trans rfl) (by go_simp) ⟨_,rfl,rfl,fun _=>rfl⟩
        case s19 =>
         intro ax wx hw hO hN
         obtain rfl:wx=wr.drew:=hw (by decide)
         obtain ⟨v13,g13,r13⟩:=hN 13 (by decide)
         have g13:ax.tmps[93]?=some v13:=g13
         have e13:v13=.bool true:=r13
         rw [e13] at g13
         have o10:ax.tmps[10]?=some (.int .i64 (a:Int)):=(hO.out 10 (by decide)).trans rfl
         exact relValW rfl (.int .i64 (a:Int)) _ ((wanted_is rfl rfl g13).trans rfl) (by go_simp) ⟨_,rfl,rfl,fun _=>rfl⟩
        case s20 =>
         intro ax wx hw hO hN
         obtain rfl:wx=wr.drew:=hw (by decide)
         obtain ⟨v18,g18,r18⟩:=hN 18 (by decide)
         have g18:ax.tmps[98]?=some v18:=g18
         have e18:v18=.slice (some ⟨R1 y,0,none⟩) m.up.length m.up.length:=r18
         rw [e18] at g18
         obtain ⟨v19,g19,r19⟩:=hN 19 (by decide)
         have g19:ax.tmps[99]?=some v19:=g19
         have e19:v19=.int .i64 (a:Int):=r19
         rw [e19] at g19
         obtain ⟨v13,g13,r13⟩:=hN 13 (by decide)
         have g13:ax.tmps[93]?=some v13:=g13
         have e13:v13=.bool true:=r13
         rw [e13] at g13
         exact relValW rfl (.pointer (some ⟨R1 y,a,none⟩)) _ ((wanted_is rfl rfl g13).trans rfl) (by go_simp) ⟨_,rfl,rfl,fun _=>rfl⟩
        case s21 =>
         intro ax wx hw hO hN
         obtain rfl:wx=wr.drew:=hw (by decide)
         obtain ⟨v20,g20,r20⟩:=hN 20 (by decide)
         have g20:ax.tmps[100]?=some v20:=g20
         have e20:v20=.pointer (some ⟨R1 y,a,none⟩):=r20
         rw [e20] at g20
         obtain ⟨v13,g13,r13⟩:=hN 13 (by decide)
         have g13:ax.tmps[93]?=some v13:=g13
         have e13:v13=.bool true:=r13
         rw [e13] at g13
         have c0:wr.drew.cell? ⟨R1 y,a,none⟩=some (.bool yy):=hyv
         exact relValW rfl (.bool yy) _ ((wanted_is rfl rfl g13).trans rfl) (by go_simp) ⟨_,rfl,rfl,fun _=>rfl⟩
        case s22 =>
         intro ax wx hw hO hN
         obtain rfl:wx=wr.drew:=hw (by decide)
         obtain ⟨v13,g13,r13⟩:=hN 13 (by decide)
         have g13:ax.tmps[93]?=some v13:=g13
         have e13:v13=.bool true:=r13
         rw [e13] at g13
         obtain ⟨v21,g21,r21⟩:=hN 21 (by decide)
         have g21:ax.tmps[101]?=some v21:=g21
         have e21:v21=.bool yy:=r21
         rw [e21] at g21
         exact relVal rfl (.bool yy) _ rfl (by go_simp) ⟨_,rfl,rfl,fun _=>rfl⟩
        case s23 =>
         intro ax wx hw hO hN
         obtain rfl:wx=wr.drew:=hw (by decide)
         obtain ⟨v3,g3,r3⟩:=hN 3 (by decide)
         have g3:ax.tmps[83]?=some v3:=g3
         have e3:v3=.slice (some ⟨R1 i,0,none⟩) m.up.length m.up.length:=r3
         rw [e3] at g3
         obtain ⟨v4,g4,r4⟩:=hN 4 (by decide)
         have g4:ax.tmps[84]?=some v4:=g4
         have e4:v4=.int .i64 (a:Int):=r4
         rw [e4] at g4
         exact relVal rfl (.pointer (some ⟨R1 i,a,none⟩)) _ rfl (by go_simp) ⟨_,rfl,rfl,fun _=>rfl⟩
        case s24 =>
         intro ax wx hw hO hN
         obtain rfl:wx=wr.drew:=hw (by decide)
         obtain ⟨v23,g23,r23⟩:=hN 23 (by decide)
         have g23:ax.tmps[103]?=some v23:=g23
         have e23:v23=.pointer (some ⟨R1 i,a,none⟩):=r23
         rw [e23] at g23
         obtain ⟨v22,g22,r22⟩:=hN 22 (by decide)
         have g22:ax.tmps[102]?=some v22:=g22
         have e22:v22=.bool yy:=r22
         rw [e22] at g22
         have hst:=run_stB (z:=yy) (show wr.drew.cell? ⟨R1 i,a,none⟩=some _ from HQ.out.tab.cr (Nat.lt_succ_self i) hla) (show wr.drew.frozen? ⟨R1 i,a,none⟩=false from HQ.out.tab.fr (Nat.lt_succ_self i) a)
         exact relStore rfl rfl 4 (.tmp 103) (.tmp 102) rfl (by simp [Act.eval,g23]) (by simp [Act.eval,g22]) hst ⟨_,rfl,⟨rfl,rfl⟩,fun h=>absurd rfl h⟩
       case fin =>
        intro vs wx hV
        obtain ⟨_,ew⟩:vs 24=undef∧wx=wr.drew.setCell ⟨R1 i,a,none⟩ (.bool (yy)):=hV 24 (by decide)
        subst ew
        have HQ2:=show Hid _ from HQ.out.drew.put (yy)
        generalize wr.drew.setCell ⟨R1 i,a,none⟩ (.bool (yy))=w9 at *
        simp only [putAll,Act.put,List.setIfInBounds_toArray,List.set_cons_zero,List.set_cons_succ,Nat.reduceAdd]
        have HN:=show Hid (FW w1 w9 F t.length m.up.length i bX nd R1 (upd S i (cuF S i (a+1)))) from ⟨HQ2.out.bel,HQ2.out.tab.fin (by rw [show S i a=_ from HSV.out];exact (Bool.true_and yy).symm),HQ2.out.box,HQ2.out.ge,HQ2.out.ne⟩
        clear HQ2 HQ HSV h0 hxc hyc hxv hyv hl2 hl3 hV
        go_wp2_with fail
        go_roundw
        case rel=>exact ⟨a+1,by omega,val_int (by omega),HN.out⟩
        case measure=>(simp only [intOf];omega)
     ·skip
      rw [ek] at hk0
      obtain ⟨x,y,hx,hy,hxi,hyi⟩:=HPL.out (by omega)
      have HSV:=show Hid (S i a=(S x a || S y a)) from by
       have h:=HSO.out ek a
       rw [hx,hy,Int.toNat_natCast,Int.toNat_natCast] at h
       exact h
      have HQ:=HI0
      have h0:wr.cell? ⟨F,i,none⟩=some (.slice (some ⟨R1 i,0,none⟩) m.up.length m.up.length):=HQ.out.tab.co (Nat.lt_succ_self i) hlt
      have hxc:wr.cell? ⟨F,x,none⟩=some (.slice (some ⟨R1 x,0,none⟩) m.up.length m.up.length):=HQ.out.tab.co (by omega) hlt
      have hyc:wr.cell? ⟨F,y,none⟩=some (.slice (some ⟨R1 y,0,none⟩) m.up.length m.up.length):=HQ.out.tab.co (by omega) hlt
      have hxv:wr.cell? ⟨R1 x,a,none⟩=some (.bool (S x a)):=(HQ.out.tab.cr (by omega) hla).trans (by rw [stA_old _ hxi])
      have hyv:wr.cell? ⟨R1 y,a,none⟩=some (.bool (S y a)):=(HQ.out.tab.cr (by omega) hla).trans (by rw [stA_old _ hyi])
      have hl2:wr.cell? ⟨bX,2,none⟩=some (.int .i64 (x:Int)):=(HQ.out.box.cell 2).trans (by rw [← hx];rfl)
      have hl3:wr.cell? ⟨bX,3,none⟩=some (.int .i64 (y:Int)):=(HQ.out.box.cell 3).trans (by rw [← hy];rfl)
      have hxt:(x:Int)<(t.length:Int):=by omega
      have hyt:(y:Int)<(t.length:Int):=by omega
      clear HI0 HSA HSN HSO HSI HSB HPL hkd ek hx hy
      generalize S x a=bx at *
      generalize S y a=yy at *
      go_wp2_with fail
      clear hk0
      cases bx
      ·skip
       refine wp_region_one (by kernel_rfl) 24 [some 106,some 107,some 108,some 109,some 110,some 111,some 112,some 113,some 114,some 115,some 116,some 117,some 118,some 119,some 120,some 121,some 122,some 123,some 124,some 125,some 126,some 127,some 128,some 129,none] [[],[],[0,1],[2],[],[],[],[6],[5,7],[8],[],[9,10],[11],[12],[13],[13],[15,13],[14,16,13],[17,13],[13],[18,19,13],[20,13],[13,21],[3,4],[23,22]] [[],[],[0,1],[2,0,1],[],[],[],[6],[5,7,6],[8,5,7,6],[],[9,8,5,7,6,10],[11,9,8,5,7,6,10],[12,11,9,8,5,7,6,10],[13,12,11,9,8,5,7,6,10],[13,12,11,9,8,5,7,6,10],[15,13,12,11,9,8,5,7,6,10],[14,13,12,11,9,8,5,7,6,10,16,15],[17,14,13,12,11,9,8,5,7,6,10,16,15],[13,12,11,9,8,5,7,6,10],[18,17,14,13,12,11,9,8,5,7,6,10,16,15,19],[20,18,17,14,13,12,11,9,8,5,7,6,10,16,15,19],[13,12,11,9,8,5,7,6,10,21,20,18,17,14,16,15,19],[3,2,0,1,4],[23,3,2,0,1,4,22,13,12,11,9,8,5,7,6,10,21,20,18,17,14,16,15,19]] (by kernel_rfl) (by decide) (fun ii vv wx=>match ii with | 0=>vv=.slice (some ⟨F,0,none⟩) t.length t.length | 1=>vv=.int .i64 (i:Int) | 2=>vv=.pointer (some ⟨F,i,none⟩) | 3=>vv=.slice (some ⟨R1 i,0,none⟩) m.up.length m.up.length | 4=>vv=.int .i64 (a:Int) | 5=>vv=.slice (some ⟨F,0,none⟩) t.length t.length | 6=>vv=.pointer (some ⟨bX,2,none⟩) | 7=>vv=.int .i64 (x:Int) | 8=>vv=.pointer (some ⟨F,x,none⟩) | 9=>vv=.slice (some ⟨R1 x,0,none⟩) m.up.length m.up.length | 10=>vv=.int .i64 (a:Int) | 11=>vv=.pointer (some ⟨R1 x,a,none⟩) | 12=>vv=.bool false | 13=>vv=.bool false | 14=>vv=.slice (some ⟨F,0,none⟩) t.length t.length | 15=>vv=.pointer (some ⟨bX,3,none⟩) | 16=>vv=.int .i64 (y:Int) | 17=>vv=.pointer (some ⟨F,y,none⟩) | 18=>vv=.slice (some ⟨R1 y,0,none⟩) m.up.length m.up.length | 19=>vv=.int .i64 (a:Int) | 20=>vv=.pointer (some ⟨R1 y,a,none⟩) | 21=>vv=.bool yy | 22=>vv=.bool yy | 23=>vv=.pointer (some ⟨R1 i,a,none⟩) | 24=>vv=undef∧wx=wr.drew.setCell ⟨R1 i,a,none⟩ (.bool (yy)) | _=>True) ?hfree (allLt 25 ?steps) ?fin
       case hfree =>
        intro j v wx wy hj hn h
        match j,h,hj,hn with
        | 0,h,_,_=>exact h
        | 1,h,_,_=>exact h
        | 2,h,_,_=>exact h
        | 3,h,_,_=>exact h
        | 4,h,_,_=>exact h
        | 5,h,_,_=>exact h
        | 6,h,_,_=>exact h
        | 7,h,_,_=>exact h
        | 8,h,_,_=>exact h
        | 9,h,_,_=>exact h
        | 10,h,_,_=>exact h
        | 11,h,_,_=>exact h
        | 12,h,_,_=>exact h
        | 13,h,_,_=>exact h
        | 14,h,_,_=>exact h
        | 15,h,_,_=>exact h
        | 16,h,_,_=>exact h
        | 17,h,_,_=>exact h
        | 18,h,_,_=>exact h
        | 19,h,_,_=>exact h
        | 20,h,_,_=>exact h
        | 21,h,_,_=>exact h
        | 22,h,_,_=>exact h
        | 23,h,_,_=>exact h
        | 24,_,hj,_=>exact absurd rfl hj
        | _+25,_,_,_=>trivial
       case steps =>
        refine ⟨⟨⟨⟨⟨⟨⟨⟨⟨⟨⟨⟨⟨⟨⟨⟨⟨⟨⟨⟨⟨⟨⟨⟨⟨trivial,?s0⟩,?s1⟩,?s2⟩,?s3⟩,?s4⟩,?s5⟩,?s6⟩,?s7⟩,?s8⟩,?s9⟩,?s10⟩,?s11⟩,?s12⟩,?s13⟩,?s14⟩,?s15⟩,?s16⟩,?s17⟩,?s18⟩,?s19⟩,?s20⟩,?s21⟩,?s22⟩,?s23⟩,?s24⟩
        case s0 =>
         intro ax wx hw hO hN
         obtain rfl:wx=wr.drew:=hw (by decide)
         have o7:ax.tmps[7]?=some (.slice (some ⟨F,0,none⟩) t.length t.length):=(hO.out 7 (by decide)).trans rfl
         exact relVal rfl (.slice (some ⟨F,0,none⟩) t.length t.length) _ rfl (by go_simp) ⟨_,rfl,rfl,fun _=>rfl⟩
        case s1 =>
         intro ax wx hw hO hN
         obtain rfl:wx=wr.drew:=hw (by decide)
         have o8:ax.tmps[8]?=some (.int .i64 (i:Int)):=(hO.out 8 (by decide)).trans rfl
         exact relVal rfl (.int .i64 (i:Int)) _ rfl (by go_simp) ⟨_,rfl,rfl,fun _=>rfl⟩
        case s2 =>
         intro ax wx hw hO hN
         obtain rfl:wx=wr.drew:=hw (by decide)
         obtain ⟨v0,g0,r0⟩:=hN 0 (by decide)
         have g0:ax.tmps[106]?=some v0:=g0
         have e0:v0=.slice (some ⟨F,0,none⟩) t.length t.length:=r0
         rw [e0] at g0
         obtain ⟨v1,g1,r1⟩:=hN 1 (by decide)
         have g1:ax.tmps[107]?=some v1:=g1
         have e1:v1=.int .i64 (i:Int):=r1
         rw [e1] at g1
         exact relVal rfl (.pointer (some ⟨F,i,none⟩)) _ rfl (by go_simp) ⟨_,rfl,rfl,fun _=>rfl⟩
        case s3 =>
         intro ax wx hw hO hN
         obtain rfl:wx=wr.drew:=hw (by decide)
         obtain ⟨v2,g2,r2⟩:=hN 2 (by decide)
         have g2:ax.tmps[108]?=some v2:=g2
         have e2:v2=.pointer (some ⟨F,i,none⟩):=r2
         rw [e2] at g2
         have c0:wr.drew.cell? ⟨F,i,none⟩=some (.slice (some ⟨R1 i,0,none⟩) m.up.length m.up.length):=h0
         exact relVal rfl (.slice (some ⟨R1 i,0,none⟩) m.up.length m.up.length) _ rfl (by go_simp) ⟨_,rfl,rfl,fun _=>rfl⟩
        case s4 =>
         intro ax wx hw hO hN
         obtain rfl:wx=wr.drew:=hw (by decide)
         have o10:ax.tmps[10]?=some (.int .i64 (a:Int)):=(hO.out 10 (by decide)).trans rfl
         exact relVal rfl (.int .i64 (a:Int)) _ rfl (by go_simp) ⟨_,rfl,rfl,fun _=>rfl⟩
        case s5 =>
         intro ax wx hw hO hN
         obtain rfl:wx=wr.drew:=hw (by decide)
         have o7:ax.tmps[7]?=some (.slice (some ⟨F,0,none⟩) t.length t.length):=(hO.out 7 (by decide)).trans rfl
         exact relVal rfl (.slice (some ⟨F,0,none⟩) t.length t.length) _ rfl (by go_simp) ⟨_,rfl,rfl,fun _=>rfl⟩
        case s6 =>
         intro ax wx hw hO hN
         obtain rfl:wx=wr.drew:=hw (by decide)
         have o9:ax.tmps[9]?=some (.pointer (some ⟨bX,0,none⟩)):=(hO.out 9 (by decide)).trans rfl
         exact relVal rfl (.pointer (some ⟨bX,2,none⟩)) _ rfl (by go_simp) ⟨_,rfl,rfl,fun _=>rfl⟩
        case s7 =>
         intro ax wx hw hO hN
         obtain rfl:wx=wr.drew:=hw (by decide)
         obtain ⟨v6,g6,r6⟩:=hN 6 (by decide)
         have g6:ax.tmps[112]?=some v6:=g6
         have e6:v6=.pointer (some ⟨bX,2,none⟩):=r6
         rw [e6] at g6
         have c0:wr.drew.cell? ⟨bX,2,none⟩=some (.int .i64 (x:Int)):=hl2
         exact relVal rfl (.int .i64 (x:Int)) _ rfl (by go_simp) ⟨_,rfl,rfl,fun _=>rfl⟩
        case s8 =>
         intro ax wx hw hO hN
         obtain rfl:wx=wr.drew:=hw (by decide)
         obtain ⟨v5,g5,r5⟩:=hN 5 (by decide)
         have g5:ax.tmps[111]?=some v5:=g5
         have e5:v5=.slice (some ⟨F,0,none⟩) t.length t.length:=r5
         rw [e5] at g5
         obtain ⟨v7,g7,r7⟩:=hN 7 (by decide)
         have g7:ax.tmps[113]?=some v7:=g7
         have e7:v7=.int .i64 (x:Int):=r7
         rw [e7] at g7
         exact relVal rfl (.pointer (some ⟨F,x,none⟩)) _ rfl (by go_simp) ⟨_,rfl,rfl,fun _=>rfl⟩
        case s9 =>
         intro ax wx hw hO hN
         obtain rfl:wx=wr.drew:=hw (by decide)
         obtain ⟨v8,g8,r8⟩:=hN 8 (by decide)
         have g8:ax.tmps[114]?=some v8:=g8
         have e8:v8=.pointer (some ⟨F,x,none⟩):=r8
         rw [e8] at g8
         have c0:wr.drew.cell? ⟨F,x,none⟩=some (.slice (some ⟨R1 x,0,none⟩) m.up.length m.up.length):=hxc
         exact relVal rfl (.slice (some ⟨R1 x,0,none⟩) m.up.length m.up.length) _ rfl (by go_simp) ⟨_,rfl,rfl,fun _=>rfl⟩
        case s10 =>
         intro ax wx hw hO hN
         obtain rfl:wx=wr.drew:=hw (by decide)
         have o10:ax.tmps[10]?=some (.int .i64 (a:Int)):=(hO.out 10 (by decide)).trans rfl
         exact relVal rfl (.int .i64 (a:Int)) _ rfl (by go_simp) ⟨_,rfl,rfl,fun _=>rfl⟩
        case s11 =>
         intro ax wx hw hO hN
         obtain rfl:wx=wr.drew:=hw (by decide)
         obtain ⟨v9,g9,r9⟩:=hN 9 (by decide)
         have g9:ax.tmps[115]?=some v9:=g9
         have e9:v9=.slice (some ⟨R1 x,0,none⟩) m.up.length m.up.length:=r9
         rw [e9] at g9
         obtain ⟨v10,g10,r10⟩:=hN 10 (by decide)
         have g10:ax.tmps[116]?=some v10:=g10
         have e10:v10=.int .i64 (a:Int):=r10
         rw [e10] at g10
         exact relVal rfl (.pointer (some ⟨R1 x,a,none⟩)) _ rfl (by go_simp) ⟨_,rfl,rfl,fun _=>rfl⟩
        case s12 =>
         intro ax wx hw hO hN
         obtain rfl:wx=wr.drew:=hw (by decide)
         obtain ⟨v11,g11,r11⟩:=hN 11 (by decide)
         have g11:ax.tmps[117]?=some v11:=g11
         have e11:v11=.pointer (some ⟨R1 x,a,none⟩):=r11
         rw [e11] at g11
         have c0:wr.drew.cell? ⟨R1 x,a,none⟩=some (.bool false):=hxv
         exact relVal rfl (.bool false) _ rfl (by go_simp) ⟨_,rfl,rfl,fun _=>rfl⟩
        case s13 =>
         intro ax wx hw hO hN
         obtain rfl:wx=wr.drew:=hw (by decide)
         obtain ⟨v12,g12,r12⟩:=hN 12 (by decide)
         have g12:ax.tmps[118]?=some v12:=g12
         have e12:v12=.bool false:=r12
         rw [e12] at g12
         exact relVal rfl (.bool false) _ rfl (by go_simp) ⟨_,rfl,rfl,fun _=>rfl⟩
        case s14 =>
         intro ax wx hw hO hN
         obtain rfl:wx=wr.drew:=hw (by decide)
         obtain ⟨v13,g13,r13⟩:=hN 13 (by decide)
         have g13:ax.tmps[119]?=some v13:=g13
         have e13:v13=.bool false:=r13
         rw [e13] at g13
         have o7:ax.tmps[7]?=some (.slice (some ⟨F,0,none⟩) t.length t.length):=(hO.out 7 (by decide)).trans rfl
         exact relValW rfl (.slice (some ⟨F,0,none⟩) t.length t.length) _ ((wanted_is rfl rfl g13).trans rfl) (by go_simp) ⟨_,rfl,rfl,fun _=>rfl⟩
        case s15 =>
         intro ax wx hw hO hN
         obtain rfl:wx=wr.drew:=hw (by decide)
         obtain ⟨v13,g13,r13⟩:=hN 13 (by decide)
         have g13:ax.tmps[119]?=some v13:=g13
         have e13:v13=.bool false:=r13
         rw [e13] at g13
         have o9:ax.tmps[9]?=some (.pointer (some ⟨bX,0,none⟩)):=(hO.out 9 (by decide)).trans rfl
         exact relValW rfl (.pointer (some ⟨bX,3,none⟩)) _ ((wanted_is rfl rfl g13).trans rfl) (by go_simp) ⟨_,rfl,rfl,fun _=>rfl⟩
        case s16 =>
         intro ax wx hw hO hN
         obtain rfl:wx=wr.drew:=hw (by decide)
         obtain ⟨v15,g15,r15⟩:=hN 15 (by decide)
         have g15:ax.tmps[121]?=some v15:=g15
         have e15:v15=.pointer (some ⟨bX,3,none⟩):=r15
         rw [e15] at g15
         obtain ⟨v13,g13,r13⟩:=hN 13 (by decide)
         have g13:ax.tmps[119]?=some v13:=g13
         have e13:v13=.bool false:=r13
         rw [e13] at g13
         have c0:wr.drew.cell? ⟨bX,3,none⟩=some (.int .i64 (y:Int)):=hl3
         exact relValW rfl (.int .i64 (y:Int)) _ ((wanted_is rfl rfl g13).trans rfl) (by go_simp) ⟨_,rfl,rfl,fun _=>rfl⟩
        case s17 =>
         intro ax wx hw hO hN
         obtain rfl:wx=wr.drew:=hw (by decide)
         obtain ⟨v14,g14,r14⟩:=hN 14 (by decide)
         have g14:ax.tmps[120]?=some v14:=g14
         have e14:v14=.slice (some ⟨F,0,none⟩) t.length t.length:=r14
         rw [e14] at g14
         obtain ⟨v16,g16,r16⟩:=hN 16 (by decide)
         have g16:ax.tmps[122]?=some v16:=g16
         have e16:v16=.int .i64 (y:Int):=r16
         rw [e16] at g16
         obtain ⟨v13,g13,r13⟩:=hN 13 (by decide)
         have g13:ax.tmps[119]?=some v13:=g13
         have e13:v13=.bool false:=r13
         rw [e13] at g13
         exact relValW rfl (.pointer (some ⟨F,y,none⟩)) _ ((wanted_is rfl rfl g13).trans rfl) (by go_simp) ⟨_,rfl,rfl,fun _=>rfl⟩
        case s18 =>
         intro ax wx hw hO hN
         obtain rfl:wx=wr.drew:=hw (by decide)
         obtain ⟨v17,g17,r17⟩:=hN 17 (by decide)
         have g17:ax.tmps[123]?=some v17:=g17
         have e17:v17=.pointer (some ⟨F,y,none⟩):=r17
         rw [e17] at g17
         obtain ⟨v13,g13,r13⟩:=hN 13 (by decide)
         have g13:ax.tmps[119]?=some v13:=g13
         have e13:v13=.bool false:=r13
         rw [e13] at g13
         have c0:wr.drew.cell? ⟨F,y,none⟩=some (.slice (some ⟨R1 y,0,none⟩) m.up.length m.up.length):=hyc
         exact relValW rfl (.slice (some ⟨R1 y,0,none⟩) m.up.length m.up.length) _ ((wanted_is rfl rfl g13).trans rfl) (by go_simp) ⟨_,rfl,rfl,fun _=>rfl⟩
        case s19 =>
         intro ax wx hw hO hN
         obtain rfl:wx=wr.drew:=hw (by decide)
         obtain ⟨v13,g13,r13⟩:=hN 13 (by decide)
         have g13:ax.tmps[119]?=some v13:=g13
         have e13:v13=.bool false:=r13
         rw [e13] at g13
         have o10:ax.tmps[10]?=some (.int .i64 (a:Int)):=(hO.out 10 (by decide)).trans rfl
         exact relValW rfl (.int .i64 (a:Int)) _ ((wanted_is rfl rfl g13).trans rfl) (by go_simp) ⟨_,rfl,rfl,fun _=>rfl⟩
        case s20 =>
         intro ax wx hw hO hN
         obtain rfl:wx=wr.drew:=hw (by decide)
         obtain ⟨v18,g18,r18⟩:=hN 18 (by decide)
         have g18:ax.tmps[124]?=some v18:=g18
         have e18:v18=.slice (some ⟨R1 y,0,none⟩) m.up.length m.up.length:=r18
         rw [e18] at g18
         obtain ⟨v19,g19,r19⟩:=hN 19 (by decide)
         have g19:ax.tmps[125]?=some v19:=g19
         have e19:v19=.int .i64 (a:Int):=r19
         rw [e19] at g19
         obtain ⟨v13,g13,r13⟩:=hN 13 (by decide)
         have g13:ax.tmps[119]?=some v13:=g13
         have e13:v13=.bool false:=r13
         rw [e13] at g13
         exact relValW rfl (.pointer (some ⟨R1 y,a,none⟩)) _ ((wanted_is rfl rfl g13).trans rfl) (by go_simp) ⟨_,rfl,rfl,fun _=>rfl⟩
        case s21 =>
         intro ax wx hw hO hN
         obtain rfl:wx=wr.drew:=hw (by decide)
         obtain ⟨v20,g20,r20⟩:=hN 20 (by decide)
         have g20:ax.tmps[126]?=some v20:=g20
         have e20:v20=.pointer (some ⟨R1 y,a,none⟩):=r20
         rw [e20] at g20
         obtain ⟨v13,g13,r13⟩:=hN 13 (by decide)
         have g13:ax.tmps[119]?=some v13:=g13
         have e13:v13=.bool false:=r13
         rw [e13] at g13
         have c0:wr.drew.cell? ⟨R1 y,a,none⟩=some (.bool yy):=hyv
         exact relValW rfl (.bool yy) _ ((wanted_is rfl rfl g13).trans rfl) (by go_simp) ⟨_,rfl,rfl,fun _=>rfl⟩
        case s22 =>
         intro ax wx hw hO hN
         obtain rfl:wx=wr.drew:=hw (by decide)
         obtain ⟨v13,g13,r13⟩:=hN 13 (by decide)
         have g13:ax.tmps[119]?=some v13:=g13
         have e13:v13=.bool false:=r13
         rw [e13] at g13
         obtain ⟨v21,g21,r21⟩:=hN 21 (by decide)
         have g21:ax.tmps[127]?=some v21:=g21
         have e21:v21=.bool yy:=r21
         rw [e21] at g21
         exact relVal rfl (.bool yy) _ rfl (by go_simp) ⟨_,rfl,rfl,fun _=>rfl⟩
        case s23 =>
         intro ax wx hw hO hN
         obtain rfl:wx=wr.drew:=hw (by decide)
         obtain ⟨v3,g3,r3⟩:=hN 3 (by decide)
         have g3:ax.tmps[109]?=some v3:=g3
         have e3:v3=.slice (some ⟨R1 i,0,none⟩) m.up.length m.up.length:=r3
         rw [e3] at g3
         obtain ⟨v4,g4,r4⟩:=hN 4 (by decide)
         have g4:ax.tmps[110]?=some v4:=g4
         have e4:v4=.int .i64 (a:Int):=r4
         rw [e4] at g4
         exact relVal rfl (.pointer (some ⟨R1 i,a,none⟩)) _ rfl (by go_simp) ⟨_,rfl,rfl,fun _=>rfl⟩
        case s24 =>
         intro ax wx hw hO hN
         obtain rfl:wx=wr.drew:=hw (by decide)
         obtain ⟨v23,g23,r23⟩:=hN 23 (by decide)
         have g23:ax.tmps[129]?=some v23:=g23
         have e23:v23=.pointer (some ⟨R1 i,a,none⟩):=r23
         rw [e23] at g23
         obtain ⟨v22,g22,r22⟩:=hN 22 (by decide)
         have g22:ax.tmps[128]?=some v22:=g22
         have e22:v22=.bool yy:=r22
         rw [e22] at g22
         have hst:=run_stB (z:=yy) (show wr.drew.cell? ⟨R1 i,a,none⟩=some _ from HQ.out.tab.cr (Nat.lt_succ_self i) hla) (show wr.drew.frozen? ⟨R1 i,a,none⟩=false from HQ.out.tab.fr (Nat.lt_succ_self i) a)
         exact relStore rfl rfl 4 (.tmp 129) (.tmp 128) rfl (by simp [Act.eval,g23]) (by simp [Act.eval,g22]) hst ⟨_,rfl,⟨rfl,rfl⟩,fun h=>absurd rfl h⟩
       case fin =>
        intro vs wx hV
        obtain ⟨_,ew⟩:vs 24=undef∧wx=wr.drew.setCell ⟨R1 i,a,none⟩ (.bool (yy)):=hV 24 (by decide)
        subst ew
        have HQ2:=show Hid _ from HQ.out.drew.put (yy)
        generalize wr.drew.setCell ⟨R1 i,a,none⟩ (.bool (yy))=w9 at *
        simp only [putAll,Act.put,List.setIfInBounds_toArray,List.set_cons_zero,List.set_cons_succ,Nat.reduceAdd]
        have HN:=show Hid (FW w1 w9 F t.length m.up.length i bX nd R1 (upd S i (cuF S i (a+1)))) from ⟨HQ2.out.bel,HQ2.out.tab.fin (by rw [show S i a=_ from HSV.out];exact (Bool.false_or yy).symm),HQ2.out.box,HQ2.out.ge,HQ2.out.ne⟩
        clear HQ2 HQ HSV h0 hxc hyc hxv hyv hl2 hl3 hV
        go_wp2_with fail
        go_roundw
        case rel=>exact ⟨a+1,by omega,val_int (by omega),HN.out⟩
        case measure=>(simp only [intOf];omega)
      ·skip
       refine wp_region_one (by kernel_rfl) 24 [some 106,some 107,some 108,some 109,some 110,some 111,some 112,some 113,some 114,some 115,some 116,some 117,some 118,some 119,some 120,some 121,some 122,some 123,some 124,some 125,some 126,some 127,some 128,some 129,none] [[],[],[0,1],[2],[],[],[],[6],[5,7],[8],[],[9,10],[11],[12],[13],[13],[15,13],[14,16,13],[17,13],[13],[18,19,13],[20,13],[13,21],[3,4],[23,22]] [[],[],[0,1],[2,0,1],[],[],[],[6],[5,7,6],[8,5,7,6],[],[9,8,5,7,6,10],[11,9,8,5,7,6,10],[12,11,9,8,5,7,6,10],[13,12,11,9,8,5,7,6,10],[13,12,11,9,8,5,7,6,10],[15,13,12,11,9,8,5,7,6,10],[14,13,12,11,9,8,5,7,6,10,16,15],[17,14,13,12,11,9,8,5,7,6,10,16,15],[13,12,11,9,8,5,7,6,10],[18,17,14,13,12,11,9,8,5,7,6,10,16,15,19],[20,18,17,14,13,12,11,9,8,5,7,6,10,16,15,19],[13,12,11,9,8,5,7,6,10,21,20,18,17,14,16,15,19],[3,2,0,1,4],[23,3,2,0,1,4,22,13,12,11,9,8,5,7,6,10,21,20,18,17,14,16,15,19]] (by kernel_rfl) (by decide) (fun ii vv wx=>match ii with | 0=>vv=.slice (some ⟨F,0,none⟩) t.length t.length | 1=>vv=.int .i64 (i:Int) | 2=>vv=.pointer (some ⟨F,i,none⟩) | 3=>vv=.slice (some ⟨R1 i,0,none⟩) m.up.length m.up.length | 4=>vv=.int .i64 (a:Int) | 5=>vv=.slice (some ⟨F,0,none⟩) t.length t.length | 6=>vv=.pointer (some ⟨bX,2,none⟩) | 7=>vv=.int .i64 (x:Int) | 8=>vv=.pointer (some ⟨F,x,none⟩) | 9=>vv=.slice (some ⟨R1 x,0,none⟩) m.up.length m.up.length | 10=>vv=.int .i64 (a:Int) | 11=>vv=.pointer (some ⟨R1 x,a,none⟩) | 12=>vv=.bool true | 13=>vv=.bool true | 14=>vv=undef | 15=>vv=undef | 16=>vv=undef | 17=>vv=undef | 18=>vv=undef | 19=>vv=undef | 20=>vv=undef | 21=>vv=undef | 22=>vv=.bool true | 23=>vv=.pointer (some ⟨R1 i,a,none⟩) | 24=>vv=undef∧wx=wr.drew.setCell ⟨R1 i,a,none⟩ (.bool (true)) | _=>True) ?hfree (allLt 25 ?steps) ?fin
       case hfree =>
        intro j v wx wy hj hn h
        match j,h,hj,hn with
        | 0,h,_,_=>exact h
        | 1,h,_,_=>exact h
        | 2,h,_,_=>exact h
        | 3,h,_,_=>exact h
        | 4,h,_,_=>exact h
        | 5,h,_,_=>exact h
        | 6,h,_,_=>exact h
        | 7,h,_,_=>exact h
        | 8,h,_,_=>exact h
        | 9,h,_,_=>exact h
        | 10,h,_,_=>exact h
        | 11,h,_,_=>exact h
        | 12,h,_,_=>exact h
        | 13,h,_,_=>exact h
        | 14,h,_,_=>exact h
        | 15,h,_,_=>exact h
        | 16,h,_,_=>exact h
        | 17,h,_,_=>exact h
        | 18,h,_,_=>exact h
        | 19,h,_,_=>exact h
        | 20,h,_,_=>exact h
        | 21,h,_,_=>exact h
        | 22,h,_,_=>exact h
        | 23,h,_,_=>exact h
        | 24,_,hj,_=>exact absurd rfl hj
        | _+25,_,_,_=>trivial
       case steps =>
        refine ⟨⟨⟨⟨⟨⟨⟨⟨⟨⟨⟨⟨⟨⟨⟨⟨⟨⟨⟨⟨⟨⟨⟨⟨⟨trivial,?s0⟩,?s1⟩,?s2⟩,?s3⟩,?s4⟩,?s5⟩,?s6⟩,?s7⟩,?s8⟩,?s9⟩,?s10⟩,?s11⟩,?s12⟩,?s13⟩,?s14⟩,?s15⟩,?s16⟩,?s17⟩,?s18⟩,?s19⟩,?s20⟩,?s21⟩,?s22⟩,?s23⟩,?s24⟩
        case s0 =>
         intro ax wx hw hO hN
         obtain rfl:wx=wr.drew:=hw (by decide)
         have o7:ax.tmps[7]?=some (.slice (some ⟨F,0,none⟩) t.length t.length):=(hO.out 7 (by decide)).trans rfl
         exact relVal rfl (.slice (some ⟨F,0,none⟩) t.length t.length) _ rfl (by go_simp) ⟨_,rfl,rfl,fun _=>rfl⟩
        case s1 =>
         intro ax wx hw hO hN
         obtain rfl:wx=wr.drew:=hw (by decide)
         have o8:ax.tmps[8]?=some (.int .i64 (i:Int)):=(hO.out 8 (by decide)).trans rfl
         exact relVal rfl (.int .i64 (i:Int)) _ rfl (by go_simp) ⟨_,rfl,rfl,fun _=>rfl⟩
        case s2 =>
         intro ax wx hw hO hN
         obtain rfl:wx=wr.drew:=hw (by decide)
         obtain ⟨v0,g0,r0⟩:=hN 0 (by decide)
         have g0:ax.tmps[106]?=some v0:=g0
         have e0:v0=.slice (some ⟨F,0,none⟩) t.length t.length:=r0
         rw [e0] at g0
         obtain ⟨v1,g1,r1⟩:=hN 1 (by decide)
         have g1:ax.tmps[107]?=some v1:=g1
         have e1:v1=.int .i64 (i:Int):=r1
         rw [e1] at g1
         exact relVal rfl (.pointer (some ⟨F,i,none⟩)) _ rfl (by go_simp) ⟨_,rfl,rfl,fun _=>rfl⟩
        case s3 =>
         intro ax wx hw hO hN
         obtain rfl:wx=wr.drew:=hw (by decide)
         obtain ⟨v2,g2,r2⟩:=hN 2 (by decide)
         have g2:ax.tmps[108]?=some v2:=g2
         have e2:v2=.pointer (some ⟨F,i,none⟩):=r2
         rw [e2] at g2
         have c0:wr.drew.cell? ⟨F,i,none⟩=some (.slice (some ⟨R1 i,0,none⟩) m.up.length m.up.length):=h0
         exact relVal rfl (.slice (some ⟨R1 i,0,none⟩) m.up.length m.up.length) _ rfl (by go_simp) ⟨_,rfl,rfl,fun _=>rfl⟩
        case s4 =>
         intro ax wx hw hO hN
         obtain rfl:wx=wr.drew:=hw (by decide)
         have o10:ax.tmps[10]?=some (.int .i64 (a:Int)):=(hO.out 10 (by decide)).trans rfl
         exact relVal rfl (.int .i64 (a:Int)) _ rfl (by go_simp) ⟨_,rfl,rfl,fun _=>rfl⟩
        case s5 =>
         intro ax wx hw hO hN
         obtain rfl:wx=wr.drew:=hw (by decide)
         have o7:ax.tmps[7]?=some (.slice (some ⟨F,0,none⟩) t.length t.length):=(hO.out 7 (by decide)).trans rfl
         exact relVal rfl (.slice (some ⟨F,0,none⟩) t.length t.length) _ rfl (by go_simp) ⟨_,rfl,rfl,fun _=>rfl⟩
        case s6 =>
         intro ax wx hw hO hN
         obtain rfl:wx=wr.drew:=hw (by decide)
         have o9:ax.tmps[9]?=some (.pointer (some ⟨bX,0,none⟩)):=(hO.out 9 (by decide)).trans rfl
         exact relVal rfl (.pointer (some ⟨bX,2,none⟩)) _ rfl (by go_simp) ⟨_,rfl,rfl,fun _=>rfl⟩
        case s7 =>
         intro ax wx hw hO hN
         obtain rfl:wx=wr.drew:=hw (by decide)
         obtain ⟨v6,g6,r6⟩:=hN 6 (by decide)
         have g6:ax.tmps[112]?=some v6:=g6
         have e6:v6=.pointer (some ⟨bX,2,none⟩):=r6
         rw [e6] at g6
         have c0:wr.drew.cell? ⟨bX,2,none⟩=some (.int .i64 (x:Int)):=hl2
         exact relVal rfl (.int .i64 (x:Int)) _ rfl (by go_simp) ⟨_,rfl,rfl,fun _=>rfl⟩
        case s8 =>
         intro ax wx hw hO hN
         obtain rfl:wx=wr.drew:=hw (by decide)
         obtain ⟨v5,g5,r5⟩:=hN 5 (by decide)
         have g5:ax.tmps[111]?=some v5:=g5
         have e5:v5=.slice (some ⟨F,0,none⟩) t.length t.length:=r5
         rw [e5] at g5
         obtain ⟨v7,g7,r7⟩:=hN 7 (by decide)
         have g7:ax.tmps[113]?=some v7:=g7
         have e7:v7=.int .i64 (x:Int):=r7
         rw [e7] at g7
         exact relVal rfl (.pointer (some ⟨F,x,none⟩)) _ rfl (by go_simp) ⟨_,rfl,rfl,fun _=>rfl⟩
        case s9 =>
         intro ax wx hw hO hN
         obtain rfl:wx=wr.drew:=hw (by decide)
         obtain ⟨v8,g8,r8⟩:=hN 8 (by decide)
         have g8:ax.tmps[114]?=some v8:=g8
         have e8:v8=.pointer (some ⟨F,x,none⟩):=r8
         rw [e8] at g8
         have c0:wr.drew.cell? ⟨F,x,none⟩=some (.slice (some ⟨R1 x,0,none⟩) m.up.length m.up.length):=hxc
         exact relVal rfl (.slice (some ⟨R1 x,0,none⟩) m.up.length m.up.length) _ rfl (by go_simp) ⟨_,rfl,rfl,fun _=>rfl⟩
        case s10 =>
         intro ax wx hw hO hN
         obtain rfl:wx=wr.drew:=hw (by decide)
         have o10:ax.tmps[10]?=some (.int .i64 (a:Int)):=(hO.out 10 (by decide)).trans rfl
         exact relVal rfl (.int .i64 (a:Int)) _ rfl (by go_simp) ⟨_,rfl,rfl,fun _=>rfl⟩
        case s11 =>
         intro ax wx hw hO hN
         obtain rfl:wx=wr.drew:=hw (by decide)
         obtain ⟨v9,g9,r9⟩:=hN 9 (by decide)
         have g9:ax.tmps[115]?=some v9:=g9
         have e9:v9=.slice (some ⟨R1 x,0,none⟩) m.up.length m.up.length:=r9
         rw [e9] at g9
         obtain ⟨v10,g10,r10⟩:=hN 10 (by decide)
         have g10:ax.tmps[116]?=some v10:=g10
         have e10:v10=.int .i64 (a:Int):=r10
         rw [e10] at g10
         exact relVal rfl (.pointer (some ⟨R1 x,a,none⟩)) _ rfl (by go_simp) ⟨_,rfl,rfl,fun _=>rfl⟩
        case s12 =>
         intro ax wx hw hO hN
         obtain rfl:wx=wr.drew:=hw (by decide)
         obtain ⟨v11,g11,r11⟩:=hN 11 (by decide)
         have g11:ax.tmps[117]?=some v11:=g11
         have e11:v11=.pointer (some ⟨R1 x,a,none⟩):=r11
         rw [e11] at g11
         have c0:wr.drew.cell? ⟨R1 x,a,none⟩=some (.bool true):=hxv
         exact relVal rfl (.bool true) _ rfl (by go_simp) ⟨_,rfl,rfl,fun _=>rfl⟩
        case s13 =>
         intro ax wx hw hO hN
         obtain rfl:wx=wr.drew:=hw (by decide)
         obtain ⟨v12,g12,r12⟩:=hN 12 (by decide)
         have g12:ax.tmps[118]?=some v12:=g12
         have e12:v12=.bool true:=r12
         rw [e12] at g12
         exact relVal rfl (.bool true) _ rfl (by go_simp) ⟨_,rfl,rfl,fun _=>rfl⟩
        case s14 =>
         intro ax wx hw hO hN
         obtain rfl:wx=wr.drew:=hw (by decide)
         obtain ⟨v13,g13,r13⟩:=hN 13 (by decide)
         have g13:ax.tmps[119]?=some v13:=g13
         have e13:v13=.bool true:=r13
         rw [e13] at g13
         have o7:ax.tmps[7]?=some (.slice (some ⟨F,0,none⟩) t.length t.length):=(hO.out 7 (by decide)).trans rfl
         exact relNo rfl ((wanted_is rfl rfl g13).trans rfl) ⟨_,rfl,rfl,fun _=>rfl⟩
        case s15 =>
         intro ax wx hw hO hN
         obtain rfl:wx=wr.drew:=hw (by decide)
         obtain ⟨v13,g13,r13⟩:=hN 13 (by decide)
         have g13:ax.tmps[119]?=some v13:=g13
         have e13:v13=.bool true:=r13
         rw [e13] at g13
         have o9:ax.tmps[9]?=some (.pointer (some ⟨bX,0,none⟩)):=(hO.out 9 (by decide)).trans rfl
         exact relNo rfl ((wanted_is rfl rfl g13).trans rfl) ⟨_,rfl,rfl,fun _=>rfl⟩
        case s16 =>
         intro ax wx hw hO hN
         obtain rfl:wx=wr.drew:=hw (by decide)
         obtain ⟨v15,g15,r15⟩:=hN 15 (by decide)
         have g15:ax.tmps[121]?=some v15:=g15
         have e15:v15=undef:=r15
         rw [e15] at g15
         obtain ⟨v13,g13,r13⟩:=hN 13 (by decide)
         have g13:ax.tmps[119]?=some v13:=g13
         have e13:v13=.bool true:=r13
         rw [e13] at g13
         exact relNo rfl ((wanted_is rfl rfl g13).trans rfl) ⟨_,rfl,rfl,fun _=>rfl⟩
        case s17 =>
         intro ax wx hw hO hN
         obtain rfl:wx=wr.drew:=hw (by decide)
         obtain ⟨v14,g14,r14⟩:=hN 14 (by decide)
         have g14:ax.tmps[120]?=some v14:=g14
         have e14:v14=undef:=r14
         rw [e14] at g14
         obtain ⟨v16,g16,r16⟩:=hN 16 (by decide)
         have g16:ax.tmps[122]?=some v16:=g16
         have e16:v16=undef:=r16
         rw [e16] at g16
         obtain ⟨v13,g13,r13⟩:=hN 13 (by decide)
         have g13:ax.tmps[119]?=some v13:=g13
         have e13:v13=.bool true:=r13
         rw [e13] at g13
         exact relNo rfl ((wanted_is rfl rfl g13).trans rfl) ⟨_,rfl,rfl,fun _=>rfl⟩
        case s18 =>
         intro ax wx hw hO hN
         obtain rfl:wx=wr.drew:=hw (by decide)
         obtain ⟨v17,g17,r17⟩:=hN 17 (by decide)
         have g17:ax.tmps[123]?=some v17:=g17
         have e17:v17=undef:=r17
         rw [e17] at g17
         obtain ⟨v13,g13,r13⟩:=hN 13 (by decide)
         have g13:ax.tmps[119]?=some v13:=g13
         have e13:v13=.bool true:=r13
         rw [e13] at g13
         exact relNo rfl ((wanted_is rfl rfl g13).trans rfl) ⟨_,rfl,rfl,fun _=>rfl⟩
        case s19 =>
         intro ax wx hw hO hN
         obtain rfl:wx=wr.drew:=hw (by decide)
         obtain ⟨v13,g13,r13⟩:=hN 13 (by decide)
         have g13:ax.tmps[119]?=some v13:=g13
         have e13:v13=.bool true:=r13
         rw [e13] at g13
         have o10:ax.tmps[10]?=some (.int .i64 (a:Int)):=(hO.out 10 (by decide)).trans rfl
         exact relNo rfl ((wanted_is rfl rfl g13).trans rfl) ⟨_,rfl,rfl,fun _=>rfl⟩
        case s20 =>
         intro ax wx hw hO hN
         obtain rfl:wx=wr.drew:=hw (by decide)
         obtain ⟨v18,g18,r18⟩:=hN 18 (by decide)
         have g18:ax.tmps[124]?=some v18:=g18
         have e18:v18=undef:=r18
         rw [e18] at g18
         obtain ⟨v19,g19,r19⟩:=hN 19 (by decide)
         have g19:ax.tmps[125]?=some v19:=g19
         have e19:v19=undef:=r19
         rw [e19] at g19
         obtain ⟨v13,g13,r13⟩:=hN 13 (by decide)
         have g13:ax.tmps[119]?=some v13:=g13
         have e13:v13=.bool true:=r13
         rw [e13] at g13
         exact relNo rfl ((wanted_is rfl rfl g13).trans rfl) ⟨_,rfl,rfl,fun _=>rfl⟩
        case s21 =>
         intro ax wx hw hO hN
         obtain rfl:wx=wr.drew:=hw (by decide)
         obtain ⟨v20,g20,r20⟩:=hN 20 (by decide)
         have g20:ax.tmps[126]?=some v20:=g20
         have e20:v20=undef:=r20
         rw [e20] at g20
         obtain ⟨v13,g13,r13⟩:=hN 13 (by decide)
         have g13:ax.tmps[119]?=some v13:=g13
         have e13:v13=.bool true:=r13
         rw [e13] at g13
         exact relNo rfl ((wanted_is rfl rfl g13).trans rfl) ⟨_,rfl,rfl,fun _=>rfl⟩
        case s22 =>
         intro ax wx hw hO hN
         obtain rfl:wx=wr.drew:=hw (by decide)
         obtain ⟨v13,g13,r13⟩:=hN 13 (by decide)
         have g13:ax.tmps[119]?=some v13:=g13
         have e13:v13=.bool true:=r13
         rw [e13] at g13
         obtain ⟨v21,g21,r21⟩:=hN 21 (by decide)
         have g21:ax.tmps[127]?=some v21:=g21
         have e21:v21=undef:=r21
         rw [e21] at g21
         exact relVal rfl (.bool true) _ rfl (by go_simp) ⟨_,rfl,rfl,fun _=>rfl⟩
        case s23 =>
         intro ax wx hw hO hN
         obtain rfl:wx=wr.drew:=hw (by decide)
         obtain ⟨v3,g3,r3⟩:=hN 3 (by decide)
         have g3:ax.tmps[109]?=some v3:=g3
         have e3:v3=.slice (some ⟨R1 i,0,none⟩) m.up.length m.up.length:=r3
         rw [e3] at g3
         obtain ⟨v4,g4,r4⟩:=hN 4 (by decide)
         have g4:ax.tmps[110]?=some v4:=g4
         have e4:v4=.int .i64 (a:Int):=r4
         rw [e4] at g4
         exact relVal rfl (.pointer (some ⟨R1 i,a,none⟩)) _ rfl (by go_simp) ⟨_,rfl,rfl,fun _=>rfl⟩
        case s24 =>
         intro ax wx hw hO hN
         obtain rfl:wx=wr.drew:=hw (by decide)
         obtain ⟨v23,g23,r23⟩:=hN 23 (by decide)
         have g23:ax.tmps[129]?=some v23:=g23
         have e23:v23=.pointer (some ⟨R1 i,a,none⟩):=r23
         rw [e23] at g23
         obtain ⟨v22,g22,r22⟩:=hN 22 (by decide)
         have g22:ax.tmps[128]?=some v22:=g22
         have e22:v22=.bool true:=r22
         rw [e22] at g22
         have hst:=run_stB (z:=true) (show wr.drew.cell? ⟨R1 i,a,none⟩=some _ from HQ.out.tab.cr (Nat.lt_succ_self i) hla) (show wr.drew.frozen? ⟨R1 i,a,none⟩=false from HQ.out.tab.fr (Nat.lt_succ_self i) a)
         exact relStore rfl rfl 4 (.tmp 129) (.tmp 128) rfl (by simp [Act.eval,g23]) (by simp [Act.eval,g22]) hst ⟨_,rfl,⟨rfl,rfl⟩,fun h=>absurd rfl h⟩
       case fin =>
        intro vs wx hV
        obtain ⟨_,ew⟩:vs 24=undef∧wx=wr.drew.setCell ⟨R1 i,a,none⟩ (.bool (true)):=hV 24 (by decide)
        subst ew
        have HQ2:=show Hid _ from HQ.out.drew.put (true)
        generalize wr.drew.setCell ⟨R1 i,a,none⟩ (.bool (true))=w9 at *
        simp only [putAll,Act.put,List.setIfInBounds_toArray,List.set_cons_zero,List.set_cons_succ,Nat.reduceAdd]
        have HN:=show Hid (FW w1 w9 F t.length m.up.length i bX nd R1 (upd S i (cuF S i (a+1)))) from ⟨HQ2.out.bel,HQ2.out.tab.fin (by rw [show S i a=_ from HSV.out];rfl),HQ2.out.box,HQ2.out.ge,HQ2.out.ne⟩
        clear HQ2 HQ HSV h0 hxc hyc hxv hyv hl2 hl3 hV
        go_wp2_with fail
        go_roundw
        case rel=>exact ⟨a+1,by omega,val_int (by omega),HN.out⟩
        case measure=>(simp only [intOf];omega)
     ·skip
      rw [ek] at hk0
      obtain ⟨x,y,hx,hy,hxi,hyi⟩:=HPL.out (by omega)
      have HSV:=show Hid (S i a=allTo (fun b => !(M a b && S x b && !S y b)) m.up.length) from by
       have h:=HSI.out ek a
       rw [hx,hy,Int.toNat_natCast,Int.toNat_natCast] at h
       exact h
      have h0:wr.cell? ⟨F,i,none⟩=some (.slice (some ⟨R1 i,0,none⟩) m.up.length m.up.length):=HI0.out.tab.co (Nat.lt_succ_self i) hlt
      have h1:wr.cell? ⟨R1 i,a,none⟩=some (.bool (stA S i a false i a)):=HI0.out.tab.cr (Nat.lt_succ_self i) hla
      have hf1:wr.frozen? ⟨R1 i,a,none⟩=false:=HI0.out.tab.fr (Nat.lt_succ_self i) a
      have HQ0:=show Hid (FW w1 (wr.setCell ⟨R1 i,a,none⟩ (.bool true)) F t.length m.up.length i bX nd R1 (stA S i a (allTo (fun b => !(M a b && S x b && !S y b)) 0))) from HI0.out.put true
      have HL:=show Hid (nd.l=(x:Int)∧nd.r=(y:Int)) from ⟨hx,hy⟩
      clear HI0 HSA HSN HSO HSI HSB HPL hkd ek hx hy
      go_wp2_with fail
      generalize wr.setCell ⟨R1 i,a,none⟩ (.bool true)=w8 at *
      clear hk0 h0 h1 hf1
      go_loopw [12] (fun bv wr=>∃ b:Nat,b≤m.up.length∧bv=.int .i64 (b:Int)∧Hid (FW w1 wr F t.length m.up.length i bX nd R1 (stA S i a (allTo (fun b => !(M a b && S x b && !S y b)) b)))) (fun bv _=>m.up.length - (intOf bv).toNat)
      case atStart=>exact ⟨0,Nat.zero_le _,rfl,HQ0.out⟩
      case round =>
       clear HQ0
       obtain ⟨b,hb,rfl,HQ⟩:=hrel
       by_cases hlb:b<m.up.length
       ·skip
        have hbi:(b:Int)<(m.up.length:Int):=by omega
        have HNX:=show Hid (allTo (fun b => !(M a b && S x b && !S y b)) (b+1)=(allTo (fun b => !(M a b && S x b && !S y b)) b && !(M a b && S x b && !S y b))) from allTo_next _ _
        have hoc:=HOC.out wr (HU.out wr HQ.out.bel).1
        have ho1:=(hoc a hla).1
        have ho2:=(hoc a hla).2 b hlb
        have h0:wr.cell? ⟨F,i,none⟩=some (.slice (some ⟨R1 i,0,none⟩) m.up.length m.up.length):=HQ.out.tab.co (Nat.lt_succ_self i) hlt
        have h1:wr.cell? ⟨R1 i,a,none⟩=some (.bool (stA S i a (allTo (fun b => !(M a b && S x b && !S y b)) b) i a)):=HQ.out.tab.cr (Nat.lt_succ_self i) hla
        have hf1:wr.frozen? ⟨R1 i,a,none⟩=false:=HQ.out.tab.fr (Nat.lt_succ_self i) a
        have hxc:wr.cell? ⟨F,x,none⟩=some (.slice (some ⟨R1 x,0,none⟩) m.up.length m.up.length):=HQ.out.tab.co (by omega) hlt
        have hyc:wr.cell? ⟨F,y,none⟩=some (.slice (some ⟨R1 y,0,none⟩) m.up.length m.up.length):=HQ.out.tab.co (by omega) hlt
        have hxv:wr.cell? ⟨R1 x,b,none⟩=some (.bool (S x b)):=(HQ.out.tab.cr (by omega) hlb).trans (by rw [stA_old _ hxi])
        have hyv:wr.cell? ⟨R1 y,b,none⟩=some (.bool (S y b)):=(HQ.out.tab.cr (by omega) hlb).trans (by rw [stA_old _ hyi])
        have hl2:wr.cell? ⟨bX,2,none⟩=some (.int .i64 (x:Int)):=(HQ.out.box.cell 2).trans (by rw [← HL.out.1];rfl)
        have hl3:wr.cell? ⟨bX,3,none⟩=some (.int .i64 (y:Int)):=(HQ.out.box.cell 3).trans (by rw [← HL.out.2];rfl)
        have hxt:(x:Int)<(t.length:Int):=by omega
        have hyt:(y:Int)<(t.length:Int):=by omega
        have HP:=show Hid (FW w1 (wr.setCell ⟨R1 i,a,none⟩ (.bool false)) F t.length m.up.length i bX nd R1 (stA S i a false)) from HQ.out.put false
        clear hoc
        generalize allTo (fun b => !(M a b && S x b && !S y b)) b=u at *
        generalize M a b=z1 at *
        generalize S x b=z2 at *
        generalize S y b=z3 at *
        generalize stA S i a u i a=z4 at *
        cases z1
        ·skip
         have HN:=show Hid (FW w1 wr F t.length m.up.length i bX nd R1 (stA S i a (allTo (fun b => !(M a b && S x b && !S y b)) (b+1)))) from by rw [show allTo (fun b => !(M a b && S x b && !S y b)) (b+1)=u from by rw [HNX.out];simp];exact HQ.out
         clear HQ HNX HP
         go_wp2_with fail
         go_roundw
         case rel=>exact ⟨b+1,by omega,val_int (by omega),HN.out⟩
         case measure=>(simp only [intOf];omega)
        ·skip
         cases z2
         ·skip
          have HN:=show Hid (FW w1 wr F t.length m.up.length i bX nd R1 (stA S i a (allTo (fun b => !(M a b && S x b && !S y b)) (b+1)))) from by rw [show allTo (fun b => !(M a b && S x b && !S y b)) (b+1)=u from by rw [HNX.out];simp];exact HQ.out
          clear HQ HNX HP
          go_wp2_with fail
          go_roundw
          case rel=>exact ⟨b+1,by omega,val_int (by omega),HN.out⟩
          case measure=>(simp only [intOf];omega)
         ·skip
          cases z3
          ·skip
           have HN:=show Hid (FW w1 (wr.setCell ⟨R1 i,a,none⟩ (.bool false)) F t.length m.up.length i bX nd R1 (stA S i a (allTo (fun b => !(M a b && S x b && !S y b)) (b+1)))) from by rw [show allTo (fun b => !(M a b && S x b && !S y b)) (b+1)=false from by rw [HNX.out];simp];exact HP.out
           clear HQ HNX HP
           go_wp2_with fail
           go_roundw
           case rel=>exact ⟨b+1,by omega,val_int (by omega),HN.out⟩
           case measure=>(simp only [intOf];omega)
          ·skip
           have HN:=show Hid (FW w1 wr F t.length m.up.length i bX nd R1 (stA S i a (allTo (fun b => !(M a b && S x b && !S y b)) (b+1)))) from by rw [show allTo (fun b => !(M a b && S x b && !S y b)) (b+1)=u from by rw [HNX.out];simp];exact HQ.out
           clear HQ HNX HP
           go_wp2_with fail
           go_roundw
           case rel=>exact ⟨b+1,by omega,val_int (by omega),HN.out⟩
           case measure=>(simp only [intOf];omega)
       ·skip
        obtain rfl:b=m.up.length:=by omega
        have hbi:¬ (m.up.length:Int)<(m.up.length:Int):=by omega
        have HN:=show Hid (FW w1 wr F t.length m.up.length i bX nd R1 (upd S i (cuF S i (a+1)))) from ⟨HQ.out.bel,HQ.out.tab.fin (HSV.out.symm),HQ.out.box,HQ.out.ge,HQ.out.ne⟩
        clear HQ HSV
        go_wp2_with fail
        go_roundw
        case rel=>exact ⟨a+1,by omega,val_int (by omega),HN.out⟩
        case measure=>(simp only [intOf];omega)
    ·skip
     obtain rfl:a=m.up.length:=by omega
     have hai:¬ (m.up.length:Int)<(m.up.length:Int):=by omega
     have HN:=show Hid (Below w1.heap.size w1 wr∧∃ Rb,Ot wr w1.heap.size F t.length m.up.length (i+1) Rb S) from ⟨HI.out.bel,_,HI.out.tab.rowN⟩
     clear HI
     go_wp2_with fail
     go_roundw
     case rel=>exact ⟨i+1,by omega,val_int (by omega),HN.out⟩
     case measure=>(simp only [intOf];omega)
  ·skip
   obtain rfl:i=t.length:=by omega
   have hii:¬ (t.length:Int)<(t.length:Int):=by omega
   obtain ⟨hb,Rb,hO⟩:=HI.out
   have HZ:=show Hid (Ot wr w.heap.size F t.length m.up.length t.length Rb S∧Below w.heap.size w wr) from ⟨⟨hO.out,fun j hj=>⟨(hO.row j hj).1,Nat.le_trans HS1.out (hO.row j hj).2.1,(hO.row j hj).2.2⟩,hO.inj,Nat.le_trans HS1.out hO.hO⟩,(HU.out wr hb).1⟩
   clear HI hb hO
   go_wp2_with fail
   go_ret
   first | exact ⟨F,Rb,rfl,HZ.out⟩ | exact ⟨F,rfl,⟨Rb,HZ.out.1⟩,HZ.out.2⟩
end Go.Proofs.Ytoedidbbjnnpnaa.Wm
