/-
  The document's Order: of any model of at most 512 worlds. No condition.
-/
import Derived.Test.YtoedidbbjnnpnaaTH15
namespace Go.Proofs.Ytoedidbbjnnpnaa.Wm
open Go.RowKit Go.Maps
open Wd (Md allW upd)
set_option linter.unusedSimpArgs false
structure Ob (w:World) (B O n k:Nat) (Ra:Nat→Nat) (S:Nat→Nat→Bool):Prop where
 out:Rw w O n 74 (fun j=>if j<k then .slice (some ⟨Ra j,0,none⟩) n n else .slice none 0 0)
 row:∀ j,j<k→Rw w (Ra j) n 4 (fun b=>.bool (S j b))∧B≤Ra j∧Ra j≠O
 inj:∀ i j,i<k→j<k→Ra i=Ra j→i=j
 hO:B≤O
section
variable {w w':World} {B O n k:Nat} {Ra:Nat→Nat} {S:Nat→Nat→Bool}
theorem Ob.keep (h:Ob w B O n k Ra S) (h1:w'.heap[O]?=w.heap[O]?) (h2:∀ j,j<k→w'.heap[Ra j]?=w.heap[Ra j]?):Ob w' B O n k Ra S :=
 ⟨h.out.keep h1,fun j hj=>⟨(h.row j hj).1.keep (h2 j hj),(h.row j hj).2⟩,h.inj,h.hO⟩
theorem Ob.later (h:Ob w B O n k Ra S) (hb:Below w.heap.size w w'):Ob w' B O n k Ra S:=h.keep (hb.block _ h.out.lt) fun j hj=>hb.block _ (h.row j hj).1.lt
theorem Ob.add (h:Ob w B O n k Ra S) {q:Nat} {T:Nat→Bool} (hk:k<n) (hq:B≤q) (hO:q≠O) (hne:∀ j,j<k→Ra j≠q) (hx:w'.heap[O]?=(w.setCell ⟨O,k,none⟩ (.slice (some ⟨q,0,none⟩) n n)).heap[O]?) (h2:∀ j,j<k→w'.heap[Ra j]?=w.heap[Ra j]?) (hr:Rw w' q n 4 (fun b=>.bool (T b))):Ob w' B O n (k+1) (upd Ra k q) (upd S k T):=by
 refine ⟨?_,fun j hj => ?_,fun i j hi hj e => ?_,h.hO⟩
 ·refine Rw.same (Rw.keep (h.out.set k _) hx) fun j hj => ?_
  unfold upd
  dsimp only
  by_cases e:j=k
  ·rw [if_pos e,if_pos (by omega),if_pos e]
  ·rw [if_neg e]
   by_cases e2:j<k
   ·rw [if_pos e2,if_pos (by omega),if_neg e]
   ·rw [if_neg e2,if_neg (by omega)]
 ·by_cases e:j=k
  ·subst e
   rw [Wd.upd_same,Wd.upd_same]
   exact ⟨hr,hq,hO⟩
  ·rw [Wd.upd_other _ _ _ e,Wd.upd_other _ _ _ e]
   exact ⟨(h.row j (by omega)).1.keep (h2 j (by omega)),(h.row j (by omega)).2⟩
 ·by_cases e1:i=k
  ·by_cases e2:j=k
   ·omega
   ·rw [e1,Wd.upd_same,Wd.upd_other _ _ _ e2] at e
    exact absurd e.symm (hne j (by omega))
  ·by_cases e2:j=k
   ·rw [e2,Wd.upd_same,Wd.upd_other _ _ _ e1] at e
    exact absurd e (hne i (by omega))
   ·rw [Wd.upd_other _ _ _ e1,Wd.upd_other _ _ _ e2] at e
    exact h.inj i j (by omega) (by omega) e
end
theorem upd_upd {α:Type} (f:Nat→α) (k:Nat) (x y:α):upd (upd f k x) k y=upd f k y:=by
 funext i
 unfold upd
 split <;> rfl
theorem Ob.set {w:World} {B O n k:Nat} {Ra:Nat→Nat} {S:Nat→Nat→Bool} (h:Ob w B O n k Ra S) {a:Nat} (ha:a<k) (x:Nat):Ob (w.setCell ⟨Ra a,x,none⟩ (.bool true)) B O n k Ra (upd S a (upd (S a) x true)):=by
 have hk:Kp (fun g=>g=Ra a) w (w.setCell ⟨Ra a,x,none⟩ (.bool true)):=(Kp.refl (fun g=>g=Ra a) w).set (p:=Ra a) rfl x _
 refine ⟨h.out.kp hk (fun e=>(h.row a ha).2.2 e.symm),fun j hj=>⟨?_,(h.row j hj).2⟩,h.inj,h.hO⟩
 by_cases e:j=a
 ·subst e
  refine ((h.row j hj).1.set x (.bool true)).same fun b _ => ?_
  rw [Wd.upd_same]
  unfold upd
  split <;> rfl
 ·rw [Wd.upd_other _ _ _ e]
  exact (h.row j hj).1.kp hk (fun e2=>e (h.inj j a hj ha e2))
theorem wpList_ms {ops:Array Oper} {rest:List Oper} {o:Oper} {a:Act} {Q:Exit→Act→World→Prop} {w:World} {T0:TypeId} {x y:Operand} (hop:o.op=Op.makeSlice T0 x y) (hg:o.guard=none) (n:Nat) (cs:Array Value) (E:TypeId) (u v:Value) (hx:a.eval x=u) (hy:a.eval y=v) (hr:(Instr.makeSlice T0 u v).run Try.prog w=.ok (.slice (some ⟨w.heap.size,0,none⟩) n n) (w.alloc (.cells cs E)))
 (hK:∀ w' q,New w w' q cs E→wpList Try.prog ops Q rest (a.put o.dst (.slice (some ⟨q,0,none⟩) n n)) w'):wpList Try.prog ops Q (o :: rest) a w:=by
 refine wpList_plain hg fun K' hK' => ?_
 unfold Oper.wp
 simp [execOp,hop,hx,hy,hr,Result.andThen]
 exact hK' _ _ (hK _ _ (new_alloc w _ _))
theorem OwnI.at {base:Nat} {w:World} {p:Option Addr} {c i:Nat} {l:List Nat} (h:OwnI base w (.slice p l.length c) l) (hi:i<l.length):∃ g,p=some ⟨g,0,none⟩∧w.cell? ⟨g,i,none⟩=some (.int .i64 (l[i]:Int)):=by
 rcases h.2 with ⟨e,h0⟩ | ⟨g,cap,cur,e,_⟩
 ·omega
 ·obtain ⟨rfl,_,rfl⟩:=Value.slice.inj e
  exact ⟨g,rfl,(h.cellAt i (by omega)).trans (by simp [intsV,hi])⟩
theorem rw_madeV (w:World) (n:Nat) (z:Value) (T:TypeId):Rw (w.alloc (.cells (madeCells #[z] n) T)) w.heap.size n T (fun _=>z):=by
 unfold Rw
 rw [heap_alloc_new]
 congr 2
 apply Array.ext'
 rw [toList_madeCells_one]
 simp [List.map_const']
set_option maxRecDepth 100000 in
set_option maxHeartbeats 8000000 in
theorem order_any (w:World) {M:Nat→Nat→Bool} {L:Nat} {uv vv:Value} {m:Md} (hO:IsO m.up M) (hm:IsM w L uv vv m) (hf:Fit m) (hL:L≤w.heap.size) (hn:m.up.length≤512) :
 Calls Try.prog 58 #[.agg #[uv,vv]] w fun e w'=>((∃ O Ra,e=.returned (.tuple #[.slice (some ⟨O,0,none⟩) m.up.length m.up.length,.bool true])∧Ob w' w.heap.size O m.up.length m.up.length Ra M∧∀ r ∈ m.up,allW m.up.length r=true)∨(e=.returned (.tuple #[.slice none 0 0,.bool false])∧∃ r ∈ m.up,allW m.up.length r=false))∧Below w.heap.size w w':=by
 obtain ⟨pu,cu,rfl,hu⟩:=hm.up.row
 obtain ⟨pv,cv,rfl⟩:=IsS.form hm.val
 have HUR:=show Hid (∀ (j:Nat) (hj:j<m.up.length),∃ b o q n,pu=some ⟨b,o,none⟩∧(∀ W,Below w.heap.size w W→W.cell? ⟨b,o+j,none⟩=some (.slice q m.up[j].length n))∧∀ (i:Nat) (hi:i<m.up[j].length),∃ br orr,q=some ⟨br,orr,none⟩∧∀ W,Below w.heap.size w W→W.cell? ⟨br,orr+i,none⟩=some (.int .i64 (m.up[j][i]))) from fun j hj=>by
  obtain ⟨b,o,q,n,e1,h1,h2,p',c',e3,h3⟩:=hu j hj
  obtain ⟨rfl,_,rfl⟩:=Value.slice.inj e3
  refine ⟨b,o,q,n,e1,fun W hW=>(World.cell?_of_block (a:=⟨b,o+j,none⟩) (hW.block b (by omega))).trans h2,fun i hi => ?_⟩
  obtain ⟨br,orr,hl,e4,h4⟩:=h3 (by omega)
  obtain ⟨x,hx,rfl⟩:=h4 i hi
  exact ⟨br,orr,e4,fun W hW=>(World.cell?_of_block (a:=⟨br,orr+i,none⟩) (hW.block br (by omega))).trans hx⟩
 have HFU:=show Hid (∀ r ∈ m.up,r.length≤140737488351232∧∀ i ∈ r,-9223372036854775808≤i∧i≤9223372036854775807) from hf.2.2.1
 have HMO:=show Hid (∀ W:World,(Instr.makeSlice 68 (.int .i64 (m.up.length:Int)) (.int .i64 (m.up.length:Int))).run Try.prog W=.ok (.slice (some ⟨W.heap.size,0,none⟩) m.up.length m.up.length) (W.alloc (.cells (madeCells #[.slice none 0 0] m.up.length) 74))) from fun W =>
  run_make_row' (P:=Try.prog) 68 74 (.slice none 0 0) 24 Try.underlying68 (by kernel_rfl) rfl .i64 .i64 m.up.length (by omega) (by omega) W
 have HMR:=show Hid (∀ W:World,(Instr.makeSlice 74 (.int .i64 (m.up.length:Int)) (.int .i64 (m.up.length:Int))).run Try.prog W=.ok (.slice (some ⟨W.heap.size,0,none⟩) m.up.length m.up.length) (W.alloc (.cells (madeCells #[.bool false] m.up.length) 4))) from fun W =>
  run_make_row' (P:=Try.prog) 74 4 (.bool false) 1 Try.underlying74 (by kernel_rfl) rfl .i64 .i64 m.up.length (by omega) (by omega) W
 have HO:=show Hid (IsO m.up M) from hO
 clear hm hf hu hO hL
 go_enter Try.func58,Try.ntmps58
 go_wp2_with (refine wpList_box 25 _ rfl _ rfl rfl ?_)
 intro w1 b1 hN1
 have H1:=show Hid (Below w.heap.size w w1∧Cl w1 b1 #[.slice pu m.up.length cu,.slice pv m.val.length cv] 25) from ⟨hN1.bel,hN1.blk⟩
 have HB0:=show Hid (w.heap.size≤b1) from hN1.ge
 have c10:w1.cell? ⟨b1,0,none⟩=some (.slice pu m.up.length cu):=H1.out.2.cell 0
 have hmo:=HMO.out w1
 clear hN1 HMO
 go_wp2_with (simp only [hmo])
 have HST:=show Hid (∃ Ra S,Ob (w1.alloc (.cells (madeCells #[.slice none 0 0] m.up.length) 74)) w.heap.size w1.heap.size m.up.length 0 Ra S∧Below w.heap.size w (w1.alloc (.cells (madeCells #[.slice none 0 0] m.up.length) 74))∧Cl (w1.alloc (.cells (madeCells #[.slice none 0 0] m.up.length) 74)) b1 #[.slice pu m.up.length cu,.slice pv m.val.length cv] 25) from
  ⟨fun _=>0,fun _ _=>false,⟨(rw_madeV w1 m.up.length (.slice none 0 0) 74).same fun j _=>by rw [if_neg (Nat.not_lt_zero _)],fun j hj=>absurd hj (Nat.not_lt_zero _),fun i j hi=>absurd hi (Nat.not_lt_zero _),H1.out.1.size⟩,H1.out.1.trans ((below_alloc w1 _).mono H1.out.1.size),H1.out.2.later (below_alloc w1 _)⟩
 have HB1:=show Hid (b1<w1.heap.size∧w.heap.size≤b1∧w.heap.size≤w1.heap.size) from ⟨H1.out.2.lt,HB0.out,H1.out.1.size⟩
 clear hmo c10 H1 HB0
 generalize w1.alloc (.cells (madeCells #[.slice none 0 0] m.up.length) 74)=w2 at *
 generalize w1.heap.size=O at *
 go_loopw [6,7,8,9,10,11] (fun a _ _ _ _ _ wr=>∃ k:Nat,k≤m.up.length∧a=.int .i64 (k:Int)∧Hid (∃ Ra S,Ob wr w.heap.size O m.up.length k Ra S∧(∀ j,j<k→∀ b,b<m.up.length→S j b=M j b)∧(∀ j,j<k→∀ r,m.up[j]?=some r→allW m.up.length r=true)∧Below w.heap.size w wr∧Cl wr b1 #[.slice pu m.up.length cu,.slice pv m.val.length cv] 25)) (fun a _ _ _ _ _ _=>m.up.length - (intOf a).toNat)
 case atStart =>
  obtain ⟨Ra,S,h1,h2,h3⟩:=HST.out
  exact ⟨0,Nat.zero_le _,rfl,Ra,S,h1,fun j hj=>absurd hj (Nat.not_lt_zero _),fun j hj=>absurd hj (Nat.not_lt_zero _),h2,h3⟩
 case round =>
  obtain ⟨k,hk,rfl,HI⟩:=hrel
  clear HST
  by_cases hlt:k<m.up.length
  ·obtain ⟨Ra,S,hOb,hS,hA,hB,hC⟩:=HI.out
   have hki:(k:Int)<(m.up.length:Int):=by omega
   go_wp2_with (refine wpList_ms rfl rfl _ _ _ _ _ rfl rfl (HMR.out wr) ?_)
   intro w3 q hN3
   have hol:=hOb.out.lt
   have hqe:=hN3.eq
   have hqO:q≠O:=by omega
   have hOb3:=hOb.later hN3.bel
   have hrow:Rw w3 q m.up.length 4 (fun _=>.bool false):=by
    have h:=rw_madeV wr m.up.length (.bool false) 4
    unfold Rw at h ⊢
    rw [hN3.blk]
    rw [heap_alloc_last] at h
    exact h
   have hoc:w3.cell? ⟨O,k,none⟩=some (.slice none 0 0):=(hOb3.out.cell hlt).trans (by rw [if_neg (Nat.lt_irrefl _)])
   have hof:w3.frozen? ⟨O,k,none⟩=false:=hOb3.out.fr k
   have hk4:Kp (fun g=>g=O) w3 (w3.setCell ⟨O,k,none⟩ (.slice (some ⟨q,0,none⟩) m.up.length m.up.length)):=(Kp.refl (fun g=>g=O) w3).set (p:=O) rfl k _
   have hrow4:=hrow.kp hk4 hqO
   have hqc:(w3.setCell ⟨O,k,none⟩ (.slice (some ⟨q,0,none⟩) m.up.length m.up.length)).cell? ⟨q,k,none⟩=some (.bool false):=hrow4.cell hlt
   have hqf:(w3.setCell ⟨O,k,none⟩ (.slice (some ⟨q,0,none⟩) m.up.length m.up.length)).frozen? ⟨q,k,none⟩=false:=hrow4.fr k
   have HX:=show Hid (∀ W,W=(w3.setCell ⟨O,k,none⟩ (.slice (some ⟨q,0,none⟩) m.up.length m.up.length)).setCell ⟨q,k,none⟩ (.bool true)→Ob W w.heap.size O m.up.length (k+1) (upd Ra k q) (upd S k fun b=>decide (b=k))∧Below w.heap.size w W∧Cl W b1 #[.slice pu m.up.length cu,.slice pv m.val.length cv] 25∧(∀ j,j<k+1→upd Ra k q j<W.heap.size)∧O<W.heap.size) from fun W e=>by
    have hk5:Kp (fun g=>g=q) (w3.setCell ⟨O,k,none⟩ (.slice (some ⟨q,0,none⟩) m.up.length m.up.length)) W:=by rw [e];exact (Kp.refl (fun g=>g=q) _).set (p:=q) rfl k _
    have hbq:w.heap.size≤q:=by rw [hqe];exact hB.size
    have hbO:=hOb.hO
    have hne:∀ j,j<k→Ra j≠q:=fun j hj e=>by have:=(hOb.row j hj).1.lt;omega
    have hR:Rw W q m.up.length 4 (fun b=>.bool (decide (b=k))):=by
     rw [e]
     refine (hrow4.set k (.bool true)).same fun j _ => ?_
     unfold upd
     by_cases e2:j=k
     ·rw [if_pos e2,decide_eq_true e2]
     ·rw [if_neg e2,decide_eq_false e2]
    have hOb5:Ob W w.heap.size O m.up.length (k+1) (upd Ra k q) (upd S k fun b=>decide (b=k)):=hOb3.add hlt hbq hqO hne (hk5.block O (by have:=hk4.size;have:=hN3.bel.size;omega) (fun e=>hqO e.symm)) (fun j hj=>by
     have h1:=(hOb3.row j hj).1.lt
     exact (hk5.block (Ra j) (by have:=hk4.size;omega) (hne j hj)).trans (hk4.block (Ra j) h1 (hOb.row j hj).2.2)) hR
    have hbw:Below w.heap.size w W:=(hB.trans (hN3.bel.mono hB.size)).trans ((hk4.below (by have:=hB.size;have:=hN3.bel.size;omega) fun g e=>by omega).trans (hk5.below (by have:=hB.size;have:=hN3.bel.size;have:=hk4.size;omega) fun g e=>by omega))
    refine ⟨hOb5,hbw,?_,fun j hj=>(hOb5.row j hj).1.lt,hOb5.out.lt⟩
    have hb1:=HB1.out
    have h3:=hC.later hN3.bel
    exact (h3.kp hk4 (by omega)).kp hk5 (by have:=hC.lt;omega)
   have HA:=show Hid ((∀ j,j<k→∀ b,b<m.up.length→S j b=M j b)∧(∀ j,j<k→∀ r,m.up[j]?=some r→allW m.up.length r=true)) from ⟨hS,hA⟩
   clear hOb hS hA hB hC hN3 hqe hOb3 hrow hk4 hrow4 hol HI
   go_wp2_with (refine wpList_mk rfl rfl 1 #[.int .i64 (k:Int)] 3 (fun w=>by kernel_rfl) ?_)
   intro w5 b7 hN5
   have HX5:=show Hid _ from HX.out _ rfl
   generalize (w3.setCell ⟨O,k,none⟩ (.slice (some ⟨q,0,none⟩) m.up.length m.up.length)).setCell ⟨q,k,none⟩ (.bool true)=w4 at *
   generalize hRa:upd Ra k q=R1 at *
   have H5:=show Hid (OwnI w4.heap.size w5 (.slice (some ⟨b7,0,none⟩) 1 1) [k]∧Ob w5 w.heap.size O m.up.length (k+1) R1 (upd S k fun b=>decide (b=k))∧Below w.heap.size w w5∧Cl w5 b1 #[.slice pu m.up.length cu,.slice pv m.val.length cv] 25∧w4.heap.size≤w5.heap.size) from by
    refine ⟨⟨by simp [intsV],Or.inr ⟨b7,1,_,rfl,hN5.ge,hN5.blk,Nat.le_refl _,by unfold maxLen;omega,rfl,rfl⟩⟩,HX5.out.1.later hN5.bel,HX5.out.2.1.trans (hN5.bel.mono HX5.out.2.1.size),HX5.out.2.2.1.later hN5.bel,hN5.bel.size⟩
   have HLT:=show Hid ((∀ j,j<k+1→R1 j<w4.heap.size)∧O<w4.heap.size∧w.heap.size≤w4.heap.size∧b1<w4.heap.size) from ⟨HX5.out.2.2.2.1,HX5.out.2.2.2.2,HX5.out.2.1.size,HX5.out.2.2.1.lt⟩
   clear hN5 HX HX5 hqc hqf hoc hof hRa hqO
   go_wp2_with fail
   go_loopw [7,8,9,10,11] (fun wv i _ _ _ wr=>∃ (l:List Nat) (i0:Nat) (T:Nat→Bool),i=.int .i64 (i0:Int)∧Hid (OwnI w4.heap.size wr wv l∧Bf m.up k m.up.length T l i0 0∧Ob wr w.heap.size O m.up.length (k+1) R1 (upd S k T)∧Below w.heap.size w wr∧Cl wr b1 #[.slice pu m.up.length cu,.slice pv m.val.length cv] 25∧w4.heap.size≤wr.heap.size)) (fun _ i _ _ _ _=>m.up.length - (intOf i).toNat)
   case atStart=>exact ⟨[k],0,_,rfl,H5.out.1,bf_start hlt,H5.out.2⟩
   case round =>
    obtain ⟨l,i0,T,rfl,H6⟩:=hrel
    clear H5
    have hll:=H6.out.2.1.len
    obtain ⟨pl,cl,rfl⟩:=H6.out.1.slice
    by_cases hi:i0<l.length
    ·obtain ⟨gw,rfl,hcw⟩:=H6.out.1.at hi
     have hx0:=H6.out.2.1.lt _ (List.getElem_mem hi)
     obtain ⟨x0,hx0e⟩:∃ x0,x0=l[i0]:=⟨_,rfl⟩
     rw [← hx0e] at hcw hx0
     obtain ⟨bu,ou,qr,nr,rfl,hcu,hck⟩:=HUR.out x0 hx0
     have HCK:=show Hid (∀ (i:Nat) (hi:i<m.up[x0].length),∃ br orr,qr=some ⟨br,orr,none⟩∧∀ W,Below w.heap.size w W→W.cell? ⟨br,orr+i,none⟩=some (.int .i64 (m.up[x0][i]))) from hck
     have HFR:=show Hid (m.up[x0].length≤140737488351232∧(∀ i ∈ m.up[x0],-9223372036854775808≤i∧i≤9223372036854775807)∧m.up[x0] ∈ m.up) from ⟨(HFU.out _ (List.getElem_mem hx0)).1,(HFU.out _ (List.getElem_mem hx0)).2,List.getElem_mem hx0⟩
     have HRX:=show Hid (m.up[x0]?=some m.up[x0]) from List.getElem?_eq_getElem hx0
     have cu0:=hcu wr H6.out.2.2.2.1
     have cb0:wr.cell? ⟨b1,0,none⟩=some (.slice (some ⟨bu,ou,none⟩) m.up.length cu):=H6.out.2.2.2.2.1.cell 0
     have hii:(i0:Int)<(l.length:Int):=by omega
     have hxi:(x0:Int)<(m.up.length:Int):=by omega
     have HLI:=show Hid (l[i0]?=some x0) from by
      have h:=List.getElem?_eq_getElem hi
      rw [← hx0e] at h
      exact h
     clear hcu hck hx0e
     generalize m.up[x0]=r at *
     have hrl:=HFR.out.1
     go_wp2_with fail
     go_region
     clear hcw cu0 cb0
     have H7:=show Hid (OwnI w4.heap.size wr.drew (.slice (some ⟨gw,0,none⟩) l.length cl) l∧Bf m.up k m.up.length T l i0 0∧Ob wr.drew w.heap.size O m.up.length (k+1) R1 (upd S k T)∧Below w.heap.size w wr.drew∧Cl wr.drew b1 #[.slice (some ⟨bu,ou,none⟩) m.up.length cu,.slice pv m.val.length cv] 25∧w4.heap.size≤wr.drew.heap.size) from by
      have hd:Below wr.heap.size wr wr.drew:=(Below.refl _ _).drew
      exact ⟨H6.out.1.later hd,H6.out.2.1,H6.out.2.2.1.later hd,H6.out.2.2.2.1.drew,H6.out.2.2.2.2.1,H6.out.2.2.2.2.2⟩
     clear H6
     generalize wr.drew=w6 at *
     generalize hvw:Value.slice (some ⟨gw,0,none⟩) l.length cl=wv at *
     clear hvw hii hll
     go_wp2_with fail
     go_loopw [7,10,11] (fun wv k2 _ wr=>∃ (l:List Nat) (k3:Nat) (T:Nat→Bool),k3≤r.length∧k2=.int .i64 (k3:Int)∧Hid (l[i0]?=some x0∧OwnI w4.heap.size wr wv l∧Bf m.up k m.up.length T l i0 k3∧Ob wr w.heap.size O m.up.length (k+1) R1 (upd S k T)∧Below w.heap.size w wr∧Cl wr b1 #[.slice (some ⟨bu,ou,none⟩) m.up.length cu,.slice pv m.val.length cv] 25∧w4.heap.size≤wr.heap.size)) (fun _ k2 _ _=>r.length - (intOf k2).toNat)
     case atStart=>exact ⟨l,0,T,Nat.zero_le _,rfl,HLI.out,H7.out⟩
     case round =>
      obtain ⟨l3,k3,T3,hk3,rfl,H8⟩:=hrel
      clear H7 HLI
      have hll:=H8.out.2.2.1.len
      obtain ⟨hi3,hx3⟩:=List.getElem?_eq_some_iff.1 H8.out.1
      have HR8:=show Hid (m.up[l3[i0]]?=some r) from by rw [hx3];exact HRX.out
      have HI3:=show Hid (i0<l3.length) from hi3
      obtain ⟨pl,cl3,rfl⟩:=H8.out.2.1.slice
      by_cases hlt3:k3<r.length
      ·obtain ⟨br,orr,rfl,hcx⟩:=HCK.out k3 hlt3
       have cx:=hcx wr H8.out.2.2.2.2.1
       have hxb:=HFR.out.2.1 _ (List.getElem_mem hlt3)
       have hk3i:(k3:Int)<(r.length:Int):=by omega
       have HBAD:=show Hid (¬ (0≤r[k3]∧r[k3]<(m.up.length:Int))→∃ r ∈ m.up,allW m.up.length r=false) from fun h=>⟨r,HFR.out.2.2,bf_bad hlt3 h⟩
       have HSEEN:=show Hid (∀ _:0≤r[k3]∧r[k3]<(m.up.length:Int),T3 (r[k3]).toNat=true→Bf m.up k m.up.length T3 l3 i0 (k3+1)) from fun h hs=>H8.out.2.2.1.seen HI3.out HR8.out hlt3 h.1 h.2 hs
       have HNEW:=show Hid (∀ _:0≤r[k3]∧r[k3]<(m.up.length:Int),T3 (r[k3]).toNat=false→Bf m.up k m.up.length (upd T3 (r[k3]).toNat true) (l3 ++ [(r[k3]).toNat]) i0 (k3+1)) from fun h hs=>H8.out.2.2.1.new HI3.out HR8.out hlt3 h.1 h.2 hs
       clear hcx
       generalize r[k3]=x at *
       by_cases h0:0≤x
       ·by_cases h1:x<(m.up.length:Int)
        ·obtain ⟨x1,rfl⟩:=Int.eq_ofNat_of_zero_le h0
         simp only [Int.toNat_natCast] at HSEEN HNEW
         have co:wr.cell? ⟨O,k,none⟩=some (.slice (some ⟨R1 k,0,none⟩) m.up.length m.up.length):=(H8.out.2.2.2.1.out.cell hlt).trans (by rw [if_pos (Nat.lt_succ_self _)])
         have cx1:wr.cell? ⟨R1 k,x1,none⟩=some (.bool (T3 x1)):=by
          have h:=(H8.out.2.2.2.1.row k (Nat.lt_succ_self _)).1.cell (j:=x1) (by omega)
          rw [Wd.upd_same] at h
          exact h
         have h1n:x1<m.up.length:=by omega
         cases ht:T3 x1
         ·rw [ht] at cx1
          have HB9:=show Hid _ from HNEW.out ⟨h0,h1⟩ ht
          have fx1:wr.frozen? ⟨R1 k,x1,none⟩=false:=(H8.out.2.2.2.1.row k (Nat.lt_succ_self _)).1.fr x1
          have co9:(wr.setCell ⟨R1 k,x1,none⟩ (.bool true)).heap.size=wr.heap.size:=by simp
          have H9:=show Hid (∀ W,W=wr.setCell ⟨R1 k,x1,none⟩ (.bool true)→OwnI w4.heap.size W (.slice pl l3.length cl3) l3∧Ob W w.heap.size O m.up.length (k+1) R1 (upd S k (upd T3 x1 true))∧Below w.heap.size w W∧Cl W b1 #[.slice (some ⟨bu,ou,none⟩) m.up.length cu,.slice pv m.val.length cv] 25∧w4.heap.size≤W.heap.size) from fun W e=>by
           subst e
           have hkp:Kp (fun g=>g=R1 k) wr (wr.setCell ⟨R1 k,x1,none⟩ (.bool true)):=(Kp.refl (fun g=>g=R1 k) wr).set (p:=R1 k) rfl x1 _
           have hob:=H8.out.2.2.2.1.set (Nat.lt_succ_self k) x1
           rw [upd_upd,Wd.upd_same] at hob
           have hr1:=HLT.out.1 k (Nat.lt_succ_self _)
           have hrB:=(H8.out.2.2.2.1.row k (Nat.lt_succ_self _)).2.1
           have hb1:=HLT.out.2.2.2
           refine ⟨own_kp H8.out.2.1 fun g cs hg hc _=>hkp.block g (lt_of_block hc) (by omega),hob,H8.out.2.2.2.2.1.trans (hkp.below H8.out.2.2.2.2.1.size fun g e=>by omega),H8.out.2.2.2.2.2.1.kp hkp (fun e => ?_),by rw [co9];exact H8.out.2.2.2.2.2.2⟩
           have h9:wr.heap[b1]?=_:=H8.out.2.2.2.2.2.1
           have h8:=(H8.out.2.2.2.1.row k (Nat.lt_succ_self _)).1
           unfold Rw at h8
           rw [← e,h9] at h8
           injection h8 with h7
           injection h7 with _ h6
           exact absurd h6 (by decide)
          have HLI3:=show Hid ((l3 ++ [x1])[i0]?=some x0) from by
           show (l3 ++ [x1])[i0]?=some x0
           rw [List.getElem?_append_left HI3.out]
           exact H8.out.1
          have H9r:=show Hid _ from H9.out _ rfl
          obtain ⟨ii,hi',hz0,hz1,hz2⟩:=info_parts infoI
          have hl3:l3.length≤512:=by omega
          clear HSEEN HNEW HBAD H8 H9 HR8 HI3 ht hx3 hi3
          go_wp2_with (at_builtin;refine wpList_append_own _ rfl (.tmp 80) (.tmp 82) 27 rfl w4.heap.size 3 ii (.int .i64 0) 1 8 Try.underlying27 hi' hz0 hz1 hz2 rfl (by decide) _ l3.length (intsV l3) rfl (H9r.out.1.later (below_alloc _ _)) ⟨wr.heap.size,0,none⟩ 1 1 [.int .i64 (x1:Int)] rfl rfl (by rw [← co9];exact cell_one_new _ _ _) (by simp [Value.oneCell']) (by unfold maxLen;omega) (by omega) (by have:=H9r.out.2.2.2.2;simp at this ⊢;omega) ?_)
          intro v' wX ho3 hg3 _
          have HQ3:=show Hid (OwnI w4.heap.size wX v' (l3 ++ [x1])∧Ob wX w.heap.size O m.up.length (k+1) R1 (upd S k (upd T3 x1 true))∧Below w.heap.size w wX∧Cl wX b1 #[.slice (some ⟨bu,ou,none⟩) m.up.length cu,.slice pv m.val.length cv] 25∧w4.heap.size≤wX.heap.size) from by
           obtain ⟨q1,q2⟩:=H9r.out.1.grow ho3 hg3 H9r.out.2.2.2.2
           exact ⟨q1,H9r.out.2.1.keep (q2.block O HLT.out.2.1) (fun j hj=>q2.block _ (HLT.out.1 j hj)),H9r.out.2.2.1.trans (q2.mono HLT.out.2.2.1),(q2.block b1 HLT.out.2.2.2).trans H9r.out.2.2.2.1,Nat.le_trans H9r.out.2.2.2.2 q2.size⟩
          clear ho3 hg3 H9r
          go_wp2_with fail
          go_roundw
          case rel=>exact ⟨l3 ++ [x1],k3+1,upd T3 x1 true,by omega,val_int (by omega),HLI3.out,HQ3.out.1,HB9.out,HQ3.out.2⟩
          case measure=>(simp only [intOf];omega)
         ·rw [ht] at cx1
          have HB9:=show Hid _ from HSEEN.out ⟨h0,h1⟩ ht
          clear HSEEN HNEW HBAD
          go_wp2_with fail
          go_roundw
          case rel=>exact ⟨l3,k3+1,T3,by omega,val_int (by omega),H8.out.1,H8.out.2.1,HB9.out,H8.out.2.2.2⟩
          case measure=>(simp only [intOf];omega)
        ·have HX:=show Hid _ from HBAD.out (fun h=>h1 h.2)
         clear HBAD HSEEN HNEW
         go_wp2_with fail
         go_ret2
         exact ⟨Or.inr ⟨rfl,HX.out⟩,H8.out.2.2.2.2.1⟩
       ·have HX:=show Hid _ from HBAD.out (fun h=>h0 h.1)
        clear HBAD HSEEN HNEW
        go_wp2_with fail
        go_ret2
        exact ⟨Or.inr ⟨rfl,HX.out⟩,H8.out.2.2.2.2.1⟩
      ·have HB9:=show Hid _ from H8.out.2.2.1.next HI3.out HR8.out (by omega)
       obtain rfl:k3=r.length:=by omega
       go_wp2_with fail
       go_roundw
       case rel=>exact ⟨l3,i0+1,T3,val_int (by omega),H8.out.2.1,HB9.out,H8.out.2.2.2⟩
       case measure=>(simp only [intOf];omega)
    ·obtain rfl:i0=l.length:=by have:=H6.out.2.1.le;omega
     have HD:=show Hid _ from H6.out.2.1.done
     have HN:=show Hid (∃ Ra S,Ob wr w.heap.size O m.up.length (k+1) Ra S∧(∀ j,j<k+1→∀ b,b<m.up.length→S j b=M j b)∧(∀ j,j<k+1→∀ r,m.up[j]?=some r→allW m.up.length r=true)∧Below w.heap.size w wr∧Cl wr b1 #[.slice pu m.up.length cu,.slice pv m.val.length cv] 25) from by
      refine ⟨R1,upd S k T,H6.out.2.2.1,fun j hj b hb => ?_,fun j hj r hr => ?_,H6.out.2.2.2.1,H6.out.2.2.2.2.1⟩
      ·by_cases e:j=k
       ·rw [e,Wd.upd_same]
        have h1:=HD.out.1 b hb
        have h2:=HO.out k b
        cases ht:T b
        ·cases hm:M k b
         ·rfl
         ·rw [h1.2 (h2.1 hm)] at ht;cases ht
        ·exact (h2.2 (h1.1 ht)).symm
       ·rw [Wd.upd_other _ _ _ e]
        exact HA.out.1 j (by omega) b hb
      ·by_cases e:j=k
       ·rw [e] at hr
        exact HD.out.2 r hr
       ·exact HA.out.2 j (by omega) r hr
     clear H6 HD
     go_wp2_with fail
     go_roundw
     case rel=>exact ⟨k+1,by omega,val_int (by omega),HN.out⟩
     case measure=>(simp only [intOf];omega)
  ·obtain rfl:k=m.up.length:=by omega
   obtain ⟨Ra,S,h1,h2,h3,h4,h5⟩:=HI.out
   have HE:=show Hid (Ob wr w.heap.size O m.up.length m.up.length Ra M∧(∀ r ∈ m.up,allW m.up.length r=true)∧Below w.heap.size w wr) from ⟨⟨h1.out,fun j hj=>⟨(h1.row j hj).1.same fun b hb=>by rw [h2 j hj b hb],(h1.row j hj).2⟩,h1.inj,h1.hO⟩,fun r hr=>by
    obtain ⟨j,hj,rfl⟩:=List.mem_iff_getElem.1 hr
    exact h3 j hj _ (List.getElem?_eq_getElem hj),h4⟩
   clear h1 h2 h3 h4 h5 HI
   go_wp2_with fail
   go_ret2
   exact ⟨Or.inl ⟨O,Ra,rfl,HE.out.1,HE.out.2.1⟩,HE.out.2.2⟩
end Go.Proofs.Ytoedidbbjnnpnaa.Wm
