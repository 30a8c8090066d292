/-
  Bounded: of any two models and any map. No condition but what a machine can hold.
-/
import Derived.Test.YtoedidbbjnnpnaaQMBnd
import Derived.Test.YtoedidbbjnnpnaaTH13
import Derived.Test.YtoedidbbjnnpnaaTH14
namespace Go.Proofs.Ytoedidbbjnnpnaa.Wm
open Go.RowKit Go.Maps
open Wd (Md Rc Ed upd vl allW inW)
set_option linter.unusedSimpArgs false
set_option linter.unusedVariables false
theorem cf_bnd1:Cf 50:=fun _ _=>by kernel_rfl
theorem bnd1_any (w:World) {b n c:Nat} {p:Option Addr} {vv:Value} (hb:Cl w b #[.slice p n c,vv] 25) (x:Int) (hx : -9223372036854775808≤x∧x≤9223372036854775807) (_hn:n≤140737488351232) :
 Calls Try.prog 50 #[.int .i64 x,.pointer (some ⟨b,0,none⟩)] w fun e w'=>e=.returned (.bool (!inW n x))∧Below w.heap.size w w':=by
 have hc:w.cell? ⟨b,0,none⟩=some (.slice p n c):=hb.cell 0
 have H:=show Hid ((!inW n x)=(decide (x<0) || decide ((n:Int)≤x))) from by
  show (!inW n x)=(decide (x<0) || decide ((n:Int)≤x))
  unfold inW
  by_cases h1:0≤x <;> by_cases h2:x<(n:Int) <;> simp [h1,h2] <;> omega
 generalize (!inW n x)=ans at *
 clear hb
 by_cases h:x<0
 ·have h1:decide (x<0)=true:=by simp [h]
  go_enter Try.func50,Try.ntmps50
  go_wp2_with fail
  go_ret
  exact ⟨ret_bool (by rw [H.out,h1];rfl),Below.refl _ _⟩
 ·have h1:decide (x<0)=false:=by simp [h]
  go_enter Try.func50,Try.ntmps50
  go_wp2_with fail
  go_ret
  exact ⟨ret_bool (by rw [H.out,h1];rfl),Below.refl _ _⟩
def mapOk (m n:Md) (fl:List Int):Bool:=decide (fl.length=m.up.length) && fl.all (inW n.up.length)
def BdR (m n:Md) (fl:List Int) (r:Bool) (er:Int):Prop :=
 (¬ (Wd.Good m∧Wd.Good n)∧r=false∧er=170)∨((Wd.Good m∧Wd.Good n)∧mapOk m n fl=false∧r=false∧er=190)∨((Wd.Good m∧Wd.Good n)∧mapOk m n fl=true∧(r=true ↔ BndP m n fl)∧er=0)
theorem wpList_ldR {ops:Array Oper} {rest:List Oper} {o:Oper} {a:Act} {Q:Exit→Act→World→Prop} {w:World} (x:Operand) (T:TypeId) (hop:o.op=Op.load T x) (p:Value) (hx:a.eval x=p) (v:Value) (hrun:(Instr.loadAt T p).run Try.prog w=.ok v w) (hg:Region.wanted o (yielded ops a.tmps)=true) (hK:wpList Try.prog ops Q rest (a.put o.dst v) w):wpList Try.prog ops Q (o :: rest) a w:=by
 refine wpList_want hg fun K' hK' => ?_
 unfold Oper.wp
 simp [execOp,hop,hx,hrun,Result.andThen]
 exact hK' _ _ hK
theorem ld2 {w:World} {q j:Nat} {a b c d u v:Value} (h:Cl w q #[a,b,c,d] 25) (h0:#[a,b,c,d][j]?=some u) (h1:#[a,b,c,d][j+1]?=some v):(Instr.loadAt 25 (.pointer (some ⟨q,j,none⟩))).run Try.prog w=.ok (.agg #[u,v]) w:=by
 refine run_loadAt_mid (P:=Try.prog) w q j 25 [u,v] _ (fun i x hx => ?_) Try.underlying25 rfl (by kernel_rfl)
 match i,hx with
 | 0,hx=>cases hx;exact (h.cell j).trans h0
 | 1,hx=>cases hx;exact (h.cell (j+1)).trans h1
set_option maxRecDepth 100000 in
set_option maxHeartbeats 8000000 in
theorem bounded_any (w:World) {L:Nat} {um vm un vn fv:Value} {m n:Md} {fl:List Int} (hm:IsM w L um vm m) (hmf:Fit m) (hn:IsM w L un vn n) (hnf:Fit n) (hf:IsI w L fv fl) (hL:L≤w.heap.size) (hfl:fl.length≤140737488351232) (hfx:∀ x ∈ fl,-9223372036854775808≤x∧x≤9223372036854775807) :
 Calls Try.prog 25 #[.agg #[um,vm],.agg #[un,vn],fv] w fun e w'=>∃ (r:Bool) (er:Int),e=.returned (.tuple #[.bool r,.int .i64 er])∧BdR m n fl r er∧Below w.heap.size w w':=by
 have HCM:=show Hid (∀ W,Below w.heap.size w W→Calls Try.prog 43 #[.agg #[um,vm]] W fun e w'=>∃ er:Int,e=.returned (.int .i64 er)∧((Wd.Good m∧er=0)∨(¬ Wd.Good m∧er=170))∧Below W.heap.size W w') from fun W hW=>check_any W (hm.below (hW.mono hL)) hmf (Nat.le_trans hL hW.size)
 have HCN:=show Hid (∀ W,Below w.heap.size w W→Calls Try.prog 43 #[.agg #[un,vn]] W fun e w'=>∃ er:Int,e=.returned (.int .i64 er)∧((Wd.Good n∧er=0)∨(¬ Wd.Good n∧er=170))∧Below W.heap.size W w') from fun W hW=>check_any W (hn.below (hW.mono hL)) hnf (Nat.le_trans hL hW.size)
 have HIB:=show Hid (Wd.Good m→Wd.Good n→mapOk m n fl=true→∀ W,Below w.heap.size w W→Calls Try.prog 51 #[.agg #[um,vm],.agg #[un,vn],fv] W fun e w'=>(∃ r:Bool,e=.returned (.bool r)∧(r=true ↔ BndP m n fl))∧Below W.heap.size W w') from fun g1 g2 ho W hW=>by
  simp only [mapOk,Bool.and_eq_true,decide_eq_true_eq,List.all_eq_true,inW] at ho
  exact isBounded_any W (hm.below (hW.mono hL)) hmf g1 (hn.below (hW.mono hL)) hnf g2 (hf.keep fun k hk=>hW.block k (by omega)) (Nat.le_trans hL hW.size) ho.1 fun i hi=>ho.2 i hi
 obtain ⟨pm,cm,rfl⟩:=IsS.form hm.up
 obtain ⟨pvm,cvm,rfl⟩:=IsS.form hm.val
 obtain ⟨pn,cn,rfl⟩:=IsS.form hn.up
 obtain ⟨pvn,cvn,rfl⟩:=IsS.form hn.val
 have HCF:=show Hid (∀ W b,Below w.heap.size w W→Cl W b #[.slice pn n.up.length cn,.slice pvn n.val.length cvn] 25→Calls Try.prog 49 #[fv,.func (.func 50) #[] #[.pointer (some ⟨b,0,none⟩)]] W fun e w'=>e=.returned (.bool (fl.any fun x => !inW n.up.length x))∧Below W.heap.size W w') from fun W b hW hb =>
  containsFunc_any W (L:=W.heap.size) (Ls:=L) (D:=fun x => -9223372036854775808≤x∧x≤9223372036854775807) ⟨_,[.pointer (some ⟨b,0,none⟩)],rfl,cf_bnd1,fun W' x hW' hx'=>bnd1_any W' (Cl.later (T:=25) hb hW') x hx' hnf.1⟩ (hf.keep fun k hk=>hW.block k (by omega)) hfx (Nat.le_trans hL hW.size) (Nat.le_refl _) hfl
 have HOK:=show Hid (mapOk m n fl=(decide (fl.length=m.up.length) && !(fl.any fun x => !inW n.up.length x))) from by
  show mapOk m n fl=(decide (fl.length=m.up.length) && !(fl.any fun x => !inW n.up.length x))
  unfold mapOk
  rw [any_not]
 obtain ⟨pf,cf,rfl⟩:=IsS.form hf
 clear hm hmf hn hnf hf hL hfl hfx
 generalize (fl.any fun x => !inW n.up.length x)=bad at *
 go_enter Try.func25,Try.ntmps25
 go_wp2_with (refine wpList_box 25 _ rfl _ rfl rfl ?_)
 intro w1 b3 hN1
 have H1:=show Hid (Below w.heap.size w w1∧Cl w1 b3 #[.slice pm m.up.length cm,.slice pvm m.val.length cvm] 25) from ⟨hN1.bel,hN1.blk⟩
 clear hN1
 go_wp2_with (refine wpList_box 25 _ rfl _ rfl rfl ?_)
 intro w2 b4 hN2
 have H2:=show Hid (Below w.heap.size w w2∧Cl w2 b3 #[.slice pm m.up.length cm,.slice pvm m.val.length cvm] 25∧Cl w2 b4 #[.slice pn n.up.length cn,.slice pvn n.val.length cvn] 25) from ⟨H1.out.1.trans (hN2.bel.mono H1.out.1.size),H1.out.2.later hN2.bel,hN2.blk⟩
 clear hN2 H1
 go_wp2_with (first | (refine wpList_mk rfl rfl 2 #[.slice pm m.up.length cm,.slice pvm m.val.length cvm,.slice pn n.up.length cn,.slice pvn n.val.length cvn] 25 (fun w=>by kernel_rfl) ?_) | (refine wpList_ldw 25 _ rfl b3 rfl _ _ H2.out.2.1 rfl Try.underlying25 sizeM rfl ?_) | (refine wpList_ldw 25 _ rfl b4 rfl _ _ H2.out.2.2 rfl Try.underlying25 sizeM rfl ?_))
 intro w3 q hN3
 have H3:=show Hid (∀ W,Below w3.heap.size w3 W→Below w.heap.size w W∧Cl W b3 #[.slice pm m.up.length cm,.slice pvm m.val.length cvm] 25∧Cl W b4 #[.slice pn n.up.length cn,.slice pvn n.val.length cvn] 25∧Cl W q #[.slice pm m.up.length cm,.slice pvm m.val.length cvm,.slice pn n.up.length cn,.slice pvn n.val.length cvn] 25) from fun W hW=>by
  obtain ⟨x1,x2,x3⟩:=H2.out
  have h:=x1.trans (hN3.bel.mono x1.size)
  exact ⟨h.trans (hW.mono h.size),(x2.later hN3.bel).later hW,(x3.later hN3.bel).later hW,(show Cl w3 q _ 25 from hN3.blk).later hW⟩
 clear hN3 H2
 go_wp2_with fail
 have HA0:=show Hid (Below w3.heap.size w3 w3) from Below.refl _ _
 go_loopw [9,10,15] (fun _ _ i wr=>∃ k:Nat,k≤2∧i=.int .i64 (k:Int)∧Hid (Below w3.heap.size w3 wr)∧Hid ((1≤k→Wd.Good m)∧(2≤k→Wd.Good n))) (fun _ _ i _=>2 - (intOf i).toNat)
 case atStart=>exact ⟨0,by omega,rfl,HA0.out,fun h=>absurd h (by decide),fun h=>absurd h (by decide)⟩
 case round =>
  clear HA0
  obtain ⟨k,hk,rfl,HB,HI⟩:=hrel
  have hcase:k=0∨k=1∨k=2:=by omega
  rcases hcase with rfl | rfl | rfl
  ·have HLD:=show Hid ((Instr.loadAt 25 (.pointer (some ⟨q,0,none⟩))).run Try.prog wr=.ok (.agg #[.slice pm m.up.length cm,.slice pvm m.val.length cvm]) wr) from ld2 (H3.out wr HB.out).2.2.2 rfl rfl
   go_wp2_with (first | (refine wpList_ldR _ 25 rfl _ rfl _ HLD.out rfl ?_) | (refine wpList_alloc 25 rfl _ zero_md rfl ?_))
   intro w4 b9 hN4
   go_wp2_with (refine wpList_st 25 rfl rfl _ _ rfl b9 rfl _ rfl _ _ hN4.blk sizeM rfl (by simp [Value.oneCell']) ?_)
   intro w5 hc5 hk5
   have H5:=show Hid (Below w3.heap.size w3 w5∧Cl w5 b9 #[.slice pm m.up.length cm,.slice pvm m.val.length cvm] 25) from ⟨HB.out.trans ((hN4.bel.mono HB.out.size).trans (hk5.below (Nat.le_trans HB.out.size hN4.bel.size) fun k e=>by have:=hN4.ge;have:=HB.out.size;omega)),hc5⟩
   have KC:=show Hid _ from HCM.out w5 (H3.out w5 H5.out.1).1
   clear hN4 hc5 hk5 HLD HB
   go_wp2_with (refine wpList_ldw 25 _ rfl b9 rfl _ _ H5.out.2 rfl Try.underlying25 sizeM rfl ?_)
   refine Calls.mono KC.out ?_
   rintro e w6 ⟨er,rfl,hC,hb6⟩
   have HB6:=show Hid (Below w3.heap.size w3 w6) from H5.out.1.trans (hb6.mono H5.out.1.size)
   clear hb6 KC H5
   rcases hC with ⟨hG,rfl⟩ | ⟨hG,rfl⟩
   ·have HGx:=show Hid _ from hG
    clear hG
    go_wp2_with fail
    go_roundw
    case rel=>exact ⟨1,by omega,rfl,HB6.out,⟨fun _=>HGx.out,fun h=>absurd h (by decide)⟩⟩
    case measure=>(simp only [intOf];omega)
   ·have HGx:=show Hid _ from hG
    have HR:=show Hid (Below w.heap.size w w6) from (H3.out w6 HB6.out).1
    clear hG
    go_wp2_with fail
    go_ret2
    exact ⟨false,170,rfl,Or.inl ⟨fun h=>HGx.out h.1,rfl,rfl⟩,HR.out⟩
  ·have HLD:=show Hid ((Instr.loadAt 25 (.pointer (some ⟨q,2,none⟩))).run Try.prog wr=.ok (.agg #[.slice pn n.up.length cn,.slice pvn n.val.length cvn]) wr) from ld2 (H3.out wr HB.out).2.2.2 rfl rfl
   go_wp2_with (first | (refine wpList_ldR _ 25 rfl _ rfl _ HLD.out rfl ?_) | (refine wpList_alloc 25 rfl _ zero_md rfl ?_))
   intro w4 b9 hN4
   go_wp2_with (refine wpList_st 25 rfl rfl _ _ rfl b9 rfl _ rfl _ _ hN4.blk sizeM rfl (by simp [Value.oneCell']) ?_)
   intro w5 hc5 hk5
   have H5:=show Hid (Below w3.heap.size w3 w5∧Cl w5 b9 #[.slice pn n.up.length cn,.slice pvn n.val.length cvn] 25) from ⟨HB.out.trans ((hN4.bel.mono HB.out.size).trans (hk5.below (Nat.le_trans HB.out.size hN4.bel.size) fun k e=>by have:=hN4.ge;have:=HB.out.size;omega)),hc5⟩
   have KC:=show Hid _ from HCN.out w5 (H3.out w5 H5.out.1).1
   clear hN4 hc5 hk5 HLD HB
   go_wp2_with (refine wpList_ldw 25 _ rfl b9 rfl _ _ H5.out.2 rfl Try.underlying25 sizeM rfl ?_)
   refine Calls.mono KC.out ?_
   rintro e w6 ⟨er,rfl,hC,hb6⟩
   have HB6:=show Hid (Below w3.heap.size w3 w6) from H5.out.1.trans (hb6.mono H5.out.1.size)
   clear hb6 KC H5
   rcases hC with ⟨hG,rfl⟩ | ⟨hG,rfl⟩
   ·have HGx:=show Hid _ from hG
    clear hG
    go_wp2_with fail
    go_roundw
    case rel=>exact ⟨2,by omega,rfl,HB6.out,⟨fun _=>HI.out.1 (by decide),fun _=>HGx.out⟩⟩
    case measure=>(simp only [intOf];omega)
   ·have HGx:=show Hid _ from hG
    have HR:=show Hid (Below w.heap.size w w6) from (H3.out w6 HB6.out).1
    clear hG
    go_wp2_with fail
    go_ret2
    exact ⟨false,170,rfl,Or.inl ⟨fun h=>HGx.out h.2,rfl,rfl⟩,HR.out⟩
  ·have HGG:=show Hid (Wd.Good m∧Wd.Good n) from ⟨HI.out.1 (by decide),HI.out.2 (by decide)⟩
   have HB3:=show Hid _ from H3.out wr HB.out
   have c3:wr.cell? ⟨b3,0,none⟩=some (.slice pm m.up.length cm):=HB3.out.2.1.cell 0
   have KF:=show Hid _ from HCF.out wr b4 HB3.out.1 HB3.out.2.2.1
   clear HCM HCN
   by_cases hl:fl.length=m.up.length
   ·have hli:((fl.length:Int) != (m.up.length:Int))=false:=by simp [hl]
    have HL:=show Hid (mapOk m n fl = !bad) from by
     show mapOk m n fl = !bad
     rw [HOK.out,decide_eq_true hl,Bool.true_and]
    clear hl HOK
    go_wp2_with fail
    refine Calls.mono KF.out ?_
    rintro e w4 ⟨rfl,hb4⟩
    have HB4:=show Hid _ from H3.out w4 (HB.out.trans (hb4.mono HB.out.size))
    clear hb4 KF HB3 c3 HI HB
    cases hbd:bad
    ·rw [hbd] at HL
     have KB:=show Hid _ from HIB.out HGG.out.1 HGG.out.2 HL.out w4 HB4.out.1
     clear hbd HIB
     go_wp2_with (first | (refine wpList_ldw 25 _ rfl b3 rfl _ _ HB4.out.2.1 rfl Try.underlying25 sizeM rfl ?_) | (refine wpList_ldw 25 _ rfl b4 rfl _ _ HB4.out.2.2.1 rfl Try.underlying25 sizeM rfl ?_))
     refine Calls.mono KB.out ?_
     rintro e w5 ⟨⟨r,rfl,hr⟩,hb5⟩
     have HR:=show Hid (Below w.heap.size w w5∧(r=true ↔ BndP m n fl)) from ⟨HB4.out.1.trans (hb5.mono HB4.out.1.size),hr⟩
     clear hb5 hr KB HB4
     go_wp2_with fail
     go_ret2
     exact ⟨r,0,rfl,Or.inr (Or.inr ⟨HGG.out,HL.out,HR.out.2,rfl⟩),HR.out.1⟩
    ·rw [hbd] at HL
     have HR:=show Hid (Below w.heap.size w w4) from HB4.out.1
     clear hbd HIB HB4
     go_wp2_with fail
     go_ret2
     exact ⟨false,190,rfl,Or.inr (Or.inl ⟨HGG.out,HL.out,rfl,rfl⟩),HR.out⟩
   ·have hli:((fl.length:Int) != (m.up.length:Int))=true:=by simp;omega
    have HL:=show Hid (mapOk m n fl=false) from by
     show mapOk m n fl=false
     rw [HOK.out,decide_eq_false hl,Bool.false_and]
    have HR:=show Hid (Below w.heap.size w wr) from HB3.out.1
    clear hl HOK HIB KF HB3 HI HB
    go_wp2_with fail
    go_ret2
    exact ⟨false,190,rfl,Or.inr (Or.inl ⟨HGG.out,HL.out,rfl,rfl⟩),HR.out⟩
end Go.Proofs.Ytoedidbbjnnpnaa.Wm
/-
  renumbered: a row of numbers by other numbers; the three function values that tell these. No condition but what a machine can hold.
-/
namespace Go.Proofs.Ytoedidbbjnnpnaa.Wm
open Go.RowKit Go.Maps
set_option linter.unusedSimpArgs false
set_option linter.unusedVariables false
def Tel (w:World) (L:Nat) (D:Int→Prop) (fv:Value) (g:Int→Int):Prop :=
 ∃ (f:FuncId) (cs:List Value),fv=.func (.func f) #[] cs.toArray∧Cf f∧∀ (W:World) (x:Int),Below L w W→D x→Calls Try.prog f ([Value.int .i64 x] ++ cs).toArray W fun e w'=>e=.returned (.int .i64 (g x))∧Below W.heap.size W w'
set_option maxRecDepth 100000 in
set_option maxHeartbeats 2000000 in
theorem renumbered_any (w:World) {L Ls:Nat} {D:Int→Prop} {v fv:Value} {g:Int→Int} {l:List Int} (hT:Tel w L D fv g) (hl:IsI w Ls v l) (hD:∀ x ∈ l,D x) (hLs:Ls≤w.heap.size) (hL:L≤w.heap.size) (hlen:l.length * 8≤140737488355328) :
 Calls Try.prog 31 #[v,fv] w fun e w'=>∃ v',e=.returned v'∧OwnZ w.heap.size w' v' (l.map g)∧Below w.heap.size w w':=by
 obtain ⟨i0,hi,hz0,hz1,hz2⟩:=info_parts infoI
 obtain ⟨f,cs,rfl,hcf,hc⟩:=hT
 obtain ⟨q,c,rfl,hat⟩:=hl
 have HC:=show Hid (∀ (W:World) (x:Int),Below w.heap.size w W→D x→Calls Try.prog f ([Value.int .i64 x] ++ cs).toArray W fun e w'=>e=.returned (.int .i64 (g x))∧Below W.heap.size W w') from fun W x hW hx=>hc W x (hW.mono hL) hx
 have HA:=show Hid (∀ (j:Nat) (hj:j<l.length),∃ b o,b<w.heap.size∧q=some ⟨b,o,none⟩∧w.cell? ⟨b,o+j,none⟩=some (.int .i64 l[j])) from fun j hj=>by
  obtain ⟨b,o,_,h1,h2⟩:=hat (by omega)
  obtain ⟨x,hx,rfl⟩:=h2 j hj
  exact ⟨b,o,World.block_lt_of_cell? w _ hx,h1,hx⟩
 have HD:=show Hid (∀ x ∈ l,D x) from hD
 have HCF:=show Hid (Cf f) from hcf
 clear hc hat hD hcf
 go_enter Try.func31,Try.ntmps31
 go_wp2_with fail
 go_loopw [5,7,10] (fun v _ i wr=>∃ k:Nat,k≤l.length∧i=.int .i64 (k:Int)∧Hid (OwnZ w.heap.size wr v ((l.take k).map g)∧Below w.heap.size w wr)) (fun _ _ i _=>l.length - (intOf i).toNat)
 case atStart=>exact ⟨0,Nat.zero_le _,rfl,World.ownsRow_nil _ _ _ _,Below.refl _ _⟩
 case round =>
  obtain ⟨k,hk,rfl,HI⟩:=hrel
  by_cases hlt:k<l.length
  ·obtain ⟨b,o,hb,rfl,hx⟩:=HA.out k hlt
   have hc:wr.cell? ⟨b,o+k,none⟩=some (.int .i64 l[k]):=(HI.out.2.cell (p:=⟨b,o+k,none⟩) hb).trans hx
   have KX:=show Hid _ from HC.out wr l[k] HI.out.2 (HD.out _ (List.getElem_mem hlt))
   have HST:=show Hid ((l.take (k+1)).map g=(l.take k).map g ++ [g l[k]]) from by
    show (l.take (k+1)).map g=(l.take k).map g ++ [g l[k]]
    rw [List.take_succ_eq_append_getElem hlt,List.map_append];rfl
   have hlk:((l.take k).map g).length=k:=by simp;omega
   have HLK:=show Hid (((l.take k).map g).length<l.length) from by
    show ((l.take k).map g).length<l.length
    omega
   have hki:(k:Int)<(l.length:Int):=by omega
   clear hx HC HA hlk
   generalize (l.take k).map g=r at *
   generalize l[k]=x at *
   obtain ⟨pr,cr,rfl⟩:=HI.out.1.slice
   go_wp2_with (refine wpList_callV rfl f _ [.tmp 16] _ rfl [.int .i64 x] cs rfl rfl HCF.out ?_)
   refine Calls.mono KX.out ?_
   rintro e w2 ⟨rfl,hb2⟩
   refine ⟨_,rfl,?_⟩
   have H2:=show Hid (OwnZ w.heap.size w2 (.slice pr r.length cr) r∧Below w.heap.size w w2) from ⟨HI.out.1.later hb2,HI.out.2.trans (hb2.mono HI.out.2.size)⟩
   have hrl:=HLK.out
   clear hb2 KX HI
   generalize g x=y at *
   go_wp2_with (at_builtin;refine wpList_append_own _ rfl (.tmp 14) (.tmp 18) 27 rfl w.heap.size 3 i0 (.int .i64 0) 1 8 Try.underlying27 hi hz0 hz1 hz2 rfl (by decide) _ r.length (r.map (Value.int .i64)) rfl (H2.out.1.later (below_alloc w2 _)) ⟨w2.heap.size,0,none⟩ 1 1 [.int .i64 y] rfl rfl (cell_one_new _ _ _) (by simp [Value.oneCell']) (by unfold maxLen;omega) (by omega) (by have:=H2.out.2.size;simp;omega) ?_)
   intro v' w8 ho3 hg3 _
   have HQ:=show Hid (OwnZ w.heap.size w8 v' (r ++ [y])∧Below w.heap.size w w8) from by
    have:=H2.out.1.grow ho3 hg3 H2.out.2.size
    exact ⟨this.1,H2.out.2.trans this.2⟩
   clear ho3 hg3 H2
   go_wp2_with fail
   go_roundw
   case rel=>exact ⟨k+1,by omega,val_int (by omega),by rw [HST.out];exact HQ.out.1,HQ.out.2⟩
   case measure=>(simp only [intOf];omega)
  ·obtain rfl:k=l.length:=by omega
   have hki:¬ (l.length:Int)<(l.length:Int):=by omega
   have HE:=show Hid (OwnZ w.heap.size wr _ (l.map g)∧Below w.heap.size w wr) from by
    have h:=HI.out
    rw [List.take_length] at h
    exact h
   clear HI
   go_wp2_with fail
   go_ret
   exact ⟨_,rfl,HE.out⟩
theorem row1_any (f:FuncId) (hf:f=32∨f=38) (w:World) {L b n:Nat} {pv:Value} {t:List Int} (hb:Cl w b #[pv] 27) (ht:IsI w L pv t) {x:Int} (hx:0≤x∧x<(t.length:Int)) :
 Calls Try.prog f #[.int .i64 x,.pointer (some ⟨b,0,none⟩)] w fun e w'=>e=.returned (.int .i64 (t.getD x.toNat 0))∧Below w.heap.size w w':=by
 obtain ⟨k,rfl⟩:=Int.eq_ofNat_of_zero_le hx.1
 have hk:k<t.length:=by omega
 obtain ⟨p,c,rfl⟩:=IsS.form ht
 obtain ⟨bt,ot,_,rfl,h⟩:=(IsS.at ht).2 (by omega)
 obtain ⟨y,hy,rfl⟩:=h k hk
 have hc:w.cell? ⟨b,0,none⟩=some (.slice (some ⟨bt,ot,none⟩) t.length c):=hb.cell 0
 have e1:t.getD ((k:Int)).toNat 0=t[k]:=by
  rw [Int.toNat_natCast,List.getD_eq_getElem?_getD,List.getElem?_eq_getElem hk];rfl
 rw [e1]
 have hki:(k:Int)<(t.length:Int):=hx.2
 clear h ht hb e1 hx
 generalize t[k]=z at *
 rcases hf with rfl | rfl
 ·go_enter Try.func32,Try.ntmps32
  go_wp2_with fail
  go_ret
  exact ⟨rfl,Below.refl _ _⟩
 ·go_enter Try.func38,Try.ntmps38
  go_wp2_with fail
  go_ret
  exact ⟨rfl,Below.refl _ _⟩
theorem glue1_any (w:World) {b:Nat} {y x:Int} (hb:Cl w b #[.int .i64 y] 3) (hs : -9223372036854775808≤y+x∧y+x≤9223372036854775807) :
 Calls Try.prog 45 #[.int .i64 x,.pointer (some ⟨b,0,none⟩)] w fun e w'=>e=.returned (.int .i64 (y+x))∧Below w.heap.size w w':=by
 have hc:w.cell? ⟨b,0,none⟩=some (.int .i64 y):=hb.cell 0
 have hadd:IntKind.i64.wrap (y+x)=y+x:=by rw [IntKind.wrap_i64];omega
 clear hb
 go_enter Try.func45,Try.ntmps45
 go_wp2_with fail
 go_ret
 exact ⟨by first | rfl | rw [hadd],Below.refl _ _⟩
end Go.Proofs.Ytoedidbbjnnpnaa.Wm
/-
  The classes of an equivalence, numbered in the order of their least members; what is bisimilar (plain).
-/
namespace Go.Proofs.Ytoedidbbjnnpnaa.Wm
open Wd (Md Rc Ed upd vl)
set_option linter.unusedVariables false
structure Eqv (E:Nat→Nat→Bool):Prop where
 refl:∀ a,E a a=true
 symm:∀ a b,E a b=true→E b a=true
 trans:∀ a b c,E a b=true→E b c=true→E a c=true
def isRep (E:Nat→Nat→Bool) (w:Nat):Bool:=(List.range w).all fun v => !E v w
def repF (E:Nat→Nat→Bool) (w:Nat):Nat:=((List.range w).find? fun v=>E v w).getD w
def repsTo (E:Nat→Nat→Bool) (k:Nat):Nat:=((List.range k).filter (isRep E)).length
def cnF (E:Nat→Nat→Bool) (w:Nat):Nat:=repsTo E (repF E w)
section
variable {E:Nat→Nat→Bool}
theorem isRep_iff {w:Nat}:isRep E w=true ↔ ∀ v,v<w→E v w=false:=by
 unfold isRep
 rw [List.all_eq_true]
 constructor
 ·intro h v hv
  have:=h v (List.mem_range.2 hv)
  simpa using this
 ·intro h v hv
  rw [h v (List.mem_range.1 hv)];rfl
theorem rep_self {w:Nat} (h:isRep E w=true):repF E w=w:=by
 unfold repF
 rw [List.find?_eq_none.2 fun v hv=>by rw [isRep_iff.1 h v (List.mem_range.1 hv)];simp]
 rfl
theorem rep_spec (hE:Eqv E) (w:Nat):repF E w≤w∧E (repF E w) w=true∧isRep E (repF E w)=true:=by
 cases hf:(List.range w).find? fun v=>E v w with
 | none =>
  have e:repF E w=w:=by unfold repF;rw [hf];rfl
  rw [e]
  refine ⟨Nat.le_refl _,hE.refl w,isRep_iff.2 fun v hv => ?_⟩
  have:=List.find?_eq_none.1 hf v (List.mem_range.2 hv)
  simpa using this
 | some r =>
  have e:repF E w=r:=by unfold repF;rw [hf];rfl
  rw [e]
  have hm:=List.mem_of_find?_eq_some hf
  have hp:E r w=true:=by
   have h0:=List.find?_some (p:=fun v=>E v w) hf
   simpa using h0
  have hr:=List.mem_range.1 hm
  refine ⟨Nat.le_of_lt hr,hp,isRep_iff.2 fun v hv => ?_⟩
  cases hvr:E v r
  ·rfl
  ·have h2:=hE.trans v r w hvr hp
   rw [List.find?_eq_some_iff_getElem] at hf
   obtain ⟨_,i,hi,h3,h4⟩:=hf
   simp only [List.getElem_range] at h3
   have h5:=h4 v (by omega)
   simp only [List.getElem_range] at h5
   rw [h2] at h5
   cases h5
theorem rep_one (hE:Eqv E) {a b:Nat} (ha:isRep E a=true) (hb:isRep E b=true) (h:E a b=true):a=b:=by
 rcases Nat.lt_trichotomy a b with hl | hl | hl
 ·rw [isRep_iff.1 hb a hl] at h;cases h
 ·exact hl
 ·have:=isRep_iff.1 ha b hl
  rw [hE.symm a b h] at this;cases this
theorem rep_unique (hE:Eqv E) {r w:Nat} (hr:isRep E r=true) (h:E r w=true):r=repF E w:=by
 obtain ⟨_,h2,h3⟩:=rep_spec hE w
 exact rep_one hE hr h3 (hE.trans _ _ _ h (hE.symm _ _ h2))
theorem rep_eq (hE:Eqv E) {v w:Nat}:repF E v=repF E w ↔ E v w=true:=by
 obtain ⟨_,v2,v3⟩:=rep_spec hE v
 obtain ⟨_,w2,w3⟩:=rep_spec hE w
 constructor
 ·intro h
  rw [h] at v2
  exact hE.trans _ _ _ (hE.symm _ _ v2) w2
 ·intro h
  exact rep_unique hE v3 (hE.trans _ _ _ v2 h)
theorem repsTo_succ (k:Nat):repsTo E (k+1)=repsTo E k+if isRep E k then 1 else 0:=by
 unfold repsTo
 rw [List.range_succ,List.filter_append,List.length_append]
 congr 1
 cases h:isRep E k <;> simp [h]
theorem repsTo_mono {j k:Nat} (h:j≤k):repsTo E j≤repsTo E k:=by
 induction k with
 | zero=>rw [Nat.le_zero.1 h];exact Nat.le_refl _
 | succ k ih =>
  by_cases e:j=k+1
  ·rw [e];exact Nat.le_refl _
  ·rw [repsTo_succ]
   have:=ih (by omega)
   omega
theorem repsTo_lt {a b:Nat} (ha:isRep E a=true) (h:a<b):repsTo E a<repsTo E b:=by
 have h1:repsTo E (a+1)=repsTo E a+1:=by rw [repsTo_succ,ha];rfl
 have h2:=repsTo_mono (E:=E) (show a+1≤b from h)
 omega
theorem repsTo_le (k:Nat):repsTo E k≤k:=by
 unfold repsTo
 exact Nat.le_trans (List.length_filter_le _ _) (by simp)
theorem cn_eq (hE:Eqv E) {v w:Nat}:cnF E v=cnF E w ↔ E v w=true:=by
 rw [← rep_eq hE]
 constructor
 ·intro h
  unfold cnF at h
  obtain ⟨_,_,v3⟩:=rep_spec hE v
  obtain ⟨_,_,w3⟩:=rep_spec hE w
  rcases Nat.lt_trichotomy (repF E v) (repF E w) with hl | hl | hl
  ·have:=repsTo_lt v3 hl;omega
  ·exact hl
  ·have:=repsTo_lt w3 hl;omega
 ·intro h
  unfold cnF
  rw [h]
theorem cn_new {w:Nat} (h:isRep E w=true):cnF E w=repsTo E w:=by unfold cnF;rw [rep_self h]
theorem cn_lt (hE:Eqv E) {w n:Nat} (h:w<n):cnF E w<repsTo E n:=by
 obtain ⟨h1,_,h3⟩:=rep_spec hE w
 exact repsTo_lt h3 (by omega)
def leastF (E:Nat→Nat→Bool) (cls:Nat→Nat) (c k:Nat):List Nat:=(List.range k).filter fun r=>isRep E r && cls r == c
theorem leastF_succ (cls:Nat→Nat) (c k:Nat):leastF E cls c (k+1)=leastF E cls c k ++ if isRep E k && cls k == c then [k] else []:=by
 unfold leastF
 rw [List.range_succ,List.filter_append]
 congr 1
 cases h:(isRep E k && cls k == c) <;> simp [h]
theorem mem_leastF {cls:Nat→Nat} {c k r:Nat}:r ∈ leastF E cls c k ↔ r<k∧isRep E r=true∧cls r=c:=by
 unfold leastF
 rw [List.mem_filter,List.mem_range,Bool.and_eq_true,beq_iff_eq]
def fineE (cls:Nat→Nat) (P:Nat→Nat→Bool) (v w:Nat):Bool:=cls v == cls w && !P v w
theorem fineE_eqv (cls:Nat→Nat) {P:Nat→Nat→Bool} (hr:∀ a,P a a=false) (hs:∀ a b,P a b=false→P b a=false) (ht:∀ a b c,P a b=false→P b c=false→P a c=false):Eqv (fineE cls P):=by
 unfold fineE
 refine ⟨fun a=>by rw [hr];simp,fun a b h => ?_,fun a b c h k => ?_⟩
 ·simp only [Bool.and_eq_true,beq_iff_eq,Bool.not_eq_true'] at h ⊢
  exact ⟨h.1.symm,hs _ _ h.2⟩
 ·simp only [Bool.and_eq_true,beq_iff_eq,Bool.not_eq_true'] at h k ⊢
  exact ⟨h.1.trans k.1,ht _ _ _ h.2 k.2⟩
theorem least_find {cls:Nat→Nat} {P:Nat→Nat→Bool} (hE:Eqv (fineE cls P)) (w:Nat) :
 (isRep (fineE cls P) w=true∧∀ v ∈ leastF (fineE cls P) cls (cls w) w,P v w=true) ∨
 (isRep (fineE cls P) w=false∧repF (fineE cls P) w<w∧∀ v ∈ leastF (fineE cls P) cls (cls w) w,P v w=false ↔ v=repF (fineE cls P) w):=by
 cases h:isRep (fineE cls P) w
 ·right
  obtain ⟨h1,h2,h3⟩:=rep_spec hE w
  have hne:repF (fineE cls P) w≠w:=fun e=>by rw [e,h] at h3;cases h3
  refine ⟨rfl,by omega,fun v hv => ?_⟩
  obtain ⟨v1,v2,v3⟩:=mem_leastF.1 hv
  constructor
  ·intro hp
   refine rep_unique hE v2 ?_
   unfold fineE
   rw [v3,hp];simp
  ·intro e
   rw [e]
   unfold fineE at h2
   simp only [Bool.and_eq_true,beq_iff_eq,Bool.not_eq_true'] at h2
   exact h2.2
 ·left
  refine ⟨rfl,fun v hv => ?_⟩
  obtain ⟨v1,v2,v3⟩:=mem_leastF.1 hv
  have h1:=isRep_iff.1 h v v1
  unfold fineE at h1
  rw [v3] at h1
  simpa using h1
end
end Go.Proofs.Ytoedidbbjnnpnaa.Wm
