/-
  A model that is zero. No condition.
-/
import Derived.Test.YtoedidbbjnnpnaaTH8
import Derived.Test.YtoedidbbjnnpnaaTH11
namespace Go.Proofs.Ytoedidbbjnnpnaa.Wm
open Go.RowKit Go.Maps
open Wd (Md)
set_option linter.unusedSimpArgs false
theorem zero_md (w:World):(zeroValue 25).run Try.prog w=.ok (.agg #[.slice none 0 0,.slice none 0 0]) w:=by kernel_rfl
theorem cell_one {w:World} {q:Nat} {x:Value} (h:w.cell? ⟨q,0,none⟩=some x):∀ j u,[x][j]?=some u→w.cell? ((⟨q,0,none⟩:Addr).add j)=some u:=by
 intro j u hj
 match j,hj with
 | 0,hj=>simp at hj;subst hj;exact h
 | j+1,hj=>simp at hj
theorem own_form3 {b n size:Nat} {e:TypeId} {w:World} {v:Value} {xs:List Value} (h:w.ownsRow b e size v n xs):∃ p n c,v=.slice p n c:=by
 obtain ⟨p,c,h⟩:=own_form h
 exact ⟨p,n,c,h⟩
theorem RowsZ.base {B B':Nat} {w:World} {v:Value} {ls:List (List Int)} (h:RowsZ B w v ls) (hB:B'≤B):RowsZ B' w v ls:=by
 obtain ⟨xs,h1,h2⟩:=h
 exact ⟨xs,own_base h1 hB,fun i hi=>let ⟨x,hx,ho⟩:=h2 i hi;⟨x,hx,own_base ho hB⟩⟩
theorem RowsN.base {B B':Nat} {w:World} {v:Value} {ls:List (List ByteArray)} (h:RowsN B w v ls) (hB:B'≤B):RowsN B' w v ls:=by
 obtain ⟨xs,h1,h2⟩:=h
 exact ⟨xs,own_base h1 hB,fun i hi=>let ⟨x,hx,ho⟩:=h2 i hi;⟨x,hx,own_base ho hB⟩⟩
theorem bsLS (w:World) (a:Option Addr) (n k:Nat):(Instr.buildSlice 23 1 #[(0,.slice a n k)]).run Try.prog w=.ok (.slice (some ⟨w.heap.size,0,none⟩) 1 1) (w.alloc (.cells #[.slice a n k] 34)):=by kernel_rfl
theorem wpList_alloc1 {ops:Array Oper} {rest:List Oper} {o:Oper} {a:Act} {Q:Exit→Act→World→Prop} {w:World} (T:TypeId) (hop:o.op=Op.alloc T) (z:Value) (hz:∀ w,(zeroValue T).run Try.prog w=.ok z w) (hc:z.cells=#[z]) (hg:o.guard=none)
 (hK:∀ w' b,New w w' b #[z] T→wpList Try.prog ops Q rest (a.put o.dst (.pointer (some ⟨b,0,none⟩))) w'):wpList Try.prog ops Q (o :: rest) a w:=by
 refine wpList_plain hg fun K' hK' => ?_
 have hrun:(execOp a.eval o).run Try.prog w=.ok (.value (.pointer (some ⟨w.heap.size,0,none⟩))) (w.alloc (.cells #[z] T)):=by
  simp [execOp,hop,Instr.alloc,hz,go_sem,Result.andThen]
  exact congrArg (fun c=>w.alloc (Obj.cells c T)) hc
 unfold Oper.wp
 rw [hrun,Oper.upon_value]
 exact hK' _ _ (hK _ _ (new_alloc w _ T))
end Go.Proofs.Ytoedidbbjnnpnaa.Wm
/-
  Root, True, Height: of any model. No condition.
-/
namespace Go.Proofs.Ytoedidbbjnnpnaa.Wm
open Go.RowKit Go.Maps
open Wd (Md Mid Rc Ed Sub upd vl allW inW names)
set_option linter.unusedSimpArgs false
def RootR (M:Nat→Nat→Bool) (m:Md) (r:Int) (ok:Bool):Prop :=
 (¬ Wd.Good m∧r=0∧ok=false)∨(Wd.Good m∧r=0∧ok=false∧∀ a,a<m.up.length→(List.range m.up.length).all (M a)=false) ∨
  ∃ k:Nat,Wd.Good m∧k<m.up.length∧r=(k:Int)∧ok=true∧(List.range m.up.length).all (M k)=true∧∀ a,a<k→(List.range m.up.length).all (M a)=false
set_option maxRecDepth 100000 in
set_option maxHeartbeats 2000000 in
theorem root_any (w:World) {M:Nat→Nat→Bool} {L:Nat} {uv vv:Value} {m:Md} (hO:IsO m.up M) (hm:IsM w L uv vv m) (hf:Fit m) (hL:L≤w.heap.size) :
 Calls Try.prog 44 #[.agg #[uv,vv]] w fun e w'=>∃ (r:Int) (ok:Bool),e=.returned (.tuple #[.int .i64 r,.bool ok])∧RootR M m r ok∧Below w.heap.size w w':=by
 have K:=show Hid (∀ W,Below w.heap.size w W→Calls Try.prog 54 #[.agg #[uv,vv],.slice none 0 0] W fun e w'=>∃ fv er,e=.returned (.tuple #[fv,.int .i64 er])∧Rek w' M m [] fv er∧Below W.heap.size W w') from fun W hW=>reckoned_any W hO (hm.keep fun k hk=>hW.block k (by omega)) hf (Nat.le_trans hL hW.size) (isI_nil W) (Nat.zero_le _) (by simp) (by simp)
 have HN5:=show Hid (Wd.Good m→m.up.length≤512) from fun g=>(Wd.shaped_and g.shape).2.1
 obtain ⟨pu,cu,rfl⟩:=IsS.form hm.up
 obtain ⟨pv,cv,rfl⟩:=IsS.form hm.val
 clear hm hf
 go_enter Try.func44,Try.ntmps44
 go_wp2_with (refine wpList_box 25 _ rfl _ rfl rfl ?_)
 intro w1 b1 hN
 have H1:=show Hid (Below w.heap.size w w1∧Cl w1 b1 #[.slice pu m.up.length cu,.slice pv m.val.length cv] 25) from ⟨hN.bel,hN.blk⟩
 have K1:=show Hid _ from K.out w1 hN.bel
 clear hN K
 go_wp2_with (refine wpList_ldw 25 _ rfl b1 rfl _ _ H1.out.2 rfl Try.underlying25 sizeM rfl ?_)
 refine Calls.mono K1.out ?_
 rintro e w2 ⟨fv,er,rfl,hR,hb⟩
 have H2:=show Hid (Below w.heap.size w w2∧Cl w2 b1 #[.slice pu m.up.length cu,.slice pv m.val.length cv] 25) from ⟨H1.out.1.trans (hb.mono H1.out.1.size),H1.out.2.later hb⟩
 clear hb K1 H1
 rcases hR with ⟨h1,rfl,rfl⟩ | ⟨_,h2,_,_⟩ | ⟨h1,h2,h3,rfl⟩
 ·have HG:=show Hid (¬ Wd.Good m) from h1
  clear h1
  go_wp2_with fail
  go_ret2
  exact ⟨0,false,rfl,Or.inl ⟨HG.out,rfl,rfl⟩,H2.out.1⟩
 ·cases h2
 ·have HG:=show Hid (Wd.Good m) from h1
  have hn5:=HN5.out h1
  have KI:=show Hid (∀ W,Below w2.heap.size w2 W→∀ a,a<m.up.length→Calls Try.prog 70 #[.int .i64 (a:Int),.int .i64 (m.up.length:Int),fv] W fun e w'=>e=.returned (.bool ((List.range m.up.length).all (M a)))∧Below W.heap.size W w') from fun W hW a ha=>isRoot_any W (h3.later hW hW.size) ha (Nat.le_refl _) hn5
  obtain ⟨f,cs,rfl,-,-⟩:=h3
  have c0:w2.cell? ⟨b1,0,none⟩=some (.slice pu m.up.length cu):=Cl.cell (T:=25) H2.out.2 0
  clear h1 h2
  go_wp2_with fail
  go_loopw [6,17] (fun _ i wr=>∃ k:Nat,k≤m.up.length∧i=.int .i64 (k:Int)∧Hid (Below w2.heap.size w2 wr∧∀ a,a<k→(List.range m.up.length).all (M a)=false)) (fun _ i _=>m.up.length - (intOf i).toNat)
  case atStart=>exact ⟨0,Nat.zero_le _,rfl,Below.refl _ _,fun _ h=>absurd h (Nat.not_lt_zero _)⟩
  case round =>
   obtain ⟨k,hk,rfl,H3⟩:=hrel
   clear c0
   by_cases hlt:k<m.up.length
   ·have K3:=show Hid _ from KI.out wr H3.out.1 k hlt
    have c3:wr.cell? ⟨b1,0,none⟩=some (.slice pu m.up.length cu):=Cl.cell (T:=25) (H2.out.2.later H3.out.1) 0
    have hki:(k:Int)<(m.up.length:Int):=by omega
    have HF:=show Hid ((List.range m.up.length).all (M k)=false→∀ a,a<k+1→(List.range m.up.length).all (M a)=false) from fun h a ha=>by
     by_cases e:a=k
     ·rw [e];exact h
     ·exact H3.out.2 a (by omega)
    have HT:=show Hid ((List.range m.up.length).all (M k)=true→RootR M m (k:Int) true) from fun h=>Or.inr (Or.inr ⟨k,HG.out,hlt,rfl,rfl,h,H3.out.2⟩)
    clear KI
    go_wp2_with fail
    refine Calls.mono K3.out ?_
    rintro e w4 ⟨rfl,hb⟩
    have H4:=show Hid (Below w2.heap.size w2 w4∧Below w.heap.size w w4) from ⟨H3.out.1.trans (hb.mono H3.out.1.size),(H2.out.1.trans (H3.out.1.mono H2.out.1.size)).trans (hb.mono (Nat.le_trans H2.out.1.size H3.out.1.size))⟩
    clear hb K3 H3 c3
    generalize (List.range m.up.length).all (M k)=y at *
    cases y
    ·have HF2:=show Hid _ from HF.out (by first | rfl | trivial)
     clear HF HT
     go_wp2_with fail
     go_roundw
     case rel=>exact ⟨k+1,by omega,val_int (by omega),H4.out.1,HF2.out⟩
     case measure=>(simp only [intOf];omega)
    ·have HT2:=show Hid (RootR M m (k:Int) true) from HT.out (by first | rfl | trivial)
     clear HF HT
     go_wp2_with fail
     go_ret2
     exact ⟨_,true,rfl,HT2.out,H4.out.2⟩
   ·have HX:=show Hid (RootR M m 0 false) from Or.inr (Or.inl ⟨HG.out,rfl,rfl,fun a ha=>H3.out.2 a (by omega)⟩)
    go_wp2_with fail
    go_ret2
    exact ⟨0,false,rfl,HX.out,H2.out.1.trans (H3.out.1.mono H2.out.1.size)⟩
def inS (s:ByteArray) (l:List ByteArray):Bool:=l.any fun x=>x.data.toList == s.data.toList
theorem ba_ext {x y:ByteArray} (e:x.data.toList=y.data.toList):x=y:=by
 cases x;cases y;simp only [ByteArray.mk.injEq];exact Array.ext' e
theorem inS_iff {s:ByteArray} {l:List ByteArray}:inS s l=true ↔ s ∈ l:=by
 unfold inS
 rw [List.any_eq_true]
 constructor
 ·rintro ⟨x,hx,e⟩
  rw [← ba_ext (beq_iff_eq.1 e)];exact hx
 ·exact fun h=>⟨s,h,beq_iff_eq.2 rfl⟩
theorem inS_no {s:ByteArray} {l:List ByteArray} (h:s ∉ l):inS s l=false:=by
 cases e:inS s l
 ·rfl
 ·exact absurd (inS_iff.1 e) h
theorem beqS_eq {x y:ByteArray} (h:x=y):(x.toList == y.toList)=true:=by rw [h];simp
theorem beqS_ne {x y:ByteArray} (h:x≠y):(x.toList == y.toList)=false:=by
 rw [beq_eq_false_iff_ne]
 intro e
 rw [ByteArray.toList_eq,ByteArray.toList_eq] at e
 exact h (ba_ext e)
end Go.Proofs.Ytoedidbbjnnpnaa.Wm
/-
  What was made, as a model. No condition.
-/
namespace Go.Proofs.Ytoedidbbjnnpnaa.Wm
open Go.RowKit Go.Maps
open Wd (Md)
set_option linter.unusedSimpArgs false
theorem OwnZ.isI {base:Nat} {w:World} {v:Value} {l:List Int} (h:OwnZ base w v l):IsI w w.heap.size v l:=by
 rcases h.2 with ⟨rfl,h0⟩ | ⟨g,cap,cur,rfl,hg,hh,h1,h2,h3,h4⟩
 ·obtain rfl:l=[]:=List.eq_nil_of_length_eq_zero h0
  exact ⟨_,_,rfl,fun h=>absurd h (by simp)⟩
 ·refine ⟨_,_,rfl,fun h0=>⟨g,0,lt_of_block hh,rfl,fun k hk => ?_⟩⟩
  have hc:=h.cellAt k (by omega)
  rw [Nat.zero_add]
  exact ⟨.int .i64 l[k],hc.trans (by simp [hk]),rfl⟩
theorem RowsZ.isU {B:Nat} {w:World} {v:Value} {ls:List (List Int)} (h:RowsZ B w v ls):IsU w w.heap.size v ls:=by
 obtain ⟨xs,h1,h2⟩:=h
 rcases h1.2 with ⟨rfl,h0⟩ | ⟨g,cap,cur,rfl,hg,hh,_⟩
 ·obtain rfl:ls=[]:=List.eq_nil_of_length_eq_zero h0
  exact ⟨_,_,rfl,fun h=>absurd h (by simp)⟩
 ·refine ⟨_,_,rfl,fun h0=>⟨g,0,lt_of_block hh,rfl,fun k hk => ?_⟩⟩
  have hc:=h1.cellAt k (by omega)
  obtain ⟨x,hx,ho⟩:=h2 k hk
  rw [Nat.zero_add]
  exact ⟨x,hc.trans hx,OwnZ.isI ho⟩
theorem RowsN.isV {B:Nat} {w:World} {v:Value} {ls:List (List ByteArray)} (h:RowsN B w v ls):IsV w w.heap.size v ls:=by
 obtain ⟨xs,h1,h2⟩:=h
 rcases h1.2 with ⟨rfl,h0⟩ | ⟨g,cap,cur,rfl,hg,hh,_⟩
 ·obtain rfl:ls=[]:=List.eq_nil_of_length_eq_zero h0
  exact ⟨_,_,rfl,fun h=>absurd h (by simp)⟩
 ·refine ⟨_,_,rfl,fun h0=>⟨g,0,lt_of_block hh,rfl,fun k hk => ?_⟩⟩
  have hc:=h1.cellAt k (by omega)
  obtain ⟨x,hx,ho⟩:=h2 k hk
  rw [Nat.zero_add]
  exact ⟨x,hc.trans hx,OwnN.isN ho⟩
theorem results_m_tmp {fn:Func} {p t2:Tmp} (h:fn.results=#[.cell p 25,.tmp t2]) (tmps:Array Value) (w:World) (g:Nat) {uv vv:Value} (hp:tmps.getD p undef=.pointer (some ⟨g,0,none⟩)) (hr:Cl w g #[uv,vv] 25) :
 (results fn tmps).run Try.prog w=.ok (.tuple #[.agg #[uv,vv],tmps.getD t2 undef]) w:=by
 rw [results_cell_tmp h,hp]
 simp [asAddr,run_loadVar_row w g 25 25 #[uv,vv] (0,0) _ hr Try.underlying25 rfl sizeM,Result.andThen]
theorem set2 {w:World} {b:Nat} {x y:Value} {T:TypeId} (h:Cl w b #[x,y] T) (u v:Value):Cl ((w.setCell ⟨b,0,none⟩ u).setCell ⟨b,1,none⟩ v) b #[u,v] T∧Kp (fun k=>k=b) w ((w.setCell ⟨b,0,none⟩ u).setCell ⟨b,1,none⟩ v):=by
 have h1:(w.setCell ⟨b,0,none⟩ u).heap[b]?=some (.cells ((#[x,y]:Array Value).setIfInBounds 0 u) T (0,0)):=heap_setCell_same w b 0 _ _ _ h
 have h2:((w.setCell ⟨b,0,none⟩ u).setCell ⟨b,1,none⟩ v).heap[b]?=some (.cells (((#[x,y]:Array Value).setIfInBounds 0 u).setIfInBounds 1 v) T (0,0)):=heap_setCell_same _ b 1 _ _ _ h1
 exact ⟨h2,((Kp.refl (fun k=>k=b) w).set (p:=b) rfl 0 _).set (p:=b) rfl 1 _⟩
theorem wpList_st {ops:Array Oper} {rest:List Oper} {o:Oper} {a:Act} {Q:Exit→Act→World→Prop} {w:World} (T:TypeId) (hg:o.guard=none) (hd:o.dst=none) (x y:Operand) (hop:o.op=Op.store T x y) (b:Nat) (hx:a.eval x=.pointer (some ⟨b,0,none⟩)) (cs:Array Value) (hy:a.eval y=.agg cs) (old:Array Value) (T0:TypeId) (h:Cl w b old T0)
 (hs:(Try.prog.info? T).map (·.size)=some cs.size) (hs':old.size=cs.size) (h1:cs.all (·.oneCell')=true) (hK:∀ w',Cl w' b cs T0→Kp (fun k=>k=b) w w'→wpList Try.prog ops Q rest a w'):wpList Try.prog ops Q (o :: rest) a w:=by
 refine wpList_plain hg fun K' hK' => ?_
 have hrun:(Instr.storeAt T (.pointer (some ⟨b,0,none⟩)) (.agg cs)).run Try.prog w=.ok () (w.setRow b cs):=by
  simp only [Instr.storeAt,Instr.sureAddr,Sem.run_bind,Sem.run_pure,Result.andThen]
  exact run_storeVar_row w b T0 T old cs h hs hs' h1
 unfold Oper.wp
 simp [execOp,hop,hx,hy,hrun,Result.andThen]
 rw [Oper.upon_skip,hd]
 exact hK' _ _ (hK _ (setRow_heap w b _ _ _ _ h) ⟨rfl,rfl,rfl,by simp,fun k _ hk=>setRow_other w b k cs hk⟩)
end Go.Proofs.Ytoedidbbjnnpnaa.Wm
/-
  The chapter's model, and two more: plain. No condition.
-/
namespace Go.Proofs.Ytoedidbbjnnpnaa.Wm
open Go.RowKit
open Wd (Md Rc Ed Sub upd vl allW inW names)
def bp:ByteArray:=⟨#[112]⟩
def bq:ByteArray:=⟨#[113]⟩
def dmd:Md:=⟨[[1,2],[3],[3],[]],[[],[bp],[bp],[bp,bq]]⟩
def two:Md:=⟨[[1],[]],[[],[bp]]⟩
def T4 (a b:Nat):Bool:=a == b || (a == 0 && (b == 1 || b == 2 || b == 3)) || ((a == 1 || a == 2) && b == 3)
theorem rc_mat {u:List (List Int)} {T:Nat→Nat→Bool} (hr:∀ a,T a a=true) (hc:∀ a b c,Ed u a b→T b c=true→T a c=true) (hs:∀ a b,T a b=true→Rc u a b):∀ a b,T a b=true ↔ Rc u a b:=fun a b=>⟨hs a b,fun h=>by
 induction h with
 | refl=>exact hr _
 | step e _ ih=>exact hc _ _ _ e ih⟩
theorem dmd_ed {a b:Nat} (h:Ed dmd.up a b):(a=0∧(b=1∨b=2))∨(a=1∧b=3)∨(a=2∧b=3):=by
 obtain ⟨r,hr,hb⟩:=h
 match a,hr with
 | 0,hr=>cases hr;simp at hb;omega
 | 1,hr=>cases hr;simp at hb;omega
 | 2,hr=>cases hr;simp at hb;omega
 | 3,hr=>cases hr;simp at hb
 | a+4,hr=>cases hr
theorem isO_dmd:IsO dmd.up T4:=rc_mat (fun a=>by simp [T4]) (fun a b c he h=>by
 rcases dmd_ed he with ⟨rfl,rfl | rfl⟩ | ⟨rfl,rfl⟩ | ⟨rfl,rfl⟩ <;> simp [T4] at h ⊢ <;> omega)
 (fun a b h=>by
  have e1:∀ x y,(x=0∧(y=1∨y=2))∨(x=1∧y=3)∨(x=2∧y=3)→Ed dmd.up x y:=fun x y h=>by
   rcases h with ⟨rfl,rfl | rfl⟩ | ⟨rfl,rfl⟩ | ⟨rfl,rfl⟩ <;> exact ⟨_,rfl,by simp⟩
  simp only [T4,Bool.or_eq_true,Bool.and_eq_true,beq_iff_eq] at h
  rcases h with (rfl | ⟨rfl,(rfl | rfl) | rfl⟩) | ⟨rfl | rfl,rfl⟩
  ·exact .refl _
  ·exact .one (e1 _ _ (by omega))
  ·exact .one (e1 _ _ (by omega))
  ·exact .step (e1 0 1 (by omega)) (.one (e1 1 3 (by omega)))
  ·exact .one (e1 _ _ (by omega))
  ·exact .one (e1 _ _ (by omega)))
theorem lt4 {a:Nat} (h:a<4):a=0∨a=1∨a=2∨a=3:=by omega
theorem dmd_in:∀ r ∈ dmd.up,allW 4 r=true:=by decide
theorem good_dmd:Wd.Good dmd:=by
 refine ⟨by decide +kernel,fun a b ha h1 h2 => ?_,fun a b ha h => ?_⟩
 ·have k1:=(isO_dmd a b).2 h1
  have k2:=(isO_dmd b a).2 h2
  simp only [T4,Bool.or_eq_true,Bool.and_eq_true,beq_iff_eq] at k1 k2
  omega
 ·have hb:b<4:=Wd.rc_lt dmd_in h ha
  have k1:=(isO_dmd a b).2 h
  have v0:vl dmd 0=[]:=rfl
  have v1:vl dmd 1=[bp]:=rfl
  have v2:vl dmd 2=[bp]:=rfl
  have v3:vl dmd 3=[bp,bq]:=rfl
  have ha4:a<4:=ha
  rcases lt4 ha4 with rfl | rfl | rfl | rfl <;> rcases lt4 hb with rfl | rfl | rfl | rfl <;> first
   | (exact fun x hx=>hx)
   | (exact absurd k1 (by decide))
   | (rw [v0];exact fun x hx=>(by cases hx))
   | (rw [v1,v3];exact fun x hx=>by simp at hx;subst hx;simp)
   | (rw [v2,v3];exact fun x hx=>by simp at hx;subst hx;simp)
def h4 (a:Nat):Nat:=if a=0 then 3 else if a=3 then 1 else 2
def s2:ByteArray:=⟨#[48,32,62,32,49,10,49,32,58,32,112,10]⟩
theorem fit_dmd:Fit dmd:=⟨by decide,by decide,by decide,by decide⟩
end Go.Proofs.Ytoedidbbjnnpnaa.Wm
