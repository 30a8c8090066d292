/-
  Rows in memory, wherever they lie; what a call leaves as it was; arms of a walk whose worlds stay names. No condition.
-/
import Derived.Test.YtoedidbbjnnpnaaProg
import Derived.Test.YtoedidbbjnnpnaaTH1
import Derived.WalkKit
import Derived.WalkLawsBesides
import Derived.WalkSpells
import Derived.ProofKit
import Derived.BigQuiet
import Derived.Laws.RangeAny
import Derived.Maps.OwnSet
import Derived.Maps.AppendAt
import Derived.Deep.RegionLaw
import Derived.Deep.WholeRow
import Derived.Laws.BitsAllLaws
import Derived.Laws.ShiftsVarLaws
import Derived.Laws.ResultCell
import Derived.Laws.EntriesVeiled
import Derived.Laws.Tables
import Derived.Laws.CopyOwn
namespace Go.Proofs.Ytoedidbbjnnpnaa.Wm
open Go.RowKit Go.Maps
set_option linter.unusedSimpArgs false
theorem ret_int {k:IntKind} {a b:Int} (h:a=b):Ending.returned (.int k a)=.returned (.int k b):=by rw [h]
theorem val_int {k:IntKind} {a b:Int} (h:a=b):Value.int k a=.int k b:=by rw [h]
theorem ret_bool {a b:Bool} (h:a=b):Ending.returned (.bool a)=.returned (.bool b):=by rw [h]
theorem below_alloc (w:World) (o:Obj):Below w.heap.size w (w.alloc o):=(Below.refl _ _).alloc (Nat.le_refl _) _
theorem lt_of_block {w:World} {g:Nat} {o:Obj} (h:w.heap[g]?=some o):g<w.heap.size:=(Array.getElem?_eq_some_iff.1 h).1
theorem laidOut:laidOutB Try.prog=true:=by kernel_rfl
structure Kp (S:Nat→Prop) (w w':World):Prop where
 os:w'.os=w.os
 tape:w'.tape=w.tape
 output:w'.output=w.output
 size:w.heap.size≤w'.heap.size
 block:∀ k,k<w.heap.size→¬ S k→w'.heap[k]?=w.heap[k]?
theorem Kp.refl (S:Nat→Prop) (w:World):Kp S w w:=⟨rfl,rfl,rfl,Nat.le_refl _,fun _ _ _=>rfl⟩
theorem Kp.of_below {S:Nat→Prop} {w w':World} (h:Below w.heap.size w w'):Kp S w w':=⟨h.os,h.tape,h.output,h.size,fun k hk _=>h.block k hk⟩
theorem Kp.trans {S S':Nat→Prop} {a b c:World} (h:Kp S a b) (k:Kp S' b c) (hS:∀ i,S' i→S i∨a.heap.size≤i):Kp S a c :=
 ⟨k.os.trans h.os,k.tape.trans h.tape,k.output.trans h.output,Nat.le_trans h.size k.size,fun i hi hn=>(k.block i (Nat.lt_of_lt_of_le hi h.size) (fun h'=>by rcases hS i h' with h1 | h1;exact hn h1;omega)).trans (h.block i hi hn)⟩
theorem Kp.below {S:Nat→Prop} {w w':World} {B:Nat} (h:Kp S w w') (hB:B≤w.heap.size) (hS:∀ k,S k→B≤k):Below B w w' :=
 ⟨h.os,h.tape,h.output,h.size,fun k hk=>h.block k (by omega) (fun h'=>by have:=hS k h';omega)⟩
theorem Kp.drew {S:Nat→Prop} {w w':World} (h:Kp S w w'):Kp S w w'.drew:=⟨h.os,h.tape,h.output,h.size,h.block⟩
theorem Kp.set {S:Nat→Prop} {a b:World} (h:Kp S a b) {p:Nat} (hp:S p) (j:Nat) (x:Value):Kp S a (b.setCell ⟨p,j,none⟩ x) :=
 ⟨h.os,h.tape,h.output,Nat.le_trans h.size (by simp),fun k hk hn=>(Below.heap_setCell b ⟨p,j,none⟩ x k (fun e=>hn (by subst e;exact hp))).trans (h.block k hk hn)⟩
theorem Kp.alloc {S:Nat→Prop} {a b:World} (h:Kp S a b) (o:Obj):Kp S a (b.alloc o):=h.trans (Kp.of_below (S:=S) (below_alloc b o)) fun _ hi=>Or.inl hi
theorem Kp.wide {S S':Nat→Prop} {a b:World} (h:Kp S a b) (hS:∀ k,S k→S' k):Kp S' a b:=⟨h.os,h.tape,h.output,h.size,fun k hk hn=>h.block k hk (fun h'=>hn (hS k h'))⟩
def Rw (w:World) (g n:Nat) (T:TypeId) (F:Nat→Value):Prop:=w.heap[g]?=some (.cells ((List.range n).map F).toArray T (0,0))
section
variable {w w':World} {g n:Nat} {T:TypeId} {F:Nat→Value}
theorem Rw.cell (h:Rw w g n T F) {j:Nat} (hj:j<n):w.cell? ⟨g,j,none⟩=some (F j):=by
 rw [cell_of_row w g j _ _ _ h]
 simp [hj]
theorem Rw.fr (h:Rw w g n T F) (j:Nat):w.frozen? ⟨g,j,none⟩=false:=frozen_of_row w g j _ _ h
theorem Rw.set (h:Rw w g n T F) (j:Nat) (x:Value):Rw (w.setCell ⟨g,j,none⟩ x) g n T (Wd.upd F j x):=by
 have h1:(w.setCell ⟨g,j,none⟩ x).heap[g]?=some (.cells (((List.range n).map F).toArray.setIfInBounds j x) T (0,0)):=heap_setCell_same w g j _ _ _ h
 unfold Rw
 rw [h1]
 congr 2
 apply Array.ext'
 apply List.ext_getElem?
 intro i
 by_cases hi:i<n
 ·by_cases e:i=j
  ·subst e
   simp [Wd.upd,hi]
  ·simp [Wd.upd,hi,e,Ne.symm e]
 ·simp [hi]
theorem Rw.keep (h:Rw w g n T F) (hb:w'.heap[g]?=w.heap[g]?):Rw w' g n T F:=hb.trans h
theorem Rw.below {B:Nat} (h:Rw w g n T F) (hb:Below B w w') (hg:g<B):Rw w' g n T F:=(hb.block g hg).trans h
theorem Rw.kp {S:Nat→Prop} (h:Rw w g n T F) (hb:Kp S w w') (hg:¬ S g):Rw w' g n T F:=(hb.block g (lt_of_block h) hg).trans h
theorem Rw.lt (h:Rw w g n T F):g<w.heap.size:=lt_of_block h
theorem Rw.same {G:Nat→Value} (h:Rw w g n T F) (e:∀ j,j<n→F j=G j):Rw w g n T G:=by
 have:(List.range n).map F=(List.range n).map G:=List.map_congr_left fun j hj=>e j (List.mem_range.1 hj)
 unfold Rw
 rw [← this]
 exact h
end
def IsS {α:Type} (w:World) (L:Nat) (R:α→Value→Prop) (v:Value) (l:List α):Prop :=
 ∃ p c,v=.slice p l.length c∧(0<l.length→∃ b o,b<L∧p=some ⟨b,o,none⟩∧∀ (j:Nat) (hj:j<l.length),∃ x,w.cell? ⟨b,o+j,none⟩=some x∧R l[j] x)
theorem IsS.keep {α:Type} {w w':World} {L:Nat} {R R':α→Value→Prop} {v:Value} {l:List α} (h:IsS w L R v l) (hb:∀ k,k<L→w'.heap[k]?=w.heap[k]?) (hR:∀ a x,R a x→R' a x):IsS w' L R' v l:=by
 obtain ⟨p,c,hv,h⟩:=h
 refine ⟨p,c,hv,fun h0 => ?_⟩
 obtain ⟨b,o,hl,hp,h⟩:=h h0
 refine ⟨b,o,hl,hp,fun j hj => ?_⟩
 obtain ⟨x,hx,hr⟩:=h j hj
 exact ⟨x,(World.cell?_of_block (a:=⟨b,o+j,none⟩) (hb b hl)).trans hx,hR _ _ hr⟩
theorem IsS.wide {α:Type} {w:World} {L L':Nat} {R:α→Value→Prop} {v:Value} {l:List α} (h:IsS w L R v l) (hL:L≤L'):IsS w L' R v l:=by
 obtain ⟨p,c,hv,h⟩:=h
 refine ⟨p,c,hv,fun h0 => ?_⟩
 obtain ⟨b,o,hl,hp,h⟩:=h h0
 exact ⟨b,o,Nat.lt_of_lt_of_le hl hL,hp,h⟩
def isI (n:Int) (x:Value):Prop:=x=.int .i64 n
def isT (s:ByteArray) (x:Value):Prop:=x=.string s
abbrev IsI (w:World) (L:Nat) (v:Value) (l:List Int):Prop:=IsS w L isI v l
abbrev IsN (w:World) (L:Nat) (v:Value) (l:List ByteArray):Prop:=IsS w L isT v l
def IsU (w:World) (L:Nat) (v:Value) (u:List (List Int)):Prop:=IsS w L (fun r x=>IsI w L x r) v u
def IsV (w:World) (L:Nat) (v:Value) (u:List (List ByteArray)):Prop:=IsS w L (fun r x=>IsN w L x r) v u
theorem IsI.keep {w w':World} {L:Nat} {v:Value} {l:List Int} (h:IsI w L v l) (hb:∀ k,k<L→w'.heap[k]?=w.heap[k]?):IsI w' L v l:=IsS.keep h hb fun _ _ h=>h
theorem IsN.keep {w w':World} {L:Nat} {v:Value} {l:List ByteArray} (h:IsN w L v l) (hb:∀ k,k<L→w'.heap[k]?=w.heap[k]?):IsN w' L v l:=IsS.keep h hb fun _ _ h=>h
theorem IsU.keep {w w':World} {L:Nat} {v:Value} {u:List (List Int)} (h:IsU w L v u) (hb:∀ k,k<L→w'.heap[k]?=w.heap[k]?):IsU w' L v u:=IsS.keep h hb fun _ _ h=>IsI.keep h hb
theorem IsV.keep {w w':World} {L:Nat} {v:Value} {u:List (List ByteArray)} (h:IsV w L v u) (hb:∀ k,k<L→w'.heap[k]?=w.heap[k]?):IsV w' L v u:=IsS.keep h hb fun _ _ h=>IsN.keep h hb
def Fit (m:Wd.Md):Prop:=m.up.length≤140737488351232∧m.val.length≤140737488351232∧(∀ r ∈ m.up,r.length≤140737488351232∧∀ i ∈ r,-9223372036854775808≤i∧i≤9223372036854775807)∧∀ r ∈ m.val,r.length≤140737488351232∧∀ s ∈ r,s.size≤140737488351232
structure IsM (w:World) (L:Nat) (uv vv:Value) (m:Wd.Md):Prop where
 up:IsU w L uv m.up
 val:IsV w L vv m.val
theorem IsM.keep {w w':World} {L:Nat} {uv vv:Value} {m:Wd.Md} (h:IsM w L uv vv m) (hb:∀ k,k<L→w'.heap[k]?=w.heap[k]?):IsM w' L uv vv m:=⟨h.up.keep hb,h.val.keep hb⟩
theorem IsM.below {w w':World} {L:Nat} {uv vv:Value} {m:Wd.Md} (h:IsM w L uv vv m) (hb:Below L w w'):IsM w' L uv vv m:=h.keep fun k hk=>hb.block k hk
theorem IsS.at {α:Type} {w:World} {L:Nat} {R:α→Value→Prop} {p:Option Addr} {n:Nat} {c:Nat} {l:List α} (h:IsS w L R (.slice p n c) l):n=l.length∧(0<l.length→∃ b o,b<L∧p=some ⟨b,o,none⟩∧∀ (j:Nat) (hj:j<l.length),∃ x,w.cell? ⟨b,o+j,none⟩=some x∧R l[j] x):=by
 obtain ⟨p',c',hv,h⟩:=h
 obtain ⟨rfl,rfl,rfl⟩:=Value.slice.inj hv
 exact ⟨rfl,h⟩
theorem IsS.form {α:Type} {w:World} {L:Nat} {R:α→Value→Prop} {v:Value} {l:List α} (h:IsS w L R v l):∃ p c,v=.slice p l.length c:=by
 obtain ⟨p,c,hv,_⟩:=h
 exact ⟨p,c,hv⟩
/-! Arms. -/
theorem wpList_want {ops:Array Oper} {rest:List Oper} {o:Oper} {a:Act} {w:World} {Q:Exit→Act→World→Prop} (hw:Region.wanted o (yielded ops a.tmps)=true)
 (h:∀ K:Act→World→Prop,(∀ a w,wpList Try.prog ops Q rest a w→K a w)→o.wp Try.prog a w K Q):wpList Try.prog ops Q (o :: rest) a w :=
 wpList_step fun K hK=>by rw [if_pos hw];exact h K hK
structure New (w w':World) (b:Nat) (cs:Array Value) (T:TypeId):Prop where
 blk:w'.heap[b]?=some (.cells cs T (0,0))
 bel:Below w.heap.size w w'
 ge:w.heap.size≤b
 up:w'.heap.size=b+1
 eq:b=w.heap.size
theorem new_alloc (w:World) (cs:Array Value) (T:TypeId):New w (w.alloc (.cells cs T)) w.heap.size cs T :=
 ⟨heap_alloc_last w _,below_alloc w _,Nat.le_refl _,by simp,rfl⟩
def Cl (w:World) (b:Nat) (cs:Array Value) (T:TypeId):Prop:=w.heap[b]?=some (.cells cs T (0,0))
theorem Cl.later {w w':World} {b:Nat} {cs:Array Value} {T:TypeId} (h:Cl w b cs T) (hb:Below w.heap.size w w'):Cl w' b cs T:=(hb.block b (lt_of_block h)).trans h
theorem Cl.lt {w:World} {b:Nat} {cs:Array Value} {T:TypeId} (h:Cl w b cs T):b<w.heap.size:=lt_of_block h
theorem Cl.cell {w:World} {b:Nat} {cs:Array Value} {T:TypeId} (h:Cl w b cs T) (j:Nat):w.cell? ⟨b,j,none⟩=cs[j]?:=cell_of_row w b j _ _ _ h
theorem Cl.fr {w:World} {b:Nat} {cs:Array Value} {T:TypeId} (h:Cl w b cs T) (j:Nat):w.frozen? ⟨b,j,none⟩=false:=frozen_of_row w b j _ _ h
theorem Cl.drew {w:World} {b:Nat} {cs:Array Value} {T:TypeId} (h:Cl w b cs T):Cl w.drew b cs T:=h
theorem Cl.kp {w w':World} {b:Nat} {S:Nat→Prop} {cs:Array Value} {T:TypeId} (h:Cl w b cs T) (hk:Kp S w w') (hp:¬ S b):Cl w' b cs T:=(hk.block b h.lt hp).trans h
section
variable {ops:Array Oper} {rest:List Oper} {o:Oper} {a:Act} {Q:Exit→Act→World→Prop} {w:World}
theorem run_box (w:World) (T:TypeId) (cs:Array Value):(Instr.box T (.agg cs)).run Try.prog w=.ok (.pointer (some ⟨w.heap.size,0,none⟩)) (w.alloc (.cells cs T)):=by
 simp [Instr.box,go_sem]
theorem wpList_box (T:TypeId) (x:Operand) (hop:o.op=Op.box T x) (cs:Array Value) (hx:a.eval x=.agg cs) (hg:o.guard=none)
 (hK:∀ w' b,New w w' b cs T→wpList Try.prog ops Q rest (a.put o.dst (.pointer (some ⟨b,0,none⟩))) w'):wpList Try.prog ops Q (o :: rest) a w:=by
 refine wpList_plain hg fun K' hK' => ?_
 have hrun:=run_box w T cs
 unfold Oper.wp
 simp [execOp,hop,hx,hrun,Result.andThen]
 exact hK' _ _ (hK _ _ (new_alloc w cs T))
theorem wpList_box1 (T:TypeId) (x:Operand) (hop:o.op=Op.box T x) (v:Value) (hx:a.eval x=v) (hv:v.cells=#[v]) (hg:o.guard=none)
 (hK:∀ w' b,New w w' b #[v] T→wpList Try.prog ops Q rest (a.put o.dst (.pointer (some ⟨b,0,none⟩))) w'):wpList Try.prog ops Q (o :: rest) a w:=by
 refine wpList_plain hg fun K' hK' => ?_
 have hrun:(Instr.box T v).run Try.prog w=.ok (.pointer (some ⟨w.heap.size,0,none⟩)) (w.alloc (.cells #[v] T)):=by
  simp [Instr.box,go_sem]
  exact congrArg (fun c=>w.alloc (Obj.cells c T)) hv
 unfold Oper.wp
 simp [execOp,hop,hx,hrun,Result.andThen]
 exact hK' _ _ (hK _ _ (new_alloc w _ T))
theorem wpList_alloc (T:TypeId) (hop:o.op=Op.alloc T) (cs:Array Value) (hz:∀ w,(zeroValue T).run Try.prog w=.ok (.agg cs) w) (hg:o.guard=none)
 (hK:∀ w' b,New w w' b cs T→wpList Try.prog ops Q rest (a.put o.dst (.pointer (some ⟨b,0,none⟩))) w'):wpList Try.prog ops Q (o :: rest) a w:=by
 refine wpList_plain hg fun K' hK' => ?_
 unfold Oper.wp
 simp [execOp,hop,Instr.alloc,hz,go_sem,Result.andThen]
 exact hK' _ _ (hK _ _ (new_alloc w _ T))
theorem wpList_ldw (T:TypeId) (x:Operand) (hop:o.op=Op.load T x) (b:Nat) (hx:a.eval x=.pointer (some ⟨b,0,none⟩)) (cs:Array Value) (T0:TypeId) (h:Cl w b cs T0) {d:TypeDesc} (hd:(match d with | .struct _ | .array _ _=>true | _=>false)=true) (hu:Try.prog.underlying T=some d) (hi:(Try.prog.info? T).map (·.size)=some cs.size)
 (hg:Region.wanted o (yielded ops a.tmps)=true) (hK:wpList Try.prog ops Q rest (a.put o.dst (.agg cs)) w):wpList Try.prog ops Q (o :: rest) a w:=by
 refine wpList_want hg fun K' hK' => ?_
 have hrun:(Instr.loadAt T (.pointer (some ⟨b,0,none⟩))).run Try.prog w=.ok (.agg cs) w:=by
  simp only [Instr.loadAt,Instr.sureAddr,Sem.run_bind,Sem.run_pure,Result.andThen]
  exact run_loadVar_row w b T0 T cs _ d h hu (by cases d <;> first | rfl | exact hd) hi
 unfold Oper.wp
 simp [execOp,hop,hx,hrun,Result.andThen]
 exact hK' _ _ hK
end
end Go.Proofs.Ytoedidbbjnnpnaa.Wm
/-
  The call Word: is a text a name? For every text that a machine can hold. No other condition.
-/
namespace Go.Proofs.Ytoedidbbjnnpnaa.Wm
open Go.RowKit
theorem isL_iff (c:UInt8):Fm.isL c=(decide (97≤(c.toNat:Int)∧(c.toNat:Int)≤122) || decide (65≤(c.toNat:Int)∧(c.toNat:Int)≤90)):=by
 unfold Fm.isL
 simp only [UInt8.le_iff_toNat_le]
 rw [Bool.eq_iff_iff]
 simp
 omega
set_option maxHeartbeats 400000 in
theorem isLetter_any (w:World) (c:UInt8) :
 Calls Try.prog 101 #[.int .u8 c.toNat] w fun e w'=>e=.returned (.bool (Fm.isL c))∧w'=w:=by
 have h:=isL_iff c
 have hc:=c.toNat_lt
 generalize c.toNat=x at *
 generalize Fm.isL c=r at *
 have H:=show Hid _ from h
 clear h
 go_enter Try.func101,Try.ntmps101
 go_wp2
 all_goals (go_ret;refine ⟨ret_bool ?_,rfl⟩;rw [H.out,Bool.eq_iff_iff];simp only [Bool.or_eq_true,decide_eq_true_eq,true_iff,Bool.false_eq_true,false_iff];omega)
theorem inN_iff (c:UInt8):Fm.inN c=(Fm.isL c || decide (48≤(c.toNat:Int)∧(c.toNat:Int)≤57) || decide ((c.toNat:Int)=95) || decide ((c.toNat:Int)=39)):=by
 unfold Fm.inN
 simp only [UInt8.le_iff_toNat_le]
 rw [Bool.eq_iff_iff]
 simp only [Bool.or_eq_true,Bool.and_eq_true,decide_eq_true_eq,beq_iff_eq,← UInt8.toNat_inj]
 have e1:UInt8.toNat 48=48:=rfl
 have e2:UInt8.toNat 57=57:=rfl
 have e3:UInt8.toNat 95=95:=rfl
 have e4:UInt8.toNat 39=39:=rfl
 rw [e1,e2,e3,e4]
 generalize Fm.isL c=r
 cases r <;> simp <;> omega
set_option maxHeartbeats 400000 in
theorem withinName_any (w:World) (c:UInt8) :
 Calls Try.prog 102 #[.int .u8 c.toNat] w fun e w'=>e=.returned (.bool (Fm.inN c))∧w'=w:=by
 have K1:=show Hid (∀ w:World,Calls Try.prog 101 #[.int .u8 c.toNat] w fun e w'=>e=.returned (.bool (Fm.isL c))∧w'=w) from fun w=>isLetter_any w c
 have h:=inN_iff c
 have hc:=c.toNat_lt
 generalize c.toNat=x at *
 generalize Fm.inN c=r at *
 generalize Fm.isL c=q at *
 have H:=show Hid _ from h
 clear h
 cases q
 all_goals
  go_enter Try.func102,Try.ntmps102
  go_wp2_with (go_at_call 101;refine (K1.out _).mono ?_;rintro e w' ⟨rfl,rfl⟩)
 all_goals (go_ret;refine ⟨ret_bool ?_,rfl⟩;rw [H.out,Bool.eq_iff_iff];simp only [Bool.or_eq_true,decide_eq_true_eq,true_iff,Bool.false_eq_true,false_or,true_or,beq_iff_eq];try omega)
set_option maxHeartbeats 800000 in
theorem isTaken_any (w:World) (s:ByteArray) :
 Calls Try.prog 103 #[.string s] w fun e w'=>e=.returned (.bool (Fm.takens.contains s.data.toList))∧w'=w:=by
 go_enter Try.func103,Try.ntmps103
 go_wp2
 all_goals go_ret
 all_goals (refine ⟨ret_bool ?_,rfl⟩;rw [← ByteArray.toList_eq];simp_all [Fm.takens])
theorem word_no {s:ByteArray} (h:s.size=0∨31<s.size∨∃ h:0<s.size,Fm.isL s[0]=false):Fm.word s.data.toList=false:=by
 have hl:s.data.toList.length=s.size:=rfl
 unfold Fm.word
 rcases h with h | h | ⟨h0,h⟩
 ·rw [hl,h];rfl
 ·rw [hl,show decide (s.size≤31)=false by simp;omega];simp
 ·have e:s.data.toList.headD 0=s[0]:=by
   rw [List.headD_eq_head?_getD,List.head?_eq_getElem?]
   rw [Array.getElem?_toList,Array.getElem?_eq_getElem h0]
   rfl
  rw [e,h];simp
theorem tail_all {s:ByteArray} (k:Nat) (hk:k<s.size) (h1:1≤k) (h:Fm.inN s[k]=false):Fm.word s.data.toList=false:=by
 have hm:s[k] ∈ s.data.toList.tail:=by
  rw [List.mem_iff_getElem]
  refine ⟨k - 1,?_,?_⟩
  ·rw [List.length_tail];show k - 1<s.size - 1;omega
  ·rw [List.getElem_tail]
   have e:k - 1+1=k:=by omega
   simp only [e]
   rfl
 unfold Fm.word
 have:s.data.toList.tail.all Fm.inN=false:=by
  rw [List.all_eq_false]
  exact ⟨_,hm,by simp [h]⟩
 rw [this];simp
theorem word_yes {s:ByteArray} (h0:0<s.size) (h1:s.size≤31) (hL:Fm.isL s[0]=true) (h:∀ j (hj:j<s.size),1≤j→Fm.inN s[j]=true):Fm.word s.data.toList = !Fm.takens.contains s.data.toList:=by
 have hl:s.data.toList.length=s.size:=rfl
 have e:s.data.toList.headD 0=s[0]:=by
  rw [List.headD_eq_head?_getD,List.head?_eq_getElem?]
  rw [Array.getElem?_toList,Array.getElem?_eq_getElem h0]
  rfl
 have ht:s.data.toList.tail.all Fm.inN=true:=by
  rw [List.all_eq_true]
  intro x hx
  obtain ⟨j,hj,rfl⟩:=List.mem_iff_getElem.1 hx
  rw [List.length_tail] at hj
  rw [List.getElem_tail]
  exact h (j+1) (by have:s.data.toList.length=s.size:=rfl;omega) (by omega)
 unfold Fm.word
 rw [e,hL,ht,hl,decide_eq_true h1,bne_iff_ne.2 (by omega)]
 simp
set_option maxRecDepth 100000 in
set_option maxHeartbeats 2000000 in
theorem word_any (w:World) (s:ByteArray) (hs:s.size≤140737488351232) :
 Calls Try.prog 97 #[.string s] w fun e w'=>e=.returned (.bool (Fm.word s.data.toList))∧w'=w:=by
 have hls:s.toList=s.data.toList:=ByteArray.toList_eq s
 have HT:=show Hid (∀ w:World,Calls Try.prog 103 #[.string s] w fun e w'=>e=.returned (.bool (Fm.takens.contains s.data.toList))∧w'=w) from fun w=>isTaken_any w s
 have HL:=show Hid (∀ (c:UInt8) (w:World),Calls Try.prog 101 #[.int .u8 c.toNat] w fun e w'=>e=.returned (.bool (Fm.isL c))∧w'=w) from fun c w=>isLetter_any w c
 have HN:=show Hid (∀ (c:UInt8) (w:World),Calls Try.prog 102 #[.int .u8 c.toNat] w fun e w'=>e=.returned (.bool (Fm.inN c))∧w'=w) from fun c w=>withinName_any w c
 by_cases h0:s.size=0
 ·have hw:=word_no (Or.inl h0)
  have he:(s.toList == [])=true:=by rw [hls];simp;exact Array.eq_empty_of_size_eq_zero h0
  rw [hw]
  clear hls hw
  go_enter Try.func97,Try.ntmps97
  go_wp2_with fail
  go_ret
  exact ⟨rfl,rfl⟩
 ·have he:(s.toList == [])=false:=by
   rw [hls]
   simp
   intro e
   apply h0
   show s.data.size=0
   rw [e];rfl
  by_cases h1:31<s.size
  ·have hw:=word_no (Or.inr (Or.inl h1))
   rw [hw]
   clear hls hw
   go_enter Try.func97,Try.ntmps97
   go_wp2_with fail
   go_ret
   exact ⟨rfl,rfl⟩
  ·have hp:0<s.size:=by omega
   cases hc:Fm.isL s[0]
   ·have hw:=word_no (Or.inr (Or.inr ⟨hp,hc⟩))
    rw [hw]
    clear hls hw
    go_enter Try.func97,Try.ntmps97
    go_wp2_with fail
    refine (HL.out _ _).mono ?_
    rintro e w' ⟨rfl,rfl⟩
    rw [hc]
    go_wp2_with fail
    go_ret
    exact ⟨rfl,rfl⟩
   ·have HW:=show Hid ((∀ j (hj:j<s.size),1≤j→Fm.inN s[j]=true)→Fm.word s.data.toList = !Fm.takens.contains s.data.toList) from word_yes hp (by omega) hc
    have HF:=show Hid (∀ k (hk:k<s.size),1≤k→Fm.inN s[k]=false→Fm.word s.data.toList=false) from fun k hk h1 h=>tail_all k hk h1 h
    clear hls
    generalize Fm.takens.contains s.data.toList=tk at *
    go_enter Try.func97,Try.ntmps97
    go_wp2_with fail
    refine (HL.out _ _).mono ?_
    rintro e w' ⟨rfl,rfl⟩
    rw [hc]
    go_wp2_with fail
    go_loop [3] (fun i=>∃ k:Nat,1≤k∧k≤s.size∧i=.int .i64 k∧Hid (∀ j (hj:j<s.size),1≤j→j<k→Fm.inN s[j]=true)) (fun i=>s.size - (intOf i).toNat)
    case atStart=>exact ⟨1,by omega,by omega,rfl,fun j hj h1 h2=>by omega⟩
    case round =>
     obtain ⟨k,hk1,hk,rfl,HI⟩:=hrel
     by_cases hlt:k<s.size
     ·have hki:(k:Int)<(s.size:Int):=by omega
      go_wp2_with fail
      refine (HN.out _ _).mono ?_
      rintro e w' ⟨rfl,rfl⟩
      cases hn:Fm.inN s[k]
      ·go_wp2_with fail
       go_ret
       exact ⟨ret_bool (HF.out k hlt hk1 hn).symm,rfl⟩
      ·go_wp2_with fail
       go_round
       case rel=>exact ⟨k+1,by omega,by omega,by go_num,fun j hj h1 h2=>by
        by_cases e:j=k
        ·subst e;exact hn
        ·exact HI.out j hj h1 (by omega)⟩
       case measure=>simp [intOf];omega
     ·go_wp2_with fail
      refine (HT.out _).mono ?_
      rintro e w' ⟨rfl,rfl⟩
      go_wp2_with fail
      go_ret
      exact ⟨ret_bool (HW.out fun j hj h1=>HI.out j hj h1 (by omega)).symm,rfl⟩
end Go.Proofs.Ytoedidbbjnnpnaa.Wm
