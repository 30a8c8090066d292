import Derived.Test.YtkpbpecikibohaaGreatDoorProg
import Derived.Test.YtkpbpecikibohaaGreatDoorBG1
import Derived.WalkKit
import Derived.WalkLawsBesides
import Derived.WalkSpells
import Derived.ProofKit
import Derived.Deep.WholeRow
import Derived.Laws.BitsAllLaws
import Derived.Laws.ShiftsVarLaws
import Derived.Laws.ResultCell
import Derived.Deep.RegionHeld3
import Derived.Laws.CopyOwn
import Derived.ChangeKeysEq
import Derived.Deep.MidRow
set_option linter.unusedSimpArgs false
set_option maxRecDepth 100000
namespace Go.Proofs.YtkpbpecikibohaaGreatDoor.Bt
open Go.RowKit
open Bs (Ok wd)
def aG (r:List Nat):Array Value:=(r.map fun x:Nat=>Value.int .u64 (x:Int)).toArray
theorem gG {r:List Nat} (h:r.length=16):(aG r).size=16:=by simp[aG,h]
theorem lU {r:List Nat} {i:Nat} (h:i<r.length):(aG r)[i]?=some (.int .u64 (wd r i:Int)):=by
 rw[Bs.Dm h]
 simp[aG,h]
theorem qJ (r:List Nat) (i x:Nat):(aG r).setIfInBounds i (.int .u64 (x:Int))=aG (r.set i x):=by
 simp[aG,List.map_set]
theorem IZ (r:List Nat):(aG r).all (·.oneCell')=true:=by
 simp[aG,Value.oneCell']
theorem qK:(Tryz.prog.info? 51).map (·.size)=some 16:=by kernel_rfl
theorem gB {k:IntKind} {a b:Int} (h:a=b):Value.int k a=Value.int k b:=by rw[h]
theorem ak (w:World) (o:Obj):Below w.heap.size w (w.alloc o):=(Below.refl _ _).alloc (Nat.le_refl _) _
theorem Bg (w:World) (n:Int):Calls Tryz.prog 162 #[.int .i64 n] w fun e w'=>e=.returned (.bool (decide (0<=n) && decide (n<1024)))/\w'=w:=by
 by_cases h:0<=n
 ·go_enter Tryz.func162,Tryz.ntmps162
  go_wp2
  go_ret
  exact⟨by simp[h],rfl⟩
 ·go_enter Tryz.func162,Tryz.ntmps162
  go_wp2
  go_ret
  exact⟨by rw[decide_eq_false (show ¬ 0<=n by omega)];rfl,rfl⟩
theorem Ql (n:Nat):IntKind.u64.wrap (2 ^ (n % 64))=((2 ^ (n % 64):Nat):Int):=by
 have:=Bs.tY (Nat.mod_lt n (show 64 > 0 by omega))
 rw[IntKind.wrap_u64,show(2:Int) ^ (n % 64)=((2 ^ (n % 64):Nat):Int) by simp]
 generalize 2 ^ (n % 64)=p at *
 omega
theorem Bh (w:World) (n:Nat) (hn:n<1024):Calls Tryz.prog 163 #[.int .i64 (n:Int)] w fun e w'=>e=.returned (.tuple #[.int .i64 ((n / 64:Nat):Int),.int .u64 ((2 ^ (n % 64):Nat):Int)])/\w'=w.drew:=by
 go_enter Tryz.func163,Tryz.ntmps163
 go_wp2
 go_region
 go_wp2
 go_ret2
 exact⟨by rw[<- Ql];rfl,rfl⟩
def dK (w:World) (g:Nat) (r:List Nat):Prop:=w.heap[g]?=some (.cells (aG r) 51 (0,0))
theorem eD (w:World) (a b:Obj):((w.alloc a).alloc b).heap[w.heap.size]?=some a/\((w.alloc a).alloc b).heap[w.heap.size+1]?=some b:=by
 constructor
 ·show((w.heap.push a).push b)[w.heap.size]?=some a
  rw[Array.getElem?_push_lt (by simp)]
  simp
 ·show((w.heap.push a).push b)[w.heap.size+1]?=some b
  have:w.heap.size+1=(w.heap.push a).size:=by simp
  rw[this,Array.getElem?_push_size]
theorem jk (w:World) (a b:Obj):Below w.heap.size w ((w.alloc a).alloc b):=(ak w a).alloc (by rw[World.size_alloc];omega) b
theorem l6:Tryz.prog.underlying 51=some (.array 16 49):=by kernel_rfl
theorem LD (w:World) (g:Nat) {r:List Nat} (h:dK w g r) (hs:r.length=16):(Instr.loadAt 51 (.pointer (some ⟨g,0,none⟩))).run Tryz.prog w=.ok (.agg (aG r)) w:=by
 simp only[Instr.loadAt,Instr.sureAddr,Sem.run_bind,Sem.run_pure,Result.andThen]
 exact run_loadVar_row w g 51 51 (aG r) (0,0) _ h l6 rfl (by rw[qK,gG hs])
theorem RG (w:World) (g:Nat) {r r':List Nat} (h:dK w g r) (hs:r.length=16) (hs':r'.length=16):(Instr.storeAt 51 (.pointer (some ⟨g,0,none⟩)) (.agg (aG r'))).run Tryz.prog w=.ok () (w.setRow g (aG r')):=by
 simp only[Instr.storeAt,Instr.sureAddr,Sem.run_bind,Sem.run_pure,Result.andThen]
 exact run_storeVar_row w g 51 51 (aG r) (aG r') h (by rw[qK,gG hs']) (by rw[gG hs,gG hs']) (IZ r')
theorem wpList_want {ops:Array Oper} {rest:List Oper} {o:Oper} {a:Act} {w:World} {Q:Exit->Act->World->Prop} (hw:Region.wanted o (yielded ops a.tmps)=true)
 (h:∀ K:Act->World->Prop,(∀ a w,wpList Tryz.prog ops Q rest a w->K a w)->o.wp Tryz.prog a w K Q):wpList Tryz.prog ops Q (o :: rest) a w :=
 wpList_step fun K hK=>by rw[if_pos hw];exact h K hK
theorem kR {ops:Array Oper} {rest:List Oper} {o:Oper} {a:Act} {Q:Exit->Act->World->Prop} (w:World) (hg:Region.wanted o (yielded ops a.tmps)=true) (x:Operand) (hop:o.op=Op.load 51 x) (g:Nat) (hx:a.eval x=.pointer (some ⟨g,0,none⟩))
 {r:List Nat} (h:dK w g r) (hs:r.length=16) (hK:wpList Tryz.prog ops Q rest (a.put o.dst (.agg (aG r))) w):wpList Tryz.prog ops Q (o :: rest) a w:=by
 refine wpList_want hg fun K' hK' => ?_
 have hrun:=LD w g h hs
 unfold Oper.wp
 simp[execOp,hop,hx,hrun,Result.andThen]
 exact hK' _ _ hK
theorem gL {ops:Array Oper} {rest:List Oper} {o:Oper} {a:Act} {Q:Exit->Act->World->Prop} (w:World) (hg:o.guard=none) (hd:o.dst=none) (x y:Operand) (hop:o.op=Op.store 51 x y) (g:Nat) (hx:a.eval x=.pointer (some ⟨g,0,none⟩))
 {r':List Nat} (hy:a.eval y=.agg (aG r')) {r:List Nat} (h:dK w g r) (hs:r.length=16) (hs':r'.length=16) (hK:wpList Tryz.prog ops Q rest a (w.setRow g (aG r'))):wpList Tryz.prog ops Q (o :: rest) a w:=by
 refine wpList_plain hg fun K' hK' => ?_
 have hrun:=RG w g h hs hs'
 unfold Oper.wp
 simp[execOp,hop,hx,hy,hrun,Result.andThen]
 rw[Oper.upon_skip,hd]
 exact hK' _ _ hK
theorem dK.setRow {w:World} {g:Nat} {r:List Nat} (h:dK w g r) (r':List Nat):dK (w.setRow g (aG r')) g r':=setRow_heap w g _ _ _ _ h
theorem q9 {fn:Func} {p:Tmp} (h:fn.results=#[.cell p 51]) (tmps:Array Value) (w:World) (g:Nat) {r:List Nat} (hp:tmps.getD p undef=.pointer (some ⟨g,0,none⟩)) (hr:dK w g r) (hs:r.length=16) :
 (results fn tmps).run Tryz.prog w=.ok (.agg (aG r)) w :=
 results_cell_row h tmps w g _ (aG r) _ _ hp hr l6 rfl (by rw[qK,gG hs])
theorem jA {fn:Func} {p t2:Tmp} (h:fn.results=#[.cell p 51,.tmp t2]) (tmps:Array Value) (w:World) (g:Nat) {r:List Nat} (hp:tmps.getD p undef=.pointer (some ⟨g,0,none⟩)) (hr:dK w g r) (hs:r.length=16) :
 (results fn tmps).run Tryz.prog w=.ok (.tuple #[.agg (aG r),tmps.getD t2 undef]) w:=by
 rw[results_cell_tmp h,hp]
 simp[asAddr,run_loadVar_row w g 51 51 (aG r) (0,0) _ hr l6 rfl (by rw[qK,gG hs]),Result.andThen]
theorem dK.keep {w w':World} {g n:Nat} {r:List Nat} (h:dK w g r) (hb:Below n w w') (hg:g<n):dK w' g r:=(hb.block g hg).trans h
theorem dK.cell {w:World} {g:Nat} {r:List Nat} (h:dK w g r) {i:Nat} (hi:i<r.length):w.cell? ⟨g,i,none⟩=some (.int .u64 (wd r i:Int)):=by rw[cell_of_row w g i _ _ _ h,lU hi]
theorem dK.fr {w:World} {g:Nat} {r:List Nat} (h:dK w g r) (i:Nat):w.frozen? ⟨g,i,none⟩=false:=frozen_of_row w g i _ _ h
theorem dK.setCell {w:World} {g:Nat} {r:List Nat} (h:dK w g r) (i x:Nat):dK (w.setCell ⟨g,i,none⟩ (.int .u64 (x:Int))) g (r.set i x):=by
 have:=heap_setCell_same w g i (aG r) 51 (.int .u64 (x:Int)) h
 rw[qJ] at this
 exact this
theorem GJ:Tryz.prog.underlying 49=some (.int .u64):=by kernel_rfl
theorem z8:Tryz.prog.cellsOf 49=1:=by kernel_rfl
theorem Xh (w:World):(isAgg 49).run Tryz.prog w=.ok false w:=by
 simp[isAgg,run_underlying GJ]
theorem vP (w:World) {p:List Nat} {i:Nat} (hi:i<p.length):(part 49 (aG p) i).run Tryz.prog w=.ok (.int .u64 (wd p i:Int)) w:=by
 simp only[part,Sem.run_bind,Xh,Result.andThen_ok,Bool.false_eq_true,if_false,lU hi]
 rfl
theorem vQ (w:World) (d:Nat) {p q:List Nat} (hp:p.length=16) (hq:q.length=16):∀ is:List Nat,(∀ i ∈ is,i<16)->(Op.eqItems (d+1) 49 1 (aG p) (aG q) is).run Tryz.prog w=.ok (is.all fun i=>wd p i == wd q i) w
 | [],_=>rfl
 | i :: is,h=>by
  have hi:=h i List.mem_cons_self
  have ih:=vQ w d hp hq is (fun j hj=>h j (List.mem_cons_of_mem _ hj))
  have e1:(Op.equalIn (d+1) 49 (.int .u64 (wd p i:Int)) (.int .u64 (wd q i:Int))).run Tryz.prog w=.ok (wd p i == wd q i) w:=by
   simp only[Op.equalIn,Sem.run_bind,run_underlying GJ,Result.andThen_ok,if_true,Sem.run_pure]
   congr 1
   rw[Bool.eq_iff_iff]
   simp only[beq_iff_eq]
   omega
  simp only[Op.eqItems,Sem.run_bind,Nat.mul_one,vP w (show i<p.length by omega),vP w (show i<q.length by omega),Result.andThen_ok,e1]
  cases h1:(wd p i == wd q i)
  ·simp[h1]
  ·simp only[Bool.not_true,Bool.false_eq_true,if_false,ih,List.all_cons,h1,Bool.true_and]
theorem Bj (w:World) {m:Nat} (hm:m<1024):Calls Tryz.prog 162 #[.int .i64 (m:Int)] w fun e w'=>e=.returned (.bool true)/\w'=w:=by
 have:=Bg w (m:Int)
 rwa [show(decide (0<=(m:Int)) && decide ((m:Int)<1024))=true by simp;omega] at this
theorem Dp (w:World) {n:Int} (hn:¬ (0<=n/\n<1024)):Calls Tryz.prog 162 #[.int .i64 n] w fun e w'=>e=.returned (.bool false)/\w'=w:=by
 have:=Bg w n
 have hI:(decide (0<=n) && decide (n<1024))=false:=by
  cases h:(decide (0<=n) && decide (n<1024))
  ·rfl
  ·exfalso;apply hn;simpa using h
 rwa [hI] at this
theorem eB {x y:Bool} (h:x=y):Ending.returned (.bool x)=Ending.returned (.bool y):=by rw[h]
def iP (r:List Nat) (n:Int):List Nat × Int:=if 0<=n/\n<1024 then (Bs.put r n.toNat,0) else (Bs.zero,50)
def bT (r:List Nat) (n:Int):List Nat:=if 0<=n/\n<1024 then Bs.drop r n.toNat else r
theorem kH (r:List Nat) {m:Nat} (hm:m<1024):iP r (m:Int)=(Bs.put r m,0):=by rw[iP,if_pos (by omega)];rfl
theorem Dq (r:List Nat) {n:Int} (hn:¬ (0<=n/\n<1024)):iP r n=(Bs.zero,50):=by rw[iP,if_neg hn]
theorem jl (r:List Nat) {m:Nat} (hm:m<1024):bT r (m:Int)=Bs.drop r m:=by rw[bT,if_pos (by omega)];rfl
theorem LG (r:List Nat) {n:Int} (hn:¬ (0<=n/\n<1024)):bT r n=r:=by rw[bT,if_neg hn]
theorem Od (w:World) {r:List Nat} (hr:Ok r) (m:Nat) (hm:m<1024):Calls Tryz.prog 31 #[.agg (aG r),.int .i64 (m:Int)] w fun e w'=>e=.returned (.agg (aG (Bs.put r m)))/\Below w.heap.size w w':=by
 have hq:m / 64<16:=by omega
 have hc:=lU (r:=r) (i:=m / 64) (by rw[hr.1];exact hq)
 have hor:=u64_or_nat (wd r (m / 64)) (2 ^ (m % 64)) (Bs.nX hr _) (Bs.tY (Nat.mod_lt _ (by omega)))
 have hset:=qJ r (m / 64) (wd r (m / 64) ||| 2 ^ (m % 64))
 have hp:=Ql m
 have HS:=show Hid ((Bs.put r m).length=16) from(Bs.jy hr m).1
 rw[show r.set (m / 64) (wd r (m / 64) ||| 2 ^ (m % 64))=Bs.put r m from rfl,<- hor,<- hp] at hset
 generalize Bs.put r m=r' at *
 generalize wd r (m / 64)=x at *
 clear hor hp
 go_enter Tryz.func31,Tryz.ntmps31
 go_wp2_with (first|(refine kR _ rfl _ rfl _ rfl (r:=r') (eD w _ _).1 HS.out ?_)|(refine gL _ rfl rfl _ _ rfl _ rfl rfl (r:=Bs.zero) (eD w _ _).2 Bs.fH.1 HS.out ?_))
 refine bodyPost_ret (q9 rfl _ _ (w.heap.size+1) (r:=r') rfl (dK.setRow (r:=Bs.zero) (eD w _ _).2 r') HS.out) rfl ?_
 exact⟨rfl,below_setRow (jk w _ _) (Nat.le_succ _) _⟩
theorem xZ (w:World) {r:List Nat} (hr:Ok r) (n:Int):Calls Tryz.prog 14 #[.agg (aG r),.int .i64 n] w fun e w'=>e=.returned (.tuple #[.agg (aG (iP r n).1),.int .i64 (iP r n).2])/\Below w.heap.size w w':=by
 by_cases hn:0<=n/\n<1024
 ·obtain⟨m,rfl⟩:=Int.eq_ofNat_of_zero_le hn.1
  have hm:m<1024:=by omega
  have HP:=show Hid (iP r (m:Int)=(Bs.put r m,0)) from kH r hm
  have KW:=show Hid (∀ w,Calls Tryz.prog 31 #[.agg (aG r),.int .i64 (m:Int)] w fun e w'=>e=.returned (.agg (aG (Bs.put r m)))/\Below w.heap.size w w') from fun w=>Od w hr m hm
  have HS:=show Hid ((Bs.put r m).length=16) from(Bs.jy hr m).1
  have HR:=show Hid (r.length=16) from hr.1
  generalize Bs.put r m=r' at *
  clear hn
  go_enter Tryz.func14,Tryz.ntmps14
  go_wp2_with (first|(refine kR _ rfl _ rfl _ rfl (r:=r) (eD w _ _).1 HR.out ?_)|(go_at_call 31;refine(KW.out _).mono ?_;rintro e w1 ⟨rfl,hb⟩;have HB:=show Hid (dK w1 (w.heap.size+1) Bs.zero) from(hb.block _ (by simp)).trans (eD w _ _).2;have HC:=show Hid (Below w.heap.size w w1) from(jk w _ _).trans (hb.mono (by simp;omega));clear hb)|(refine gL _ rfl rfl _ _ rfl _ rfl rfl (r:=Bs.zero) HB.out Bs.fH.1 HS.out ?_))
  refine bodyPost_ret (jA rfl _ _ (w.heap.size+1) (r:=r') rfl (dK.setRow (r:=Bs.zero) HB.out r') HS.out) rfl ?_
  exact⟨by rw[HP.out];rfl,below_setRow HC.out (Nat.le_succ _) _⟩
 ·have HP:=show Hid (iP r n=(Bs.zero,50)) from Dq r hn
  by_cases h0:0<=n
  ·have h1:¬ n<1024:=fun h=>hn ⟨h0,h⟩
   clear hn
   go_enter Tryz.func14,Tryz.ntmps14
   go_wp2_with (refine gL _ rfl rfl _ _ rfl _ rfl (r':=Bs.zero) rfl (r:=Bs.zero) (eD w _ _).2 Bs.fH.1 Bs.fH.1 ?_)
   refine bodyPost_ret (jA rfl _ _ (w.heap.size+1) (r:=Bs.zero) rfl (dK.setRow (r:=Bs.zero) (eD w _ _).2 Bs.zero) Bs.fH.1) rfl ?_
   exact⟨by rw[HP.out];rfl,below_setRow (jk w _ _) (Nat.le_succ _) _⟩
  ·clear hn
   go_enter Tryz.func14,Tryz.ntmps14
   go_wp2_with (refine gL _ rfl rfl _ _ rfl _ rfl (r':=Bs.zero) rfl (r:=Bs.zero) (eD w _ _).2 Bs.fH.1 Bs.fH.1 ?_)
   refine bodyPost_ret (jA rfl _ _ (w.heap.size+1) (r:=Bs.zero) rfl (dK.setRow (r:=Bs.zero) (eD w _ _).2 Bs.zero) Bs.fH.1) rfl ?_
   exact⟨by rw[HP.out];rfl,below_setRow (jk w _ _) (Nat.le_succ _) _⟩
theorem wN (w:World) {r:List Nat} (hr:Ok r) (n:Int):Calls Tryz.prog 154 #[.agg (aG r),.int .i64 n] w fun e w'=>e=.returned (.tuple #[.agg (aG (iP r n).1),.int .i64 (iP r n).2])/\Below w.heap.size w w':=by
 by_cases hn:0<=n/\n<1024
 ·obtain⟨m,rfl⟩:=Int.eq_ofNat_of_zero_le hn.1
  have hm:m<1024:=by omega
  have HP:=show Hid (iP r (m:Int)=(Bs.put r m,0)) from kH r hm
  have KI:=show Hid (∀ w,Calls Tryz.prog 162 #[.int .i64 (m:Int)] w fun e w'=>e=.returned (.bool true)/\w'=w) from fun w=>Bj w hm
  have KP:=show Hid (∀ w,Calls Tryz.prog 163 #[.int .i64 (m:Int)] w fun e w'=>e=.returned (.tuple #[.int .i64 ((m / 64:Nat):Int),.int .u64 ((2 ^ (m % 64):Nat):Int)])/\w'=w.drew) from fun w=>Bh w m hm
  have hq:m / 64<16:=by omega
  have hc:=lU (r:=r) (i:=m / 64) (by rw[hr.1];exact hq)
  have hor:=u64_or_nat (wd r (m / 64)) (2 ^ (m % 64)) (Bs.nX hr _) (Bs.tY (Nat.mod_lt _ (by omega)))
  have hset:=qJ r (m / 64) (wd r (m / 64) ||| 2 ^ (m % 64))
  have HS:=show Hid ((Bs.put r m).length=16) from(Bs.jy hr m).1
  rw[show r.set (m / 64) (wd r (m / 64) ||| 2 ^ (m % 64))=Bs.put r m from rfl] at hset
  generalize Bs.put r m=r' at *
  generalize m / 64=q at *
  generalize 2 ^ (m % 64)=p at *
  generalize wd r q=x at *
  clear hn
  go_enter Tryz.func154,Tryz.ntmps154
  go_wp2_with (first|(go_at_call 162;refine(KI.out _).mono ?_;rintro e w' ⟨rfl,rfl⟩)|(go_at_call 163;refine(KP.out _).mono ?_;rintro e w' ⟨rfl,rfl⟩)|(refine kR _ rfl _ rfl _ rfl (r:=r') (eD w _ _).1 HS.out ?_)|(refine gL _ rfl rfl _ _ rfl _ rfl rfl (r:=Bs.zero) (eD w _ _).2 Bs.fH.1 HS.out ?_))
  refine bodyPost_ret (jA rfl _ _ (w.heap.size+1) (r:=r') rfl (dK.setRow (r:=Bs.zero) (eD w _ _).2 r') HS.out) rfl ?_
  exact⟨by rw[HP.out];rfl,below_setRow (jk w _ _).drew (Nat.le_succ _) _⟩
 ·have HP:=show Hid (iP r n=(Bs.zero,50)) from Dq r hn
  have KI:=show Hid (∀ w,Calls Tryz.prog 162 #[.int .i64 n] w fun e w'=>e=.returned (.bool false)/\w'=w) from fun w=>Dp w hn
  clear hn
  go_enter Tryz.func154,Tryz.ntmps154
  go_wp2_with (first|(go_at_call 162;refine(KI.out _).mono ?_;rintro e w' ⟨rfl,rfl⟩)|(refine gL _ rfl rfl _ _ rfl _ rfl (r':=Bs.zero) rfl (r:=Bs.zero) (eD w _ _).2 Bs.fH.1 Bs.fH.1 ?_))
  refine bodyPost_ret (jA rfl _ _ (w.heap.size+1) (r:=Bs.zero) rfl (dK.setRow (r:=Bs.zero) (eD w _ _).2 Bs.zero) Bs.fH.1) rfl ?_
  exact⟨by rw[HP.out];rfl,below_setRow (jk w _ _) (Nat.le_succ _) _⟩
theorem Oe (w:World) {r:List Nat} (hr:Ok r) (n:Int):Calls Tryz.prog 155 #[.agg (aG r),.int .i64 n] w fun e w'=>e=.returned (.agg (aG (bT r n)))/\Below w.heap.size w w':=by
 by_cases hn:0<=n/\n<1024
 ·obtain⟨m,rfl⟩:=Int.eq_ofNat_of_zero_le hn.1
  have hm:m<1024:=by omega
  have HP:=show Hid (bT r (m:Int)=Bs.drop r m) from jl r hm
  have KI:=show Hid (∀ w,Calls Tryz.prog 162 #[.int .i64 (m:Int)] w fun e w'=>e=.returned (.bool true)/\w'=w) from fun w=>Bj w hm
  have KP:=show Hid (∀ w,Calls Tryz.prog 163 #[.int .i64 (m:Int)] w fun e w'=>e=.returned (.tuple #[.int .i64 ((m / 64:Nat):Int),.int .u64 ((2 ^ (m % 64):Nat):Int)])/\w'=w.drew) from fun w=>Bh w m hm
  have hq:m / 64<16:=by omega
  have hc:=lU (r:=r) (i:=m / 64) (by rw[hr.1];exact hq)
  have hor:=u64_andNot_nat (wd r (m / 64)) (2 ^ (m % 64)) (Bs.nX hr _) (Bs.tY (Nat.mod_lt _ (by omega)))
  have hset:=qJ r (m / 64) (wd r (m / 64) &&& (18446744073709551615 - 2 ^ (m % 64)))
  have HS:=show Hid ((Bs.drop r m).length=16) from(Bs.nH hr m).1
  rw[show r.set (m / 64) (wd r (m / 64) &&& (18446744073709551615 - 2 ^ (m % 64)))=Bs.drop r m from rfl] at hset
  generalize Bs.drop r m=r' at *
  generalize m / 64=q at *
  generalize 2 ^ (m % 64)=p at *
  generalize wd r q=x at *
  clear hn
  go_enter Tryz.func155,Tryz.ntmps155
  go_wp2_with (first|(go_at_call 162;refine(KI.out _).mono ?_;rintro e w' ⟨rfl,rfl⟩)|(go_at_call 163;refine(KP.out _).mono ?_;rintro e w' ⟨rfl,rfl⟩)|(refine kR _ rfl _ rfl _ rfl (r:=r') (eD w _ _).1 HS.out ?_)|(refine gL _ rfl rfl _ _ rfl _ rfl rfl (r:=Bs.zero) (eD w _ _).2 Bs.fH.1 HS.out ?_))
  refine bodyPost_ret (q9 rfl _ _ (w.heap.size+1) (r:=r') rfl (dK.setRow (r:=Bs.zero) (eD w _ _).2 r') HS.out) rfl ?_
  exact⟨by rw[HP.out],below_setRow (jk w _ _).drew (Nat.le_succ _) _⟩
 ·have HP:=show Hid (bT r n=r) from LG r hn
  have KI:=show Hid (∀ w,Calls Tryz.prog 162 #[.int .i64 n] w fun e w'=>e=.returned (.bool false)/\w'=w) from fun w=>Dp w hn
  have HR:=show Hid (r.length=16) from hr.1
  clear hn
  go_enter Tryz.func155,Tryz.ntmps155
  go_wp2_with (first|(go_at_call 162;refine(KI.out _).mono ?_;rintro e w' ⟨rfl,rfl⟩)|(refine kR _ rfl _ rfl _ rfl (r:=r) (eD w _ _).1 HR.out ?_)|(refine gL _ rfl rfl _ _ rfl _ rfl rfl (r:=Bs.zero) (eD w _ _).2 Bs.fH.1 HR.out ?_))
  refine bodyPost_ret (q9 rfl _ _ (w.heap.size+1) (r:=r) rfl (dK.setRow (r:=Bs.zero) (eD w _ _).2 r) HR.out) rfl ?_
  exact⟨by rw[HP.out],below_setRow (jk w _ _) (Nat.le_succ _) _⟩
def bP (r:List Nat):List Value:=r.map fun x:Nat=>Value.int .u64 (x:Int)
theorem dK.range {w:World} {g:Nat} {r:List Nat} (h:dK w g r):w.rangeAt g 0 (bP r):=fun j v hv=>by
 rw[Nat.zero_add,cell_of_row w g j _ _ _ h]
 simpa[aG,bP] using hv
theorem mO {z:Nat}:(((z:Int)) != 0)=(z != 0):=by
 rw[Bool.eq_iff_iff];simp
theorem qQ {x y:Int} (h:x=y):Ending.returned (.int .i64 x)=Ending.returned (.int .i64 y):=by rw[h]
section
variable {ops:Array Oper} {Q:Exit->Act->World->Prop} {S:World->Prop} {fuel:Nat} {listed:Array Bool} {a:Act} {w:World}
end
theorem dK.lt {w:World} {g:Nat} {r:List Nat} (h:dK w g r):g<w.heap.size:=(Array.getElem?_eq_some_iff.1 h).1
end Go.Proofs.YtkpbpecikibohaaGreatDoor.Bt
