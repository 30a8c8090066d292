import Derived.Test.YtkejippimkjjaaaGreatDoorProg
import Derived.Test.YtkejippimkjjaaaGreatDoorBG1
import Derived.WalkKit
import Derived.WalkLawsBesides
import Derived.WalkSpells
import Derived.ProofKit
import Derived.Deep.WholeRow
import Derived.Laws.BitsAllLaws
import Derived.Laws.ShiftsVarLaws
import Derived.Laws.ResultCell
import Derived.Deep.RegionHeld3
import Derived.Laws.CopyOwn
import Derived.ChangeKeysEq
import Derived.Deep.MidRow
set_option linter.unusedSimpArgs false
set_option maxRecDepth 100000
namespace Go.Proofs.YtkejippimkjjaaaGreatDoor.Bt
open Go.RowKit
open Bs (Ok wd)
def aD (r:List Nat):Array Value:=(r.map fun x:Nat=>Value.int .u64 (x:Int)).toArray
theorem jl {r:List Nat} (h:r.length=16):(aD r).size=16:=by simp[aD,h]
theorem kD {r:List Nat} {i:Nat} (h:i<r.length):(aD r)[i]?=some (.int .u64 (wd r i:Int)):=by
 rw[Bs.Ay h]
 simp[aD,h]
theorem pV (r:List Nat) (i x:Nat):(aD r).setIfInBounds i (.int .u64 (x:Int))=aD (r.set i x):=by
 simp[aD,List.map_set]
theorem FJ (r:List Nat):(aD r).all (·.oneCell')=true:=by
 simp[aD,Value.oneCell']
theorem sN:(Tryz.prog.info? 25).map (·.size)=some 16:=by kernel_rfl
theorem fG {k:IntKind} {a b:Int} (h:a=b):Value.int k a=Value.int k b:=by rw[h]
theorem av (w:World) (o:Obj):Below w.heap.size w (w.alloc o):=(Below.refl _ _).alloc (Nat.le_refl _) _
theorem zn (w:World) (n:Int):Calls Tryz.prog 117 #[.int .i64 n] w fun e w'=>e=.returned (.bool (decide (0<=n) && decide (n<1024)))/\w'=w:=by
 by_cases h:0<=n
 ·go_enter Tryz.func117,Tryz.ntmps117
  go_wp2
  go_ret
  exact⟨by simp[h],rfl⟩
 ·go_enter Tryz.func117,Tryz.ntmps117
  go_wp2
  go_ret
  exact⟨by rw[decide_eq_false (show ¬ 0<=n by omega)];rfl,rfl⟩
theorem FK (n:Nat):IntKind.u64.wrap (2 ^ (n % 64))=((2 ^ (n % 64):Nat):Int):=by
 have:=Bs.oM (Nat.mod_lt n (show 64 > 0 by omega))
 rw[IntKind.wrap_u64,show(2:Int) ^ (n % 64)=((2 ^ (n % 64):Nat):Int) by simp]
 generalize 2 ^ (n % 64)=p at *
 omega
theorem zo (w:World) (n:Nat) (hn:n<1024):Calls Tryz.prog 118 #[.int .i64 (n:Int)] w fun e w'=>e=.returned (.tuple #[.int .i64 ((n / 64:Nat):Int),.int .u64 ((2 ^ (n % 64):Nat):Int)])/\w'=w.drew:=by
 go_enter Tryz.func118,Tryz.ntmps118
 go_wp2
 go_region
 go_wp2
 go_ret2
 exact⟨by rw[<- FK];rfl,rfl⟩
def dw (w:World) (g:Nat) (r:List Nat):Prop:=w.heap[g]?=some (.cells (aD r) 25 (0,0))
theorem fM (w:World) (a b:Obj):((w.alloc a).alloc b).heap[w.heap.size]?=some a/\((w.alloc a).alloc b).heap[w.heap.size+1]?=some b:=by
 constructor
 ·show((w.heap.push a).push b)[w.heap.size]?=some a
  rw[Array.getElem?_push_lt (by simp)]
  simp
 ·show((w.heap.push a).push b)[w.heap.size+1]?=some b
  have:w.heap.size+1=(w.heap.push a).size:=by simp
  rw[this,Array.getElem?_push_size]
theorem kE (w:World) (a b:Obj):Below w.heap.size w ((w.alloc a).alloc b):=(av w a).alloc (by rw[World.size_alloc];omega) b
theorem lZ:Tryz.prog.underlying 25=some (.array 16 23):=by kernel_rfl
theorem Ik (w:World) (g:Nat) {r:List Nat} (h:dw w g r) (hs:r.length=16):(Instr.loadAt 25 (.pointer (some ⟨g,0,none⟩))).run Tryz.prog w=.ok (.agg (aD r)) w:=by
 simp only[Instr.loadAt,Instr.sureAddr,Sem.run_bind,Sem.run_pure,Result.andThen]
 exact run_loadVar_row w g 25 25 (aD r) (0,0) _ h lZ rfl (by rw[sN,jl hs])
theorem OH (w:World) (g:Nat) {r r':List Nat} (h:dw w g r) (hs:r.length=16) (hs':r'.length=16):(Instr.storeAt 25 (.pointer (some ⟨g,0,none⟩)) (.agg (aD r'))).run Tryz.prog w=.ok () (w.setRow g (aD r')):=by
 simp only[Instr.storeAt,Instr.sureAddr,Sem.run_bind,Sem.run_pure,Result.andThen]
 exact run_storeVar_row w g 25 25 (aD r) (aD r') h (by rw[sN,jl hs']) (by rw[jl hs,jl hs']) (FJ r')
theorem wpList_want {ops:Array Oper} {rest:List Oper} {o:Oper} {a:Act} {w:World} {Q:Exit->Act->World->Prop} (hw:Region.wanted o (yielded ops a.tmps)=true)
 (h:∀ K:Act->World->Prop,(∀ a w,wpList Tryz.prog ops Q rest a w->K a w)->o.wp Tryz.prog a w K Q):wpList Tryz.prog ops Q (o :: rest) a w :=
 wpList_step fun K hK=>by rw[if_pos hw];exact h K hK
theorem kQ {ops:Array Oper} {rest:List Oper} {o:Oper} {a:Act} {Q:Exit->Act->World->Prop} (w:World) (hg:Region.wanted o (yielded ops a.tmps)=true) (x:Operand) (hop:o.op=Op.load 25 x) (g:Nat) (hx:a.eval x=.pointer (some ⟨g,0,none⟩))
 {r:List Nat} (h:dw w g r) (hs:r.length=16) (hK:wpList Tryz.prog ops Q rest (a.put o.dst (.agg (aD r))) w):wpList Tryz.prog ops Q (o :: rest) a w:=by
 refine wpList_want hg fun K' hK' => ?_
 have hrun:=Ik w g h hs
 unfold Oper.wp
 simp[execOp,hop,hx,hrun,Result.andThen]
 exact hK' _ _ hK
theorem iP {ops:Array Oper} {rest:List Oper} {o:Oper} {a:Act} {Q:Exit->Act->World->Prop} (w:World) (hg:o.guard=none) (hd:o.dst=none) (x y:Operand) (hop:o.op=Op.store 25 x y) (g:Nat) (hx:a.eval x=.pointer (some ⟨g,0,none⟩))
 {r':List Nat} (hy:a.eval y=.agg (aD r')) {r:List Nat} (h:dw w g r) (hs:r.length=16) (hs':r'.length=16) (hK:wpList Tryz.prog ops Q rest a (w.setRow g (aD r'))):wpList Tryz.prog ops Q (o :: rest) a w:=by
 refine wpList_plain hg fun K' hK' => ?_
 have hrun:=OH w g h hs hs'
 unfold Oper.wp
 simp[execOp,hop,hx,hy,hrun,Result.andThen]
 rw[Oper.upon_skip,hd]
 exact hK' _ _ hK
theorem dw.setRow {w:World} {g:Nat} {r:List Nat} (h:dw w g r) (r':List Nat):dw (w.setRow g (aD r')) g r':=setRow_heap w g _ _ _ _ h
theorem lQ {fn:Func} {p:Tmp} (h:fn.results=#[.cell p 25]) (tmps:Array Value) (w:World) (g:Nat) {r:List Nat} (hp:tmps.getD p undef=.pointer (some ⟨g,0,none⟩)) (hr:dw w g r) (hs:r.length=16) :
 (results fn tmps).run Tryz.prog w=.ok (.agg (aD r)) w :=
 results_cell_row h tmps w g _ (aD r) _ _ hp hr lZ rfl (by rw[sN,jl hs])
theorem qB {fn:Func} {p t2:Tmp} (h:fn.results=#[.cell p 25,.tmp t2]) (tmps:Array Value) (w:World) (g:Nat) {r:List Nat} (hp:tmps.getD p undef=.pointer (some ⟨g,0,none⟩)) (hr:dw w g r) (hs:r.length=16) :
 (results fn tmps).run Tryz.prog w=.ok (.tuple #[.agg (aD r),tmps.getD t2 undef]) w:=by
 rw[results_cell_tmp h,hp]
 simp[asAddr,run_loadVar_row w g 25 25 (aD r) (0,0) _ hr lZ rfl (by rw[sN,jl hs]),Result.andThen]
theorem dw.keep {w w':World} {g n:Nat} {r:List Nat} (h:dw w g r) (hb:Below n w w') (hg:g<n):dw w' g r:=(hb.block g hg).trans h
theorem dw.cell {w:World} {g:Nat} {r:List Nat} (h:dw w g r) {i:Nat} (hi:i<r.length):w.cell? ⟨g,i,none⟩=some (.int .u64 (wd r i:Int)):=by rw[cell_of_row w g i _ _ _ h,kD hi]
theorem dw.fr {w:World} {g:Nat} {r:List Nat} (h:dw w g r) (i:Nat):w.frozen? ⟨g,i,none⟩=false:=frozen_of_row w g i _ _ h
theorem dw.setCell {w:World} {g:Nat} {r:List Nat} (h:dw w g r) (i x:Nat):dw (w.setCell ⟨g,i,none⟩ (.int .u64 (x:Int))) g (r.set i x):=by
 have:=heap_setCell_same w g i (aD r) 25 (.int .u64 (x:Int)) h
 rw[pV] at this
 exact this
theorem dw.other {w:World} {g:Nat} {r:List Nat} (h:dw w g r) {p:Addr} (hp:g≠p.block) (v:Value):dw (w.setCell p v) g r:=(Below.heap_setCell w p v g hp).trans h
theorem yL:Tryz.prog.underlying 23=some (.int .u64):=by kernel_rfl
theorem vI:Tryz.prog.cellsOf 23=1:=by kernel_rfl
theorem Ud (w:World):(isAgg 23).run Tryz.prog w=.ok false w:=by
 simp[isAgg,run_underlying yL]
theorem ug (w:World) {p:List Nat} {i:Nat} (hi:i<p.length):(part 23 (aD p) i).run Tryz.prog w=.ok (.int .u64 (wd p i:Int)) w:=by
 simp only[part,Sem.run_bind,Ud,Result.andThen_ok,Bool.false_eq_true,if_false,kD hi]
 rfl
theorem uh (w:World) (d:Nat) {p q:List Nat} (hp:p.length=16) (hq:q.length=16):∀ is:List Nat,(∀ i ∈ is,i<16)->(Op.eqItems (d+1) 23 1 (aD p) (aD q) is).run Tryz.prog w=.ok (is.all fun i=>wd p i == wd q i) w
 | [],_=>rfl
 | i :: is,h=>by
  have hi:=h i List.mem_cons_self
  have ih:=uh w d hp hq is (fun j hj=>h j (List.mem_cons_of_mem _ hj))
  have e1:(Op.equalIn (d+1) 23 (.int .u64 (wd p i:Int)) (.int .u64 (wd q i:Int))).run Tryz.prog w=.ok (wd p i == wd q i) w:=by
   simp only[Op.equalIn,Sem.run_bind,run_underlying yL,Result.andThen_ok,if_true,Sem.run_pure]
   congr 1
   rw[Bool.eq_iff_iff]
   simp only[beq_iff_eq]
   omega
  simp only[Op.eqItems,Sem.run_bind,Nat.mul_one,ug w (show i<p.length by omega),ug w (show i<q.length by omega),Result.andThen_ok,e1]
  cases h1:(wd p i == wd q i)
  ·simp[h1]
  ·simp only[Bool.not_true,Bool.false_eq_true,if_false,ih,List.all_cons,h1,Bool.true_and]
theorem zq (w:World) {m:Nat} (hm:m<1024):Calls Tryz.prog 117 #[.int .i64 (m:Int)] w fun e w'=>e=.returned (.bool true)/\w'=w:=by
 have:=zn w (m:Int)
 rwa [show(decide (0<=(m:Int)) && decide ((m:Int)<1024))=true by simp;omega] at this
theorem AB (w:World) {n:Int} (hn:¬ (0<=n/\n<1024)):Calls Tryz.prog 117 #[.int .i64 n] w fun e w'=>e=.returned (.bool false)/\w'=w:=by
 have:=zn w n
 have hI:(decide (0<=n) && decide (n<1024))=false:=by
  cases h:(decide (0<=n) && decide (n<1024))
  ·rfl
  ·exfalso;apply hn;simpa using h
 rwa [hI] at this
theorem sO (r:List Nat) {m:Nat} (hm:m<1024):Bs.bX r (m:Int)=Bs.has r m:=by
 simp only[Bs.bX,show(decide (0<=(m:Int)) && decide ((m:Int)<1024))=true by simp;omega,Bool.true_and,Int.toNat_natCast]
theorem AJ (r:List Nat) {n:Int} (hn:¬ (0<=n/\n<1024)):Bs.bX r n=false:=by
 cases h:Bs.bX r n
 ·rfl
 ·exfalso
  simp only[Bs.bX,Bool.and_eq_true,decide_eq_true_iff] at h
  exact hn h.1
theorem aN {x y:Bool} (h:x=y):Ending.returned (.bool x)=Ending.returned (.bool y):=by rw[h]
def gF (r:List Nat) (n:Int):List Nat × Int:=if 0<=n/\n<1024 then (Bs.put r n.toNat,0) else (Bs.zero,50)
def aQ (r:List Nat) (n:Int):List Nat:=if 0<=n/\n<1024 then Bs.drop r n.toNat else r
theorem kH (r:List Nat) {m:Nat} (hm:m<1024):gF r (m:Int)=(Bs.put r m,0):=by rw[gF,if_pos (by omega)];rfl
theorem K4 (r:List Nat) {n:Int} (hn:¬ (0<=n/\n<1024)):gF r n=(Bs.zero,50):=by rw[gF,if_neg hn]
theorem iH (r:List Nat) {m:Nat} (hm:m<1024):aQ r (m:Int)=Bs.drop r m:=by rw[aQ,if_pos (by omega)];rfl
theorem zu (r:List Nat) {n:Int} (hn:¬ (0<=n/\n<1024)):aQ r n=r:=by rw[aQ,if_neg hn]
theorem OI {x:Nat} (s:Nat) (hx:x<18446744073709551616):(bits .and .u64 ((x:Int) / 2 ^ s) 1 == 1)=x.testBit s:=by
 have e:((x:Int) / 2 ^ s)=((x / 2 ^ s:Nat):Int):=by simp
 have hlt:x / 2 ^ s<18446744073709551616:=Nat.lt_of_le_of_lt (Nat.div_le_self _ _) hx
 have:=u64_and_nat (x / 2 ^ s) 1 hlt (by omega)
 rw[e,show(1:Int)=((1:Nat):Int) by rfl,this,Nat.testBit_eq_decide_div_mod_eq,Nat.and_one_is_mod]
 have h2:x / 2 ^ s % 2=0\/x / 2 ^ s % 2=1:=by omega
 rcases h2 with h | h <;> rw[h] <;> rfl
theorem cB (w:World) {r:List Nat} (hr:Ok r) (n:Int):Calls Tryz.prog 53 #[.agg (aD r),.int .i64 n] w fun e w'=>e=.returned (.bool (Bs.bX r n))/\w'=w.alloc (.cells (aD r) 25):=by
 by_cases hn:0<=n/\n<1024
 ·obtain⟨m,rfl⟩:=Int.eq_ofNat_of_zero_le hn.1
  have hm:m<1024:=by omega
  have HA:=show Hid (Bs.bX r (m:Int)=(wd r (m / 64)).testBit (m % 64)) from sO r hm
  have hq:m / 64<16:=by omega
  have hc:=kD (r:=r) (i:=m / 64) (by rw[hr.1];exact hq)
  have HB:=show Hid ((bits .and .u64 ((wd r (m / 64):Int) / 2 ^ (m % 64)) 1 == 1)=(wd r (m / 64)).testBit (m % 64)) from OI _ (Bs.lD hr _)
  generalize wd r (m / 64)=x at *
  clear hn
  go_enter Tryz.func53,Tryz.ntmps53
  go_wp2
  go_ret
  exact⟨aN (by rw[HA.out];exact HB.out),rfl⟩
 ·have HA:=show Hid (Bs.bX r n=false) from AJ r hn
  by_cases h0:0<=n
  ·have h1:¬ n<1024:=fun h=>hn ⟨h0,h⟩
   clear hn
   go_enter Tryz.func53,Tryz.ntmps53
   go_wp2
   go_ret
   exact⟨aN HA.out.symm,rfl⟩
  ·clear hn
   go_enter Tryz.func53,Tryz.ntmps53
   go_wp2
   go_ret
   exact⟨aN HA.out.symm,rfl⟩
theorem AL (w:World) {r:List Nat} (hr:Ok r) (m:Nat) (hm:m<1024):Calls Tryz.prog 101 #[.agg (aD r),.int .i64 (m:Int)] w fun e w'=>e=.returned (.agg (aD (Bs.put r m)))/\Below w.heap.size w w':=by
 have hq:m / 64<16:=by omega
 have hc:=kD (r:=r) (i:=m / 64) (by rw[hr.1];exact hq)
 have hor:=u64_or_nat (wd r (m / 64)) (2 ^ (m % 64)) (Bs.lD hr _) (Bs.oM (Nat.mod_lt _ (by omega)))
 have hset:=pV r (m / 64) (wd r (m / 64) ||| 2 ^ (m % 64))
 have hp:=FK m
 have HS:=show Hid ((Bs.put r m).length=16) from(Bs.kP hr m).1
 rw[show r.set (m / 64) (wd r (m / 64) ||| 2 ^ (m % 64))=Bs.put r m from rfl,<- hor,<- hp] at hset
 generalize Bs.put r m=r' at *
 generalize wd r (m / 64)=x at *
 clear hor hp
 go_enter Tryz.func101,Tryz.ntmps101
 go_wp2_with (first|(refine kQ _ rfl _ rfl _ rfl (r:=r') (fM w _ _).1 HS.out ?_)|(refine iP _ rfl rfl _ _ rfl _ rfl rfl (r:=Bs.zero) (fM w _ _).2 Bs.jK.1 HS.out ?_))
 refine bodyPost_ret (lQ rfl _ _ (w.heap.size+1) (r:=r') rfl (dw.setRow (r:=Bs.zero) (fM w _ _).2 r') HS.out) rfl ?_
 exact⟨rfl,below_setRow (kE w _ _) (Nat.le_succ _) _⟩
theorem vJ (w:World) {r:List Nat} (hr:Ok r) (n:Int):Calls Tryz.prog 109 #[.agg (aD r),.int .i64 n] w fun e w'=>e=.returned (.tuple #[.agg (aD (gF r n).1),.int .i64 (gF r n).2])/\Below w.heap.size w w':=by
 by_cases hn:0<=n/\n<1024
 ·obtain⟨m,rfl⟩:=Int.eq_ofNat_of_zero_le hn.1
  have hm:m<1024:=by omega
  have HP:=show Hid (gF r (m:Int)=(Bs.put r m,0)) from kH r hm
  have KI:=show Hid (∀ w,Calls Tryz.prog 117 #[.int .i64 (m:Int)] w fun e w'=>e=.returned (.bool true)/\w'=w) from fun w=>zq w hm
  have KP:=show Hid (∀ w,Calls Tryz.prog 118 #[.int .i64 (m:Int)] w fun e w'=>e=.returned (.tuple #[.int .i64 ((m / 64:Nat):Int),.int .u64 ((2 ^ (m % 64):Nat):Int)])/\w'=w.drew) from fun w=>zo w m hm
  have hq:m / 64<16:=by omega
  have hc:=kD (r:=r) (i:=m / 64) (by rw[hr.1];exact hq)
  have hor:=u64_or_nat (wd r (m / 64)) (2 ^ (m % 64)) (Bs.lD hr _) (Bs.oM (Nat.mod_lt _ (by omega)))
  have hset:=pV r (m / 64) (wd r (m / 64) ||| 2 ^ (m % 64))
  have HS:=show Hid ((Bs.put r m).length=16) from(Bs.kP hr m).1
  rw[show r.set (m / 64) (wd r (m / 64) ||| 2 ^ (m % 64))=Bs.put r m from rfl] at hset
  generalize Bs.put r m=r' at *
  generalize m / 64=q at *
  generalize 2 ^ (m % 64)=p at *
  generalize wd r q=x at *
  clear hn
  go_enter Tryz.func109,Tryz.ntmps109
  go_wp2_with (first|(go_at_call 117;refine(KI.out _).mono ?_;rintro e w' ⟨rfl,rfl⟩)|(go_at_call 118;refine(KP.out _).mono ?_;rintro e w' ⟨rfl,rfl⟩)|(refine kQ _ rfl _ rfl _ rfl (r:=r') (fM w _ _).1 HS.out ?_)|(refine iP _ rfl rfl _ _ rfl _ rfl rfl (r:=Bs.zero) (fM w _ _).2 Bs.jK.1 HS.out ?_))
  refine bodyPost_ret (qB rfl _ _ (w.heap.size+1) (r:=r') rfl (dw.setRow (r:=Bs.zero) (fM w _ _).2 r') HS.out) rfl ?_
  exact⟨by rw[HP.out];rfl,below_setRow (kE w _ _).drew (Nat.le_succ _) _⟩
 ·have HP:=show Hid (gF r n=(Bs.zero,50)) from K4 r hn
  have KI:=show Hid (∀ w,Calls Tryz.prog 117 #[.int .i64 n] w fun e w'=>e=.returned (.bool false)/\w'=w) from fun w=>AB w hn
  clear hn
  go_enter Tryz.func109,Tryz.ntmps109
  go_wp2_with (first|(go_at_call 117;refine(KI.out _).mono ?_;rintro e w' ⟨rfl,rfl⟩)|(refine iP _ rfl rfl _ _ rfl _ rfl (r':=Bs.zero) rfl (r:=Bs.zero) (fM w _ _).2 Bs.jK.1 Bs.jK.1 ?_))
  refine bodyPost_ret (qB rfl _ _ (w.heap.size+1) (r:=Bs.zero) rfl (dw.setRow (r:=Bs.zero) (fM w _ _).2 Bs.zero) Bs.jK.1) rfl ?_
  exact⟨by rw[HP.out];rfl,below_setRow (kE w _ _) (Nat.le_succ _) _⟩
theorem K5 (w:World) {r:List Nat} (hr:Ok r) (n:Int):Calls Tryz.prog 110 #[.agg (aD r),.int .i64 n] w fun e w'=>e=.returned (.agg (aD (aQ r n)))/\Below w.heap.size w w':=by
 by_cases hn:0<=n/\n<1024
 ·obtain⟨m,rfl⟩:=Int.eq_ofNat_of_zero_le hn.1
  have hm:m<1024:=by omega
  have HP:=show Hid (aQ r (m:Int)=Bs.drop r m) from iH r hm
  have KI:=show Hid (∀ w,Calls Tryz.prog 117 #[.int .i64 (m:Int)] w fun e w'=>e=.returned (.bool true)/\w'=w) from fun w=>zq w hm
  have KP:=show Hid (∀ w,Calls Tryz.prog 118 #[.int .i64 (m:Int)] w fun e w'=>e=.returned (.tuple #[.int .i64 ((m / 64:Nat):Int),.int .u64 ((2 ^ (m % 64):Nat):Int)])/\w'=w.drew) from fun w=>zo w m hm
  have hq:m / 64<16:=by omega
  have hc:=kD (r:=r) (i:=m / 64) (by rw[hr.1];exact hq)
  have hor:=u64_andNot_nat (wd r (m / 64)) (2 ^ (m % 64)) (Bs.lD hr _) (Bs.oM (Nat.mod_lt _ (by omega)))
  have hset:=pV r (m / 64) (wd r (m / 64) &&& (18446744073709551615 - 2 ^ (m % 64)))
  have HS:=show Hid ((Bs.drop r m).length=16) from(Bs.kY hr m).1
  rw[show r.set (m / 64) (wd r (m / 64) &&& (18446744073709551615 - 2 ^ (m % 64)))=Bs.drop r m from rfl] at hset
  generalize Bs.drop r m=r' at *
  generalize m / 64=q at *
  generalize 2 ^ (m % 64)=p at *
  generalize wd r q=x at *
  clear hn
  go_enter Tryz.func110,Tryz.ntmps110
  go_wp2_with (first|(go_at_call 117;refine(KI.out _).mono ?_;rintro e w' ⟨rfl,rfl⟩)|(go_at_call 118;refine(KP.out _).mono ?_;rintro e w' ⟨rfl,rfl⟩)|(refine kQ _ rfl _ rfl _ rfl (r:=r') (fM w _ _).1 HS.out ?_)|(refine iP _ rfl rfl _ _ rfl _ rfl rfl (r:=Bs.zero) (fM w _ _).2 Bs.jK.1 HS.out ?_))
  refine bodyPost_ret (lQ rfl _ _ (w.heap.size+1) (r:=r') rfl (dw.setRow (r:=Bs.zero) (fM w _ _).2 r') HS.out) rfl ?_
  exact⟨by rw[HP.out],below_setRow (kE w _ _).drew (Nat.le_succ _) _⟩
 ·have HP:=show Hid (aQ r n=r) from zu r hn
  have KI:=show Hid (∀ w,Calls Tryz.prog 117 #[.int .i64 n] w fun e w'=>e=.returned (.bool false)/\w'=w) from fun w=>AB w hn
  have HR:=show Hid (r.length=16) from hr.1
  clear hn
  go_enter Tryz.func110,Tryz.ntmps110
  go_wp2_with (first|(go_at_call 117;refine(KI.out _).mono ?_;rintro e w' ⟨rfl,rfl⟩)|(refine kQ _ rfl _ rfl _ rfl (r:=r) (fM w _ _).1 HR.out ?_)|(refine iP _ rfl rfl _ _ rfl _ rfl rfl (r:=Bs.zero) (fM w _ _).2 Bs.jK.1 HR.out ?_))
  refine bodyPost_ret (lQ rfl _ _ (w.heap.size+1) (r:=r) rfl (dw.setRow (r:=Bs.zero) (fM w _ _).2 r) HR.out) rfl ?_
  exact⟨by rw[HP.out],below_setRow (kE w _ _) (Nat.le_succ _) _⟩
def bK (r:List Nat):List Value:=r.map fun x:Nat=>Value.int .u64 (x:Int)
theorem dw.range {w:World} {g:Nat} {r:List Nat} (h:dw w g r):w.rangeAt g 0 (bK r):=fun j v hv=>by
 rw[Nat.zero_add,cell_of_row w g j _ _ _ h]
 simpa[aD,bK] using hv
theorem mE {z:Nat}:(((z:Int)) != 0)=(z != 0):=by
 rw[Bool.eq_iff_iff];simp
theorem vK {x y:Int} (h:x=y):Ending.returned (.int .i64 x)=Ending.returned (.int .i64 y):=by rw[h]
section
variable {ops:Array Oper} {Q:Exit->Act->World->Prop} {S:World->Prop} {fuel:Nat} {listed:Array Bool} {a:Act} {w:World}
end
theorem dw.lt {w:World} {g:Nat} {r:List Nat} (h:dw w g r):g<w.heap.size:=(Array.getElem?_eq_some_iff.1 h).1
section
variable {ops:Array Oper} {Q:Exit->Act->World->Prop} {S:World->Prop} {fuel:Nat} {listed:Array Bool} {a:Act} {w:World}
end
end Go.Proofs.YtkejippimkjjaaaGreatDoor.Bt
