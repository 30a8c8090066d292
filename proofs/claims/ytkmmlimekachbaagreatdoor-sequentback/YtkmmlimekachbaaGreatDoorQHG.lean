/-
  The law's call heads of layer 8: true, where the tables stand as the program's text lays them. No other condition. (Written by genqheads.py.)
-/
import Derived.Test.YtkmmlimekachbaaGreatDoorQG6
import Derived.Test.YtkmmlimekachbaaGreatDoorQParse
import Derived.Test.YtkmmlimekachbaaGreatDoorQG2
import Derived.Test.YtkmmlimekachbaaGreatDoorQG3
import Derived.Test.YtkmmlimekachbaaGreatDoorRG1
namespace Go.Proofs.YtkmmlimekachbaaGreatDoor
open Go.RowKit Go.Shelf Go.Maps
open Fm (Nd)
open Sx (Tn T)
open Bt.Bs (Ok wd)
def hP0:Nd:=atomN ⟨#[112]⟩
def hQ0:Nd:=atomN ⟨#[113]⟩
def B7:List Nat:=7 :: List.replicate 15 0
def hT3:List Nd:=[hP0,hQ0,joinN 3 0 1]
def hT5:List Nd:=[hP0,hQ0,joinN 3 0 1,joinN 3 2 2,joinN 5 3 1]
def hT8:List Nd:=[hP0,hQ0,joinN 3 0 1,joinN 3 2 2,joinN 5 3 1,joinN 5 2 1,joinN 5 1 5,joinN 5 0 6]
def hTE:Tn:=⟨3,⟨#[124,45]⟩,0,1,4,3⟩
theorem B7_ok:Ok B7:=⟨rfl,fun x hx=>by
 unfold B7 at hx
 rcases List.mem_cons.1 hx with h | h
 ·omega
 ·have:=(List.mem_replicate.1 h).2
  omega⟩
section
set_option maxRecDepth 100000
theorem hA:parseQ [112,44,32,113,44,32,112,32,38,32,113,32,124,45,32,113] []=(((B7,1),(0,Sx.tz)),hT3):=by decide +kernel
theorem hB:parseQ [113] hT3=(((Bt.Bs.zero,1),(0,Sx.tz)),hT3):=by decide +kernel
theorem hPa:printQ hT3 B7 1=([112,44,32,113,44,32,112,32,38,32,113,32,124,45,32,113],0):=by decide +kernel
theorem hPb:printQ hT3 Bt.Bs.zero 1=([124,45,32,113],0):=by decide +kernel
theorem hWh:wholeQ hT3 B7 1=((4,0),hT5):=by decide +kernel
theorem hCu:curryQ hT5 B7 1=((7,0),hT8):=by decide +kernel
theorem hWt0:wts hT8 (idsQ B7 1)=[1,1,4,1]:=by decide +kernel
theorem hWt1:(idsQ B7 1).all (Fm.has hT8)=true:=by decide +kernel
theorem hWt2:Ms.fall [1,1,4,1]=[4,1,1,1]:=by simp [Ms.fall,List.mergeSort,List.MergeSort.Internal.splitInTwo]
theorem hWt:wtsQ hT8 (idsQ B7 1)=([4,1,1,1],0):=by unfold wtsQ;rw [hWt1,hWt0,hWt2];rfl
theorem hE1:cnt (toks [112,44,32,124,45,32,113])=2:=by decide +kernel
theorem hE2:Sq.sidesR (toks [112,44,32,124,45,32,113])=.inl (41,hTE):=by decide +kernel
theorem hCk:chkQ hT8 B7 1=0:=by decide +kernel
theorem hCm:cmpQ B7 Bt.Bs.zero 1 1 = -1:=by decide +kernel
theorem hS1:Bt.Bs.sub Bt.Bs.zero B7=true:=by decide +kernel
theorem hS2:Bt.Bs.sub B7 Bt.Bs.zero=false:=by decide +kernel
end
set_option maxHeartbeats 400000 in
theorem qnum_any (w:World) (x:Int):Calls Tryz.prog 14 #[.int .i64 x] w fun e w'=>e=.returned (.int .i64 x)∧w'=w:=by
 go_enter Tryz.func14,Tryz.ntmps14
 go_wp2_with fail
 go_ret
 exact ⟨rfl,rfl⟩
structure OwnQ (w wi:World) (b m:Nat) (v:Value) (t:List Nd):Prop where
 tb:Tb wi b m v t
 ge:∀ k,Ft b m v k→w.heap.size≤k
 bel:Below w.heap.size w wi
theorem OwnQ.after {w wi w2:World} {b m:Nat} {v:Value} {t t':List Nd} (h:OwnQ w wi b m v t) (ha:After wi b m v t' w2):∃ v',OwnQ w w2 b m v' t':=by
 obtain ⟨v',hT,hL,hK⟩:=ha
 refine ⟨v',hT,?_,h.bel.trans (hK.below h.bel.size h.ge)⟩
 rintro k (e | e | e)
 ·exact h.ge k (Or.inl e)
 ·exact h.ge k (Or.inr (Or.inl e))
 ·rcases hL k e with h1 | h1
  ·exact h.ge k (Or.inr (Or.inr h1))
  ·exact Nat.le_trans h.bel.size h1
theorem OwnQ.later {w wi w2:World} {b m:Nat} {v:Value} {t:List Nd} (h:OwnQ w wi b m v t) (hb:Below wi.heap.size wi w2):OwnQ w w2 b m v t:=⟨h.tb.later hb,h.ge,h.bel.trans (hb.mono h.bel.size)⟩
theorem OwnQ.nG {w wi:World} {b m:Nat} {v:Value} {t:List Nd} (h:OwnQ w wi b m v t) (hZ:Bt.Tz w):¬ Ft b m v 0:=fun e=>by have:=h.ge _ e;have:=Bt.tz_lt hZ;omega
theorem OwnQ.kpP {w wi w2:World} {b m k0:Nat} {v:Value} {t:List Nd} (h:OwnQ w wi b m v t) (hk:KpP k0 wi w2) (h0:w.heap.size≤k0) {cur:Array Value} {ty:TypeId} {fr:Nat × Nat} (hc:wi.heap[k0]?=some (.cells cur ty fr)) (h1:ty≠144) (h2:ty≠140):OwnQ w w2 b m v t :=
 ⟨h.tb.keep fun k hk'=>hk.block k (h.tb.foot k hk') (fun e=>cells_nft hc h1 h2 h.tb (e ▸ hk')),h.ge,⟨hk.os.trans h.bel.os,hk.tape.trans h.bel.tape,hk.output.trans h.bel.output,Nat.le_trans h.bel.size hk.size,fun k hlt=>(hk.block k (by have:=h.bel.size;omega) (by omega)).trans (h.bel.block k hlt)⟩⟩
structure HB1 (w wi:World) (b m:Nat) (v:Value) (t:List Nd) (k:Nat) (r:List Nat) (g:Int):Prop where
 own:OwnQ w wi b m v t
 sq:SeqAt wi k r g
 fl:Fl wi (k+1) 0 0 0 0
 ge:w.heap.size≤k
theorem HB1.later {w wi w2:World} {b m k:Nat} {v:Value} {t:List Nd} {r:List Nat} {g:Int} (h:HB1 w wi b m v t k r g) (hb:Below wi.heap.size wi w2):HB1 w w2 b m v t k r g :=
 ⟨h.own.later hb,h.sq.later hb h.sq.lt,(hb.block _ h.fl.lt).trans h.fl,h.ge⟩
theorem HB1.after {w wi w2:World} {b m k:Nat} {v:Value} {t t':List Nd} {r:List Nat} {g:Int} (h:HB1 w wi b m v t k r g) (ha:After wi b m v t' w2):∃ v',HB1 w w2 b m v' t' k r g:=by
 obtain ⟨v',h'⟩:=h.own.after ha
 exact ⟨v',h',h.sq.kp ha.kp (h.sq.nft h.own.tb),h.fl.kp ha.kp (h.fl.nft h.own.tb),h.ge⟩
theorem zlit:(#[.int .u64 0,.int .u64 0,.int .u64 0,.int .u64 0,.int .u64 0,.int .u64 0,.int .u64 0,.int .u64 0,.int .u64 0,.int .u64 0,.int .u64 0,.int .u64 0,.int .u64 0,.int .u64 0,.int .u64 0,.int .u64 0,.int .i64 0]:Array Value)=cellsQ Bt.Bs.zero 0:=by kernel_rfl
theorem st_seq (wi:World):SeqAt ((wi.alloc (Obj.cells #[.int .u64 0,.int .u64 0,.int .u64 0,.int .u64 0,.int .u64 0,.int .u64 0,.int .u64 0,.int .u64 0,.int .u64 0,.int .u64 0,.int .u64 0,.int .u64 0,.int .u64 0,.int .u64 0,.int .u64 0,.int .u64 0,.int .i64 0] 27)).alloc (Obj.cells #[.int .i64 0,.int .i64 0,.int .i64 0,.int .i64 0] 52)) wi.heap.size Bt.Bs.zero 0:=by
 rw [zlit]
 exact (Bt.heap_two wi _ _).1
theorem st_fl (wi:World):Fl ((wi.alloc (Obj.cells #[.int .u64 0,.int .u64 0,.int .u64 0,.int .u64 0,.int .u64 0,.int .u64 0,.int .u64 0,.int .u64 0,.int .u64 0,.int .u64 0,.int .u64 0,.int .u64 0,.int .u64 0,.int .u64 0,.int .u64 0,.int .u64 0,.int .i64 0] 27)).alloc (Obj.cells #[.int .i64 0,.int .i64 0,.int .i64 0,.int .i64 0] 52)) (wi.heap.size+1) 0 0 0 0:=(Bt.heap_two wi _ _).2
theorem st_bel (wi:World):Below wi.heap.size wi ((wi.alloc (Obj.cells #[.int .u64 0,.int .u64 0,.int .u64 0,.int .u64 0,.int .u64 0,.int .u64 0,.int .u64 0,.int .u64 0,.int .u64 0,.int .u64 0,.int .u64 0,.int .u64 0,.int .u64 0,.int .u64 0,.int .u64 0,.int .u64 0,.int .i64 0] 27)).alloc (Obj.cells #[.int .i64 0,.int .i64 0,.int .i64 0,.int .i64 0] 52)):=Bt.below_two wi _ _
theorem st_all {wi w0 w3 w4:World} {r:List Nat} {g e l c o:Int} (hb:Below wi.heap.size wi w0) (hk:KpP wi.heap.size w0 w3) (hs:SeqAt w3 wi.heap.size r g) (hk4:KpP (wi.heap.size+1) w3 w4) (hf:Fl w4 (wi.heap.size+1) e l c o) :
 SeqAt w4 wi.heap.size r g∧Fl w4 (wi.heap.size+1) e l c o∧Below wi.heap.size wi w4:=by
 have b1:Below wi.heap.size wi w3:=⟨hk.os.trans hb.os,hk.tape.trans hb.tape,hk.output.trans hb.output,Nat.le_trans hb.size hk.size,fun k hlt=>(hk.block k (Nat.lt_of_lt_of_le hlt hb.size) (by omega)).trans (hb.block k hlt)⟩
 exact ⟨hs.kp hk4 (by omega),hf,⟨hk4.os.trans b1.os,hk4.tape.trans b1.tape,hk4.output.trans b1.output,Nat.le_trans b1.size hk4.size,fun k hlt=>(hk4.block k (Nat.lt_of_lt_of_le hlt b1.size) (by omega)).trans (b1.block k hlt)⟩⟩
theorem storeF (w:World) (b:Nat) {e l c o:Int} (h:Fl w b e l c o) (e' l' c' o':Int):(Instr.storeAt 52 (.pointer (some ⟨b,0,none⟩)) (.agg #[.int .i64 e',.int .i64 l',.int .i64 c',.int .i64 o'])).run Tryz.prog w=.ok () (w.setRow b #[.int .i64 e',.int .i64 l',.int .i64 c',.int .i64 o']):=by
 simp only [Instr.storeAt,Instr.sureAddr,Sem.run_bind,Sem.run_pure,Result.andThen]
 exact run_storeVar_row w b 52 52 _ _ h (by kernel_rfl) rfl (by simp [Value.oneCell'])
theorem wpList_stFA {ops:Array Oper} {rest:List Oper} {o:Oper} {a:Act} {Q:Exit→Act→World→Prop} (w:World) (hg:o.guard=none) (hd:o.dst=none) (x y:Operand) (hop:o.op=Op.store 52 x y) (b:Nat) (hx:a.eval x=.pointer (some ⟨b,0,none⟩))
 {e' l' c' o':Int} (hy:a.eval y=.agg #[.int .i64 e',.int .i64 l',.int .i64 c',.int .i64 o']) {e l c o2:Int} (h:Fl w b e l c o2) (hK:∀ w',Fl w' b e' l' c' o'→KpP b w w'→wpList Tryz.prog ops Q rest a w'):wpList Tryz.prog ops Q (o :: rest) a w:=by
 refine wpList_plain hg fun K' hK' => ?_
 have hrun:=storeF w b h e' l' c' o'
 unfold Oper.wp
 simp [execOp,hop,hx,hy,hrun,Result.andThen]
 rw [Oper.upon_skip,hd]
 exact hK' _ _ (hK _ (setRow_heap w b _ _ _ _ h) (setRow_kp w b _))
theorem wpList_stQA {ops:Array Oper} {rest:List Oper} {o:Oper} {a:Act} {Q:Exit→Act→World→Prop} (w:World) (hg:o.guard=none) (hd:o.dst=none) (x y:Operand) (hop:o.op=Op.store 27 x y) (b:Nat) (hx:a.eval x=.pointer (some ⟨b,0,none⟩))
 {r':List Nat} {g':Int} (hy:a.eval y=.agg (cellsQ r' g')) {r:List Nat} {g:Int} (h:SeqAt w b r g) (hs:r.length=16) (hs':r'.length=16) (hK:∀ w',SeqAt w' b r' g'→KpP b w w'→wpList Tryz.prog ops Q rest a w'):wpList Tryz.prog ops Q (o :: rest) a w :=
 wpList_stQ w hg hd x y hop b hx hy h hs hs' (hK _ (h.setRow r' g') (setRow_kp w b _))
structure HB2 (w wi:World) (b m:Nat) (v:Value) (t:List Nd) (k k4:Nat) (r:List Nat):Prop where
 h1:HB1 w wi b m v t k r 1
 sq:SeqAt wi k4 Bt.Bs.zero 1
 fl:Fl wi (k4+1) 0 0 0 0
theorem HB2.later {w wi w2:World} {b m k k4:Nat} {v:Value} {t:List Nd} {r:List Nat} (h:HB2 w wi b m v t k k4 r) (hb:Below wi.heap.size wi w2):HB2 w w2 b m v t k k4 r :=
 ⟨h.h1.later hb,h.sq.later hb h.sq.lt,(hb.block _ h.fl.lt).trans h.fl⟩
theorem HB2.after {w wi w2:World} {b m k k4:Nat} {v:Value} {t t':List Nd} {r:List Nat} (h:HB2 w wi b m v t k k4 r) (ha:After wi b m v t' w2):∃ v',HB2 w w2 b m v' t' k k4 r:=by
 obtain ⟨v',h'⟩:=h.h1.after ha
 exact ⟨v',h',h.sq.kp ha.kp (h.sq.nft h.h1.own.tb),h.fl.kp ha.kp (h.fl.nft h.h1.own.tb)⟩
theorem eqlQ1 (w:World):(binOp BinOp.eql 27 (.agg (cellsQ Bt.Bs.zero 1)) (.agg (cellsQ Bt.Bs.zero 1))).run Tryz.prog w=.ok (.bool true) w:=by kernel_rfl
theorem wpList_eqQ1 {ops:Array Oper} {rest:List Oper} {o:Oper} {a:Act} {Q:Exit→Act→World→Prop} (w:World) (x y:Operand) (t:TypeId) (hop:o.op=Op.binOp .eql 27 x y t)
 (hx:a.eval x=.agg (cellsQ Bt.Bs.zero 1)) (hy:a.eval y=.agg (cellsQ Bt.Bs.zero 1)) (hg:Region.wanted o (yielded ops a.tmps)=true) (hK:wpList Tryz.prog ops Q rest (a.put o.dst (.bool true)) w):wpList Tryz.prog ops Q (o :: rest) a w:=by
 refine Bt.wpList_want hg fun K' hK' => ?_
 have hrun:=eqlQ1 w
 unfold Oper.wp
 simp only [execOp,hop,hx,hy]
 simp [eqGuard,hrun,Result.andThen]
 exact hK' _ _ hK
theorem buildQ1 (w:World):(Instr.build 27 #[(1,.int .i64 1)]).run Tryz.prog w=.ok (.agg (cellsQ Bt.Bs.zero 1)) w:=by kernel_rfl
section
set_option maxRecDepth 100000
theorem hd1 (w:World) (hL:Tw.Laid w) (_hZ:Bt.Tz w) (w1:World) (b m:Nat) (v:Value) (h:OwnQ w w1 b m v []):Calls Tryz.prog 20 #[.pointer (some ⟨b,0,none⟩),.string ⟨#[112,44,32,113,44,32,112,32,38,32,113,32,124,45,32,113]⟩] w1 fun e w'=>e=.returned (.tuple #[.agg (cellsQ B7 1),.agg #[.int .i64 0,.int .i64 0,.int .i64 0,.int .i64 0]])∧After w1 b m v hT3 w':=by
 have:=qparse_any w1 h.tb ⟨#[112,44,32,113,44,32,112,32,38,32,113,32,124,45,32,113]⟩ (by decide) (hL.later h.bel)
 rw [show (⟨#[112,44,32,113,44,32,112,32,38,32,113,32,124,45,32,113]⟩:ByteArray).data.toList=[112,44,32,113,44,32,112,32,38,32,113,32,124,45,32,113] from rfl,hA] at this
 exact this.mono fun e w' h=>⟨h.1.trans rfl,h.2⟩
theorem hd2 (w:World) (hL:Tw.Laid w) (_hZ:Bt.Tz w) (w1:World) (b m:Nat) (v:Value) (h:OwnQ w w1 b m v hT3):Calls Tryz.prog 20 #[.pointer (some ⟨b,0,none⟩),.string ⟨#[113]⟩] w1 fun e w'=>e=.returned (.tuple #[.agg (cellsQ Bt.Bs.zero 1),.agg #[.int .i64 0,.int .i64 0,.int .i64 0,.int .i64 0]])∧After w1 b m v hT3 w':=by
 have:=qparse_any w1 h.tb ⟨#[113]⟩ (by decide) (hL.later h.bel)
 rw [show (⟨#[113]⟩:ByteArray).data.toList=[113] from rfl,hB] at this
 exact this.mono fun e w' h=>⟨h.1.trans rfl,h.2⟩
theorem hd3 (w:World) (_hL:Tw.Laid w) (hZ:Bt.Tz w) (w1:World) (b m:Nat) (v:Value) (h:OwnQ w w1 b m v hT3):Calls Tryz.prog 22 #[.pointer (some ⟨b,0,none⟩),.agg (cellsQ B7 1)] w1 fun e w'=>e=.returned (.tuple #[.string ⟨#[112,44,32,113,44,32,112,32,38,32,113,32,124,45,32,113]⟩,.int .i64 0])∧Below w1.heap.size w1 w':=by
 have:=qprint_any w1 h.tb (Bt.tz_block hZ h.bel) B7_ok 1
 rw [hPa] at this
 exact this.mono fun e w' h=>⟨h.1.trans rfl,h.2⟩
theorem hd4 (w:World) (_hL:Tw.Laid w) (hZ:Bt.Tz w) (w1:World) (b m:Nat) (v:Value) (h:OwnQ w w1 b m v hT3):Calls Tryz.prog 22 #[.pointer (some ⟨b,0,none⟩),.agg (cellsQ Bt.Bs.zero 1)] w1 fun e w'=>e=.returned (.tuple #[.string ⟨#[124,45,32,113]⟩,.int .i64 0])∧Below w1.heap.size w1 w':=by
 have:=qprint_any w1 h.tb (Bt.tz_block hZ h.bel) Bt.Bs.zero_ok 1
 rw [hPb] at this
 exact this.mono fun e w' h=>⟨h.1.trans rfl,h.2⟩
theorem hd5 (w:World) (_hL:Tw.Laid w) (hZ:Bt.Tz w) (w1:World) (b m:Nat) (v:Value) (h:OwnQ w w1 b m v hT3):Calls Tryz.prog 24 #[.pointer (some ⟨b,0,none⟩),.agg (cellsQ B7 1)] w1 fun e w'=>e=.returned (.tuple #[.int .i64 4,.int .i64 0])∧After w1 b m v hT5 w':=by
 have:=qwhole_any w1 h.tb (Bt.tz_block hZ h.bel) (h.nG hZ) B7_ok 1
 rw [hWh] at this
 exact this.mono fun e w' h=>⟨h.1.trans rfl,h.2⟩
theorem hd6 (w:World) (_hL:Tw.Laid w) (hZ:Bt.Tz w) (w1:World) (b m:Nat) (v:Value) (h:OwnQ w w1 b m v hT5):Calls Tryz.prog 26 #[.pointer (some ⟨b,0,none⟩),.agg (cellsQ B7 1)] w1 fun e w'=>e=.returned (.tuple #[.int .i64 7,.int .i64 0])∧After w1 b m v hT8 w':=by
 have:=qcurry_any w1 h.tb (Bt.tz_block hZ h.bel) B7_ok 1
 rw [hCu] at this
 exact this.mono fun e w' h=>⟨h.1.trans rfl,h.2⟩
theorem hd7 (w:World) (_hL:Tw.Laid w) (hZ:Bt.Tz w) (w1:World) (b m:Nat) (v:Value) (h:OwnQ w w1 b m v hT8):Calls Tryz.prog 12 #[.pointer (some ⟨b,0,none⟩),.agg (cellsQ B7 1)] w1 fun e w'=>∃ p c,e=.returned (.tuple #[.slice p 4 c,.int .i64 0])∧IsL w' (.slice p 4 c) [4,1,1,1]∧Below w1.heap.size w1 w':=by
 have:=qweights_any w1 h.tb (Bt.tz_block hZ h.bel) B7_ok 1
 rw [hWt] at this
 exact this
theorem hd8 (w:World) (hL:Tw.Laid w) (_hZ:Bt.Tz w) (w1:World) (b m:Nat) (v:Value) (h:OwnQ w w1 b m v hT8):Calls Tryz.prog 20 #[.pointer (some ⟨b,0,none⟩),.string ⟨#[112,44,32,124,45,32,113]⟩] w1 fun e w'=>e=.returned (.tuple #[.agg (cellsQ Bt.Bs.zero 0),.agg #[.int .i64 41,.int .i64 1,.int .i64 4,.int .i64 3]])∧Below w1.heap.size w1 w':=qparse_err w1 h.tb ⟨#[112,44,32,124,45,32,113]⟩ (by decide) (hL.later h.bel) (by rw [show (⟨#[112,44,32,124,45,32,113]⟩:ByteArray).data.toList=[112,44,32,124,45,32,113] from rfl,hE1];decide) (41,hTE) hE2
theorem hd9 (w:World) (_hL:Tw.Laid w) (hZ:Bt.Tz w) (w1:World) (b m:Nat) (v:Value) (h:OwnQ w w1 b m v hT8):Calls Tryz.prog 15 #[.pointer (some ⟨b,0,none⟩),.agg (cellsQ B7 1)] w1 fun e w'=>e=.returned (.int .i64 0)∧Below w1.heap.size w1 w':=by
 have:=qcheck_any w1 h.tb (Bt.tz_block hZ h.bel) B7_ok 1
 rw [hCk] at this
 exact this.mono fun e w' h=>⟨h.1.trans rfl,h.2⟩
theorem hd10 (w1:World):Calls Tryz.prog 45 #[.agg (cellsQ B7 1),.agg (cellsQ Bt.Bs.zero 1)] w1 fun e w'=>e=.returned (.int .i64 (-1))∧Below w1.heap.size w1 w':=by
 have:=compare_any w1 B7_ok Bt.Bs.zero_ok 1 1
 rw [hCm] at this
 exact this.mono fun e w' h=>⟨h.1.trans rfl,h.2⟩
theorem hd11 (w1:World):Calls Tryz.prog 46 #[.agg (cellsQ B7 1),.agg (cellsQ Bt.Bs.zero 1)] w1 fun e w'=>e=.returned (.bool true)∧Below w1.heap.size w1 w':=by
 have:=weaker_any w1 B7_ok Bt.Bs.zero_ok 1 1
 rw [hS1] at this
 exact this.mono fun e w' h=>⟨h.1.trans rfl,h.2⟩
theorem hd12 (w1:World):Calls Tryz.prog 46 #[.agg (cellsQ Bt.Bs.zero 1),.agg (cellsQ B7 1)] w1 fun e w'=>e=.returned (.bool false)∧Below w1.heap.size w1 w':=by
 have:=weaker_any w1 Bt.Bs.zero_ok B7_ok 1 1
 rw [hS2] at this
 exact this.mono fun e w' h=>⟨h.1.trans rfl,h.2⟩
end
set_option maxRecDepth 100000 in
set_option maxHeartbeats 1000000 in
theorem qheads_any (w:World) (hL:Tw.Laid w) (hZ:Bt.Tz w) :
 Calls Tryz.prog 19 #[] w fun e w'=>e=.returned (.bool true)∧Below w.heap.size w w':=by
 have KN:=show Hid (Calls Tryz.prog 35 #[] w fun e w'=>∃ b m v,e=.returned (.pointer (some ⟨b,0,none⟩))∧OwnQ w w' b m v []) from (new_any w).mono fun e w' ⟨h1,h2,h3⟩=>⟨_,_,_,h1,h2,fun k hk=>(by
  rcases hk with h | h | h
  ·omega
  ·omega
  ·cases h),h3⟩
 have K1:=show Hid (∀ (w1:World) (b m:Nat) (v:Value),OwnQ w w1 b m v []→Calls Tryz.prog 20 #[.pointer (some ⟨b,0,none⟩),.string ⟨#[112,44,32,113,44,32,112,32,38,32,113,32,124,45,32,113]⟩] w1 fun e w'=>e=.returned (.tuple #[.agg (cellsQ B7 1),.agg #[.int .i64 0,.int .i64 0,.int .i64 0,.int .i64 0]])∧After w1 b m v hT3 w') from fun w1 b m v h=>hd1 w hL hZ w1 b m v h
 have K2:=show Hid (∀ (w1:World) (b m:Nat) (v:Value),OwnQ w w1 b m v hT3→Calls Tryz.prog 20 #[.pointer (some ⟨b,0,none⟩),.string ⟨#[113]⟩] w1 fun e w'=>e=.returned (.tuple #[.agg (cellsQ Bt.Bs.zero 1),.agg #[.int .i64 0,.int .i64 0,.int .i64 0,.int .i64 0]])∧After w1 b m v hT3 w') from fun w1 b m v h=>hd2 w hL hZ w1 b m v h
 have K3:=show Hid (∀ (w1:World) (b m:Nat) (v:Value),OwnQ w w1 b m v hT3→Calls Tryz.prog 22 #[.pointer (some ⟨b,0,none⟩),.agg (cellsQ B7 1)] w1 fun e w'=>e=.returned (.tuple #[.string ⟨#[112,44,32,113,44,32,112,32,38,32,113,32,124,45,32,113]⟩,.int .i64 0])∧Below w1.heap.size w1 w') from fun w1 b m v h=>hd3 w hL hZ w1 b m v h
 have K4:=show Hid (∀ (w1:World) (b m:Nat) (v:Value),OwnQ w w1 b m v hT3→Calls Tryz.prog 22 #[.pointer (some ⟨b,0,none⟩),.agg (cellsQ Bt.Bs.zero 1)] w1 fun e w'=>e=.returned (.tuple #[.string ⟨#[124,45,32,113]⟩,.int .i64 0])∧Below w1.heap.size w1 w') from fun w1 b m v h=>hd4 w hL hZ w1 b m v h
 have K5:=show Hid (∀ (w1:World) (b m:Nat) (v:Value),OwnQ w w1 b m v hT3→Calls Tryz.prog 24 #[.pointer (some ⟨b,0,none⟩),.agg (cellsQ B7 1)] w1 fun e w'=>e=.returned (.tuple #[.int .i64 4,.int .i64 0])∧After w1 b m v hT5 w') from fun w1 b m v h=>hd5 w hL hZ w1 b m v h
 have K6:=show Hid (∀ (w1:World) (b m:Nat) (v:Value),OwnQ w w1 b m v hT5→Calls Tryz.prog 26 #[.pointer (some ⟨b,0,none⟩),.agg (cellsQ B7 1)] w1 fun e w'=>e=.returned (.tuple #[.int .i64 7,.int .i64 0])∧After w1 b m v hT8 w') from fun w1 b m v h=>hd6 w hL hZ w1 b m v h
 have K7:=show Hid (∀ (w1:World) (b m:Nat) (v:Value),OwnQ w w1 b m v hT8→Calls Tryz.prog 12 #[.pointer (some ⟨b,0,none⟩),.agg (cellsQ B7 1)] w1 fun e w'=>∃ p c,e=.returned (.tuple #[.slice p 4 c,.int .i64 0])∧IsL w' (.slice p 4 c) [4,1,1,1]∧Below w1.heap.size w1 w') from fun w1 b m v h=>hd7 w hL hZ w1 b m v h
 have K8:=show Hid (∀ (w1:World) (b m:Nat) (v:Value),OwnQ w w1 b m v hT8→Calls Tryz.prog 20 #[.pointer (some ⟨b,0,none⟩),.string ⟨#[112,44,32,124,45,32,113]⟩] w1 fun e w'=>e=.returned (.tuple #[.agg (cellsQ Bt.Bs.zero 0),.agg #[.int .i64 41,.int .i64 1,.int .i64 4,.int .i64 3]])∧Below w1.heap.size w1 w') from fun w1 b m v h=>hd8 w hL hZ w1 b m v h
 have K9:=show Hid (∀ (w1:World) (b m:Nat) (v:Value),OwnQ w w1 b m v hT8→Calls Tryz.prog 15 #[.pointer (some ⟨b,0,none⟩),.agg (cellsQ B7 1)] w1 fun e w'=>e=.returned (.int .i64 0)∧Below w1.heap.size w1 w') from fun w1 b m v h=>hd9 w hL hZ w1 b m v h
 have K10:=show Hid (∀ w1:World,Calls Tryz.prog 45 #[.agg (cellsQ B7 1),.agg (cellsQ Bt.Bs.zero 1)] w1 fun e w'=>e=.returned (.int .i64 (-1))∧Below w1.heap.size w1 w') from fun w1=>hd10 w1
 have K11:=show Hid (∀ w1:World,Calls Tryz.prog 46 #[.agg (cellsQ B7 1),.agg (cellsQ Bt.Bs.zero 1)] w1 fun e w'=>e=.returned (.bool true)∧Below w1.heap.size w1 w') from fun w1=>hd11 w1
 have K12:=show Hid (∀ w1:World,Calls Tryz.prog 46 #[.agg (cellsQ Bt.Bs.zero 1),.agg (cellsQ B7 1)] w1 fun e w'=>e=.returned (.bool false)∧Below w1.heap.size w1 w') from fun w1=>hd12 w1
 have KM:=show Hid (∀ (w:World) (x:Int),Calls Tryz.prog 14 #[.int .i64 x] w fun e w'=>e=.returned (.int .i64 x)∧w'=w) from qnum_any
 have h7:B7.length=16:=rfl
 have HC7:=show Hid (∀ (wx:World) (k:Nat),SeqAt wx k B7 1→wx.cell? ⟨k,0,none⟩=some (.int .u64 7)) from fun wx k h=>by rw [cell_of_row wx k 0 _ _ _ h];rfl
 generalize B7=r7 at *
 clear hL hZ
 go_enter Tryz.func19,Tryz.ntmps19
 go_wp2_with fail
 refine KN.out.mono ?_
 rintro e w1 ⟨b,m,v,rfl,hO1⟩
 have HO1:=show Hid (OwnQ w w1 b m v []) from hO1
 clear hO1 KN
 go_wp2_with fail
 refine (K1.out _ _ _ _ HO1.out).mono ?_
 rintro e w2 ⟨rfl,ha2⟩
 obtain ⟨v2,hO2⟩:=HO1.out.after ha2
 have HO2:=show Hid (OwnQ w w2 b m v2 hT3) from hO2
 clear ha2 hO2 HO1 K1
 have HS2:=show Hid (SeqAt ((w2.alloc (Obj.cells #[.int .u64 0,.int .u64 0,.int .u64 0,.int .u64 0,.int .u64 0,.int .u64 0,.int .u64 0,.int .u64 0,.int .u64 0,.int .u64 0,.int .u64 0,.int .u64 0,.int .u64 0,.int .u64 0,.int .u64 0,.int .u64 0,.int .i64 0] 27)).alloc (Obj.cells #[.int .i64 0,.int .i64 0,.int .i64 0,.int .i64 0] 52)) w2.heap.size Bt.Bs.zero 0∧Fl ((w2.alloc (Obj.cells #[.int .u64 0,.int .u64 0,.int .u64 0,.int .u64 0,.int .u64 0,.int .u64 0,.int .u64 0,.int .u64 0,.int .u64 0,.int .u64 0,.int .u64 0,.int .u64 0,.int .u64 0,.int .u64 0,.int .u64 0,.int .u64 0,.int .i64 0] 27)).alloc (Obj.cells #[.int .i64 0,.int .i64 0,.int .i64 0,.int .i64 0] 52)) (w2.heap.size+1) 0 0 0 0∧Below w2.heap.size w2 ((w2.alloc (Obj.cells #[.int .u64 0,.int .u64 0,.int .u64 0,.int .u64 0,.int .u64 0,.int .u64 0,.int .u64 0,.int .u64 0,.int .u64 0,.int .u64 0,.int .u64 0,.int .u64 0,.int .u64 0,.int .u64 0,.int .u64 0,.int .u64 0,.int .i64 0] 27)).alloc (Obj.cells #[.int .i64 0,.int .i64 0,.int .i64 0,.int .i64 0] 52))) from ⟨st_seq w2,st_fl w2,st_bel w2⟩
 go_wp2_with (refine wpList_stQA _ rfl rfl _ _ rfl _ rfl (r':=r7) (g':=1) rfl HS2.out.1 zero_len h7 ?_)
 intro w3 hs hk
 have HF:=show Hid (Fl w3 (w2.heap.size+1) 0 0 0 0) from Fl.kp HS2.out.2.1 hk (by omega)
 go_wp2_with (refine wpList_stFA _ rfl rfl _ _ rfl _ rfl rfl HF.out ?_)
 intro w4 hf4 hk4
 have hx:=st_all HS2.out.2.2 hk hs hk4 hf4
 clear hs hk hk4 hf4 HF HS2
 have HH4:=show Hid (HB1 w w4 b m v2 hT3 w2.heap.size r7 1) from ⟨HO2.out.later hx.2.2,hx.1,hx.2.1,HO2.out.bel.size⟩
 clear hx HO2
 generalize w2.heap.size=k2 at *
 go_wp2_with fail
 refine (K2.out _ _ _ _ HH4.out.own).mono ?_
 rintro e w5 ⟨rfl,ha5⟩
 obtain ⟨v5,hh5⟩:=HH4.out.after ha5
 have HH5:=show Hid (HB1 w w5 b m v5 hT3 k2 r7 1) from hh5
 clear ha5 hh5 HH4 K2
 have HS5:=show Hid (SeqAt ((w5.alloc (Obj.cells #[.int .u64 0,.int .u64 0,.int .u64 0,.int .u64 0,.int .u64 0,.int .u64 0,.int .u64 0,.int .u64 0,.int .u64 0,.int .u64 0,.int .u64 0,.int .u64 0,.int .u64 0,.int .u64 0,.int .u64 0,.int .u64 0,.int .i64 0] 27)).alloc (Obj.cells #[.int .i64 0,.int .i64 0,.int .i64 0,.int .i64 0] 52)) w5.heap.size Bt.Bs.zero 0∧Fl ((w5.alloc (Obj.cells #[.int .u64 0,.int .u64 0,.int .u64 0,.int .u64 0,.int .u64 0,.int .u64 0,.int .u64 0,.int .u64 0,.int .u64 0,.int .u64 0,.int .u64 0,.int .u64 0,.int .u64 0,.int .u64 0,.int .u64 0,.int .u64 0,.int .i64 0] 27)).alloc (Obj.cells #[.int .i64 0,.int .i64 0,.int .i64 0,.int .i64 0] 52)) (w5.heap.size+1) 0 0 0 0∧Below w5.heap.size w5 ((w5.alloc (Obj.cells #[.int .u64 0,.int .u64 0,.int .u64 0,.int .u64 0,.int .u64 0,.int .u64 0,.int .u64 0,.int .u64 0,.int .u64 0,.int .u64 0,.int .u64 0,.int .u64 0,.int .u64 0,.int .u64 0,.int .u64 0,.int .u64 0,.int .i64 0] 27)).alloc (Obj.cells #[.int .i64 0,.int .i64 0,.int .i64 0,.int .i64 0] 52))) from ⟨st_seq w5,st_fl w5,st_bel w5⟩
 go_wp2_with (refine wpList_stQA _ rfl rfl _ _ rfl _ rfl (r':=Bt.Bs.zero) (g':=1) rfl HS5.out.1 zero_len zero_len ?_)
 intro w6 hs hk
 have HF:=show Hid (Fl w6 (w5.heap.size+1) 0 0 0 0) from Fl.kp HS5.out.2.1 hk (by omega)
 go_wp2_with (refine wpList_stFA _ rfl rfl _ _ rfl _ rfl rfl HF.out ?_)
 intro w7 hf4 hk4
 have hx:=st_all HS5.out.2.2 hk hs hk4 hf4
 clear hs hk hk4 hf4 HF HS5
 have X7:=show Hid (HB2 w w7 b m v5 hT3 k2 w5.heap.size r7) from ⟨HH5.out.later hx.2.2,hx.1,hx.2.1⟩
 clear hx HH5
 generalize w5.heap.size=k4 at *
 go_wp2_with (refine wpList_ldQQ _ _ rfl _ rfl X7.out.h1.sq h7 rfl ?_)
 refine (K3.out _ _ _ _ X7.out.h1.own).mono ?_
 rintro e w8 ⟨rfl,hb8⟩
 have X8:=show Hid (HB2 w w8 b m v5 hT3 k2 k4 r7) from X7.out.later hb8
 clear hb8 X7 K3
 go_wp2_with (refine wpList_ldQQ _ _ rfl _ rfl X8.out.sq zero_len rfl ?_)
 refine (K4.out _ _ _ _ X8.out.h1.own).mono ?_
 rintro e w9 ⟨rfl,hb9⟩
 have X9:=show Hid (HB2 w w9 b m v5 hT3 k2 k4 r7) from X8.out.later hb9
 clear hb9 X8 K4
 go_wp2_with (refine wpList_ldQQ _ _ rfl _ rfl X9.out.h1.sq h7 rfl ?_)
 refine (K5.out _ _ _ _ X9.out.h1.own).mono ?_
 rintro e w10 ⟨rfl,ha10⟩
 obtain ⟨v10,hh10⟩:=X9.out.after ha10
 have X10:=show Hid (HB2 w w10 b m v10 hT5 k2 k4 r7) from hh10
 clear ha10 hh10 X9 K5
 go_wp2_with (refine wpList_ldQQ _ _ rfl _ rfl X10.out.h1.sq h7 rfl ?_)
 refine (K6.out _ _ _ _ X10.out.h1.own).mono ?_
 rintro e w11 ⟨rfl,ha11⟩
 obtain ⟨v11,hh11⟩:=X10.out.after ha11
 have X11:=show Hid (HB2 w w11 b m v11 hT8 k2 k4 r7) from hh11
 clear ha11 hh11 X10 K6
 go_wp2_with (refine wpList_ldQQ _ _ rfl _ rfl X11.out.h1.sq h7 rfl ?_)
 refine (K7.out _ _ _ _ X11.out.h1.own).mono ?_
 rintro e w12 ⟨p,c,rfl,hI12,hb12⟩
 have X12:=show Hid (HB2 w w12 b m v11 hT8 k2 k4 r7∧IsL w12 (.slice p 4 c) [4,1,1,1]) from ⟨X11.out.later hb12,hI12⟩
 clear hb12 hI12 X11 K7
 go_wp2_with fail
 refine (K8.out _ _ _ _ X12.out.1.h1.own).mono ?_
 rintro e w13 ⟨rfl,hb13⟩
 have X13:=show Hid (HB2 w w13 b m v11 hT8 k2 k4 r7∧IsL w13 (.slice p 4 c) [4,1,1,1]) from ⟨X12.out.1.later hb13,X12.out.2.later hb13⟩
 clear hb13 X12 K8
 have HS13:=show Hid (SeqAt ((w13.alloc (Obj.cells #[.int .u64 0,.int .u64 0,.int .u64 0,.int .u64 0,.int .u64 0,.int .u64 0,.int .u64 0,.int .u64 0,.int .u64 0,.int .u64 0,.int .u64 0,.int .u64 0,.int .u64 0,.int .u64 0,.int .u64 0,.int .u64 0,.int .i64 0] 27)).alloc (Obj.cells #[.int .i64 0,.int .i64 0,.int .i64 0,.int .i64 0] 52)) w13.heap.size Bt.Bs.zero 0∧Fl ((w13.alloc (Obj.cells #[.int .u64 0,.int .u64 0,.int .u64 0,.int .u64 0,.int .u64 0,.int .u64 0,.int .u64 0,.int .u64 0,.int .u64 0,.int .u64 0,.int .u64 0,.int .u64 0,.int .u64 0,.int .u64 0,.int .u64 0,.int .u64 0,.int .i64 0] 27)).alloc (Obj.cells #[.int .i64 0,.int .i64 0,.int .i64 0,.int .i64 0] 52)) (w13.heap.size+1) 0 0 0 0∧Below w13.heap.size w13 ((w13.alloc (Obj.cells #[.int .u64 0,.int .u64 0,.int .u64 0,.int .u64 0,.int .u64 0,.int .u64 0,.int .u64 0,.int .u64 0,.int .u64 0,.int .u64 0,.int .u64 0,.int .u64 0,.int .u64 0,.int .u64 0,.int .u64 0,.int .u64 0,.int .i64 0] 27)).alloc (Obj.cells #[.int .i64 0,.int .i64 0,.int .i64 0,.int .i64 0] 52))) from ⟨st_seq w13,st_fl w13,st_bel w13⟩
 go_wp2_with (refine wpList_stQA _ rfl rfl _ _ rfl _ rfl (r':=Bt.Bs.zero) (g':=0) rfl HS13.out.1 zero_len zero_len ?_)
 intro w14 hs hk
 have HF:=show Hid (Fl w14 (w13.heap.size+1) 0 0 0 0) from Fl.kp HS13.out.2.1 hk (by omega)
 go_wp2_with (refine wpList_stFA _ rfl rfl _ _ rfl _ rfl rfl HF.out ?_)
 intro w15 hf4 hk4
 have hx:=st_all HS13.out.2.2 hk hs hk4 hf4
 clear hs hk hk4 hf4 HF HS13
 have X15:=show Hid (HB2 w w15 b m v11 hT8 k2 k4 r7∧IsL w15 (.slice p 4 c) [4,1,1,1]) from ⟨X13.out.1.later hx.2.2,X13.out.2.later hx.2.2⟩
 have f15:Fl w15 (w13.heap.size+1) 41 1 4 3:=hx.2.1
 have a0:=X15.out.1.h1.fl.c0;have a1:=X15.out.1.h1.fl.c1;have a2:=X15.out.1.h1.fl.c2;have a3:=X15.out.1.h1.fl.c3
 have b0:=X15.out.1.fl.c0;have b1:=X15.out.1.fl.c1;have b2:=X15.out.1.fl.c2;have b3:=X15.out.1.fl.c3
 have d0:=f15.c0;have d1:=f15.c1;have d2:=f15.c2;have d3:=f15.c3
 have e0:=HC7.out w15 k2 X15.out.1.h1.sq
 have e1:=X15.out.1.h1.sq.goal h7
 obtain ⟨pi,ci,hpc,hlen,hcell⟩:=X15.out.2
 cases hpc
 obtain ⟨gi,oi,rfl,hci⟩:=hcell 0 (by simp)
 have hci2:w15.cell? ⟨gi,oi,none⟩=some (.int .i64 4):=by simpa using hci
 have hbq:=buildQ1
 have heq:=eqlQ1
 clear hx X13 f15 hlen hcell hci HC7
 generalize w13.heap.size+1=k17 at *
 iterate 5 go_step
 dsimp only [List.append]
 go_wp2_with (first | (refine wpList_ldQQ _ _ rfl k4 rfl X15.out.1.sq zero_len rfl ?_) | (refine wpList_ldQQ _ _ rfl k2 rfl X15.out.1.h1.sq h7 rfl ?_) | (refine wpList_eqQ1 _ _ _ _ rfl rfl rfl rfl ?_) | (go_at_call 14;refine (KM.out _ _).mono ?_;rintro e w' ⟨rfl,rfl⟩))
 refine (K9.out _ _ _ _ X15.out.1.h1.own).mono ?_
 rintro e w16 ⟨rfl,hb16⟩
 have X16:=show Hid (HB2 w w16 b m v11 hT8 k2 k4 r7) from X15.out.1.later hb16
 clear hb16 X15 K9 a0 a1 a2 a3 b0 b1 b2 b3 d0 d1 d2 d3 e0 e1 hci2
 go_wp2_with (first | (refine wpList_ldQQ _ _ rfl k4 rfl X16.out.sq zero_len rfl ?_) | (refine wpList_ldQQ _ _ rfl k2 rfl X16.out.h1.sq h7 rfl ?_) | (go_at_call 14;refine (KM.out _ _).mono ?_;rintro e w' ⟨rfl,rfl⟩))
 refine (K10.out _).mono ?_
 rintro e w17 ⟨rfl,hb17⟩
 have X17:=show Hid (HB2 w w17 b m v11 hT8 k2 k4 r7) from X16.out.later hb17
 clear hb17 X16 K10
 go_wp2_with (first | (refine wpList_ldQQ _ _ rfl k4 rfl X17.out.sq zero_len rfl ?_) | (refine wpList_ldQQ _ _ rfl k2 rfl X17.out.h1.sq h7 rfl ?_))
 refine (K11.out _).mono ?_
 rintro e w18 ⟨rfl,hb18⟩
 have X18:=show Hid (HB2 w w18 b m v11 hT8 k2 k4 r7) from X17.out.later hb18
 clear hb18 X17 K11
 go_wp2_with (first | (refine wpList_ldQQ _ _ rfl k4 rfl X18.out.sq zero_len rfl ?_) | (refine wpList_ldQQ _ _ rfl k2 rfl X18.out.h1.sq h7 rfl ?_))
 refine (K12.out _).mono ?_
 rintro e w19 ⟨rfl,hb19⟩
 have X19:=show Hid (HB2 w w19 b m v11 hT8 k2 k4 r7) from X18.out.later hb19
 clear hb19 X18 K12
 go_wp2_with fail
 go_ret
 exact ⟨rfl,X19.out.h1.own.bel⟩
end Go.Proofs.YtkmmlimekachbaaGreatDoor
/-
  What the laws of stage 8 share: both tables beside each other, a sequent stored anew. No condition.
-/
namespace Go.Proofs.YtkmmlimekachbaaGreatDoor
open Go.RowKit Go.Maps
open Fm (Nd)
open Bt.Bs (Ok)
set_option maxHeartbeats 400000 in
theorem qsame_any (w0 w:World) {b m c:Nat} {v u:Value} {t:List Nd} (h:Pair w0 w b m v c u t t) :
 Calls Tryz.prog 18 #[.pointer (some ⟨b,0,none⟩),.pointer (some ⟨c,0,none⟩)] w fun e w'=>e=.returned (.bool true)∧Below w.heap.size w w':=by
 have K:=show Hid (Calls Tryz.prog 44 #[.pointer (some ⟨b,0,none⟩),.pointer (some ⟨c,0,none⟩)] w fun e w'=>e=.returned (.bool true)∧Below w.heap.size w w') from like_any w0 w h
 clear h
 go_enter Tryz.func18,Tryz.ntmps18
 go_wp2_with fail
 refine K.out.mono ?_
 rintro e w' ⟨rfl,hb⟩
 have HB:=show Hid (Below w.heap.size w w') from hb
 clear hb K
 go_wp2_with fail
 go_ret
 exact ⟨rfl,HB.out⟩
theorem st_one {wi w0 w3:World} (hb:Below wi.heap.size wi w0) (hk:KpP wi.heap.size w0 w3):Below wi.heap.size wi w3 :=
 ⟨hk.os.trans hb.os,hk.tape.trans hb.tape,hk.output.trans hb.output,Nat.le_trans hb.size hk.size,fun k hlt=>(hk.block k (Nat.lt_of_lt_of_le hlt hb.size) (by omega)).trans (hb.block k hlt)⟩
theorem seq_zero (w:World):SeqAt (w.alloc (Obj.cells #[.int .u64 0,.int .u64 0,.int .u64 0,.int .u64 0,.int .u64 0,.int .u64 0,.int .u64 0,.int .u64 0,.int .u64 0,.int .u64 0,.int .u64 0,.int .u64 0,.int .u64 0,.int .u64 0,.int .u64 0,.int .u64 0,.int .i64 0] 27)) w.heap.size Bt.Bs.zero 0∧Below w.heap.size w (w.alloc (Obj.cells #[.int .u64 0,.int .u64 0,.int .u64 0,.int .u64 0,.int .u64 0,.int .u64 0,.int .u64 0,.int .u64 0,.int .u64 0,.int .u64 0,.int .u64 0,.int .u64 0,.int .u64 0,.int .u64 0,.int .u64 0,.int .u64 0,.int .i64 0] 27)):=⟨seq_new w Bt.Bs.zero 0,below_alloc w _⟩
structure LR (w w1 W:World) (B M:Nat) (v:Value) (C:Nat) (u:Value) (t:List Nd) (r:List Nat) (g:Int):Prop where
 pr:Pair w W B M v C u t t
 sq:SeqAt W w.heap.size r g
 bl:Below w1.heap.size w1 W
theorem LR.later {w w1 W W2:World} {B M C:Nat} {v u:Value} {t:List Nd} {r:List Nat} {g:Int} (h:LR w w1 W B M v C u t r g) (hb:Below W.heap.size W W2):LR w w1 W2 B M v C u t r g :=
 ⟨h.pr.later hb,h.sq.later hb h.sq.lt,h.bl.trans (hb.mono h.bl.size)⟩
theorem Pair.base {w0 w1 w:World} {b m c:Nat} {v u:Value} {t r:List Nd} (h:Pair w1 w b m v c u t r) (hb:Below w0.heap.size w0 w1):Pair w0 w b m v c u t r :=
 ⟨h.tb,h.tr,h.dis,fun k hk=>Nat.le_trans hb.size (h.bt k hk),fun k hk=>Nat.le_trans hb.size (h.br k hk),hb.trans (h.bel.mono hb.size)⟩
end Go.Proofs.YtkmmlimekachbaaGreatDoor
