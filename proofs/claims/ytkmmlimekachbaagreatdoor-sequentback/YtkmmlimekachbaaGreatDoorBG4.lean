/-
  Parse: for every text. No condition.
-/
import Derived.Test.YtkmmlimekachbaaGreatDoorBG2
import Derived.Test.YtkmmlimekachbaaGreatDoorShelfA5
import Derived.Lib.Builder
import Derived.Lib.AppendStr
import Derived.Lib.UnsafeStr
import Derived.Laws.Externs
import Derived.Lib.Walk
import Derived.Maps.AppendAt
import Derived.OwnWalk
import Derived.Test.YtkmmlimekachbaaGreatDoorBG3
import Derived.Test.YtkmmlimekachbaaGreatDoorBG1
import Derived.Lib.ItoaNum
import Derived.Laws.RangeAny
namespace Go.Proofs.YtkmmlimekachbaaGreatDoor.Bt
open Go.RowKit
open Bs (Ok wd)
def PQ (w wr:World) (b:List Nat):Prop:=RowAt wr w.heap.size Bs.zero∧RowAt wr (w.heap.size+1) b∧Below w.heap.size w wr
theorem PQ.later {w wr w':World} {b:List Nat} (h:PQ w wr b) (hb:Below wr.heap.size wr w'):PQ w w' b:=⟨h.1.keep hb h.1.lt,h.2.1.keep hb h.2.1.lt,h.2.2.trans (hb.mono h.2.2.size)⟩
end Go.Proofs.YtkmmlimekachbaaGreatDoor.Bt
/-
  Of: for every list of numbers. No condition.
-/
namespace Go.Proofs.YtkmmlimekachbaaGreatDoor.Bt
open Go.RowKit
open Bs (Ok wd)
def IsL (w:World) (v:Value) (l:List Int):Prop :=
 ∃ p c,v=.slice p l.length c∧l.length≤9223372036854775807∧∀ k (hk:k<l.length),∃ b o,p=some ⟨b,o,none⟩∧w.cell? ⟨b,o+k,none⟩=some (.int .i64 l[k])
theorem IsL.later {w w':World} {v:Value} {l:List Int} (h:IsL w v l) (hb:Below w.heap.size w w'):IsL w' v l:=by
 obtain ⟨p,c,hv,h1,h2⟩:=h
 refine ⟨p,c,hv,h1,fun k hk => ?_⟩
 obtain ⟨b,o,hp,hc⟩:=h2 k hk
 exact ⟨b,o,hp,cell_later hb hc⟩
def ofR:List Int→List Nat→List Nat × Int
 | [],b=>(b,0)
 | n :: l,b=>if 0≤n∧n<1024 then ofR l (Bs.put b n.toNat) else (Bs.zero,50)
theorem ofR_ok:∀ (l:List Int) {b:List Nat},Ok b→Ok (ofR l b).1
 | [],_,h=>h
 | n :: l,b,h=>by
  unfold ofR
  split
  ·exact ofR_ok l (Bs.put_ok h _)
  ·exact Bs.zero_ok
theorem ofR_step (l:List Int) (k:Nat) (hk:k<l.length) (b:List Nat):ofR (l.drop k) b=if 0≤l[k]∧l[k]<1024 then ofR (l.drop (k+1)) (Bs.put b (l[k]).toNat) else (Bs.zero,50):=by
 rw [List.drop_eq_getElem_cons hk,ofR]
set_option maxRecDepth 100000 in
set_option maxHeartbeats 4000000 in
theorem of_any (w:World) (v:Value) (l:List Int) (hv:IsL w v l):Calls Tryz.prog 38 #[v] w fun e w'=>e=.returned (.tuple #[.agg (cellsB (ofR l Bs.zero).1),.int .i64 (ofR l Bs.zero).2])∧Below w.heap.size w w':=by
 obtain ⟨p,c,rfl,hlen,hcell⟩:=hv
 have HC:=show Hid (∀ k (hk:k<l.length),∃ b o,p=some ⟨b,o,none⟩∧w.cell? ⟨b,o+k,none⟩=some (.int .i64 l[k])) from hcell
 have KI:=show Hid (∀ (n:Nat) w,n<1024→Calls Tryz.prog 83 #[.int .i64 (n:Int)] w fun e w'=>e=.returned (.bool true)∧w'=w) from fun n w hn=>inRow_yes w hn
 have KO:=show Hid (∀ (n:Int) w,¬ (0≤n∧n<1024)→Calls Tryz.prog 83 #[.int .i64 n] w fun e w'=>e=.returned (.bool false)∧w'=w) from fun n w hn=>inRow_no w hn
 have KP:=show Hid (∀ (n:Nat) w,n<1024→Calls Tryz.prog 84 #[.int .i64 (n:Int)] w fun e w'=>e=.returned (.tuple #[.int .i64 ((n / 64:Nat):Int),.int .u64 ((2 ^ (n % 64):Nat):Int)])∧w'=w.drew) from fun n w hn=>place_any w n hn
 have HST:=show Hid (∀ k (hk:k<l.length) b,ofR (l.drop k) b=if 0≤l[k]∧l[k]<1024 then ofR (l.drop (k+1)) (Bs.put b (l[k]).toNat) else (Bs.zero,50)) from fun k hk b=>ofR_step l k hk b
 have HT:=show Hid (PQ w ((w.alloc (.cells #[.int .u64 0,.int .u64 0,.int .u64 0,.int .u64 0,.int .u64 0,.int .u64 0,.int .u64 0,.int .u64 0,.int .u64 0,.int .u64 0,.int .u64 0,.int .u64 0,.int .u64 0,.int .u64 0,.int .u64 0,.int .u64 0] 25)).alloc (.cells #[.int .u64 0,.int .u64 0,.int .u64 0,.int .u64 0,.int .u64 0,.int .u64 0,.int .u64 0,.int .u64 0,.int .u64 0,.int .u64 0,.int .u64 0,.int .u64 0,.int .u64 0,.int .u64 0,.int .u64 0,.int .u64 0] 25)) Bs.zero) from ⟨(heap_two w _ _).1,(heap_two w _ _).2,below_two w _ _⟩
 have H0:=show Hid (ofR (l.drop 0) Bs.zero=ofR l Bs.zero) from rfl
 have HN:=show Hid (∀ b,ofR (l.drop l.length) b=(b,0)) from fun b=>by
  show ofR (l.drop l.length) b=(b,0)
  rw [List.drop_length];rfl
 generalize ofR l Bs.zero=R at *
 clear hcell
 go_enter Tryz.func38,Tryz.ntmps38
 go_wp2
 go_loopw [11] (fun n wr=>∃ (k:Nat) (b:List Nat),k≤l.length∧n=.int .i64 (k:Int)∧Hid (Ok b∧PQ w wr b∧ofR (l.drop k) b=R)) (fun n _=>l.length - (intOf n).toNat)
 case atStart=>exact ⟨0,Bs.zero,by omega,rfl,Bs.zero_ok,HT.out,H0.out⟩
 case round =>
  obtain ⟨k,b,hk,rfl,HQ⟩:=hrel
  clear HT H0
  by_cases hlt:k<l.length
  ·obtain ⟨bb,o,rfl,hc0⟩:=HC.out k hlt
   have hc:wr.cell? ⟨bb,o+k,none⟩=some (.int .i64 l[k]):=cell_later HQ.out.2.1.2.2 hc0
   have HS:=HST.out k hlt b
   have hltI:(k:Int)<(l.length:Int):=by omega
   clear hc0 HC HST
   generalize l[k]=n at *
   by_cases hn:0≤n∧n<1024
   ·obtain ⟨m,rfl⟩:=Int.eq_ofNat_of_zero_le hn.1
    have hm:m<1024:=by omega
    have HR:=show Hid (ofR (l.drop (k+1)) (Bs.put b m)=R) from by
     have:=HQ.out.2.2
     rw [HS,if_pos hn] at this
     exact this
    have HPO:=show Hid (Ok (Bs.put b m)) from Bs.put_ok HQ.out.1 m
    have KI2:=show Hid (∀ w,Calls Tryz.prog 83 #[.int .i64 (m:Int)] w fun e w'=>e=.returned (.bool true)∧w'=w) from fun w=>KI.out m w hm
    have KP2:=show Hid (∀ w,Calls Tryz.prog 84 #[.int .i64 (m:Int)] w fun e w'=>e=.returned (.tuple #[.int .i64 ((m / 64:Nat):Int),.int .u64 ((2 ^ (m % 64):Nat):Int)])∧w'=w.drew) from fun w=>KP.out m w hm
    have hq:m / 64<16:=by omega
    have hcl:=HQ.out.2.1.2.1.cell (i:=m / 64) (by rw [HQ.out.1.1];exact hq)
    have hor:=u64_or_nat (wd b (m / 64)) (2 ^ (m % 64)) (Bs.wd_lt HQ.out.1 _) (Bs.pow_lt (Nat.mod_lt _ (by omega)))
    have hfr:=HQ.out.2.1.2.1.fr (m / 64)
    have HNW:=show Hid (RowAt (wr.drew.setCell ⟨w.heap.size+1,m / 64,none⟩ (.int .u64 ((wd b (m / 64) ||| 2 ^ (m % 64):Nat):Int))) (w.heap.size+1) (Bs.put b m)) from by
     have h3:RowAt wr.drew (w.heap.size+1) b:=HQ.out.2.1.2.1
     exact h3.setCell (m / 64) (wd b (m / 64) ||| 2 ^ (m % 64))
    clear KI KO KP HS hn
    generalize Bs.put b m=b2 at *
    generalize wd b (m / 64) ||| 2 ^ (m % 64)=z at *
    generalize wd b (m / 64)=x at *
    generalize m / 64=q at *
    generalize 2 ^ (m % 64)=pw at *
    go_wp2_with (first | (go_at_call 83;refine (KI2.out _).mono ?_;rintro e w' ⟨rfl,rfl⟩) | (go_at_call 84;refine (KP2.out _).mono ?_;rintro e w' ⟨rfl,rfl⟩))
    go_roundw
    case rel=>exact ⟨k+1,b2,by omega,val_int (by omega),HPO.out,⟨HQ.out.2.1.1.other (by show w.heap.size≠w.heap.size+1;omega) _,HNW.out,HQ.out.2.1.2.2.drew.setCell (p:=⟨w.heap.size+1,q,none⟩) (Nat.le_succ _) _⟩,HR.out⟩
    case measure=>(simp only [intOf];omega)
   ·have HR:=show Hid (R=(Bs.zero,50)) from by
     have:=HQ.out.2.2
     rw [HS,if_neg hn] at this
     exact this.symm
    have KO2:=show Hid (∀ w,Calls Tryz.prog 83 #[.int .i64 n] w fun e w'=>e=.returned (.bool false)∧w'=w) from fun w=>KO.out n w hn
    clear KI KO KP HS hn
    go_wp2_with (first | (go_at_call 83;refine (KO2.out _).mono ?_;rintro e w' ⟨rfl,rfl⟩) | (refine wpList_store16 _ rfl rfl _ _ rfl _ rfl (r':=Bs.zero) rfl (r:=Bs.zero) HQ.out.2.1.1 Bs.zero_ok.1 Bs.zero_ok.1 ?_))
    refine bodyPost_ret (results_bits_tmp rfl _ _ w.heap.size (r:=Bs.zero) rfl (RowAt.setRow (r:=Bs.zero) HQ.out.2.1.1 Bs.zero) Bs.zero_ok.1) rfl ?_
    exact ⟨by rw [HR.out];rfl,below_setRow HQ.out.2.1.2.2 (Nat.le_refl _) _⟩
  ·have HR:=show Hid (R=(b,0)) from by
    have:=HQ.out.2.2
    rw [show k=l.length by omega,HN.out b] at this
    exact this.symm
   have hge:¬ (k:Int)<(l.length:Int):=by omega
   clear KI KO KP HST HC
   go_wp2_with (first | (refine wpList_load16 _ rfl _ rfl _ rfl (r:=b) HQ.out.2.1.2.1 HQ.out.1.1 ?_) | (refine wpList_store16 _ rfl rfl _ _ rfl _ rfl rfl (r:=Bs.zero) HQ.out.2.1.1 Bs.zero_ok.1 HQ.out.1.1 ?_))
   refine bodyPost_ret (results_bits_tmp rfl _ _ w.heap.size (r:=b) rfl (RowAt.setRow (r:=Bs.zero) HQ.out.2.1.1 b) HQ.out.1.1) rfl ?_
   exact ⟨by rw [HR.out];rfl,below_setRow HQ.out.2.1.2.2 (Nat.le_refl _) _⟩
end Go.Proofs.YtkmmlimekachbaaGreatDoor.Bt
/-
  heads: what must come at any rate comes. The tables stand.
-/
namespace Go.Proofs.YtkmmlimekachbaaGreatDoor.Bt
open Go.RowKit Go.Sort
open Bs (Ok wd)
def hd5:List Nat:=[39,1,0,0,0,0,0,0,0,0,0,0,0,0,0,0]
theorem wpList_store_new {ops:Array Oper} {rest:List Oper} {o:Oper} {a:Act} {Q:Exit→Act→World→Prop} (w:World) (z:Array Value) (hz:z=cellsB Bs.zero) (hg:o.guard=none) (hd:o.dst=none) (x y:Operand) (hop:o.op=Op.store 25 x y) (hx:a.eval x=.pointer (some ⟨w.heap.size,0,none⟩))
 {r':List Nat} (hy:a.eval y=.agg (cellsB r')) (hs':r'.length=16) (hK:wpList Tryz.prog ops Q rest a (w.alloc (.cells (cellsB r') 25))):wpList Tryz.prog ops Q (o :: rest) a (w.alloc (.cells z 25)):=by
 subst hz
 refine wpList_store16 _ hg hd x y hop w.heap.size hx hy (r:=Bs.zero) (heap_alloc_last w _) Bs.zero_ok.1 hs' ?_
 rw [World.setRow_alloc_new]
 exact hK
theorem wpList_ld {ops:Array Oper} {rest:List Oper} {o:Oper} {a:Act} {Q:Exit→Act→World→Prop} (w:World) (x:Operand) (hop:o.op=Op.load 25 x) (g:Nat) (hx:a.eval x=.pointer (some ⟨g,0,none⟩))
 {r:List Nat} (h:RowAt w g r) (hs:r.length=16) (hg:Region.wanted o (yielded ops a.tmps)=true) (hK:wpList Tryz.prog ops Q rest (a.put o.dst (.agg (cellsB r))) w):wpList Tryz.prog ops Q (o :: rest) a w:=wpList_load16 w hg x hop g hx h hs hK
theorem wpList_st {ops:Array Oper} {rest:List Oper} {o:Oper} {a:Act} {Q:Exit→Act→World→Prop} (w:World) (z:Array Value) (x y:Operand) (hop:o.op=Op.store 25 x y) (hz:z=cellsB Bs.zero) (hg:o.guard=none) (hd:o.dst=none) (hx:a.eval x=.pointer (some ⟨w.heap.size,0,none⟩))
 {r':List Nat} (hy:a.eval y=.agg (cellsB r')) (hs':r'.length=16) (hK:wpList Tryz.prog ops Q rest a (w.alloc (.cells (cellsB r') 25))):wpList Tryz.prog ops Q (o :: rest) a (w.alloc (.cells z 25)):=wpList_store_new w z hz hg hd x y hop hx hy hs' hK
def HF (w:World) (h:List Nat) (wx:World) (g:Nat):Prop:=Below w.heap.size w wx∧RowAt wx g h
theorem HF.later {w wx w':World} {h:List Nat} {g:Nat} (q:HF w h wx g) (hb:Below wx.heap.size wx w'):HF w h w' g:=⟨q.1.trans (hb.mono q.1.size),q.2.keep hb q.2.lt⟩
end Go.Proofs.YtkmmlimekachbaaGreatDoor.Bt
