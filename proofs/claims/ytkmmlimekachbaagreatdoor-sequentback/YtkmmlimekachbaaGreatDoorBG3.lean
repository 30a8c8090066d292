/-
  math/bits' OnesCount64 and TrailingZeros64, and Count and Next: for every set, every number. The table that TrailingZeros64 reads stands.
-/
import Derived.Test.YtkmmlimekachbaaGreatDoorBG2
import Derived.Test.YtkmmlimekachbaaGreatDoorBG1
import Derived.Shelf.Spec.TrailingZeros
namespace Go.Proofs.YtkmmlimekachbaaGreatDoor.Bt
open Go.RowKit
open Bs (Ok wd)
def Tz (w:World):Prop:=TabAt 0 Lib.deBruijn64tab w
theorem tz_block {w w':World} (h:Tz w) (hb:Below w.heap.size w w'):Tz w':=fun j hj=>cell_later hb (h j hj)
theorem tz_lt {w:World} (h:Tz w):0<w.heap.size:=by
 have:=h 0 (by decide)
 apply Nat.lt_of_not_le
 intro hle
 rw [World.cell?,Array.getElem?_eq_none hle] at this
 cases this
set_option maxHeartbeats 1000000 in
theorem tz_core (x k idx:Nat) (w:World) (hx0:((x:Int) == 0)=false)
 (key:IntKind.u64.wrap (bits BinOp.and IntKind.u64 (x:Int) (IntKind.u64.wrap (-(x:Int))) * 285870213051353865) / 288230376151711744=(idx:Int))
 (hi:idx<64) (hk:k<64) (hcell:w.cell? ⟨0,idx,none⟩=some (.int .u8 k)) :
 Calls Tryz.prog 91 #[.int .u64 x] w fun e w'=>e=.returned (.int .i64 k)∧w'=w:=by
 go_enter Tryz.func91,Tryz.ntmps91
 go_wp2_with (simp only [key])
 go_ret
 exact ⟨rfl,rfl⟩
theorem tz_any (w:World) (hT:Tz w) {x:Nat} (h0:x≠0) (hx:x<18446744073709551616):Calls Tryz.prog 91 #[.int .u64 (x:Int)] w fun e w'=>e=.returned (.int .i64 ((Lib.ctz 64 x:Nat):Int))∧w'=w:=by
 obtain ⟨hlow,hk⟩:=Lib.lowest_bit 64 x h0 hx
 obtain ⟨hi,htab⟩:=Lib.deBruijn64_at _ hk
 have hcell:=hT _ hi
 rw [htab] at hcell
 exact tz_core x _ _ w (by simpa using h0) (tz64_key x _ hx h0 hlow) hi hk hcell
/-! OnesCount64. -/
theorem and64 (x m:Nat) (hx:x<18446744073709551616) (hm:m<18446744073709551616):bits .and .u64 (x:Int) (m:Int)=((x &&& m:Nat):Int):=u64_and_nat x m hx hm
theorem and_le (x m:Nat):x &&& m≤m:=Nat.and_le_right
theorem and127 {x:Nat} (h:x<9223372036854775808):bits .and .i64 (x:Int) 127=((x % 128:Nat):Int):=by
 show IntKind.i64.wrap ((BitVec.ofInt 64 (x:Int) &&& BitVec.ofInt 64 (127:Int)).toNat:Int)=_
 have e1:(BitVec.ofInt 64 (x:Int)).toNat=x:=by
  rw [BitVec.ofInt_natCast,BitVec.toNat_ofNat];exact Nat.mod_eq_of_lt (by omega)
 have e2:(BitVec.ofInt 64 (127:Int)).toNat=127:=by decide
 rw [BitVec.toNat_and,e1,e2,show (127:Nat)=2 ^ 7 - 1 by rfl,Nat.and_two_pow_sub_one_eq_mod]
 have:x % 2 ^ 7<128:=Nat.mod_lt _ (by omega)
 rw [show (128:Nat)=2 ^ 7 by rfl] at *
 simp [IntKind.wrap,IntKind.bits,IntKind.signed]
 omega
theorem wrap_add (a b:Nat) (h:a+b<18446744073709551616):IntKind.u64.wrap ((a:Int)+(b:Int))=((a+b:Nat):Int):=by
 rw [IntKind.wrap_u64]
 omega
theorem and_div (x c m:Nat) (hx:x<18446744073709551616) (hm:m<18446744073709551616):bits .and .u64 ((x:Int) / (c:Int)) (m:Int)=((x / c &&& m:Nat):Int):=by
 have e:(x:Int) / (c:Int)=((x / c:Nat):Int):=by simp
 rw [e]
 exact u64_and_nat _ _ (Nat.lt_of_le_of_lt (Nat.div_le_self _ _) hx) hm
theorem ones_steps {x:Nat} (hx:x<18446744073709551616):∃ y1 y2 y3 y4 y5 y6:Nat,
 IntKind.u64.wrap (bits .and .u64 ((x:Int) / 2) 6148914691236517205+bits .and .u64 (x:Int) 6148914691236517205)=(y1:Int) ∧
 IntKind.u64.wrap (bits .and .u64 ((y1:Int) / 4) 3689348814741910323+bits .and .u64 (y1:Int) 3689348814741910323)=(y2:Int) ∧
 bits .and .u64 (IntKind.u64.wrap ((y2:Int) / 16+(y2:Int))) 1085102592571150095=(y3:Int) ∧
 IntKind.u64.wrap ((y3:Int)+(y3:Int) / 256)=(y4:Int)∧IntKind.u64.wrap ((y4:Int)+(y4:Int) / 65536)=(y5:Int)∧IntKind.u64.wrap ((y5:Int)+(y5:Int) / 4294967296)=(y6:Int) ∧
 y6<9223372036854775808∧y6 % 128=Bs.pop x:=by
 have b1:Bs.fold1 x<18446744073709551616:=by
  have h1:=and_le (x / 2) 6148914691236517205
  have h2:=and_le x 6148914691236517205
  unfold Bs.fold1
  omega
 have b2:Bs.fold2 (Bs.fold1 x)≤7378697629483820646:=by
  have h1:=and_le (Bs.fold1 x / 4) 3689348814741910323
  have h2:=and_le (Bs.fold1 x) 3689348814741910323
  unfold Bs.fold2
  omega
 obtain ⟨c0,c1,c2,c3,c4,c5,c6,c7,q0,q1,q2,q3,q4,q5,q6,q7,hp,hy⟩:=Bs.ones_last hx rfl
 obtain ⟨y3,h3⟩:∃ y,y=Bs.fold3 (Bs.fold2 (Bs.fold1 x)):=⟨_,rfl⟩
 obtain ⟨y4,h4⟩:∃ y,y=y3+y3 / 256:=⟨_,rfl⟩
 obtain ⟨y5,h5⟩:∃ y,y=y4+y4 / 65536:=⟨_,rfl⟩
 obtain ⟨y6,h6⟩:∃ y,y=y5+y5 / 4294967296:=⟨_,rfl⟩
 rw [← h3] at hy
 refine ⟨Bs.fold1 x,Bs.fold2 (Bs.fold1 x),y3,y4,y5,y6,?_,?_,?_,?_,?_,?_,?_,?_⟩
 ·have e1:=and_div x 2 6148914691236517205 hx (by omega)
  have e2:=and64 x 6148914691236517205 hx (by omega)
  simp only [Int.cast_ofNat_Int] at e1 e2
  rw [e1,e2,wrap_add _ _ b1]
  rfl
 ·have e1:=and_div (Bs.fold1 x) 4 3689348814741910323 b1 (by omega)
  have e2:=and64 (Bs.fold1 x) 3689348814741910323 b1 (by omega)
  simp only [Int.cast_ofNat_Int] at e1 e2
  rw [e1,e2,wrap_add _ _ (show Bs.fold2 (Bs.fold1 x)<_ by omega)]
  rfl
 ·rw [h3]
  generalize Bs.fold2 (Bs.fold1 x)=y at *
  have e1:=wrap_add (y / 16) y (by omega)
  have e2:=and64 (y / 16+y) 1085102592571150095 (by omega) (by omega)
  have e3:((y / 16:Nat):Int)=(y:Int) / 16:=by simp
  simp only [Int.cast_ofNat_Int] at e2
  rw [← e3,e1,e2]
  rfl
 all_goals clear b1 b2 h3
 ·clear h5 h6;rw [IntKind.wrap_u64];omega
 ·clear h6;rw [IntKind.wrap_u64];omega
 ·rw [IntKind.wrap_u64];omega
 ·omega
 ·have f4:y4=(c0+c1)+256 * ((c1+c2)+256 * ((c2+c3)+256 * ((c3+c4)+256 * ((c4+c5)+256 * ((c5+c6)+256 * ((c6+c7)+256 * c7)))))):=by clear h5 h6 hp;omega
  clear h4 hy
  have f5:y5=(c0+c1+c2+c3)+256 * ((c1+c2+c3+c4)+256 * ((c2+c3+c4+c5)+256 * ((c3+c4+c5+c6)+256 * ((c4+c5+c6+c7)+256 * ((c5+c6+c7)+256 * ((c6+c7)+256 * c7)))))):=by clear h6 hp;omega
  clear h5 f4
  have f6:y5 / 4294967296=(c4+c5+c6+c7)+256 * ((c5+c6+c7)+256 * ((c6+c7)+256 * c7)):=by clear h6 hp;omega
  rw [hp,h6,f6]
  clear h6 f6
  omega
set_option maxRecDepth 100000 in
set_option maxHeartbeats 4000000 in
theorem ones_any (w:World) {x:Nat} (hx:x<18446744073709551616):Calls Tryz.prog 138 #[.int .u64 (x:Int)] w fun e w'=>e=.returned (.int .i64 ((Bs.pop x:Nat):Int))∧w'=w:=by
 obtain ⟨y1,y2,y3,y4,y5,y6,e1,e2,e3,e4,e5,e6,h6,h7⟩:=ones_steps hx
 have e7:=and127 h6
 rw [h7] at e7
 clear h7
 go_enter Tryz.func138,Tryz.ntmps138
 go_wp2
 go_ret
 exact ⟨rfl,rfl⟩
end Go.Proofs.YtkmmlimekachbaaGreatDoor.Bt
/-
  Count and Next, and the document's Compare and Next: for every set, every number. The table that TrailingZeros64 reads stands.
-/
namespace Go.Proofs.YtkmmlimekachbaaGreatDoor.Bt
open Go.RowKit
open Bs (Ok wd)
theorem pop_le (x:Nat):Bs.pop x≤64:=by
 have:=List.countP_le_length (p:=x.testBit) (l:=List.range 64)
 rwa [List.length_range] at this
theorem count_le {r:List Nat} (h:r.length=16):∀ k,k≤16→Bs.count r k≤64 * k
 | 0,_=>by simp [Bs.count]
 | k+1,hk=>by
  have:=count_le h k (by omega)
  have h2:=pop_le (wd r k)
  rw [Bs.count_step h (by omega)]
  omega
theorem index_bits (w:World) {r:List Nat} (h:r.length=16) {k:Nat} (hk:k<16):(Instr.index 25 (.agg (cellsB r)) (.int .i64 (k:Int))).run Tryz.prog w=.ok (.int .u64 (wd r k:Int)) w:=by
 have hp:=part_bits w (p:=r) (i:=k) (by rw [h];exact hk)
 simp [Instr.index,run_underlying under25]
 show (if 0≤(k:Int)∧(k:Int)<16 then Sem.run Tryz.prog (part 23 (cellsB r) (k:Int).toNat) w else _)=_
 rw [if_pos (by omega),Int.toNat_natCast]
 exact hp
set_option maxRecDepth 100000 in
set_option maxHeartbeats 2000000 in
theorem count_any (w:World) {r:List Nat} (hr:Ok r):Calls Tryz.prog 88 #[.agg (cellsB r)] w fun e w'=>e=.returned (.int .i64 ((Bs.count r 16:Nat):Int))∧w'=w.alloc (.cells (cellsB r) 25):=by
 have KO:=show Hid (∀ k w,Calls Tryz.prog 138 #[.int .u64 (wd r k:Int)] w fun e w'=>e=.returned (.int .i64 ((Bs.pop (wd r k):Nat):Int))∧w'=w) from fun k w=>ones_any w (Bs.wd_lt hr k)
 have HS:=show Hid (∀ k,k<16→Bs.count r (k+1)=Bs.count r k+Bs.pop (wd r k)) from fun k hk=>Bs.count_step hr.1 hk
 have HL:=show Hid (∀ k,k≤16→Bs.count r k≤1024) from fun k hk=>Nat.le_trans (count_le hr.1 k hk) (by omega)
 have HR:=show Hid (r.length=16) from hr.1
 have HP:=show Hid (∀ x,Bs.pop x≤64) from pop_le
 clear hr
 go_enter Tryz.func88,Tryz.ntmps88
 go_wp2_with (refine wpList_load16 _ rfl _ rfl _ rfl (r:=r) (heap_alloc_last w _) HR.out ?_)
 go_loopw [3,7] (fun m n wr=>∃ k:Nat,k≤16∧n=.int .i64 (k:Int)∧m=.int .i64 ((Bs.count r k:Nat):Int)∧wr=w.alloc (.cells (cellsB r) 25)) (fun _ n _=>16 - (intOf n).toNat)
 case atStart=>exact ⟨0,by omega,rfl,rfl,rfl⟩
 case round =>
  obtain ⟨k,hk,rfl,rfl,rfl⟩:=hrel
  by_cases hlt:k<16
  ·have hix:=fun w=>index_bits w HR.out hlt
   have KO2:=show Hid (∀ w,Calls Tryz.prog 138 #[.int .u64 (wd r k:Int)] w fun e w'=>e=.returned (.int .i64 ((Bs.pop (wd r k):Nat):Int))∧w'=w) from KO.out k
   have HN:=show Hid (Bs.count r (k+1)=Bs.count r k+Bs.pop (wd r k)) from HS.out k hlt
   have h1:=HL.out k hk
   have h2:=HP.out (wd r k)
   clear KO HS HL HP
   generalize Bs.pop (wd r k)=p at *
   generalize wd r k=x at *
   generalize Bs.count r k=c at *
   go_wp2_with (go_at_call 138;refine (KO2.out _).mono ?_;rintro e w' ⟨rfl,rfl⟩)
   go_roundw
   case rel=>exact ⟨k+1,by omega,val_int (by omega),val_int (by rw [HN.out];omega),by trivial⟩
   case measure=>(simp only [intOf];omega)
  ·have HK:=show Hid (Bs.count r k=Bs.count r 16) from by rw [show k=16 by omega];exact rfl
   clear KO HS HL HP
   generalize Bs.count r k=c at *
   go_wp2
   go_ret
   exact ⟨ret_int (by rw [HK.out]),rfl⟩
def nextI (r:List Nat) (n:Int):Option Nat:=Bs.next r n.toNat
def nextV (o:Option Nat):Value:=match o with
 | none=>.tuple #[.int .i64 0,.bool false]
 | some m=>.tuple #[.int .i64 (m:Int),.bool true]
end Go.Proofs.YtkmmlimekachbaaGreatDoor.Bt
/-
  Next: for every set, every number. The table that TrailingZeros64 reads stands.
-/
namespace Go.Proofs.YtkmmlimekachbaaGreatDoor.Bt
open Go.RowKit
open Bs (Ok wd)
theorem shlshr {x:Nat} (s:Nat) (hx:x<18446744073709551616):IntKind.u64.wrap ((x:Int) / 2 ^ s * 2 ^ s)=((x / 2 ^ s * 2 ^ s:Nat):Int):=by
 have h:=Nat.lt_of_le_of_lt (Nat.div_mul_le_self x (2 ^ s)) hx
 have e:((x:Int) / 2 ^ s * 2 ^ s)=((x / 2 ^ s * 2 ^ s:Nat):Int):=by simp
 rw [e,IntKind.wrap_u64]
 omega
theorem wrap_self {x:Nat} (hx:x<18446744073709551616):IntKind.u64.wrap (x:Int)=(x:Int):=by
 rw [IntKind.wrap_u64]
 omega
theorem tup_nat {x:Int} {m:Nat} (h:x=(m:Int)):Ending.returned (.tuple #[.int .i64 x,.bool true])=Ending.returned (nextV (some m)):=by rw [h];rfl
theorem at_first0 {r:List Nat} (h:Ok r):Bs.At r 0 0 (wd r 0):=⟨Bs.wd_lt h 0,fun k _=>by simp⟩
set_option maxRecDepth 100000 in
set_option maxHeartbeats 4000000 in
theorem next_any (w:World) (hT:Tz w) {r:List Nat} (hr:Ok r) (n:Int) (hn:n≤9223372036854775807):Calls Tryz.prog 64 #[.agg (cellsB r),.int .i64 n] w fun e w'=>e=.returned (nextV (nextI r n))∧w'=w.alloc (.cells (cellsB r) 25):=by
 have KT:=show Hid (∀ x:Nat,x≠0→x<18446744073709551616→Calls Tryz.prog 91 #[.int .u64 (x:Int)] (w.alloc (.cells (cellsB r) 25)) fun e w'=>e=.returned (.int .i64 ((Lib.ctz 64 x:Nat):Int))∧w'=w.alloc (.cells (cellsB r) 25)) from fun x h0 hx=>tz_any _ (tz_block hT (below_alloc w _)) h0 hx
 have HR:=show Hid (r.length=16) from hr.1
 have hcase:(0≤n∧n=((n.toNat:Nat):Int))∨(n<0∧n.toNat=0):=by omega
 have HNX:=show Hid (nextI r n=Bs.next r n.toNat) from rfl
 have HW:=show Hid (∀ k,wd r k<18446744073709551616) from fun k=>Bs.wd_lt hr k
 have HC:=show Hid (∀ x,x≠0→x<18446744073709551616→Lib.ctz 64 x<64) from fun x h0 hx=>(Bs.ctz_bits h0 hx).1
 generalize n.toNat=m at *
 clear hT
 rcases hcase with ⟨hpos,rfl⟩ | ⟨hpos,rfl⟩
 ·have HF:=show Hid (Bs.At r m (m / 64) (wd r (m / 64) / 2 ^ (m % 64) * 2 ^ (m % 64))) from Bs.at_first hr m
  have HL:=show Hid (∀ i,m / 64<i→Bs.At r m i (wd r i)) from fun i hi=>Bs.at_later hr (by omega)
  clear hr
  go_enter Tryz.func64,Tryz.ntmps64
  go_wp2
  go_loopw [7] (fun v wr=>∃ k:Nat,v=.int .i64 (k:Int)∧wr=w.alloc (.cells (cellsB r) 25)∧Hid (m / 64≤k∧∀ i,m≤i→i<k * 64→Bs.has r i=false)) (fun v _=>16 - (intOf v).toNat)
  case atStart=>exact ⟨m / 64,val_int (by omega),rfl,Nat.le_refl _,fun i h1 h2=>by omega⟩
  case round =>
   obtain ⟨k,rfl,rfl,HQ⟩:=hrel
   clear hpos
   by_cases hlt:k<16
   ·have hc:=cellsB_at (r:=r) (i:=k) (by rw [HR.out];exact hlt)
    have hx:=HW.out k
    by_cases hk:k=m / 64
    ·subst hk
     clear HL
     have HA:=show Hid (Bs.At r m (m / 64) (wd r (m / 64) / 2 ^ (m % 64) * 2 ^ (m % 64))) from HF.out
     have hsh:=shlshr (m % 64) hx
     clear HF
     by_cases hz:wd r (m / 64) / 2 ^ (m % 64) * 2 ^ (m % 64)=0
     ·rw [hz] at hsh
      try rw [hz] at hc
      have HZ:=show Hid (∀ i,m≤i→i<(m / 64+1) * 64→Bs.has r i=false) from Bs.next_low HQ.out.2 (by have:=HA.out;rwa [hz] at this)
      clear hz HA KT HC HW
      generalize wd r (m / 64)=x at *
      go_wp2
      go_roundw
      case rel=>exact ⟨m / 64+1,val_int (by omega),by trivial,by omega,HZ.out⟩
      case measure=>(simp only [intOf];omega)
     ·have HZ:=show Hid (Bs.next r m=some (m / 64 * 64+Lib.ctz 64 (wd r (m / 64) / 2 ^ (m % 64) * 2 ^ (m % 64)))) from Bs.next_found hlt HQ.out.2 HA.out hz
      have KT2:=show Hid (Calls Tryz.prog 91 #[.int .u64 ((wd r (m / 64) / 2 ^ (m % 64) * 2 ^ (m % 64):Nat):Int)] (w.alloc (.cells (cellsB r) 25)) fun e w'=>e=.returned (.int .i64 ((Lib.ctz 64 (wd r (m / 64) / 2 ^ (m % 64) * 2 ^ (m % 64)):Nat):Int))∧w'=w.alloc (.cells (cellsB r) 25)) from KT.out _ hz HA.out.1
      have hc64:=HC.out _ hz HA.out.1
      have hnz:(((wd r (m / 64) / 2 ^ (m % 64) * 2 ^ (m % 64):Nat):Int) != 0)=true:=by
       rw [ne_zero_int];simpa using hz
      clear hz HA KT HC HW
      generalize wd r (m / 64) / 2 ^ (m % 64) * 2 ^ (m % 64)=z at *
      generalize Lib.ctz 64 z=c at *
      generalize wd r (m / 64)=x at *
      go_wp2_with (go_at_call 91;refine KT2.out.mono ?_;rintro e w' ⟨rfl,rfl⟩)
      go_ret2
      exact ⟨by rw [HNX.out,HZ.out];exact tup_nat (by omega),rfl⟩
    ·have hgt:m / 64<k:=by have:=HQ.out.1;omega
     have HA:=show Hid (Bs.At r m k (wd r k)) from HL.out k hgt
     have hne:((k:Int) == (m:Int) / 64)=false:=by
      rw [beq_eq_false_iff_ne];omega
     clear HL HF hk
     by_cases hz:wd r k=0
     ·have HZ:=show Hid (∀ i,m≤i→i<(k+1) * 64→Bs.has r i=false) from Bs.next_low HQ.out.2 (by have:=HA.out;rwa [hz] at this)
      rw [hz] at hc
      clear hz HA KT HC HW hx
      go_wp2
      go_roundw
      case rel=>exact ⟨k+1,val_int (by omega),by trivial,by omega,HZ.out⟩
      case measure=>(simp only [intOf];omega)
     ·have HZ:=show Hid (Bs.next r m=some (k * 64+Lib.ctz 64 (wd r k))) from Bs.next_found hlt HQ.out.2 HA.out hz
      have KT2:=show Hid (Calls Tryz.prog 91 #[.int .u64 ((wd r k:Nat):Int)] (w.alloc (.cells (cellsB r) 25)) fun e w'=>e=.returned (.int .i64 ((Lib.ctz 64 (wd r k):Nat):Int))∧w'=w.alloc (.cells (cellsB r) 25)) from KT.out _ hz HA.out.1
      have hc64:=HC.out _ hz HA.out.1
      have hnz:(((wd r k:Nat):Int) != 0)=true:=by
       rw [ne_zero_int];simpa using hz
      clear hz HA KT HC HW hx
      generalize wd r k=z at *
      generalize Lib.ctz 64 z=c at *
      go_wp2_with (go_at_call 91;refine KT2.out.mono ?_;rintro e w' ⟨rfl,rfl⟩)
      go_ret2
      exact ⟨by rw [HNX.out,HZ.out];exact tup_nat (by omega),rfl⟩
   ·have HH:=show Hid (Bs.next r m=none) from Bs.next_no fun i h1 h2=>HQ.out.2 i h1 (by omega)
    clear KT HC HW HF HL
    go_wp2
    go_ret2
    exact ⟨by rw [HNX.out,HH.out];rfl,rfl⟩
 ·have HF:=show Hid (Bs.At r 0 (0) (wd r 0)) from at_first0 hr
  have HL:=show Hid (∀ i,0<i→Bs.At r 0 i (wd r i)) from fun i hi=>Bs.at_later hr (by omega)
  clear hr
  go_enter Tryz.func64,Tryz.ntmps64
  go_wp2
  go_loopw [7] (fun v wr=>∃ k:Nat,v=.int .i64 (k:Int)∧wr=w.alloc (.cells (cellsB r) 25)∧Hid (0≤k∧∀ i,0≤i→i<k * 64→Bs.has r i=false)) (fun v _=>16 - (intOf v).toNat)
  case atStart=>exact ⟨0,rfl,rfl,Nat.le_refl _,fun i h1 h2=>by omega⟩
  case round =>
   obtain ⟨k,rfl,rfl,HQ⟩:=hrel
   clear hpos
   by_cases hlt:k<16
   ·have hc:=cellsB_at (r:=r) (i:=k) (by rw [HR.out];exact hlt)
    have hx:=HW.out k
    by_cases hk:k=0
    ·subst hk
     clear HL
     have HA:=show Hid (Bs.At r 0 (0) (wd r 0)) from HF.out
     have hsh:=wrap_self hx
     clear HF
     by_cases hz:wd r 0=0
     ·rw [hz] at hsh
      try rw [hz] at hc
      have HZ:=show Hid (∀ i,0≤i→i<(0+1) * 64→Bs.has r i=false) from Bs.next_low HQ.out.2 (by have:=HA.out;rwa [hz] at this)
      clear hz HA KT HC HW
      generalize wd r (0)=x at *
      go_wp2
      go_roundw
      case rel=>exact ⟨0+1,val_int (by omega),by trivial,by omega,HZ.out⟩
      case measure=>(simp only [intOf];omega)
     ·have HZ:=show Hid (Bs.next r 0=some (0 * 64+Lib.ctz 64 (wd r 0))) from Bs.next_found hlt HQ.out.2 HA.out hz
      have KT2:=show Hid (Calls Tryz.prog 91 #[.int .u64 ((wd r 0:Nat):Int)] (w.alloc (.cells (cellsB r) 25)) fun e w'=>e=.returned (.int .i64 ((Lib.ctz 64 (wd r 0):Nat):Int))∧w'=w.alloc (.cells (cellsB r) 25)) from KT.out _ hz HA.out.1
      have hc64:=HC.out _ hz HA.out.1
      have hnz:(((wd r 0:Nat):Int) != 0)=true:=by
       rw [ne_zero_int];simpa using hz
      clear hz HA KT HC HW
      generalize wd r 0=z at *
      generalize Lib.ctz 64 z=c at *
      skip
      go_wp2_with (go_at_call 91;refine KT2.out.mono ?_;rintro e w' ⟨rfl,rfl⟩)
      go_ret2
      exact ⟨by rw [HNX.out,HZ.out];exact tup_nat (by omega),rfl⟩
    ·have hgt:0<k:=by have:=HQ.out.1;omega
     have HA:=show Hid (Bs.At r 0 k (wd r k)) from HL.out k hgt
     have hne:((k:Int) == 0)=false:=by
      rw [beq_eq_false_iff_ne];omega
     clear HL HF hk
     by_cases hz:wd r k=0
     ·have HZ:=show Hid (∀ i,0≤i→i<(k+1) * 64→Bs.has r i=false) from Bs.next_low HQ.out.2 (by have:=HA.out;rwa [hz] at this)
      rw [hz] at hc
      clear hz HA KT HC HW hx
      go_wp2
      go_roundw
      case rel=>exact ⟨k+1,val_int (by omega),by trivial,by omega,HZ.out⟩
      case measure=>(simp only [intOf];omega)
     ·have HZ:=show Hid (Bs.next r 0=some (k * 64+Lib.ctz 64 (wd r k))) from Bs.next_found hlt HQ.out.2 HA.out hz
      have KT2:=show Hid (Calls Tryz.prog 91 #[.int .u64 ((wd r k:Nat):Int)] (w.alloc (.cells (cellsB r) 25)) fun e w'=>e=.returned (.int .i64 ((Lib.ctz 64 (wd r k):Nat):Int))∧w'=w.alloc (.cells (cellsB r) 25)) from KT.out _ hz HA.out.1
      have hc64:=HC.out _ hz HA.out.1
      have hnz:(((wd r k:Nat):Int) != 0)=true:=by
       rw [ne_zero_int];simpa using hz
      clear hz HA KT HC HW hx
      generalize wd r k=z at *
      generalize Lib.ctz 64 z=c at *
      go_wp2_with (go_at_call 91;refine KT2.out.mono ?_;rintro e w' ⟨rfl,rfl⟩)
      go_ret2
      exact ⟨by rw [HNX.out,HZ.out];exact tup_nat (by omega),rfl⟩
   ·have HH:=show Hid (Bs.next r 0=none) from Bs.next_no fun i h1 h2=>HQ.out.2 i h1 (by omega)
    clear KT HC HW HF HL
    go_wp2
    go_ret2
    exact ⟨by rw [HNX.out,HH.out];rfl,rfl⟩
end Go.Proofs.YtkmmlimekachbaaGreatDoor.Bt
