import Derived.Test.YtkpbpecikibohaaGreatDoorBG2
import Derived.Test.YtkpbpecikibohaaGreatDoorBG1
import Derived.Shelf.Spec.TrailingZeros
set_option linter.unusedSimpArgs false
set_option maxRecDepth 100000
set_option maxHeartbeats 4000000
namespace Go.Proofs.YtkpbpecikibohaaGreatDoor.Bt
open Go.RowKit
open Bs (Ok wd)
def Tz (w:World):Prop:=TabAt 2 Lib.deBruijn64tab w
theorem iY {w w':World} (h:Tz w) (hb:Below w.heap.size w w'):Tz w':=fun j hj=>cell_later hb (h j hj)
theorem qL {w:World} (h:Tz w):2<w.heap.size:=by
 have:=h 0 (by decide)
 apply Nat.lt_of_not_le
 intro hle
 rw[World.cell?,Array.getElem?_eq_none hle] at this
 cases this
theorem RH (x k idx:Nat) (w:World) (hx0:((x:Int) == 0)=false)
 (key:IntKind.u64.wrap (bits BinOp.and IntKind.u64 (x:Int) (IntKind.u64.wrap (-(x:Int))) * 285870213051353865) / 288230376151711744=(idx:Int))
 (hi:idx<64) (hk:k<64) (hcell:w.cell? ⟨2,idx,none⟩=some (.int .u8 k)) :
 Calls Tryz.prog 115 #[.int .u64 x] w fun e w'=>e=.returned (.int .i64 k)/\w'=w:=by
 go_enter Tryz.func115,Tryz.ntmps115
 go_wp2_with (simp only[key])
 go_ret
 exact⟨rfl,rfl⟩
theorem LH (w:World) (hT:Tz w) {x:Nat} (h0:x≠0) (hx:x<18446744073709551616):Calls Tryz.prog 115 #[.int .u64 (x:Int)] w fun e w'=>e=.returned (.int .i64 ((Lib.ctz 64 x:Nat):Int))/\w'=w:=by
 obtain⟨hlow,hk⟩:=Lib.lowest_bit 64 x h0 hx
 obtain⟨hi,htab⟩:=Lib.deBruijn64_at _ hk
 have hcell:=hT _ hi
 rw[htab] at hcell
 exact RH x _ _ w (by simpa using h0) (tz64_key x _ hx h0 hlow) hi hk hcell
theorem I4 (w:World) {r:List Nat} (h:r.length=16) {k:Nat} (hk:k<16):(Instr.index 51 (.agg (aG r)) (.int .i64 (k:Int))).run Tryz.prog w=.ok (.int .u64 (wd r k:Int)) w:=by
 have hp:=vP w (p:=r) (i:=k) (by rw[h];exact hk)
 simp[Instr.index,run_underlying l6]
 show(if 0<=(k:Int)/\(k:Int)<16 then Sem.run Tryz.prog (part 49 (aG r) (k:Int).toNat) w else _)=_
 rw[if_pos (by omega),Int.toNat_natCast]
 exact hp
def sF (r:List Nat) (n:Int):Option Nat:=Bs.next r n.toNat
def zm (o:Option Nat):Value:=match o with
 | none=>.tuple #[.int .i64 0,.bool false]
 | some m=>.tuple #[.int .i64 (m:Int),.bool true]
theorem Uf {x:Nat} (s:Nat) (hx:x<18446744073709551616):IntKind.u64.wrap ((x:Int) / 2 ^ s * 2 ^ s)=((x / 2 ^ s * 2 ^ s:Nat):Int):=by
 have h:=Nat.lt_of_le_of_lt (Nat.div_mul_le_self x (2 ^ s)) hx
 have e:((x:Int) / 2 ^ s * 2 ^ s)=((x / 2 ^ s * 2 ^ s:Nat):Int):=by simp
 rw[e,IntKind.wrap_u64]
 omega
theorem LJ {x:Nat} (hx:x<18446744073709551616):IntKind.u64.wrap (x:Int)=(x:Int):=by
 rw[IntKind.wrap_u64]
 omega
theorem wS {x:Int} {m:Nat} (h:x=(m:Int)):Ending.returned (.tuple #[.int .i64 x,.bool true])=Ending.returned (zm (some m)):=by rw[h];rfl
theorem LK {r:List Nat} (h:Ok r):Bs.At r 0 0 (wd r 0):=⟨Bs.nX h 0,fun k _=>by simp⟩
theorem Og (w:World) (hT:Tz w) {r:List Nat} (hr:Ok r) (n:Int) (hn:n<=9223372036854775807):Calls Tryz.prog 92 #[.agg (aG r),.int .i64 n] w fun e w'=>e=.returned (zm (sF r n))/\w'=w.alloc (.cells (aG r) 51):=by
 have KT:=show Hid (∀ x:Nat,x≠0->x<18446744073709551616->Calls Tryz.prog 115 #[.int .u64 (x:Int)] (w.alloc (.cells (aG r) 51)) fun e w'=>e=.returned (.int .i64 ((Lib.ctz 64 x:Nat):Int))/\w'=w.alloc (.cells (aG r) 51)) from fun x h0 hx=>LH _ (iY hT (ak w _)) h0 hx
 have HR:=show Hid (r.length=16) from hr.1
 have hcase:(0<=n/\n=((n.toNat:Nat):Int))\/(n<0/\n.toNat=0):=by omega
 have GK:=show Hid (sF r n=Bs.next r n.toNat) from rfl
 have HW:=show Hid (∀ k,wd r k<18446744073709551616) from fun k=>Bs.nX hr k
 have HC:=show Hid (∀ x,x≠0->x<18446744073709551616->Lib.ctz 64 x<64) from fun x h0 hx=>(Bs.uI h0 hx).1
 generalize n.toNat=m at *
 clear hT
 rcases hcase with ⟨hpos,rfl⟩ | ⟨hpos,rfl⟩
 ·have HF:=show Hid (Bs.At r m (m / 64) (wd r (m / 64) / 2 ^ (m % 64) * 2 ^ (m % 64))) from Bs.Ob hr m
  have HL:=show Hid (∀ i,m / 64<i->Bs.At r m i (wd r i)) from fun i hi=>Bs.Dn hr (by omega)
  clear hr
  go_enter Tryz.func92,Tryz.ntmps92
  go_wp2
  go_loopw [7] (fun v wr=>∃ k:Nat,v=.int .i64 (k:Int)/\wr=w.alloc (.cells (aG r) 51)/\Hid (m / 64<=k/\∀ i,m<=i->i<k * 64->Bs.has r i=false)) (fun v _=>16 - (intOf v).toNat)
  case atStart=>exact⟨m / 64,gB (by omega),rfl,Nat.le_refl _,fun i h1 h2=>by omega⟩
  case round=>
   obtain⟨k,rfl,rfl,HQ⟩:=hrel
   clear hpos
   by_cases hlt:k<16
   ·have hc:=lU (r:=r) (i:=k) (by rw[HR.out];exact hlt)
    have hx:=HW.out k
    by_cases hk:k=m / 64
    ·subst hk
     clear HL
     have HA:=show Hid (Bs.At r m (m / 64) (wd r (m / 64) / 2 ^ (m % 64) * 2 ^ (m % 64))) from HF.out
     have hsh:=Uf (m % 64) hx
     clear HF
     by_cases hz:wd r (m / 64) / 2 ^ (m % 64) * 2 ^ (m % 64)=0
     ·rw[hz] at hsh
      try rw[hz] at hc
      have HZ:=show Hid (∀ i,m<=i->i<(m / 64+1) * 64->Bs.has r i=false) from Bs.uJ HQ.out.2 (by have:=HA.out;rwa [hz] at this)
      clear hz HA KT HC HW
      generalize wd r (m / 64)=x at *
      go_wp2
      go_roundw
      case rel=>exact⟨m / 64+1,gB (by omega),by trivial,by omega,HZ.out⟩
      case measure=>(simp only[intOf];omega)
     ·have HZ:=show Hid (Bs.next r m=some (m / 64 * 64+Lib.ctz 64 (wd r (m / 64) / 2 ^ (m % 64) * 2 ^ (m % 64)))) from Bs.qI hlt HQ.out.2 HA.out hz
      have Dr:=show Hid (Calls Tryz.prog 115 #[.int .u64 ((wd r (m / 64) / 2 ^ (m % 64) * 2 ^ (m % 64):Nat):Int)] (w.alloc (.cells (aG r) 51)) fun e w'=>e=.returned (.int .i64 ((Lib.ctz 64 (wd r (m / 64) / 2 ^ (m % 64) * 2 ^ (m % 64)):Nat):Int))/\w'=w.alloc (.cells (aG r) 51)) from KT.out _ hz HA.out.1
      have I5:=HC.out _ hz HA.out.1
      have hnz:(((wd r (m / 64) / 2 ^ (m % 64) * 2 ^ (m % 64):Nat):Int) != 0)=true:=by
       rw[mO];simpa using hz
      clear hz HA KT HC HW
      generalize wd r (m / 64) / 2 ^ (m % 64) * 2 ^ (m % 64)=z at *
      generalize Lib.ctz 64 z=c at *
      generalize wd r (m / 64)=x at *
      go_wp2_with (go_at_call 115;refine Dr.out.mono ?_;rintro e w' ⟨rfl,rfl⟩)
      go_ret2
      exact⟨by rw[GK.out,HZ.out];exact wS (by omega),rfl⟩
    ·have hgt:m / 64<k:=by have:=HQ.out.1;omega
     have HA:=show Hid (Bs.At r m k (wd r k)) from HL.out k hgt
     have hne:((k:Int) == (m:Int) / 64)=false:=by
      rw[beq_eq_false_iff_ne];omega
     clear HL HF hk
     by_cases hz:wd r k=0
     ·have HZ:=show Hid (∀ i,m<=i->i<(k+1) * 64->Bs.has r i=false) from Bs.uJ HQ.out.2 (by have:=HA.out;rwa [hz] at this)
      rw[hz] at hc
      clear hz HA KT HC HW hx
      go_wp2
      go_roundw
      case rel=>exact⟨k+1,gB (by omega),by trivial,by omega,HZ.out⟩
      case measure=>(simp only[intOf];omega)
     ·have HZ:=show Hid (Bs.next r m=some (k * 64+Lib.ctz 64 (wd r k))) from Bs.qI hlt HQ.out.2 HA.out hz
      have Dr:=show Hid (Calls Tryz.prog 115 #[.int .u64 ((wd r k:Nat):Int)] (w.alloc (.cells (aG r) 51)) fun e w'=>e=.returned (.int .i64 ((Lib.ctz 64 (wd r k):Nat):Int))/\w'=w.alloc (.cells (aG r) 51)) from KT.out _ hz HA.out.1
      have I5:=HC.out _ hz HA.out.1
      have hnz:(((wd r k:Nat):Int) != 0)=true:=by
       rw[mO];simpa using hz
      clear hz HA KT HC HW hx
      generalize wd r k=z at *
      generalize Lib.ctz 64 z=c at *
      go_wp2_with (go_at_call 115;refine Dr.out.mono ?_;rintro e w' ⟨rfl,rfl⟩)
      go_ret2
      exact⟨by rw[GK.out,HZ.out];exact wS (by omega),rfl⟩
   ·have HH:=show Hid (Bs.next r m=none) from Bs.GI fun i h1 h2=>HQ.out.2 i h1 (by omega)
    clear KT HC HW HF HL
    go_wp2
    go_ret2
    exact⟨by rw[GK.out,HH.out];rfl,rfl⟩
 ·have HF:=show Hid (Bs.At r 0 (0) (wd r 0)) from LK hr
  have HL:=show Hid (∀ i,0<i->Bs.At r 0 i (wd r i)) from fun i hi=>Bs.Dn hr (by omega)
  clear hr
  go_enter Tryz.func92,Tryz.ntmps92
  go_wp2
  go_loopw [7] (fun v wr=>∃ k:Nat,v=.int .i64 (k:Int)/\wr=w.alloc (.cells (aG r) 51)/\Hid (0<=k/\∀ i,0<=i->i<k * 64->Bs.has r i=false)) (fun v _=>16 - (intOf v).toNat)
  case atStart=>exact⟨0,rfl,rfl,Nat.le_refl _,fun i h1 h2=>by omega⟩
  case round=>
   obtain⟨k,rfl,rfl,HQ⟩:=hrel
   clear hpos
   by_cases hlt:k<16
   ·have hc:=lU (r:=r) (i:=k) (by rw[HR.out];exact hlt)
    have hx:=HW.out k
    by_cases hk:k=0
    ·subst hk
     clear HL
     have HA:=show Hid (Bs.At r 0 (0) (wd r 0)) from HF.out
     have hsh:=LJ hx
     clear HF
     by_cases hz:wd r 0=0
     ·rw[hz] at hsh
      try rw[hz] at hc
      have HZ:=show Hid (∀ i,0<=i->i<(0+1) * 64->Bs.has r i=false) from Bs.uJ HQ.out.2 (by have:=HA.out;rwa [hz] at this)
      clear hz HA KT HC HW
      generalize wd r (0)=x at *
      go_wp2
      go_roundw
      case rel=>exact⟨0+1,gB (by omega),by trivial,by omega,HZ.out⟩
      case measure=>(simp only[intOf];omega)
     ·have HZ:=show Hid (Bs.next r 0=some (0 * 64+Lib.ctz 64 (wd r 0))) from Bs.qI hlt HQ.out.2 HA.out hz
      have Dr:=show Hid (Calls Tryz.prog 115 #[.int .u64 ((wd r 0:Nat):Int)] (w.alloc (.cells (aG r) 51)) fun e w'=>e=.returned (.int .i64 ((Lib.ctz 64 (wd r 0):Nat):Int))/\w'=w.alloc (.cells (aG r) 51)) from KT.out _ hz HA.out.1
      have I5:=HC.out _ hz HA.out.1
      have hnz:(((wd r 0:Nat):Int) != 0)=true:=by
       rw[mO];simpa using hz
      clear hz HA KT HC HW
      generalize wd r 0=z at *
      generalize Lib.ctz 64 z=c at *
      skip
      go_wp2_with (go_at_call 115;refine Dr.out.mono ?_;rintro e w' ⟨rfl,rfl⟩)
      go_ret2
      exact⟨by rw[GK.out,HZ.out];exact wS (by omega),rfl⟩
    ·have hgt:0<k:=by have:=HQ.out.1;omega
     have HA:=show Hid (Bs.At r 0 k (wd r k)) from HL.out k hgt
     have hne:((k:Int) == 0)=false:=by
      rw[beq_eq_false_iff_ne];omega
     clear HL HF hk
     by_cases hz:wd r k=0
     ·have HZ:=show Hid (∀ i,0<=i->i<(k+1) * 64->Bs.has r i=false) from Bs.uJ HQ.out.2 (by have:=HA.out;rwa [hz] at this)
      rw[hz] at hc
      clear hz HA KT HC HW hx
      go_wp2
      go_roundw
      case rel=>exact⟨k+1,gB (by omega),by trivial,by omega,HZ.out⟩
      case measure=>(simp only[intOf];omega)
     ·have HZ:=show Hid (Bs.next r 0=some (k * 64+Lib.ctz 64 (wd r k))) from Bs.qI hlt HQ.out.2 HA.out hz
      have Dr:=show Hid (Calls Tryz.prog 115 #[.int .u64 ((wd r k:Nat):Int)] (w.alloc (.cells (aG r) 51)) fun e w'=>e=.returned (.int .i64 ((Lib.ctz 64 (wd r k):Nat):Int))/\w'=w.alloc (.cells (aG r) 51)) from KT.out _ hz HA.out.1
      have I5:=HC.out _ hz HA.out.1
      have hnz:(((wd r k:Nat):Int) != 0)=true:=by
       rw[mO];simpa using hz
      clear hz HA KT HC HW hx
      generalize wd r k=z at *
      generalize Lib.ctz 64 z=c at *
      go_wp2_with (go_at_call 115;refine Dr.out.mono ?_;rintro e w' ⟨rfl,rfl⟩)
      go_ret2
      exact⟨by rw[GK.out,HZ.out];exact wS (by omega),rfl⟩
   ·have HH:=show Hid (Bs.next r 0=none) from Bs.GI fun i h1 h2=>HQ.out.2 i h1 (by omega)
    clear KT HC HW HF HL
    go_wp2
    go_ret2
    exact⟨by rw[GK.out,HH.out];rfl,rfl⟩
end Go.Proofs.YtkpbpecikibohaaGreatDoor.Bt
