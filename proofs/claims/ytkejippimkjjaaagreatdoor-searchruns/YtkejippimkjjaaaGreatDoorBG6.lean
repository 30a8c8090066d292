import Derived.Test.YtkejippimkjjaaaGreatDoorBG4
set_option linter.unusedSimpArgs false
set_option maxRecDepth 100000
set_option maxHeartbeats 4000000
namespace Go.Proofs.YtkejippimkjjaaaGreatDoor.Bt
open Go.RowKit
open Bs (Ok wd)
def DQ (w wr:World) (r:List Nat):Prop:=dw wr w.heap.size r/\dw wr (w.heap.size+1) Bs.zero/\Below w.heap.size w wr
theorem Tv (w:World) (r:List Nat):DQ w (((w.alloc (.cells (aD r) 25)).alloc (.cells #[.int .u64 0,.int .u64 0,.int .u64 0,.int .u64 0,.int .u64 0,.int .u64 0,.int .u64 0,.int .u64 0,.int .u64 0,.int .u64 0,.int .u64 0,.int .u64 0,.int .u64 0,.int .u64 0,.int .u64 0,.int .u64 0] 25)).alloc (.cells (aD r) 25)) r:=by
 have h:=fM w (.cells (aD r) 25) (.cells #[.int .u64 0,.int .u64 0,.int .u64 0,.int .u64 0,.int .u64 0,.int .u64 0,.int .u64 0,.int .u64 0,.int .u64 0,.int .u64 0,.int .u64 0,.int .u64 0,.int .u64 0,.int .u64 0,.int .u64 0,.int .u64 0] 25)
 have hb:=av ((w.alloc (.cells (aD r) 25)).alloc (.cells #[.int .u64 0,.int .u64 0,.int .u64 0,.int .u64 0,.int .u64 0,.int .u64 0,.int .u64 0,.int .u64 0,.int .u64 0,.int .u64 0,.int .u64 0,.int .u64 0,.int .u64 0,.int .u64 0,.int .u64 0,.int .u64 0] 25)) (.cells (aD r) 25)
 have h1:dw ((w.alloc (.cells (aD r) 25)).alloc (.cells #[.int .u64 0,.int .u64 0,.int .u64 0,.int .u64 0,.int .u64 0,.int .u64 0,.int .u64 0,.int .u64 0,.int .u64 0,.int .u64 0,.int .u64 0,.int .u64 0,.int .u64 0,.int .u64 0,.int .u64 0,.int .u64 0] 25)) w.heap.size r:=h.1
 have h2:dw ((w.alloc (.cells (aD r) 25)).alloc (.cells #[.int .u64 0,.int .u64 0,.int .u64 0,.int .u64 0,.int .u64 0,.int .u64 0,.int .u64 0,.int .u64 0,.int .u64 0,.int .u64 0,.int .u64 0,.int .u64 0,.int .u64 0,.int .u64 0,.int .u64 0,.int .u64 0] 25)) (w.heap.size+1) Bs.zero:=h.2
 exact⟨h1.keep hb h1.lt,h2.keep hb h2.lt,(kE w _ _).trans (hb.mono (by simp only[World.size_alloc];omega))⟩
theorem gW (w:World) {r:List Nat} (hr:Ok r) (n:Int):Calls Tryz.prog 57 #[.agg (aD r),.int .i64 n] w fun e w'=>e=.returned (.agg (aD (aQ r n)))/\Below w.heap.size w w':=by
 have HR:=show Hid (r.length=16) from hr.1
 have HT:=show Hid (dw ((w.alloc (.cells (aD r) 25)).alloc (.cells #[.int .u64 0,.int .u64 0,.int .u64 0,.int .u64 0,.int .u64 0,.int .u64 0,.int .u64 0,.int .u64 0,.int .u64 0,.int .u64 0,.int .u64 0,.int .u64 0,.int .u64 0,.int .u64 0,.int .u64 0,.int .u64 0] 25)) w.heap.size r) from(fM w _ _).1
 have HD:=show Hid (DQ w (((w.alloc (.cells (aD r) 25)).alloc (.cells #[.int .u64 0,.int .u64 0,.int .u64 0,.int .u64 0,.int .u64 0,.int .u64 0,.int .u64 0,.int .u64 0,.int .u64 0,.int .u64 0,.int .u64 0,.int .u64 0,.int .u64 0,.int .u64 0,.int .u64 0,.int .u64 0] 25)).alloc (.cells (aD r) 25)) r) from Tv w r
 have Fq:=fun w=>cB w hr n
 cases hh:Bs.bX r n
 ·have HP:=show Hid (aQ r n=r) from by
   show aQ r n=r
   by_cases hn:0<=n/\n<1024
   ·obtain⟨m,rfl⟩:=Int.eq_ofNat_of_zero_le hn.1
    have hm:m<1024:=by omega
    rw[iH r hm]
    rw[sO r hm] at hh
    exact Bs.Ih hr hm hh
   ·exact zu r hn
  rw[hh] at Fq
  have KH:=show Hid (∀ w,Calls Tryz.prog 53 #[.agg (aD r),.int .i64 n] w fun e w'=>e=.returned (.bool false)/\w'=w.alloc (.cells (aD r) 25)) from Fq
  clear Fq hh hr
  go_enter Tryz.func57,Tryz.ntmps57
  go_wp2_with (first|(refine nC _ _ rfl _ rfl (r:=r) HT.out HR.out rfl ?_)|(go_at_call 53;refine(KH.out _).mono ?_;rintro e w' ⟨rfl,rfl⟩)|(refine nC _ _ rfl _ rfl (r:=r) HD.out.1 HR.out rfl ?_)|(refine iP _ rfl rfl _ _ rfl _ rfl rfl (r:=Bs.zero) HD.out.2.1 Bs.jK.1 HR.out ?_))
  refine bodyPost_ret (lQ rfl _ _ (w.heap.size+1) (r:=r) rfl (dw.setRow (r:=Bs.zero) HD.out.2.1 r) HR.out) rfl ?_
  exact⟨by rw[HP.out],below_setRow HD.out.2.2 (Nat.le_succ _) _⟩
 ·have hn:0<=n/\n<1024:=Classical.byContradiction fun h=>by rw[AJ r h] at hh;cases hh
  obtain⟨m,rfl⟩:=Int.eq_ofNat_of_zero_le hn.1
  have hm:m<1024:=by omega
  have HP:=show Hid (aQ r (m:Int)=Bs.drop r m) from iH r hm
  rw[hh] at Fq
  have KH:=show Hid (∀ w,Calls Tryz.prog 53 #[.agg (aD r),.int .i64 (m:Int)] w fun e w'=>e=.returned (.bool true)/\w'=w.alloc (.cells (aD r) 25)) from Fq
  have hq:m / 64<16:=by omega
  have Wu:=u64_xor_nat (wd r (m / 64)) (2 ^ (m % 64)) (Bs.lD hr _) (Bs.oM (Nat.mod_lt _ (by omega)))
  have hp:=FK m
  have HS:=show Hid ((Bs.drop r m).length=16) from(Bs.kY hr m).1
  have HX:=show Hid (r.set (m / 64) (wd r (m / 64) ^^^ 2 ^ (m % 64))=Bs.drop r m) from Bs.KV hr (by rw[sO r hm] at hh;exact hh)
  generalize Bs.drop r m=r' at *
  rw[<- hp] at Wu
  clear Fq hh hr hn hp
  go_enter Tryz.func57,Tryz.ntmps57
  go_wp2_with (first|(refine nC _ _ rfl _ rfl (r:=r) HT.out HR.out rfl ?_)|(go_at_call 53;refine(KH.out _).mono ?_;rintro e W2 ⟨rfl,hw⟩;have HD2:=show Hid (DQ w W2 r) from(by rw[hw];exact HD.out);have hcl:=HD2.out.1.cell (i:=m / 64) (by rw[HR.out];exact hq);have hfr:=HD2.out.1.fr (m / 64);have tT:=show Hid (dw (W2.setCell ⟨w.heap.size,m / 64,none⟩ (.int .u64 ((wd r (m / 64) ^^^ 2 ^ (m % 64):Nat):Int))) w.heap.size r') from(by rw[<- HX.out];exact HD2.out.1.setCell (m / 64) (wd r (m / 64) ^^^ 2 ^ (m % 64)));have Vo:=show Hid (dw (W2.setCell ⟨w.heap.size,m / 64,none⟩ (.int .u64 ((wd r (m / 64) ^^^ 2 ^ (m % 64):Nat):Int))) (w.heap.size+1) Bs.zero) from HD2.out.2.1.other (by show w.heap.size+1≠w.heap.size;omega) _;clear hw HD HT)|(refine nC _ _ rfl _ rfl (r:=r') tT.out HS.out rfl ?_)|(refine iP _ rfl rfl _ _ rfl _ rfl rfl (r:=Bs.zero) Vo.out Bs.jK.1 HS.out ?_))
  refine bodyPost_ret (lQ rfl _ _ (w.heap.size+1) (r:=r') rfl (dw.setRow (r:=Bs.zero) Vo.out r') HS.out) rfl ?_
  exact⟨by rw[HP.out],below_setRow (HD2.out.2.2.setCell (p:=⟨w.heap.size,m / 64,none⟩) (Nat.le_refl _) _) (Nat.le_succ _) _⟩
end Go.Proofs.YtkejippimkjjaaaGreatDoor.Bt
