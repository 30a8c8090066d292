/-
  Sets of worlds: has, put, join, at a place in a row of words. No condition.
-/
import Derived.Test.YtoedidbbjnnpnaaTH2
namespace Go.Proofs.Ytoedidbbjnnpnaa.Wm
open Go.RowKit Go.Maps
set_option linter.unusedSimpArgs false
def wdV (ws:Nat→Nat) (k:Nat):Value:=.int .u64 (ws k:Int)
structure Ws (w:World) (g n:Nat) (T:TypeId) (ws:Nat→Nat):Prop where
 row:Rw w g n T (wdV ws)
 lt:∀ k,ws k<18446744073709551616
theorem Ws.set {w:World} {g n:Nat} {T:TypeId} {ws:Nat→Nat} (h:Ws w g n T ws) (j:Nat) {x:Nat} (hx:x<18446744073709551616):Ws (w.setCell ⟨g,j,none⟩ (.int .u64 (x:Int))) g n T (Wd.upd ws j x):=by
 refine ⟨(h.row.set j _).same fun k _ => ?_,fun k => ?_⟩
 ·by_cases e:k=j
  ·subst e;simp [Wd.upd,wdV]
  ·simp [Wd.upd,wdV,e]
 ·by_cases e:k=j
  ·subst e;simpa [Wd.upd] using hx
  ·simpa [Wd.upd,e] using h.lt k
theorem Ws.keep {w w':World} {g n:Nat} {T:TypeId} {ws:Nat→Nat} (h:Ws w g n T ws) (hb:w'.heap[g]?=w.heap[g]?):Ws w' g n T ws:=⟨h.row.keep hb,h.lt⟩
def bit (ws:Nat→Nat) (o b:Nat):Bool:=(ws (o+b / 64)).testBit (b % 64)
theorem pow_lt {k:Nat} (hk:k<64):2 ^ k<18446744073709551616:=Nat.pow_lt_pow_right (a:=2) (by omega) hk
theorem or_lt {a b:Nat} (ha:a<18446744073709551616) (hb:b<18446744073709551616):a ||| b<18446744073709551616:=Nat.or_lt_two_pow (n:=64) ha hb
theorem and_pow (x c:Nat):(x &&& 2 ^ c=0) ↔ x.testBit c=false:=by
 constructor
 ·intro h
  have:(x &&& 2 ^ c).testBit c=false:=by rw [h];simp
  rw [Nat.testBit_and,Nat.testBit_two_pow_self] at this
  simpa using this
 ·intro h
  apply Nat.eq_of_testBit_eq
  intro j
  rw [Nat.testBit_and,Nat.testBit_two_pow,Nat.zero_testBit]
  by_cases e:c=j
  ·subst e;rw [h];rfl
  ·rw [decide_eq_false e];simp
theorem and_ne (x s:Nat):((((x &&& 2 ^ s:Nat):Int)) != 0)=x.testBit s:=by
 cases h:x.testBit s
 ·rw [(and_pow _ _).2 h];rfl
 ·have:¬ (x &&& 2 ^ s=0):=fun e=>by
   rw [(and_pow _ _).1 e] at h;cases h
  simpa using this
theorem pow64 (n:Nat):IntKind.u64.wrap (2 ^ (n % 64))=((2 ^ (n % 64):Nat):Int):=by
 have:=pow_lt (Nat.mod_lt n (show 64 > 0 by omega))
 rw [IntKind.wrap_u64,show (2:Int) ^ (n % 64)=((2 ^ (n % 64):Nat):Int) by simp]
 generalize 2 ^ (n % 64)=p at *
 omega
set_option maxRecDepth 100000 in
set_option maxHeartbeats 1000000 in
theorem has_any (w:World) {g n:Nat} {T:TypeId} {ws:Nat→Nat} (h:Ws w g n T ws) (o b:Nat) (hb:b<512) (ho:o+8≤n) :
 Calls Try.prog 94 #[.pointer (some ⟨g,o,none⟩),.int .i64 (b:Int)] w fun e w'=>e=.returned (.bool (bit ws o b))∧w'=w.drew:=by
 have hc:w.cell? ⟨g,o+b / 64,none⟩=some (.int .u64 (ws (o+b / 64):Int)):=h.row.cell (by omega)
 have ha:=u64_and_nat (ws (o+b / 64)) (2 ^ (b % 64)) (h.lt _) (pow_lt (Nat.mod_lt _ (by omega)))
 rw [← pow64] at ha
 have HB:=show Hid ((((ws (o+b / 64) &&& 2 ^ (b % 64):Nat):Int) != 0)=bit ws o b) from and_ne _ _
 go_enter Try.func94,Try.ntmps94
 go_wp2_with fail
 go_region
 go_wp2
 go_ret
 refine ⟨ret_bool ?_,rfl⟩
 rw [← HB.out]
set_option maxRecDepth 100000 in
set_option maxHeartbeats 1000000 in
theorem put_any (w:World) {g n:Nat} {T:TypeId} {ws:Nat→Nat} (h:Ws w g n T ws) (o b:Nat) (hb:b<512) (ho:o+8≤n) :
 Calls Try.prog 98 #[.pointer (some ⟨g,o,none⟩),.int .i64 (b:Int)] w fun e w'=>e=.returned (.tuple #[])∧Ws w' g n T (Wd.upd ws (o+b / 64) (ws (o+b / 64) ||| 2 ^ (b % 64)))∧Kp (fun k=>k=g) w w':=by
 have hc:w.cell? ⟨g,o+b / 64,none⟩=some (.int .u64 (ws (o+b / 64):Int)):=h.row.cell (by omega)
 have hf:w.frozen? ⟨g,o+b / 64,none⟩=false:=h.row.fr _
 have ha:=u64_or_nat (ws (o+b / 64)) (2 ^ (b % 64)) (h.lt _) (pow_lt (Nat.mod_lt _ (by omega)))
 rw [← pow64] at ha
 have HS:=show Hid (Ws (w.setCell ⟨g,o+b / 64,none⟩ (.int .u64 ((ws (o+b / 64) ||| 2 ^ (b % 64):Nat):Int))) g n T (Wd.upd ws (o+b / 64) (ws (o+b / 64) ||| 2 ^ (b % 64)))) from h.set _ (or_lt (h.lt _) (pow_lt (Nat.mod_lt _ (by omega))))
 go_enter Try.func98,Try.ntmps98
 go_wp2_with fail
 go_region
 go_wp2
 go_end0
 exact ⟨rfl,HS.out.keep rfl,((Kp.refl (fun k=>k=g) w).set (p:=g) rfl _ _).drew⟩
def joinW (ws:Nat→Nat) (o1 o2 j:Nat) (k:Nat):Nat:=if o1≤k∧k<o1+j then ws k ||| ws (o2+(k - o1)) else ws k
theorem join_upd (ws:Nat→Nat) {o1 o2 j:Nat} (hd:o1+8≤o2∨o2+8≤o1) (hj:j<8):Wd.upd (joinW ws o1 o2 j) (o1+j) (joinW ws o1 o2 j (o1+j) ||| joinW ws o1 o2 j (o2+j))=joinW ws o1 o2 (j+1):=by
 funext k
 have e1:joinW ws o1 o2 j (o1+j)=ws (o1+j):=if_neg (by omega)
 have e2:joinW ws o1 o2 j (o2+j)=ws (o2+j):=if_neg (by omega)
 rw [e1,e2]
 by_cases e:k=o1+j
 ·subst e
  rw [Wd.upd_same,joinW,if_pos (by omega),show o1+j - o1=j by omega]
 ·rw [Wd.upd_other _ _ _ e]
  unfold joinW
  by_cases h:o1≤k∧k<o1+j
  ·rw [if_pos h,if_pos (by omega)]
  ·rw [if_neg h,if_neg (by omega)]
set_option maxRecDepth 100000 in
set_option maxHeartbeats 2000000 in
theorem join_any (w:World) {g n:Nat} {T:TypeId} {ws:Nat→Nat} (h:Ws w g n T ws) (o1 o2:Nat) (h1:o1+8≤n) (h2:o2+8≤n) (hd:o1+8≤o2∨o2+8≤o1) :
 Calls Try.prog 100 #[.pointer (some ⟨g,o1,none⟩),.pointer (some ⟨g,o2,none⟩)] w fun e w'=>e=.returned (.tuple #[])∧Ws w' g n T (joinW ws o1 o2 8)∧Kp (fun k=>k=g) w w':=by
 have H0:=show Hid (Ws w g n T (joinW ws o1 o2 0)∧Kp (fun k=>k=g) w w) from ⟨by
  have:joinW ws o1 o2 0=ws:=by funext k;exact if_neg (by omega)
  rw [this];exact h,Kp.refl _ _⟩
 clear h
 go_enter Try.func100,Try.ntmps100
 go_wp2_with fail
 go_loopw [4,5,7] (fun _ _ i wr=>∃ j:Nat,j≤8∧i=.int .i64 (j:Int)∧Hid (Ws wr g n T (joinW ws o1 o2 j)∧Kp (fun k=>k=g) w wr)) (fun _ _ i _=>8 - (intOf i).toNat)
 case atStart=>exact ⟨0,Nat.zero_le _,rfl,H0⟩
 case round =>
  obtain ⟨j,hj,rfl,HI⟩:=hrel
  clear H0
  by_cases hlt:j<8
  ·have hji:(j:Int)<8:=by omega
   obtain ⟨hW,hK⟩:=HI.out
   have HU:=show Hid (Wd.upd (joinW ws o1 o2 j) (o1+j) (joinW ws o1 o2 j (o1+j) ||| joinW ws o1 o2 j (o2+j))=joinW ws o1 o2 (j+1)) from join_upd ws hd hlt
   generalize joinW ws o1 o2 j=wj at *
   have hc1:wr.cell? ⟨g,o1+j,none⟩=some (.int .u64 (wj (o1+j):Int)):=hW.row.cell (by omega)
   have hc2:wr.cell? ⟨g,o2+j,none⟩=some (.int .u64 (wj (o2+j):Int)):=hW.row.cell (by omega)
   have hf:wr.frozen? ⟨g,o1+j,none⟩=false:=hW.row.fr _
   have ha:=u64_or_nat (wj (o1+j)) (wj (o2+j)) (hW.lt _) (hW.lt _)
   have HS:=show Hid (Ws (wr.setCell ⟨g,o1+j,none⟩ (.int .u64 ((wj (o1+j) ||| wj (o2+j):Nat):Int))) g n T (Wd.upd wj (o1+j) (wj (o1+j) ||| wj (o2+j)))) from hW.set _ (or_lt (hW.lt _) (hW.lt _))
   have HK:=show Hid (Kp (fun k=>k=g) w (wr.setCell ⟨g,o1+j,none⟩ (.int .u64 ((wj (o1+j) ||| wj (o2+j):Nat):Int)))) from hK.set rfl _ _
   clear hW hK HI
   go_wp2_with fail
   go_region
   go_wp2_with fail
   go_region
   go_wp2_with fail
   go_roundw
   case rel=>exact ⟨j+1,by omega,by go_num,by rw [← HU.out];exact HS.out.keep rfl,HK.out.drew.drew⟩
   case measure=>first | (simp [intOf];done) | (simp [intOf];omega)
  ·obtain rfl:j=8:=by omega
   go_wp2_with fail
   go_end0
   exact ⟨rfl,HI.out⟩
end Go.Proofs.Ytoedidbbjnnpnaa.Wm
/-
  Sets of numbers, those of morph: has, put, join, at a place in a row of words. No condition.
-/
namespace Go.Proofs.Ytoedidbbjnnpnaa.Wm
open Go.RowKit Go.Maps
set_option linter.unusedSimpArgs false
set_option maxRecDepth 100000 in
set_option maxHeartbeats 1000000 in
theorem mhas_any (w:World) {g n:Nat} {T:TypeId} {ws:Nat→Nat} (h:Ws w g n T ws) (o b:Nat) (hb:b<512) (ho:o+8≤n) :
 Calls Try.prog 86 #[.pointer (some ⟨g,o,none⟩),.int .i64 (b:Int)] w fun e w'=>e=.returned (.bool (bit ws o b))∧w'=w.drew:=by
 have hc:w.cell? ⟨g,o+b / 64,none⟩=some (.int .u64 (ws (o+b / 64):Int)):=h.row.cell (by omega)
 have ha:=u64_and_nat (ws (o+b / 64)) (2 ^ (b % 64)) (h.lt _) (pow_lt (Nat.mod_lt _ (by omega)))
 rw [← pow64] at ha
 have HB:=show Hid ((((ws (o+b / 64) &&& 2 ^ (b % 64):Nat):Int) != 0)=bit ws o b) from and_ne _ _
 go_enter Try.func86,Try.ntmps86
 go_wp2_with fail
 go_region
 go_wp2
 go_ret
 refine ⟨ret_bool ?_,rfl⟩
 rw [← HB.out]
set_option maxRecDepth 100000 in
set_option maxHeartbeats 1000000 in
theorem mput_any (w:World) {g n:Nat} {T:TypeId} {ws:Nat→Nat} (h:Ws w g n T ws) (o b:Nat) (hb:b<512) (ho:o+8≤n) :
 Calls Try.prog 87 #[.pointer (some ⟨g,o,none⟩),.int .i64 (b:Int)] w fun e w'=>e=.returned (.tuple #[])∧Ws w' g n T (Wd.upd ws (o+b / 64) (ws (o+b / 64) ||| 2 ^ (b % 64)))∧Kp (fun k=>k=g) w w':=by
 have hc:w.cell? ⟨g,o+b / 64,none⟩=some (.int .u64 (ws (o+b / 64):Int)):=h.row.cell (by omega)
 have hf:w.frozen? ⟨g,o+b / 64,none⟩=false:=h.row.fr _
 have ha:=u64_or_nat (ws (o+b / 64)) (2 ^ (b % 64)) (h.lt _) (pow_lt (Nat.mod_lt _ (by omega)))
 rw [← pow64] at ha
 have HS:=show Hid (Ws (w.setCell ⟨g,o+b / 64,none⟩ (.int .u64 ((ws (o+b / 64) ||| 2 ^ (b % 64):Nat):Int))) g n T (Wd.upd ws (o+b / 64) (ws (o+b / 64) ||| 2 ^ (b % 64)))) from h.set _ (or_lt (h.lt _) (pow_lt (Nat.mod_lt _ (by omega))))
 go_enter Try.func87,Try.ntmps87
 go_wp2_with fail
 go_region
 go_wp2
 go_end0
 exact ⟨rfl,HS.out.keep rfl,((Kp.refl (fun k=>k=g) w).set (p:=g) rfl _ _).drew⟩
theorem joinW_self (ws:Nat→Nat) (o j:Nat):joinW ws o o j=ws:=by
 funext k
 unfold joinW
 split
 ·rename_i h
  rw [show o+(k - o)=k by omega,Nat.or_self]
 ·rfl
theorem mjoin_upd (ws:Nat→Nat) {o1 o2 j:Nat} (hd:o1+8≤o2∨o2+8≤o1∨o1=o2) (hj:j<8):Wd.upd (joinW ws o1 o2 j) (o1+j) (joinW ws o1 o2 j (o1+j) ||| joinW ws o1 o2 j (o2+j))=joinW ws o1 o2 (j+1):=by
 rcases hd with h | h | rfl
 ·exact join_upd ws (Or.inl h) hj
 ·exact join_upd ws (Or.inr h) hj
 ·rw [joinW_self,joinW_self]
  funext k
  unfold Wd.upd
  split
  ·rename_i h
   rw [h,Nat.or_self]
  ·rfl
theorem bit_join (ws:Nat→Nat) {a b:Nat} (o c:Nat) (hc:c<512):bit (joinW ws (a * 8) (b * 8) 8) (o * 8) c=(bit ws (o * 8) c || (decide (o=a) && bit ws (b * 8) c)):=by
 unfold bit joinW
 by_cases h:o=a
 ·subst h
  rw [if_pos (by omega),Nat.testBit_or,decide_eq_true rfl,Bool.true_and]
  congr 2
  congr 1
  omega
 ·rw [if_neg (by omega),decide_eq_false h,Bool.false_and,Bool.or_false]
set_option maxRecDepth 100000 in
set_option maxHeartbeats 2000000 in
theorem mjoin_any (w:World) {g n:Nat} {T:TypeId} {ws:Nat→Nat} (h:Ws w g n T ws) (o1 o2:Nat) (h1:o1+8≤n) (h2:o2+8≤n) (hd:o1+8≤o2∨o2+8≤o1∨o1=o2) :
 Calls Try.prog 88 #[.pointer (some ⟨g,o1,none⟩),.pointer (some ⟨g,o2,none⟩)] w fun e w'=>e=.returned (.tuple #[])∧Ws w' g n T (joinW ws o1 o2 8)∧Kp (fun k=>k=g) w w':=by
 have H0:=show Hid (Ws w g n T (joinW ws o1 o2 0)∧Kp (fun k=>k=g) w w) from ⟨by
  have:joinW ws o1 o2 0=ws:=by funext k;exact if_neg (by omega)
  rw [this];exact h,Kp.refl _ _⟩
 clear h
 go_enter Try.func88,Try.ntmps88
 go_wp2_with fail
 go_loopw [4,5,7] (fun _ _ i wr=>∃ j:Nat,j≤8∧i=.int .i64 (j:Int)∧Hid (Ws wr g n T (joinW ws o1 o2 j)∧Kp (fun k=>k=g) w wr)) (fun _ _ i _=>8 - (intOf i).toNat)
 case atStart=>exact ⟨0,Nat.zero_le _,rfl,H0⟩
 case round =>
  obtain ⟨j,hj,rfl,HI⟩:=hrel
  clear H0
  by_cases hlt:j<8
  ·have hji:(j:Int)<8:=by omega
   obtain ⟨hW,hK⟩:=HI.out
   have HU:=show Hid (Wd.upd (joinW ws o1 o2 j) (o1+j) (joinW ws o1 o2 j (o1+j) ||| joinW ws o1 o2 j (o2+j))=joinW ws o1 o2 (j+1)) from mjoin_upd ws hd hlt
   generalize joinW ws o1 o2 j=wj at *
   have hc1:wr.cell? ⟨g,o1+j,none⟩=some (.int .u64 (wj (o1+j):Int)):=hW.row.cell (by omega)
   have hc2:wr.cell? ⟨g,o2+j,none⟩=some (.int .u64 (wj (o2+j):Int)):=hW.row.cell (by omega)
   have hf:wr.frozen? ⟨g,o1+j,none⟩=false:=hW.row.fr _
   have ha:=u64_or_nat (wj (o1+j)) (wj (o2+j)) (hW.lt _) (hW.lt _)
   have HS:=show Hid (Ws (wr.setCell ⟨g,o1+j,none⟩ (.int .u64 ((wj (o1+j) ||| wj (o2+j):Nat):Int))) g n T (Wd.upd wj (o1+j) (wj (o1+j) ||| wj (o2+j)))) from hW.set _ (or_lt (hW.lt _) (hW.lt _))
   have HK:=show Hid (Kp (fun k=>k=g) w (wr.setCell ⟨g,o1+j,none⟩ (.int .u64 ((wj (o1+j) ||| wj (o2+j):Nat):Int)))) from hK.set rfl _ _
   clear hW hK HI
   go_wp2_with fail
   go_region
   go_wp2_with fail
   go_region
   go_wp2_with fail
   go_roundw
   case rel=>exact ⟨j+1,by omega,by go_num,by rw [← HU.out];exact HS.out.keep rfl,HK.out.drew.drew⟩
   case measure=>first | (simp [intOf];done) | (simp [intOf];omega)
  ·obtain rfl:j=8:=by omega
   go_wp2_with fail
   go_end0
   exact ⟨rfl,HI.out⟩
end Go.Proofs.Ytoedidbbjnnpnaa.Wm
/-
  A walk upward, plain: what a call of it leaves; sets of worlds as words. No condition.
-/
namespace Go.Proofs.Ytoedidbbjnnpnaa.Wm
open Wd (Md Inv Mid Good Rc Ed Sub upd vl)
def abW (ws:Nat→Nat) (a b:Nat):Bool:=decide (b<512) && bit ws (a * 8) b
theorem bit_put (ws:Nat→Nat) (x a b:Nat) (hx:x<512) (hb:b<512):bit (upd ws (x * 8+x / 64) (ws (x * 8+x / 64) ||| 2 ^ (x % 64))) (a * 8) b=if a=x then bit ws (x * 8) b || decide (b=x) else bit ws (a * 8) b:=by
 unfold bit
 by_cases e:a * 8+b / 64=x * 8+x / 64
 ·rw [e,Wd.upd_same,Nat.testBit_or,Nat.testBit_two_pow]
  have ea:a=x:=by omega
  subst ea
  have eb:b / 64=a / 64:=by omega
  rw [if_pos rfl,eb]
  congr 1
  exact decide_eq_decide.2 (by omega)
 ·rw [Wd.upd_other _ _ _ e]
  by_cases ea:a=x
  ·subst ea
   rw [if_pos rfl,decide_eq_false (by intro h;subst h;exact e rfl),Bool.or_false]
  ·rw [if_neg ea]
theorem abW_put (ws:Nat→Nat) {x:Nat} (hx:x<512):abW (upd ws (x * 8+x / 64) (ws (x * 8+x / 64) ||| 2 ^ (x % 64)))=upd (abW ws) x (fun b=>abW ws x b || decide (b=x)):=by
 funext a b
 unfold abW
 by_cases hb:b<512
 ·rw [bit_put ws x a b hx hb,decide_eq_true hb]
  by_cases ea:a=x
  ·rw [if_pos ea,ea,Wd.upd_same];simp [hb]
  ·rw [if_neg ea,Wd.upd_other _ _ _ ea];simp [hb]
 ·rw [decide_eq_false hb]
  by_cases ea:a=x
  ·rw [ea,Wd.upd_same,decide_eq_false (show ¬ b=x by omega)];simp [hb]
  ·rw [Wd.upd_other _ _ _ ea];simp [hb]
theorem abW_join (ws:Nat→Nat) (x v:Nat):abW (joinW ws (x * 8) (v * 8) 8)=upd (abW ws) x (fun b=>abW ws x b || abW ws v b):=by
 funext a b
 unfold abW
 by_cases hb:b<512
 ·have hq:b / 64<8:=by omega
  by_cases ea:a=x
  ·subst ea
   rw [Wd.upd_same]
   have:bit (joinW ws (a * 8) (v * 8) 8) (a * 8) b=(bit ws (a * 8) b || bit ws (v * 8) b):=by
    unfold bit joinW
    rw [if_pos (by omega),show v * 8+(a * 8+b / 64 - a * 8)=v * 8+b / 64 by omega,Nat.testBit_or]
   rw [this];simp [hb]
  ·rw [Wd.upd_other _ _ _ ea]
   have:bit (joinW ws (x * 8) (v * 8) 8) (a * 8) b=bit ws (a * 8) b:=by
    unfold bit joinW
    rw [if_neg (by omega)]
   rw [this]
 ·by_cases ea:a=x
  ·subst ea;rw [Wd.upd_same];simp [hb]
  ·rw [Wd.upd_other _ _ _ ea];simp [hb]
structure Aft (st:Nat→Nat) (ab:Nat→Nat→Bool) (st':Nat→Nat) (ab':Nat→Nat→Bool):Prop where
 hst:∀ a,st a≠0→st' a=st a
 hab:∀ a,st a≠0→ab' a=ab a
 hz:∀ a,st a=0→st' a=0∨st' a=2
theorem Aft.trans {s1 s2 s3:Nat→Nat} {a1 a2 a3:Nat→Nat→Bool} (h:Aft s1 a1 s2 a2) (k:Aft s2 a2 s3 a3):Aft s1 a1 s3 a3:=by
 have e:∀ a,s1 a≠0→s2 a≠0:=fun a ha=>by rw [h.hst a ha];exact ha
 refine ⟨fun a ha=>(k.hst a (e a ha)).trans (h.hst a ha),fun a ha=>(k.hab a (e a ha)).trans (h.hab a ha),fun a ha => ?_⟩
 rcases h.hz a ha with h2 | h2
 ·exact k.hz a h2
 ·right;rw [k.hst a (by rw [h2];decide)];exact h2
theorem mid_after {m:Md} {st st':Nat→Nat} {ab ab':Nat→Nat→Bool} {w:Nat} {row:List Int} {j:Nat} (h:Mid m st ab w row j) (hi:Inv m st' ab') (ha:Aft st ab st' ab'):Mid m st' ab' w row j:=by
 have h1:st w≠0:=by rw [h.way];decide
 have e:=ha.hab w h1
 refine ⟨hi,(ha.hst w h1).trans h.way,h.hrow,by rw [e];exact h.self,fun b hb=>h.rch b (by rw [← e];exact hb),fun b hb => ?_,fun i b hi hib=>by rw [e];exact h.has i b hi hib,fun g hg => ?_⟩
 ·rw [e] at hb
  rcases h.cls b hb with h2 | ⟨c1,c2,c3⟩
  ·exact Or.inl h2
  ·exact Or.inr ⟨(ha.hst b (by rw [c1];decide)).trans c1,fun c hc=>by rw [e];exact c2 c hc,c3⟩
 ·by_cases h0:st g=0
  ·rcases ha.hz g h0 with h2 | h2 <;> rw [h2] at hg <;> cases hg
  ·rw [ha.hst g h0] at hg;exact h.onw g hg
def zeros (st:Nat→Nat) (n:Nat):Nat:=((List.range n).filter fun a=>st a == 0).length
theorem filt_le {p q:Nat→Bool} (h:∀ a,q a=true→p a=true):∀ l:List Nat,(l.filter q).length≤(l.filter p).length
 | []=>Nat.le_refl _
 | x :: r=>by
  have:=filt_le h r
  rw [List.filter_cons,List.filter_cons]
  by_cases hq:q x=true
  ·rw [if_pos hq,if_pos (h x hq)];simpa using this
  ·rw [if_neg hq]
   split
   ·simp;omega
   ·exact this
theorem filt_lt {p q:Nat→Bool} (h:∀ a,q a=true→p a=true) {x:Nat} (hp:p x=true) (hq:q x=false):∀ l:List Nat,x ∈ l→(l.filter q).length<(l.filter p).length
 | [],hx=>by cases hx
 | y :: r,hx=>by
  rw [List.filter_cons,List.filter_cons]
  rcases List.mem_cons.1 hx with rfl | hx
  ·rw [if_pos hp,if_neg (by rw [hq];simp)]
   have:=filt_le h r
   simp;omega
  ·have:=filt_lt h hp hq r hx
   by_cases hq2:q y=true
   ·rw [if_pos hq2,if_pos (h y hq2)];simpa using this
   ·rw [if_neg hq2]
    split
    ·simp;omega
    ·exact this
theorem zeros_way (st:Nat→Nat) {n x:Nat} (hx:x<n) (h0:st x=0):zeros (upd st x 1) n<zeros st n:=by
 refine filt_lt (x:=x) (fun a ha => ?_) (by simp [h0]) (by rw [Wd.upd_same];rfl) _ (List.mem_range.2 hx)
 by_cases e:a=x
 ·subst e;simp [h0]
 ·rwa [Wd.upd_other _ _ _ e] at ha
theorem Aft.zeros {st st':Nat→Nat} {ab ab':Nat→Nat→Bool} (h:Aft st ab st' ab') (n:Nat):zeros st' n≤zeros st n :=
 filt_le (fun a ha=>by
  by_cases e:st a=0
  ·simp [e]
  ·rw [h.hst a e] at ha;exact ha) _
end Go.Proofs.Ytoedidbbjnnpnaa.Wm
