/-
  classes: its two function values: have two worlds other atoms? do they see other classes? No condition.
-/
import Derived.Test.YtoedidbbjnnpnaaQMPar
import Derived.Test.YtoedidbbjnnpnaaQMBnd
namespace Go.Proofs.Ytoedidbbjnnpnaa.Wm
open Go.RowKit Go.Maps
open Wd (Md Rc Ed upd vl allW)
set_option linter.unusedSimpArgs false
set_option linter.unusedVariables false
theorem cf_cls1:Cf 63:=fun _ _=>by kernel_rfl
theorem cf_cls2:Cf 66:=fun _ _=>by kernel_rfl
def valP (m:Md) (a b:Nat):Bool := !decide (vl m a=vl m b)
def setP (ws:Nat→Nat) (a b:Nat):Bool := !same8 ws ws a b
set_option maxRecDepth 100000 in
set_option maxHeartbeats 4000000 in
theorem cls1_any (w:World) {L b1:Nat} {uv vv:Value} {m:Md} (hm:IsM w L uv vv m) (hf:Fit m) (hb:Cl w b1 #[uv,vv] 25) (hL:L≤w.heap.size) (hvl:m.val.length=m.up.length) {x y:Nat} (hx:x<m.up.length) (hy:y<m.up.length) :
 Calls Try.prog 63 #[.int .i64 (x:Int),.int .i64 (y:Int),.pointer (some ⟨b1,0,none⟩)] w fun e w'=>e=.returned (.bool (valP m x y))∧Below w.heap.size w w':=by
 have hxv:x<m.val.length:=by omega
 have hyv:y<m.val.length:=by omega
 obtain ⟨pv,cv,rfl⟩:=IsS.form hm.val
 have HMV:=show Hid (∀ k (hk:k<m.val.length),∃ b o q n,pv=some ⟨b,o,none⟩∧b<w.heap.size∧w.cell? ⟨b,o+k,none⟩=some (.slice q m.val[k].length n)∧IsN w w.heap.size (.slice q m.val[k].length n) m.val[k]) from fun k hk=>by
  obtain ⟨b,o,hbL,h1,h2⟩:=(IsS.at hm.val).2 (by omega)
  obtain ⟨x,hx,hi⟩:=h2 k hk
  obtain ⟨q,n,rfl⟩:=IsS.form hi
  exact ⟨b,o,q,n,h1,by omega,hx,IsS.wide hi hL⟩
 obtain ⟨bv,ov,qx,nx,rfl,hbv,hcx,hix⟩:=HMV.out x hxv
 obtain ⟨_,_,qy,ny,e,-,hcy,hiy⟩:=HMV.out y hyv
 obtain ⟨rfl,rfl⟩:bv=_∧ov=_:=by injection e with e;injection e with e1 e2;exact ⟨e1,e2⟩
 have KE:=show Hid (∀ W,Below w.heap.size w W→Calls Try.prog 64 #[.slice qx m.val[x].length nx,.slice qy m.val[y].length ny] W fun e w'=>e=.returned (.bool (decide (vl m x=vl m y)))∧Below W.heap.size W w') from fun W hW=>by
  refine (eqlN_any W (IsN.keep hix fun j hj=>hW.block j hj) (IsN.keep hiy fun j hj=>hW.block j hj) (hf.2.2.2 _ (List.getElem_mem hxv)).1 (hf.2.2.2 _ (List.getElem_mem hyv)).1).mono ?_
  rintro e w' ⟨⟨r,rfl,hr⟩,hb⟩
  refine ⟨ret_bool ?_,hb⟩
  rw [vl_at hxv,vl_at hyv,Bool.eq_iff_iff,hr,decide_eq_true_eq]
 have HW:=show Hid (∀ W,Below w.heap.size w W→W.cell? ⟨b1,1,none⟩=some (.slice (some ⟨bv,ov,none⟩) m.val.length cv)∧W.cell? ⟨bv,ov+x,none⟩=some (.slice qx m.val[x].length nx)∧W.cell? ⟨bv,ov+y,none⟩=some (.slice qy m.val[y].length ny)) from fun W hW =>
  ⟨(Cl.later hb hW).cell 1,(World.cell?_of_block (a:=⟨bv,ov+x,none⟩) (hW.block bv hbv)).trans hcx,(World.cell?_of_block (a:=⟨bv,ov+y,none⟩) (hW.block bv hbv)).trans hcy⟩
 have hxi:(x:Int)<(m.val.length:Int):=by omega
 have hyi:(y:Int)<(m.val.length:Int):=by omega
 unfold valP
 generalize decide (vl m x=vl m y)=z at *
 generalize m.val[x].length=lx at *
 generalize m.val[y].length=ly at *
 clear hcx hcy hix hiy HMV hm hb hf e
 go_enter Try.func63,Try.ntmps63
 go_wp2_with fail
 refine wp_region_dep (by kernel_rfl) [some 6,some 7,some 8,some 9,some 10,some 11,some 12,some 13,some 14,some 15,some 16,some 17,some 5] [[],[0],[],[1,2],[3],[],[5],[],[6,7],[8],[4,9],[10],[11]] [[],[0],[],[1,0,2],[3,1,0,2],[],[5],[],[6,5,7],[8,6,5,7],[4,3,1,0,2,9,8,6,5,7],[10,4,3,1,0,2,9,8,6,5,7],[11,10,4,3,1,0,2,9,8,6,5,7]] (by kernel_rfl) (by decide) (fun i v W=>match i with | 0=>v=.pointer (some ⟨b1,1,none⟩) | 1=>v=.slice (some ⟨bv,ov,none⟩) m.val.length cv | 2=>v=.int .i64 (x:Int) | 3=>v=.pointer (some ⟨bv,ov+x,none⟩) | 4=>v=.slice qx lx nx | 5=>v=.pointer (some ⟨b1,1,none⟩) | 6=>v=.slice (some ⟨bv,ov,none⟩) m.val.length cv | 7=>v=.int .i64 (y:Int) | 8=>v=.pointer (some ⟨bv,ov+y,none⟩) | 9=>v=.slice qy ly ny | 10=>v=.bool z | 11=>v=.bool (!z) | 12=>v=.bool (!z) | _=>True) (fun _ W=>Below w.heap.size w W) (fun _ W W'=>Below W.heap.size W W') ?hle ((Below.refl _ _).drew) (allLt 13 ?steps) ?fin
 case hle =>
  intro i j v W W' hij hn hl h
  match j,h with
  | 0,h=>exact h
  | 1,h=>exact h
  | 2,h=>exact h
  | 3,h=>exact h
  | 4,h=>exact h
  | 5,h=>exact h
  | 6,h=>exact h
  | 7,h=>exact h
  | 8,h=>exact h
  | 9,h=>exact h
  | 10,h=>exact h
  | 11,h=>exact h
  | 12,h=>exact h
  | _+13,_=>trivial
 case steps =>
  refine ⟨⟨⟨⟨⟨⟨⟨⟨⟨⟨⟨⟨⟨trivial,?s0⟩,?s1⟩,?s2⟩,?s3⟩,?s4⟩,?s5⟩,?s6⟩,?s7⟩,?s8⟩,?s9⟩,?s10⟩,?s11⟩,?s12⟩
  case s0 =>
   intro done a W hW hd hnd hno hO hN
   have o2:a.tmps[2]?=some (.pointer (some ⟨b1,0,none⟩)):=(hO.out 2 (by decide)).trans rfl
   exact relVal rfl (.pointer (some ⟨b1,1,none⟩)) _ rfl (by go_simp) ⟨_,rfl,rfl,hW,Below.refl _ _⟩
  case s1 =>
   intro done a W hW hd hnd hno hO hN
   obtain ⟨v0,g0,r0⟩:=hN 0 (by decide)
   have g0:a.tmps[6]?=some v0:=g0
   have e0:v0=.pointer (some ⟨b1,1,none⟩):=r0
   rw [e0] at g0
   have c0:W.cell? ⟨b1,1,none⟩=some (.slice (some ⟨bv,ov,none⟩) m.val.length cv):=(HW.out W hW).1
   exact relVal rfl (.slice (some ⟨bv,ov,none⟩) m.val.length cv) _ rfl (by go_simp) ⟨_,rfl,rfl,hW,Below.refl _ _⟩
  case s2 =>
   intro done a W hW hd hnd hno hO hN
   have o0:a.tmps[0]?=some (.int .i64 (x:Int)):=(hO.out 0 (by decide)).trans rfl
   exact relVal rfl (.int .i64 (x:Int)) _ rfl (by go_simp) ⟨_,rfl,rfl,hW,Below.refl _ _⟩
  case s3 =>
   intro done a W hW hd hnd hno hO hN
   obtain ⟨v1,g1,r1⟩:=hN 1 (by decide)
   have g1:a.tmps[7]?=some v1:=g1
   have e1:v1=.slice (some ⟨bv,ov,none⟩) m.val.length cv:=r1
   rw [e1] at g1
   obtain ⟨v2,g2,r2⟩:=hN 2 (by decide)
   have g2:a.tmps[8]?=some v2:=g2
   have e2:v2=.int .i64 (x:Int):=r2
   rw [e2] at g2
   exact relVal rfl (.pointer (some ⟨bv,ov+x,none⟩)) _ rfl (by go_simp) ⟨_,rfl,rfl,hW,Below.refl _ _⟩
  case s4 =>
   intro done a W hW hd hnd hno hO hN
   obtain ⟨v3,g3,r3⟩:=hN 3 (by decide)
   have g3:a.tmps[9]?=some v3:=g3
   have e3:v3=.pointer (some ⟨bv,ov+x,none⟩):=r3
   rw [e3] at g3
   have c0:W.cell? ⟨bv,ov+x,none⟩=some (.slice qx lx nx):=(HW.out W hW).2.1
   exact relVal rfl (.slice qx lx nx) _ rfl (by go_simp) ⟨_,rfl,rfl,hW,Below.refl _ _⟩
  case s5 =>
   intro done a W hW hd hnd hno hO hN
   have o2:a.tmps[2]?=some (.pointer (some ⟨b1,0,none⟩)):=(hO.out 2 (by decide)).trans rfl
   exact relVal rfl (.pointer (some ⟨b1,1,none⟩)) _ rfl (by go_simp) ⟨_,rfl,rfl,hW,Below.refl _ _⟩
  case s6 =>
   intro done a W hW hd hnd hno hO hN
   obtain ⟨v5,g5,r5⟩:=hN 5 (by decide)
   have g5:a.tmps[11]?=some v5:=g5
   have e5:v5=.pointer (some ⟨b1,1,none⟩):=r5
   rw [e5] at g5
   have c0:W.cell? ⟨b1,1,none⟩=some (.slice (some ⟨bv,ov,none⟩) m.val.length cv):=(HW.out W hW).1
   exact relVal rfl (.slice (some ⟨bv,ov,none⟩) m.val.length cv) _ rfl (by go_simp) ⟨_,rfl,rfl,hW,Below.refl _ _⟩
  case s7 =>
   intro done a W hW hd hnd hno hO hN
   have o1:a.tmps[1]?=some (.int .i64 (y:Int)):=(hO.out 1 (by decide)).trans rfl
   exact relVal rfl (.int .i64 (y:Int)) _ rfl (by go_simp) ⟨_,rfl,rfl,hW,Below.refl _ _⟩
  case s8 =>
   intro done a W hW hd hnd hno hO hN
   obtain ⟨v6,g6,r6⟩:=hN 6 (by decide)
   have g6:a.tmps[12]?=some v6:=g6
   have e6:v6=.slice (some ⟨bv,ov,none⟩) m.val.length cv:=r6
   rw [e6] at g6
   obtain ⟨v7,g7,r7⟩:=hN 7 (by decide)
   have g7:a.tmps[13]?=some v7:=g7
   have e7:v7=.int .i64 (y:Int):=r7
   rw [e7] at g7
   exact relVal rfl (.pointer (some ⟨bv,ov+y,none⟩)) _ rfl (by go_simp) ⟨_,rfl,rfl,hW,Below.refl _ _⟩
  case s9 =>
   intro done a W hW hd hnd hno hO hN
   obtain ⟨v8,g8,r8⟩:=hN 8 (by decide)
   have g8:a.tmps[14]?=some v8:=g8
   have e8:v8=.pointer (some ⟨bv,ov+y,none⟩):=r8
   rw [e8] at g8
   have c0:W.cell? ⟨bv,ov+y,none⟩=some (.slice qy ly ny):=(HW.out W hW).2.2
   exact relVal rfl (.slice qy ly ny) _ rfl (by go_simp) ⟨_,rfl,rfl,hW,Below.refl _ _⟩
  case s10 =>
   intro done a W hW hd hnd hno hO hN
   obtain ⟨v4,g4,r4⟩:=hN 4 (by decide)
   have g4:a.tmps[10]?=some v4:=g4
   have e4:v4=.slice qx lx nx:=r4
   rw [e4] at g4
   obtain ⟨v9,g9,r9⟩:=hN 9 (by decide)
   have g9:a.tmps[15]?=some v9:=g9
   have e9:v9=.slice qy ly ny:=r9
   rw [e9] at g9
   refine relCallF rfl rfl 64 [.tmp 10,.tmp 15] #[34,34] rfl [.slice qx lx nx,.slice qy ly ny] (by simp [Act.eval,g4,g9]) (fun _ _=>by kernel_rfl) (Calls.mono (KE.out W hW) ?_)
   rintro e W2 ⟨rfl,h2⟩
   exact ⟨_,rfl,_,rfl,rfl,hW.trans (h2.mono hW.size),h2⟩
  case s11 =>
   intro done a W hW hd hnd hno hO hN
   obtain ⟨v10,g10,r10⟩:=hN 10 (by decide)
   have g10:a.tmps[16]?=some v10:=g10
   have e10:v10=.bool z:=r10
   rw [e10] at g10
   exact relVal rfl (.bool (!z)) _ rfl (by go_simp) ⟨_,rfl,rfl,hW,Below.refl _ _⟩
  case s12 =>
   intro done a W hW hd hnd hno hO hN
   obtain ⟨v11,g11,r11⟩:=hN 11 (by decide)
   have g11:a.tmps[17]?=some v11:=g11
   have e11:v11=.bool (!z):=r11
   rw [e11] at g11
   exact relVal rfl (.bool (!z)) _ rfl (by go_simp) ⟨_,rfl,rfl,hW,Below.refl _ _⟩
 case fin =>
  intro vs done w1 hdone hS hV
  have e9:vs 12=.bool (!z):=hV 12 (by decide)
  have HB8:=show Hid (Below w.heap.size w w1) from hS
  simp only [putAll,Act.put,List.setIfInBounds_toArray,List.set_cons_zero,List.set_cons_succ,Nat.reduceAdd,e9]
  clear hV hS e9 HW
  go_wp2_with fail
  go_ret
  exact ⟨rfl,HB8.out⟩
set_option maxRecDepth 100000 in
set_option maxHeartbeats 4000000 in
theorem cls2_any (w:World) {A b5 n:Nat} {ws:Nat→Nat} (hb:Cl w b5 #[.slice (some ⟨A,0,none⟩) n n] 99) (hA:Ws w A (n * 8) 103 ws) {x y:Nat} (hx:x<n) (hy:y<n) :
 Calls Try.prog 66 #[.int .i64 (x:Int),.int .i64 (y:Int),.pointer (some ⟨b5,0,none⟩)] w fun e w'=>e=.returned (.bool (setP ws x y))∧Below w.heap.size w w':=by
 have HW:=show Hid (∀ W,Below w.heap.size w W→W.cell? ⟨b5,0,none⟩=some (.slice (some ⟨A,0,none⟩) n n)∧Ws W A (n * 8) 103 ws) from fun W hW =>
  ⟨(Cl.later hb hW).cell 0,hA.keep (hW.block A hA.row.lt)⟩
 have hxi:(x:Int)<(n:Int):=by omega
 have hyi:(y:Int)<(n:Int):=by omega
 clear hb hA
 go_enter Try.func66,Try.ntmps66
 go_wp2_with fail
 refine wp_region_dep (by kernel_rfl) [some 6,some 7,some 8,some 9,some 10,some 11,some 12,some 13,some 14,some 5] [[],[],[0,1],[2],[],[],[4,5],[6],[3,7],[8]] [[],[],[0,1],[2,0,1],[],[],[4,5],[6,4,5],[3,2,0,1,7,6,4,5],[8,3,2,0,1,7,6,4,5]] (by kernel_rfl) (by decide) (fun i v W=>match i with | 0=>v=.slice (some ⟨A,0,none⟩) n n | 1=>v=.int .i64 (x:Int) | 2=>v=.pointer (some ⟨A,x * 8,none⟩) | 3=>v=.agg (c8 ws x).toArray | 4=>v=.slice (some ⟨A,0,none⟩) n n | 5=>v=.int .i64 (y:Int) | 6=>v=.pointer (some ⟨A,y * 8,none⟩) | 7=>v=.agg (c8 ws y).toArray | 8=>v=.bool (setP ws x y) | 9=>v=.bool (setP ws x y) | _=>True) (fun _ W=>Below w.heap.size w W) (fun _ W W'=>Below W.heap.size W W') ?hle ((Below.refl _ _).drew) (allLt 10 ?steps) ?fin
 case hle =>
  intro i j v W W' hij hn hl h
  match j,h with
  | 0,h=>exact h
  | 1,h=>exact h
  | 2,h=>exact h
  | 3,h=>exact h
  | 4,h=>exact h
  | 5,h=>exact h
  | 6,h=>exact h
  | 7,h=>exact h
  | 8,h=>exact h
  | 9,h=>exact h
  | _+10,_=>trivial
 case steps =>
  refine ⟨⟨⟨⟨⟨⟨⟨⟨⟨⟨trivial,?s0⟩,?s1⟩,?s2⟩,?s3⟩,?s4⟩,?s5⟩,?s6⟩,?s7⟩,?s8⟩,?s9⟩
  case s0 =>
   intro done a W hW hd hnd hno hO hN
   have o2:a.tmps[2]?=some (.pointer (some ⟨b5,0,none⟩)):=(hO.out 2 (by decide)).trans rfl
   have c0:W.cell? ⟨b5,0,none⟩=some (.slice (some ⟨A,0,none⟩) n n):=(HW.out W hW).1
   exact relVal rfl (.slice (some ⟨A,0,none⟩) n n) _ rfl (by go_simp) ⟨_,rfl,rfl,hW,Below.refl _ _⟩
  case s1 =>
   intro done a W hW hd hnd hno hO hN
   have o0:a.tmps[0]?=some (.int .i64 (x:Int)):=(hO.out 0 (by decide)).trans rfl
   exact relVal rfl (.int .i64 (x:Int)) _ rfl (by go_simp) ⟨_,rfl,rfl,hW,Below.refl _ _⟩
  case s2 =>
   intro done a W hW hd hnd hno hO hN
   obtain ⟨v0,g0,r0⟩:=hN 0 (by decide)
   have g0:a.tmps[6]?=some v0:=g0
   have e0:v0=.slice (some ⟨A,0,none⟩) n n:=r0
   rw [e0] at g0
   obtain ⟨v1,g1,r1⟩:=hN 1 (by decide)
   have g1:a.tmps[7]?=some v1:=g1
   have e1:v1=.int .i64 (x:Int):=r1
   rw [e1] at g1
   exact relVal rfl (.pointer (some ⟨A,x * 8,none⟩)) _ rfl (by go_simp) ⟨_,rfl,rfl,hW,Below.refl _ _⟩
  case s3 =>
   intro done a W hW hd hnd hno hO hN
   obtain ⟨v2,g2,r2⟩:=hN 2 (by decide)
   have g2:a.tmps[8]?=some v2:=g2
   have e2:v2=.pointer (some ⟨A,x * 8,none⟩):=r2
   rw [e2] at g2
   have hl:=ldSet (HW.out W hW).2 (a:=x) (by omega)
   exact relVal rfl (.agg (c8 ws x).toArray) _ rfl (by simp [execOp,Act.eval,g2,hl,Result.andThen]) ⟨_,rfl,rfl,hW,Below.refl _ _⟩
  case s4 =>
   intro done a W hW hd hnd hno hO hN
   have o2:a.tmps[2]?=some (.pointer (some ⟨b5,0,none⟩)):=(hO.out 2 (by decide)).trans rfl
   have c0:W.cell? ⟨b5,0,none⟩=some (.slice (some ⟨A,0,none⟩) n n):=(HW.out W hW).1
   exact relVal rfl (.slice (some ⟨A,0,none⟩) n n) _ rfl (by go_simp) ⟨_,rfl,rfl,hW,Below.refl _ _⟩
  case s5 =>
   intro done a W hW hd hnd hno hO hN
   have o1:a.tmps[1]?=some (.int .i64 (y:Int)):=(hO.out 1 (by decide)).trans rfl
   exact relVal rfl (.int .i64 (y:Int)) _ rfl (by go_simp) ⟨_,rfl,rfl,hW,Below.refl _ _⟩
  case s6 =>
   intro done a W hW hd hnd hno hO hN
   obtain ⟨v4,g4,r4⟩:=hN 4 (by decide)
   have g4:a.tmps[10]?=some v4:=g4
   have e4:v4=.slice (some ⟨A,0,none⟩) n n:=r4
   rw [e4] at g4
   obtain ⟨v5,g5,r5⟩:=hN 5 (by decide)
   have g5:a.tmps[11]?=some v5:=g5
   have e5:v5=.int .i64 (y:Int):=r5
   rw [e5] at g5
   exact relVal rfl (.pointer (some ⟨A,y * 8,none⟩)) _ rfl (by go_simp) ⟨_,rfl,rfl,hW,Below.refl _ _⟩
  case s7 =>
   intro done a W hW hd hnd hno hO hN
   obtain ⟨v6,g6,r6⟩:=hN 6 (by decide)
   have g6:a.tmps[12]?=some v6:=g6
   have e6:v6=.pointer (some ⟨A,y * 8,none⟩):=r6
   rw [e6] at g6
   have hl:=ldSet (HW.out W hW).2 (a:=y) (by omega)
   exact relVal rfl (.agg (c8 ws y).toArray) _ rfl (by simp [execOp,Act.eval,g6,hl,Result.andThen]) ⟨_,rfl,rfl,hW,Below.refl _ _⟩
  case s8 =>
   intro done a W hW hd hnd hno hO hN
   obtain ⟨v3,g3,r3⟩:=hN 3 (by decide)
   have g3:a.tmps[9]?=some v3:=g3
   have e3:v3=.agg (c8 ws x).toArray:=r3
   rw [e3] at g3
   obtain ⟨v7,g7,r7⟩:=hN 7 (by decide)
   have g7:a.tmps[13]?=some v7:=g7
   have e7:v7=.agg (c8 ws y).toArray:=r7
   rw [e7] at g7
   have hl:=equal_set W ws ws x y
   exact relVal rfl (.bool (setP ws x y)) _ rfl (by simp [execOp,Act.eval,g3,g7,eqGuard,binOp,hl,setP,Result.andThen]) ⟨_,rfl,rfl,hW,Below.refl _ _⟩
  case s9 =>
   intro done a W hW hd hnd hno hO hN
   obtain ⟨v8,g8,r8⟩:=hN 8 (by decide)
   have g8:a.tmps[14]?=some v8:=g8
   have e8:v8=.bool (setP ws x y):=r8
   rw [e8] at g8
   exact relVal rfl (.bool (setP ws x y)) _ rfl (by go_simp) ⟨_,rfl,rfl,hW,Below.refl _ _⟩
 case fin =>
  intro vs done w1 hdone hS hV
  have e9:vs 9=.bool (setP ws x y):=hV 9 (by decide)
  have HB8:=show Hid (Below w.heap.size w w1) from hS
  simp only [putAll,Act.put,List.setIfInBounds_toArray,List.set_cons_zero,List.set_cons_succ,Nat.reduceAdd,e9]
  clear hV hS e9 HW
  go_wp2_with fail
  go_ret
  exact ⟨rfl,HB8.out⟩
end Go.Proofs.Ytoedidbbjnnpnaa.Wm
