import Derived.Test.YtkpbpecikibohaaGreatDoorYQ07
import Derived.LaidEql
import Derived.Stop.Asserts
import Derived.RowKitTokens
set_option linter.unusedSimpArgs false
set_option maxRecDepth 100000
set_option maxHeartbeats 4000000
namespace Go.Proofs.YtkpbpecikibohaaGreatDoor.Ya
open Go.RowKit Go.Maps
open Fm (Nd)
open Ty (Tm An)
theorem Gl {B C m tb mt:Nat} {v:Value} {t:List Nd}:∀ x:Ty.Tr,iJ B C m tb mt v t x/\iX B C m tb mt v t x:=by
 intro x
 induction x with
 | var n=>exact⟨fun w N g wv sv way hT h hB hK hG hn hw=>CV w hT h hB hK hG hn hw,fun w N g wv sv way id hT h hB hK hG hn hw=>Fj w id hT h hB hK hG hn hw⟩
 | lam n a ha=>exact⟨fun w N g wv sv way hT h hB hK hG hn hw=>NJ w hT h hB hK hG hn hw,fun w N g wv sv way id hT h hB hK hG hn hw=>Fw ha.2 w id hT h hB hK hG hn hw⟩
 | app a b ha hb=>exact⟨fun w N g wv sv way hT h hB hK hG hn hw=>CY ha.1 hb.2 w hT h hB hK hG hn hw,fun w N g wv sv way id hT h hB hK hG hn hw=>Fp ha.1 hb.2 w id hT h hB hK hG hn hw⟩
 | pair a b ha hb=>exact⟨fun w N g wv sv way hT h hB hK hG hn hw=>Kq w hT h hB hK hG hn hw,fun w N g wv sv way id hT h hB hK hG hn hw=>C8 ha.2 hb.2 w id hT h hB hK hG hn hw⟩
 | fst a ha=>exact⟨fun w N g wv sv way hT h hB hK hG hn hw=>CW ha.1 w hT h hB hK hG hn hw,fun w N g wv sv way id hT h hB hK hG hn hw=>Fq ha.1 w id hT h hB hK hG hn hw⟩
 | snd a ha=>exact⟨fun w N g wv sv way hT h hB hK hG hn hw=>CX ha.1 w hT h hB hK hG hn hw,fun w N g wv sv way id hT h hB hK hG hn hw=>Fu ha.1 w id hT h hB hK hG hn hw⟩
 | inl a ha=>exact⟨fun w N g wv sv way hT h hB hK hG hn hw=>NK w hT h hB hK hG hn hw,fun w N g wv sv way id hT h hB hK hG hn hw=>Fx ha.2 w id hT h hB hK hG hn hw⟩
 | inr a ha=>exact⟨fun w N g wv sv way hT h hB hK hG hn hw=>NM w hT h hB hK hG hn hw,fun w N g wv sv way id hT h hB hK hG hn hw=>Fy ha.2 w id hT h hB hK hG hn hw⟩
 | cas n o a b c ha hb hc=>exact⟨fun w N g wv sv way hT h hB hK hG hn hw=>NQ ha.1 hb.1 hc.1 w hT h hB hK hG hn hw,fun w N g wv sv way id hT h hB hK hG hn hw=>Fz ha.1 hb.2 hc.2 w id hT h hB hK hG hn hw⟩
 | iN a ha=>exact⟨fun w N g wv sv way hT h hB hK hG hn hw=>NP w hT h hB hK hG hn hw,fun w N g wv sv way id hT h hB hK hG hn hw=>FB ha.1 w id hT h hB hK hG hn hw⟩
 | the f a ha=>exact⟨fun w N g wv sv way hT h hB hK hG hn hw=>CZ ha.2 w hT h hB hK hG hn hw,fun w N g wv sv way id hT h hB hK hG hn hw=>Fv ha.2 w id hT h hB hK hG hn hw⟩
 | lt n a b ha hb=>exact⟨fun w N g wv sv way hT h hB hK hG hn hw=>Q9 ha.1 hb.1 w hT h hB hK hG hn hw,fun w N g wv sv way id hT h hB hK hG hn hw=>Iw ha.1 hb.2 w id hT h hB hK hG hn hw⟩
end Go.Proofs.YtkpbpecikibohaaGreatDoor.Ya
namespace Go.Proofs.YtkpbpecikibohaaGreatDoor.Ya
open Go.RowKit Go.Extern.Stop Go.Stop Go.Extern Go.Maps
theorem TI (t:Value) (w:World):Calls Tryz.prog 43 #[.nilIface,t] w fun e w'=>e=.returned (.bool false)/\w'=w:=by
 go_enter Tryz.func43,Tryz.ntmps43
 go_wp2
 go_ret
 exact⟨rfl,rfl⟩
theorem Xa (t:Addr) (w:World):(ReflectliteValue.unpack (.iface 115 (.pointer (some t)))).run Tryz.prog w=.ok (.agg #[.pointer (some ⟨3,115,none⟩),.pointer (some ⟨w.heap.size,0,none⟩),.int .u64 150]) (w.alloc (.cells #[.pointer (some t)] 115)):=by kernel_rfl
theorem Xb (a : Addr) (w : World) : (ReflectliteValue.methodAny (ReflectliteValue.valueError "reflectlite.Value.Type" 0) (fun t _ _ _ => ReflectliteType.toType t) #[.agg #[.pointer (some ⟨3, 115, none⟩), .pointer (some a), .int .u64 150]]).run Tryz.prog w = .ok (.iface 204 (.agg #[.pointer (some ⟨3, 115, none⟩)])) w := by kernel_rfl
theorem Ra (h : Value) (w : World) : (Go.method 377 204 (.agg #[h]) "Kind").run Tryz.prog w = .ok (178, h) w := by kernel_rfl
theorem Xc (w:World):((ReflectliteType.abiMethod fun t=>(fun a:Nat=>Value.int IntKind.u8 (a:Int)) <$> Rtype.kind t) #[.pointer (some ⟨3,115,none⟩)]).run Tryz.prog w=.ok (.int .u8 22) w:=by kernel_rfl
theorem Zd (w:World):((ReflectliteType.abiMethod fun t=>(fun a:Nat=>Value.int IntKind.u8 (a:Int)) <$> Rtype.kind t) #[.pointer (some ⟨3,113,none⟩)]).run Tryz.prog w=.ok (.int .u8 22) w:=by kernel_rfl
theorem Rb (a : Addr) (W : World) : (ReflectliteValue.method (ReflectliteValue.valueError "reflectlite.Value.IsNil" 0) ReflectliteValue.isNil #[.agg #[.pointer (some ⟨3, 115, none⟩), .pointer (some a), .int .u64 150]]).run Tryz.prog W = (ReflectliteValue.isNil 115 a 150 22).run Tryz.prog W := by kernel_rfl
theorem TJ (a p:Addr) (W:World) (ha:W.cell? a=some (.pointer (some p))) :
 (ReflectliteValue.method (ReflectliteValue.valueError "reflectlite.Value.IsNil" 0) ReflectliteValue.isNil #[.agg #[.pointer (some ⟨3, 115, none⟩), .pointer (some a), .int .u64 150]]).run Tryz.prog W = .ok (.bool false) W := by
 rw[Rb]
 simp[ReflectliteValue.isNil,loadVar,isAgg,underlying,Tryz.underlying115,ha,Result.andThen]
theorem Rc (h : Value) (w : World) : (Go.method 377 204 (.agg #[h]) "Elem").run Tryz.prog w = .ok (189, .agg #[h]) w := by kernel_rfl
theorem Rh (h : Value) (w : World) : (Go.method 377 204 (.agg #[h]) "Implements").run Tryz.prog w = .ok (190, .agg #[h]) w := by kernel_rfl
theorem Ri (h : Value) (w : World) : (Go.method 377 204 (.agg #[h]) "AssignableTo").run Tryz.prog w = .ok (187, .agg #[h]) w := by kernel_rfl
theorem Xd (w:World):(ReflectliteType.method ReflectliteType.elem #[.agg #[.pointer (some ⟨3,115,none⟩)]]).run Tryz.prog w=.ok (.iface 204 (.agg #[.pointer (some ⟨3,113,none⟩)])) w:=by kernel_rfl
theorem Ze (w : World) : (ReflectliteType.relation "Implements" ReflectliteType.implements_ #[.agg #[.pointer (some ⟨3, 113, none⟩)], .iface 204 (.agg #[.pointer (some ⟨3, 71, none⟩)])]).run Tryz.prog w = .ok (.bool true) w := by kernel_rfl
theorem Zf (v:Value) (w:World):(ReflectliteType.typeOf #[.iface 113 v]).run Tryz.prog w=.ok (.iface 204 (.agg #[.pointer (some ⟨3,113,none⟩)])) w:=by kernel_rfl
theorem Zg (w : World) : (ReflectliteType.relation "AssignableTo" ReflectliteType.assignableTo #[.agg #[.pointer (some ⟨3, 113, none⟩)], .iface 204 (.agg #[.pointer (some ⟨3, 113, none⟩)])]).run Tryz.prog w = .ok (.bool true) w := by kernel_rfl
theorem Zh (e:Addr) (w:World):(ReflectliteValue.unpack (.iface 113 (.pointer (some e)))).run Tryz.prog w=.ok (.agg #[.pointer (some ⟨3,113,none⟩),.pointer (some ⟨w.heap.size,0,none⟩),.int .u64 150]) (w.alloc (.cells #[.pointer (some e)] 113)):=by kernel_rfl
theorem Xe (w:World):(Rtype.elem? 115).run Tryz.prog w=.ok (some 113) w:=by kernel_rfl
theorem Zi (p:Addr) (w:World):(ReflectliteValue.mk 113 p ReflectliteValue.flagAddr).run Tryz.prog w=.ok (.agg #[.pointer (some ⟨3,113,none⟩),.pointer (some p),.int .u64 406]) w:=by kernel_rfl
theorem TK (a : Addr) (W : World) : (ReflectliteValue.method (ReflectliteValue.valueError "reflectlite.Value.Elem" 0) ReflectliteValue.elem #[.agg #[.pointer (some ⟨3, 115, none⟩), .pointer (some a), .int .u64 150]]).run Tryz.prog W = (ReflectliteValue.elem 115 a 150 22).run Tryz.prog W := by kernel_rfl
theorem Xf (a p:Addr) (W:World) (ha:W.cell? a=some (.pointer (some p))) :
 (ReflectliteValue.method (ReflectliteValue.valueError "reflectlite.Value.Elem" 0) ReflectliteValue.elem #[.agg #[.pointer (some ⟨3, 115, none⟩), .pointer (some a), .int .u64 150]]).run Tryz.prog W = .ok (.agg #[.pointer (some ⟨3, 113, none⟩), .pointer (some p), .int .u64 406]) W := by
 rw[TK]
 simp[ReflectliteValue.elem,loadVar,isAgg,underlying,Tryz.underlying115,ha,Result.andThen,Xe,Zi]
theorem TL (ta b:Addr) (W:World):(ReflectliteValue.set #[.agg #[.pointer (some ⟨3,113,none⟩),.pointer (some ta),.int .u64 406],.agg #[.pointer (some ⟨3,113,none⟩),.pointer (some b),.int .u64 150]]).run Tryz.prog W=(loadVar 113 b >>= fun val=>storeVar 113 ta val >>= fun _=>pure (.tuple #[])).run Tryz.prog W:=by kernel_rfl
theorem Zj (ta b e:Addr) (old:Value) (W:World) (hb:W.cell? b=some (.pointer (some e))) (ht:W.cell? ta=some old) (hf:W.frozen? ta=false) :
 (ReflectliteValue.set #[.agg #[.pointer (some ⟨3,113,none⟩),.pointer (some ta),.int .u64 406],.agg #[.pointer (some ⟨3,113,none⟩),.pointer (some b),.int .u64 150]]).run Tryz.prog W=.ok (.tuple #[]) (W.setCell ta (.pointer (some e))):=by
 rw[TL]
 simp[loadVar,isAgg,underlying,Tryz.underlying113,hb,Result.andThen,storeVar,Value.cells,storeCells,Addr.add]
 rw[run_store Tryz.prog W ta _ _ (by rfl)]
 simp[ht,hf]
def sj (w:World):Prop:=w.cell? ⟨0,0,none⟩=some (.iface 204 (.agg #[.pointer (some ⟨3,71,none⟩)]))
theorem sj.lt {w:World} (h:sj w):0<w.heap.size:=World.block_lt_of_cell? w _ h
theorem sj.later {w w':World} (h:sj w) {L:Nat} (hb:Below L w w') (hl:0<L):sj w':=(World.cell?_of_block (a:=⟨_,0,none⟩) (hb.block _ hl)).trans h
theorem Rj (e t:Addr) (old:Value) (w:World) (hg:sj w) (ht0:w.cell? t=some old) (hf0:w.frozen? t=false) :
 Calls Tryz.prog 43 #[.iface 113 (.pointer (some e)),.iface 115 (.pointer (some t))] w fun ev w'=>ev=.returned (.bool true)/\w'=((((w.alloc (.cells #[.pointer (some t)] 115)).alloc (.cells #[.pointer (some ⟨3,115,none⟩),.pointer (some ⟨w.heap.size,0,none⟩),.int .u64 150] 157)).alloc (.cells #[.pointer (some ⟨3,115,none⟩),.pointer (some ⟨w.heap.size,0,none⟩),.int .u64 150] 157)).alloc (.cells #[.pointer (some e)] 113)).setCell t (.pointer (some e)):=by
 have h6:=@run_callFunc_extern Tryz.prog 80 _ (fun args=>ReflectliteValue.unpack (args.getD 0 (.tuple #[]))) Tryz.func80 (by kernel_rfl) (by kernel_rfl) (by kernel_rfl) (by kernel_rfl)
 have h7 := @run_callFunc_extern Tryz.prog 81 _ (ReflectliteValue.methodAny (ReflectliteValue.valueError "reflectlite.Value.Type" 0) (fun t _ _ _ => ReflectliteType.toType t)) Tryz.func81 (by kernel_rfl) (by kernel_rfl) (by kernel_rfl) (by kernel_rfl)
 have h8 := @run_callFunc_extern Tryz.prog 82 _ (ReflectliteValue.method (ReflectliteValue.valueError "reflectlite.Value.IsNil" 0) ReflectliteValue.isNil) Tryz.func82 (by kernel_rfl) (by kernel_rfl) (by kernel_rfl) (by kernel_rfl)
 have h27:=@run_callFunc_extern Tryz.prog 178 _ (ReflectliteType.abiMethod fun t=>do pure (.int .u8 (<- Rtype.kind t))) Tryz.func178 (by kernel_rfl) (by kernel_rfl) (by kernel_rfl) (by kernel_rfl)
 have h37:=@run_callFunc_extern Tryz.prog 189 _ (ReflectliteType.method ReflectliteType.elem) Tryz.func189 (by kernel_rfl) (by kernel_rfl) (by kernel_rfl) (by kernel_rfl)
 have h38 := @run_callFunc_extern Tryz.prog 190 _ (ReflectliteType.relation "Implements" ReflectliteType.implements_) Tryz.func190 (by kernel_rfl) (by kernel_rfl) (by kernel_rfl) (by kernel_rfl)
 have h10:=@run_callFunc_extern Tryz.prog 108 _ ReflectliteType.typeOf Tryz.func108 (by kernel_rfl) (by kernel_rfl) (by kernel_rfl) (by kernel_rfl)
 have XO := @run_callFunc_extern Tryz.prog 187 _ (ReflectliteType.relation "AssignableTo" ReflectliteType.assignableTo) Tryz.func187 (by kernel_rfl) (by kernel_rfl) (by kernel_rfl) (by kernel_rfl)
 have h11 := @run_callFunc_extern Tryz.prog 109 _ (ReflectliteValue.method (ReflectliteValue.valueError "reflectlite.Value.Elem" 0) ReflectliteValue.elem) Tryz.func109 (by kernel_rfl) (by kernel_rfl) (by kernel_rfl) (by kernel_rfl)
 have h12:=@run_callFunc_extern Tryz.prog 110 _ ReflectliteValue.set Tryz.func110 (by kernel_rfl) (by kernel_rfl) (by kernel_rfl) (by kernel_rfl)
 have tO:=Zf
 have mA:=Ri
 have a25:=Zg
 have v25:=Zh
 have f6:=Xa
 have f7:=Xb
 have mK:=Ra
 have mE:=Rc
 have mI:=Rh
 have k27:=Xc
 have k25:=Zd
 have e27:=Xd
 have i25:=Ze
 have n8:=TJ ⟨w.heap.size,0,none⟩ t ((w.alloc (.cells #[.pointer (some t)] 115)).alloc (.cells #[.pointer (some ⟨3,115,none⟩),.pointer (some ⟨w.heap.size,0,none⟩),.int .u64 150] 157)) (by simp)
 have hlt:0<w.heap.size:=hg.lt
 have hg0:w.cell? ⟨0,0,none⟩=some (.iface 204 (.agg #[.pointer (some ⟨3,71,none⟩)])):=hg
 have hg2:((w.alloc (.cells #[.pointer (some t)] 115)).alloc (.cells #[.pointer (some ⟨3,115,none⟩),.pointer (some ⟨w.heap.size,0,none⟩),.int .u64 150] 157)).cell? ⟨0,0,none⟩=some (.iface 204 (.agg #[.pointer (some ⟨3,71,none⟩)])):=by
  rw[World.cell?_alloc_lt _ _ ⟨_,0,none⟩ (by simp),World.cell?_alloc_lt _ _ ⟨_,0,none⟩ hlt];exact hg0
 have htl:t.block<w.heap.size:=World.block_lt_of_cell? w _ ht0
 have el:=Xf ⟨w.heap.size,0,none⟩ t (((w.alloc (.cells #[.pointer (some t)] 115)).alloc (.cells #[.pointer (some ⟨3,115,none⟩),.pointer (some ⟨w.heap.size,0,none⟩),.int .u64 150] 157)).alloc (.cells #[.pointer (some ⟨3,115,none⟩),.pointer (some ⟨w.heap.size,0,none⟩),.int .u64 150] 157)) (by rw[World.cell?_alloc_lt _ _ ⟨w.heap.size,0,none⟩ (by simp;omega)];simp)
 have st:=Zj t ⟨w.heap.size+1+1+1,0,none⟩ e old ((((w.alloc (.cells #[.pointer (some t)] 115)).alloc (.cells #[.pointer (some ⟨3,115,none⟩),.pointer (some ⟨w.heap.size,0,none⟩),.int .u64 150] 157)).alloc (.cells #[.pointer (some ⟨3,115,none⟩),.pointer (some ⟨w.heap.size,0,none⟩),.int .u64 150] 157)).alloc (.cells #[.pointer (some e)] 113))
  (by rw[World.cell?_alloc_at _ _ _ _ (by simp)];rfl)
  (by rw[World.cell?_alloc_lt _ _ t (by simp;omega),World.cell?_alloc_lt _ _ t (by simp;omega),World.cell?_alloc_lt _ _ t (by simp;omega),World.cell?_alloc_lt _ _ t htl];exact ht0)
  (by rw[World.frozen?_alloc_old _ _ t (by simp;omega),World.frozen?_alloc_old _ _ t (by simp;omega),World.frozen?_alloc_old _ _ t (by simp;omega),World.frozen?_alloc_old _ _ t (Nat.ne_of_lt htl)];exact hf0)
 go_enter Tryz.func43,Tryz.ntmps43
 go_wp2
 refine wp_loop_rounds 1 ?_
 rw[rounds_succ]
 go_wp2
 go_ret
 exact⟨rfl,rfl⟩
end Go.Proofs.YtkpbpecikibohaaGreatDoor.Ya
namespace Go.Proofs.YtkpbpecikibohaaGreatDoor.Ya
open Go.RowKit Go.Maps
open Fm (Nd)
open Ty (Tm An)
theorem TM (w:World) (q bv:Nat) (hg:sj w) (hb:Cl w bv #[.pointer none] 113) :
 Calls Tryz.prog 43 #[.iface 113 (.pointer (some ⟨q,0,none⟩)),.iface 115 (.pointer (some ⟨bv,0,none⟩))] w fun e w'=>e=.returned (.bool true)/\Cl w' bv #[.pointer (some ⟨q,0,none⟩)] 113/\dn bv w w':=by
 refine(Rj ⟨q,0,none⟩ ⟨bv,0,none⟩ (.pointer none) w hg (hb.cell 0) (hb.fr 0)).mono ?_
 rintro e w' ⟨rfl,rfl⟩
 refine⟨rfl,?_,?_⟩
 ·exact heap_setCell_same _ bv 0 _ _ _ ((((hb.later (ak _ _)).later (ak _ _)).later (ak _ _)).later (ak _ _))
 ·exact dn.set (dn.of_below ((((ak _ _).trans ((ak _ _).mono (by simp <;> omega))).trans ((ak _ _).mono (by simp <;> omega))).trans ((ak _ _).mono (by simp <;> omega)))) 0 _
theorem Kt (w:World):(zeroValue 113).run Tryz.prog w=.ok (.pointer none) w:=by kernel_rfl
theorem Gm (w:World):Calls Tryz.prog 20 #[.nilIface] w fun e w'=>e=.returned (.tuple #[.slice none 0 0,.int .i64 0])/\Below w.heap.size w w':=by
 have KA:=show Hid (∀ (t:Value) (W:World),Calls Tryz.prog 43 #[.nilIface,t] W fun e w'=>e=.returned (.bool false)/\w'=W) from TI
 have XI:∀ (w:World) (v:Value),(Instr.makeInterface 115 v).run Tryz.prog w=.ok (.iface 115 v) w:=fun w v=>by kernel_rfl
 go_enter Tryz.func20,Tryz.ntmps20
 go_wp2_with (refine fO 113 rfl _ Kt rfl rfl ?_)
 intro w1 bv hn1
 have HB:=show Hid _ from hn1.av
 clear hn1
 go_wp2_with fail
 refine Calls.mono (KA.out _ w1) ?_
 rintro e w2 ⟨rfl,hw⟩
 subst w2
 go_wp2_with fail
 go_ret2
 exact⟨rfl,HB.out⟩
theorem wP (w:World) {B q:Nat} {er:Int} {wy:List Int} {wv:Value} (hg:sj w) (h:Rf w B q er wy wv) :
 Calls Tryz.prog 20 #[.iface 113 (.pointer (some ⟨q,0,none⟩))] w fun e w'=>∃ yv,e=.returned (.tuple #[yv,.int .i64 er])/\w'.ownsRow B 3 1 yv wy.length (dG wy)/\Below w.heap.size w w':=by
 have XI:∀ (w:World) (v:Value),(Instr.makeInterface 115 v).run Tryz.prog w=.ok (.iface 115 v) w:=fun w v=>by kernel_rfl
 obtain⟨⟨yv,h1,h2,h3⟩,h4⟩:=h
 obtain⟨yp,yc,rfl⟩:=gY h2
 have HQ:=show Hid (Cl w q #[.int .i64 er,.slice yp wy.length yc] 117) from h1
 have HY:=show Hid _ from h2
 have HG:=show Hid (sj w) from hg
 clear h1 h2 h3 h4 hg
 go_enter Tryz.func20,Tryz.ntmps20
 go_wp2_with (refine fO 113 rfl _ Kt rfl rfl ?_)
 intro w1 bv hn1
 have bU:=show Hid (New w w1 bv #[.pointer none] 113) from hn1
 have KA:=show Hid _ from TM w1 q bv (HG.out.later hn1.av HG.out.lt) hn1.blk
 clear hn1
 go_wp2_with fail
 refine Calls.mono KA.out ?_
 rintro e w2 ⟨rfl,hc2,hk2⟩
 have hq2:Cl w2 q #[.int .i64 er,.slice yp wy.length yc] 117:=Cl.kp (Cl.later HQ.out bU.out.av) hk2 (by have:=HQ.out.lt;have:=bU.out.ge;omega)
 have c0:w2.cell? ⟨bv,0,none⟩=some (.pointer (some ⟨q,0,none⟩)):=hc2.cell 0
 have d0:w2.cell? ⟨q,0,none⟩=some (.int .i64 er):=hq2.cell 0
 have d1:w2.cell? ⟨q,1,none⟩=some (.slice yp wy.length yc):=hq2.cell 1
 have HB2:=show Hid (Below w.heap.size w w2) from bR bU.out.av hk2 bU.out.ge
 have Gn:=show Hid _ from bD HY.out fun k e=>HB2.out.block k (aP HY.out k e).2.1
 clear hc2 hk2 hq2 KA bU
 go_wp2_with fail
 go_region
 clear c0 d0 d1
 go_wp2_with fail
 go_ret2
 refine⟨_,rfl,?_,HB2.out.drew⟩
 exact bD Gn.out fun k e=>rfl
def mJ (w:World) (v:Value) (l:List Int):Prop:=∃ p c,v=.slice p l.length c/\l.length<=140737488351232/\∀ k (hk:k<l.length),∃ b,p=some ⟨b,0,none⟩/\w.cell? ⟨b,k,none⟩=some (.int .i64 l[k])
theorem Ku {w:World} {B:Nat} {v:Value} {l:List Int} (h:w.ownsRow B 3 1 v l.length (dG l)) (hl:l.length<=140737488351232):mJ w v l:=by
 rcases h.2 with ⟨rfl,h0⟩ | ⟨g,cap,cur,rfl,hg,hh,h1,h2,h3,h4⟩
 ·exact⟨none,0,by rw[h0],hl,fun k hk=>absurd hk (by omega)⟩
 ·refine⟨some ⟨g,0,none⟩,cap,rfl,hl,fun k hk=>⟨g,rfl,?_⟩⟩
  rw[cell_of_row w g k _ _ _ hh]
  have e:(dG l)[k]?=some (.int .i64 l[k]):=by simp[dG,hk]
  rw[<- h4,List.getElem?_take,if_pos (by omega)] at e
  simpa using e
theorem mJ.later {w w':World} {v:Value} {l:List Int} (h:mJ w v l) (hb:Below w.heap.size w w'):mJ w' v l:=by
 obtain⟨p,c,hv,hl,h3⟩:=h
 refine⟨p,c,hv,hl,fun k hk => ?_⟩
 obtain⟨b,hp,hc⟩:=h3 k hk
 exact⟨b,hp,(hb.cell (p:=⟨b,_,none⟩) (World.block_lt_of_cell? w _ hc)).trans hc⟩
theorem Kv (w:World) {v:Value} {l:List Int} (h:mJ w v l) (C:Nat) (P:Int->Bool) (hP:∀ W,Below w.heap.size w W->∀ i:Int,Calls Tryz.prog 41 #[.pointer (some ⟨C,0,none⟩),.int .i64 i] W fun r w'=>r=.returned (.bool (P i))/\Below W.heap.size W w') :
 Calls Tryz.prog 75 #[v,.func (.func 41) #[.pointer (some ⟨C,0,none⟩)] #[]] w fun r w'=>∃ ix:Int,r=.returned (.int .i64 ix)/\decide (0<=ix)=l.any P/\Below w.heap.size w w':=by
 obtain⟨p,c,rfl,hl,h3⟩:=h
 have HAT:=show Hid (∀ W,Below w.heap.size w W->∀ k (hk:k<l.length),∃ b,p=some ⟨b,0,none⟩/\W.cell? ⟨b,k,none⟩=some (.int .i64 l[k])) from fun W hW k hk=>by
  obtain⟨b,hp,hc⟩:=h3 k hk
  exact⟨b,hp,(hW.cell (p:=⟨b,_,none⟩) (World.block_lt_of_cell? w _ hc)).trans hc⟩
 have HP:=show Hid _ from hP
 clear h3 hP
 go_enter Tryz.func75,Tryz.ntmps75
 go_wp2_with fail
 go_loopw [5,8] (fun _ i wr=>∃ j:Nat,j<=l.length/\i=.int .i64 (j:Int)/\Hid ((l.drop j).any P=l.any P)/\Hid (Below w.heap.size w wr)) (fun _ i _=>l.length - (intOf i).toNat)
 case atStart=>exact⟨0,Nat.zero_le _,rfl,by rw[List.drop_zero];exact(show l.any P=l.any P from rfl),Below.refl _ _⟩
 case round=>
  obtain⟨j,hj,rfl,HF,HB⟩:=hrel
  by_cases hlt:j<l.length
  ·obtain⟨b,rfl,hc⟩:=HAT.out wr HB.out j hlt
   have hst:=HF.out
   rw[List.drop_eq_getElem_cons hlt,List.any_cons] at hst
   have KC:=show Hid _ from HP.out wr HB.out l[j]
   generalize l[j]=x at *
   have HST:=show Hid _ from hst
   have hji:(j:Int)<(l.length:Int):=by omega
   clear hst HF
   go_wp2_with fail
   refine Calls.mono KC.out ?_
   rintro e w2 ⟨rfl,hb2⟩
   have HB2:=show Hid (Below w.heap.size w w2) from HB.out.trans (hb2.mono HB.out.size)
   generalize P x=px at *
   clear hb2 KC HB hc
   cases px with
   | true=>
    go_wp2_with fail
    go_ret
    refine⟨_,rfl,?_,HB2.out⟩
    rw[<- HST.out]
    simp
   | false=>
    have tF:=show Hid ((l.drop (j+1)).any P=l.any P) from HST.out
    clear HST
    go_wp2_with fail
    go_roundw
    case rel=>exact⟨j+1,by omega,by go_num,tF,HB2⟩
    case measure=>first|(simp[intOf];done)|(simp[intOf];omega)
  ·have qy:j=l.length:=by omega
   have hst:=HF.out
   rw[qy,List.drop_length] at hst
   have HST:=show Hid _ from hst
   have hji:¬ (j:Int)<(l.length:Int):=by omega
   clear qy hst HF
   go_wp2_with fail
   go_ret
   exact⟨_,rfl,by rw[<- HST.out];rfl,HB.out⟩
theorem C9 (w:World) {v:Value} {l:List Int} (h:mJ w v l) (C:Nat) (P:Int->Bool) (hP:∀ W,Below w.heap.size w W->∀ i:Int,Calls Tryz.prog 41 #[.pointer (some ⟨C,0,none⟩),.int .i64 i] W fun r w'=>r=.returned (.bool (P i))/\Below W.heap.size W w') :
 Calls Tryz.prog 40 #[v,.func (.func 41) #[.pointer (some ⟨C,0,none⟩)] #[]] w fun r w'=>r=.returned (.bool (l.any P))/\Below w.heap.size w w':=by
 have KI:=show Hid _ from Kv w h C P hP
 obtain⟨p,c,rfl,_⟩:=h
 clear hP
 go_enter Tryz.func40,Tryz.ntmps40
 go_wp2_with fail
 refine Calls.mono KI.out ?_
 rintro e w2 ⟨ix,rfl,hix,hb2⟩
 have HB2:=show Hid _ from And.intro hix hb2
 clear hix hb2 KI
 go_wp2_with fail
 go_ret
 exact⟨eB HB2.out.1,HB2.out.2⟩
end Go.Proofs.YtkpbpecikibohaaGreatDoor.Ya
