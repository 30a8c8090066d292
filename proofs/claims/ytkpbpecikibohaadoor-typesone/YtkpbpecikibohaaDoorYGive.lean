/-
  give, and what it answers: a name stands for a formula, and what puts back what it stood for. No condition but the size of the map.
-/
import Derived.Test.YtkpbpecikibohaaDoorYSmall
import Derived.Defers
import Derived.Laws.EntriesVeiled
namespace Go.Proofs.YtkpbpecikibohaaDoor.Ya
open Go.RowKit Go.Maps
open Fm (Nd)
open Ty (Tm An)
set_option linter.unusedSimpArgs false

structure Gv (w : World) (C b0 b1 b2 b3 : Nat) (had : Bool) (was : Int) (s : ByteArray) : Prop where
  c0 : Cl w b0 #[.bool had] 4
  c1 : Cl w b1 #[.int .i64 was] 3
  c2 : Cl w b2 #[.pointer (some ⟨C, 0, none⟩)] 60
  c3 : Cl w b3 #[.string s] 9
theorem two_new (w : World) (c1 c2 : Array Value) (T1 T2 : TypeId) : Cl ((w.alloc (.cells c1 T1)).alloc (.cells c2 T2)).drew w.heap.size c1 T1 ∧ Cl ((w.alloc (.cells c1 T1)).alloc (.cells c2 T2)).drew (w.heap.size + 1) c2 T2 := by
  have h := (new_alloc (w.alloc (.cells c1 T1)) c2 T2).blk
  rw [show (w.alloc (.cells c1 T1)).heap.size = w.heap.size + 1 by simp] at h
  exact ⟨(Cl.later (show Cl _ _ _ _ from (new_alloc w c1 T1).blk) (below_alloc _ _)).drew, h⟩
set_option maxRecDepth 100000 in
set_option maxHeartbeats 1000000 in
theorem give_any (w : World) {B C m n : Nat} {pt : Value} {g : Ty.Env} {wv : Value} {way : List Int} (h : Ck w B C m n pt g wv way) (hn : n < 100000000000000) (_hB : B ≤ w.heap.size) (s : ByteArray) (hs : s.size ≤ 140737488351232) (f : Int) :
    Calls Tryd.prog 72 #[.pointer (some ⟨C, 0, none⟩), .string s, .int .i64 f] w fun r w' => ∃ b0 b1 b2 b3, r = .returned (.func (.func 77) #[] #[.pointer (some ⟨b0, 0, none⟩), .pointer (some ⟨b1, 0, none⟩), .pointer (some ⟨b2, 0, none⟩), .pointer (some ⟨b3, 0, none⟩)]) ∧ Gv w' C b0 b1 b2 b3 (g s).isSome ((g s).getD 0) s ∧ w.heap.size ≤ b1 ∧ Ck w' B C m (n + 1) pt (Ty.upd g s f) wv way ∧ Kp (fun k => k = m) w w' := by
  have HL := show Hid (∀ W, Below w.heap.size w W → (Instr.lookup 73 (.map (some m)) (.string s) true).run Tryd.prog W = .ok (.tuple #[.int .i64 ((g s).getD 0), .bool (g s).isSome]) W) from fun W hW => (h.map.later hW).look hs
  have HC := show Hid (∀ W, Below w.heap.size w W → W.cell? ⟨C, 1, none⟩ = some (.map (some m))) from fun W hW => (h.later hW).blk.cell 1
  go_enter Tryd.func72, Tryd.ntmps72
  go_wp2_with (refine wpList_box1 60 _ rfl _ rfl rfl rfl ?_)
  intro w1 b2 hn1
  go_wp2_with (refine wpList_box1 9 _ rfl _ rfl rfl rfl ?_)
  intro w2 b3 hn2
  have HB2 := show Hid (Below w.heap.size w w2) from bel_new hn1.bel hn2
  have HA1 := show Hid (∀ o, Below w.heap.size w (w2.alloc o)) from fun o => HB2.out.trans ((below_alloc w2 o).mono HB2.out.size)
  have HA2 := show Hid (∀ o o', Below w.heap.size w ((w2.alloc o).alloc o')) from fun o o' => (HA1.out o).trans ((below_alloc _ o').mono (HA1.out o).size)
  have hc2 : Cl w2 b2 #[.pointer (some ⟨C, 0, none⟩)] 60 := Cl.new hn1.blk hn2
  have hc3 : Cl w2 b3 #[.string s] 9 := hn2.blk
  have d2 : w2.cell? ⟨b2, 0, none⟩ = some (.pointer (some ⟨C, 0, none⟩)) := hc2.cell 0
  have d3 : w2.cell? ⟨b3, 0, none⟩ = some (.string s) := hc3.cell 0
  have e1 := HC.out w2 HB2.out
  have d2a : ∀ o, (w2.alloc o).cell? ⟨b2, 0, none⟩ = some (.pointer (some ⟨C, 0, none⟩)) := fun o => (hc2.later (below_alloc _ o)).cell 0
  have d3a : ∀ o, (w2.alloc o).cell? ⟨b3, 0, none⟩ = some (.string s) := fun o => (hc3.later (below_alloc _ o)).cell 0
  have e1a : ∀ o, (w2.alloc o).cell? ⟨C, 1, none⟩ = some (.map (some m)) := fun o => HC.out _ (HA1.out o)
  have d2b : ∀ o o', ((w2.alloc o).alloc o').cell? ⟨b2, 0, none⟩ = some (.pointer (some ⟨C, 0, none⟩)) := fun o o' => ((hc2.later (below_alloc _ o)).later (below_alloc _ o')).cell 0
  have d3b : ∀ o o', ((w2.alloc o).alloc o').cell? ⟨b3, 0, none⟩ = some (.string s) := fun o o' => ((hc3.later (below_alloc _ o)).later (below_alloc _ o')).cell 0
  have e1b : ∀ o o', ((w2.alloc o).alloc o').cell? ⟨C, 1, none⟩ = some (.map (some m)) := fun o o' => HC.out _ (HA2.out o o')
  have hlk := HL.out w2.drew (HB2.out.drew)
  have hlka := fun o => HL.out (w2.alloc o).drew ((HA1.out o).drew)
  have hlkb := fun o o' => HL.out ((w2.alloc o).alloc o').drew ((HA2.out o o').drew)
  obtain ⟨was, hwas⟩ : ∃ was, was = (g s).getD 0 := ⟨_, rfl⟩
  obtain ⟨had, hhad⟩ : ∃ had, had = (g s).isSome := ⟨_, rfl⟩
  rw [← hwas, ← hhad] at hlk
  simp only [← hwas, ← hhad] at hlka hlkb
  have HWS := show Hid _ from And.intro hwas hhad
  have HCK := show Hid (∀ W, Below w.heap.size w W → Ck W B C m n pt g wv way) from fun W hW => h.later hW
  have HN2 := show Hid (w.heap.size ≤ w2.heap.size) from HB2.out.size
  clear hwas hhad h HL HC
  have HC2 := show Hid _ from And.intro hc2 hc3
  clear hn1 hn2 hc2 hc3
  go_wp2_with fail
  go_region
  all_goals clear d2 d3 e1 d2a d3a e1a d2b d3b e1b hlk hlka hlkb
  · have hg0 : Gv ((w2.alloc (Obj.cells #[Value.int IntKind.i64 was] 3)).alloc (Obj.cells #[Value.bool had] 4)).drew C (w2.heap.size + 1) (w2.heap.size) b2 b3 had was s := by
      have h := two_new w2 #[Value.int IntKind.i64 was] #[Value.bool had] 3 4
      exact ⟨h.2, h.1, ((HC2.out.1.later (below_alloc _ _)).later (below_alloc _ _)).drew, ((HC2.out.2.later (below_alloc _ _)).later (below_alloc _ _)).drew⟩
    have hb0 : Below w.heap.size w ((w2.alloc (Obj.cells #[Value.int IntKind.i64 was] 3)).alloc (Obj.cells #[Value.bool had] 4)).drew := (HA2.out _ _).drew
    have hge : w.heap.size ≤ w2.heap.size := by have := HN2.out; omega
    generalize w2.heap.size + 1 = q0 at *
    generalize w2.heap.size = q1 at *
    generalize ((w2.alloc (Obj.cells #[Value.int IntKind.i64 was] 3)).alloc (Obj.cells #[Value.bool had] 4)).drew = w3 at *
    have HG0 := show Hid (Gv w3 C q0 q1 b2 b3 had was s) from hg0
    have HB3 := show Hid (Below w.heap.size w w3) from hb0
    have HGE := show Hid (w.heap.size ≤ q1) from hge
    have d2 : w3.cell? ⟨b2, 0, none⟩ = some (.pointer (some ⟨C, 0, none⟩)) := hg0.c2.cell 0
    have d3 : w3.cell? ⟨b3, 0, none⟩ = some (.string s) := hg0.c3.cell 0
    have hck := HCK.out w3.drew hb0.drew
    have e1 : w3.cell? ⟨C, 1, none⟩ = some (.map (some m)) := hck.blk.cell 1
    obtain ⟨w4, hup, hM4, hk4⟩ := hck.map.put (by unfold maxLen; omega) hs f
    have HM4 := show Hid _ from And.intro hM4 hk4
    clear hck hM4 hk4 hg0 hb0 hge HA1 HA2 HC2 HB2 HN2
    go_wp2_with fail
    go_region
    clear hup d2 d3 e1
    go_wp2_with fail
    go_ret
    obtain ⟨hM4, hk4⟩ := HM4.out
    have hck := HCK.out w3.drew HB3.out.drew
    obtain ⟨rfl, rfl⟩ := HWS.out
    have kp4 : Kp (fun k => k = m) w w4 := (Kp.of_below HB3.out.drew).trans hk4 fun k e => Or.inl e
    have nm : ∀ {b : Nat} {cs : Array Value} {T : TypeId}, Cl w3 b cs T → Cl w4 b cs T := fun hb => (hk4.block _ (show _ < w3.drew.heap.size from hb.lt) (hck.mne hb.drew)).trans hb
    refine ⟨q0, q1, b2, b3, rfl, ⟨nm HG0.out.c0, nm HG0.out.c1, nm HG0.out.c2, nm HG0.out.c3⟩, HGE.out, ⟨nm hck.blk, hM4, own_kp hck.row fun k e => hk4.block k (own_blk hck.row k e).2.1 fun e2 => hck.wm (e2 ▸ e), hck.cB, hck.mB⟩, kp4⟩
  · have hg0 : Gv ((w2.alloc (Obj.cells #[Value.bool had] 4)).alloc (Obj.cells #[Value.int IntKind.i64 was] 3)).drew C (w2.heap.size) (w2.heap.size + 1) b2 b3 had was s := by
      have h := two_new w2 #[Value.bool had] #[Value.int IntKind.i64 was] 4 3
      exact ⟨h.1, h.2, ((HC2.out.1.later (below_alloc _ _)).later (below_alloc _ _)).drew, ((HC2.out.2.later (below_alloc _ _)).later (below_alloc _ _)).drew⟩
    have hb0 : Below w.heap.size w ((w2.alloc (Obj.cells #[Value.bool had] 4)).alloc (Obj.cells #[Value.int IntKind.i64 was] 3)).drew := (HA2.out _ _).drew
    have hge : w.heap.size ≤ w2.heap.size + 1 := by have := HN2.out; omega
    generalize w2.heap.size + 1 = q1 at *
    generalize w2.heap.size = q0 at *
    generalize ((w2.alloc (Obj.cells #[Value.bool had] 4)).alloc (Obj.cells #[Value.int IntKind.i64 was] 3)).drew = w3 at *
    have HG0 := show Hid (Gv w3 C q0 q1 b2 b3 had was s) from hg0
    have HB3 := show Hid (Below w.heap.size w w3) from hb0
    have HGE := show Hid (w.heap.size ≤ q1) from hge
    have d2 : w3.cell? ⟨b2, 0, none⟩ = some (.pointer (some ⟨C, 0, none⟩)) := hg0.c2.cell 0
    have d3 : w3.cell? ⟨b3, 0, none⟩ = some (.string s) := hg0.c3.cell 0
    have hck := HCK.out w3.drew hb0.drew
    have e1 : w3.cell? ⟨C, 1, none⟩ = some (.map (some m)) := hck.blk.cell 1
    obtain ⟨w4, hup, hM4, hk4⟩ := hck.map.put (by unfold maxLen; omega) hs f
    have HM4 := show Hid _ from And.intro hM4 hk4
    clear hck hM4 hk4 hg0 hb0 hge HA1 HA2 HC2 HB2 HN2
    go_wp2_with fail
    go_region
    clear hup d2 d3 e1
    go_wp2_with fail
    go_ret
    obtain ⟨hM4, hk4⟩ := HM4.out
    have hck := HCK.out w3.drew HB3.out.drew
    obtain ⟨rfl, rfl⟩ := HWS.out
    have kp4 : Kp (fun k => k = m) w w4 := (Kp.of_below HB3.out.drew).trans hk4 fun k e => Or.inl e
    have nm : ∀ {b : Nat} {cs : Array Value} {T : TypeId}, Cl w3 b cs T → Cl w4 b cs T := fun hb => (hk4.block _ (show _ < w3.drew.heap.size from hb.lt) (hck.mne hb.drew)).trans hb
    refine ⟨q0, q1, b2, b3, rfl, ⟨nm HG0.out.c0, nm HG0.out.c1, nm HG0.out.c2, nm HG0.out.c3⟩, HGE.out, ⟨nm hck.blk, hM4, own_kp hck.row fun k e => hk4.block k (own_blk hck.row k e).2.1 fun e2 => hck.wm (e2 ▸ e), hck.cB, hck.mB⟩, kp4⟩
theorem upd_back {g : Ty.Env} {s : ByteArray} {f : Int} (r : ByteArray) : (if r = s then g s else Ty.upd g s f r) = g r := by
  unfold Ty.upd
  by_cases e : r = s
  · rw [if_pos e, e]
  · rw [if_neg e, if_neg e]
set_option maxRecDepth 100000 in
set_option maxHeartbeats 1000000 in
theorem give1_any (w : World) (u : FrameMode) {B C m n b0 b1 b2 b3 : Nat} {pt : Value} {g : Ty.Env} {f : Int} {wv : Value} {way : List Int} {s : ByteArray} (h : Ck w B C m n pt (Ty.upd g s f) wv way) (hn : n < 100000000000000) (hs : s.size ≤ 140737488351232) (hv : Gv w C b0 b1 b2 b3 (g s).isSome ((g s).getD 0) s) :
    CallsD Tryd.prog 77 #[.pointer (some ⟨b0, 0, none⟩), .pointer (some ⟨b1, 0, none⟩), .pointer (some ⟨b2, 0, none⟩), .pointer (some ⟨b3, 0, none⟩)] u w fun e u' w' => u' = u ∧ (e = .returned (.tuple #[]) ∧ Ck w' B C m (n + 1) pt g wv way ∧ Kp (fun k => k = m) w w') := by
  have d0 : w.cell? ⟨b0, 0, none⟩ = some (.bool (g s).isSome) := hv.c0.cell 0
  have d1 : w.cell? ⟨b1, 0, none⟩ = some (.int .i64 ((g s).getD 0)) := hv.c1.cell 0
  have d2 : w.cell? ⟨b2, 0, none⟩ = some (.pointer (some ⟨C, 0, none⟩)) := hv.c2.cell 0
  have d3 : w.cell? ⟨b3, 0, none⟩ = some (.string s) := hv.c3.cell 0
  have e1 : w.cell? ⟨C, 1, none⟩ = some (.map (some m)) := h.blk.cell 1
  have hck : Ck w.drew B C m n pt (Ty.upd g s f) wv way := h.later (Below.refl _ _).drew
  have HEND := show Hid (∀ w' : World, ∀ k, k ≤ n + 1 → ∀ g', Mz w' m k g' → (∀ r, g' r = g r) → Kp (fun k => k = m) w.drew w' → Ck w' B C m (n + 1) pt g wv way ∧ Kp (fun k => k = m) w w') from fun w' k hk g' hM hg hkp => by
    have nm : ∀ {b : Nat} {cs : Array Value} {T : TypeId}, Cl w.drew b cs T → Cl w' b cs T := fun hb => (hkp.block _ hb.lt (hck.mne hb)).trans hb
    exact ⟨⟨nm hck.blk, (hM.mono hk).same fun r _ => hg r, own_kp hck.row fun k e => hkp.block k (own_blk hck.row k e).2.1 fun e2 => hck.wm (e2 ▸ e), hck.cB, hck.mB⟩, (Kp.of_below (Below.refl _ _).drew).trans hkp fun k e => Or.inl e⟩
  cases hg : g s with
  | some x =>
    rw [hg] at d0 d1
    simp only [Option.getD_some, Option.isSome_some] at d0 d1
    obtain ⟨w4, hup, hM4, hk4⟩ := hck.map.put (by unfold maxLen; omega) hs x
    have HF := show Hid _ from HEND.out w4 (n + 1) (Nat.le_refl _) _ hM4 (fun r => by
      show (if r = s then some x else _) = _
      rw [← hg]
      exact upd_back r) hk4
    clear hM4 hk4 h hck hv HEND hg
    go_enter_d Tryd.func77, Tryd.ntmps77
    go_wp2_with fail
    go_region
    clear hup d0 d1 d2 d3 e1
    go_wp2_with fail
    go_end0
    exact ⟨rfl, HF.out⟩
  | none =>
    rw [hg] at d0 d1
    simp only [Option.getD_none, Option.isSome_none] at d0 d1
    obtain ⟨w4, hup, hM4, hk4⟩ := hck.map.del hs 0
    have HF := show Hid _ from HEND.out w4 n (Nat.le_succ _) _ hM4 (fun r => by
      show (if r = s then none else _) = _
      rw [← hg]
      exact upd_back r) hk4
    clear hM4 hk4 h hck hv HEND hg
    go_enter_d Tryd.func77, Tryd.ntmps77
    go_wp2_with fail
    go_region
    clear hup d0 d1 d2 d3 e1
    go_wp2_with fail
    go_end0
    exact ⟨rfl, HF.out⟩
end Go.Proofs.YtkpbpecikibohaaDoor.Ya
