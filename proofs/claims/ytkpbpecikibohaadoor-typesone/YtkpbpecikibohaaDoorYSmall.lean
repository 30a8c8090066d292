/-
  Small calls of the checker: lacks, joined, toldName. No condition but that the way is short.
-/
import Derived.Test.YtkpbpecikibohaaDoorYRef
namespace Go.Proofs.YtkpbpecikibohaaDoor.Ya
open Go.RowKit Go.Maps
open Fm (Nd)
open Ty (Tm An)
set_option linter.unusedSimpArgs false

theorem zeroNode (w : World) : (zeroValue 54).run Tryd.prog w = .ok (.agg #[.int .i64 0, .string ⟨#[]⟩, .int .i64 0, .int .i64 0]) w := by kernel_rfl
theorem sizeNode : (Tryd.prog.info? 54).map (·.size) = some 4 := by kernel_rfl
theorem node_all (n : Nd) : (#[.int .i64 n.k, .string n.s, .int .i64 n.l, .int .i64 n.r] : Array Value).all (·.oneCell') = true := by simp [Value.oneCell']
set_option maxRecDepth 100000 in
set_option maxHeartbeats 1000000 in
theorem lacks_any (w : World) {B C m n b mt : Nat} {v : Value} {t : List Nd} {g : Ty.Env} {wv : Value} {way : List Int} (h : Ck w B C m n (.pointer (some ⟨b, 0, none⟩)) g wv way) (hT : Tb w b mt v t) (i : Int) :
    Calls Tryd.prog 26 #[.pointer (some ⟨C, 0, none⟩), .int .i64 i] w fun r w' => r = .returned (.bool (!Fm.has t i)) ∧ Below w.heap.size w w' := by
  have KN := show Hid (Calls Tryd.prog 48 #[.pointer (some ⟨b, 0, none⟩), .int .i64 i] w fun e w' => e = .returned (.tuple #[ndV (nodeOf t i), .bool (Fm.has t i)]) ∧ Below w.heap.size w w') from node_any w hT i
  have c0 : w.cell? ⟨C, 0, none⟩ = some (.pointer (some ⟨b, 0, none⟩)) := h.blk.cell 0
  generalize nodeOf t i = nd at *
  generalize Fm.has t i = q at *
  clear h hT
  go_enter Tryd.func26, Tryd.ntmps26
  go_wp2_with fail
  refine Calls.mono KN.out ?_
  rintro e w1 ⟨rfl, hb1⟩
  have HB1 := show Hid _ from hb1
  clear hb1 KN c0
  unfold ndV
  go_wp2_with (refine wpList_alloc 54 rfl _ zeroNode rfl ?_)
  intro w2 b2 hn2
  go_wp2_with (refine wpList_st 54 rfl rfl _ _ rfl b2 rfl _ rfl _ _ hn2.blk sizeNode rfl (node_all nd) ?_)
  intro w3 hc3 hk3
  have HB3 := show Hid (Below w.heap.size w w3) from bel_kp (bel_new HB1.out hn2) hk3 (by have := hn2.ge; have := HB1.out.size; omega)
  clear hn2 hc3 hk3 HB1
  go_wp2_with fail
  go_ret
  exact ⟨rfl, HB3.out⟩
def JnP (B : Nat) (w w' : World) (r : Ending) (way : List Int) (wv : Value) (nd : Nd) (k : Int) : Prop :=
  (nd.k = k → r = .returned (.tuple #[ndV nd, .nilIface])) ∧ (nd.k ≠ k → ∃ q, r = .returned (.tuple #[ndV Fm.z, .iface 80 (.pointer (some ⟨q, 0, none⟩))]) ∧ Rf w' B q 130 way wv) ∧ Below w.heap.size w w'
theorem results_node {fn : Func} {p q : Tmp} (h : fn.results = #[.cell p 54, .tmp q]) (tmps : Array Value) (w : World) (b : Nat) {nd : Nd} (hp : tmps.getD p undef = .pointer (some ⟨b, 0, none⟩)) (hc : Cl w b #[.int .i64 nd.k, .string nd.s, .int .i64 nd.l, .int .i64 nd.r] 54) :
    (results fn tmps).run Tryd.prog w = .ok (.tuple #[ndV nd, tmps.getD q undef]) w := by
  rw [_root_.Go.results_cell_tmp h, hp]
  simp [asAddr, run_loadVar_row w b 54 54 _ (0, 0) _ hc Tryd.underlying54 rfl sizeNode, Result.andThen, ndV]
set_option maxRecDepth 100000 in
set_option maxHeartbeats 1000000 in
theorem joined_any (w : World) {B C m n b mt : Nat} {v : Value} {t : List Nd} {g : Ty.Env} {wv : Value} {way : List Int} (h : Ck w B C m n (.pointer (some ⟨b, 0, none⟩)) g wv way) (hT : Tb w b mt v t) (hl : way.length ≤ 1000000) (hB : B ≤ w.heap.size) (i k : Int) :
    Calls Tryd.prog 58 #[.pointer (some ⟨C, 0, none⟩), .int .i64 i, .int .i64 k] w fun r w' => JnP B w w' r way wv (nodeOf t i) k := by
  have KN := show Hid (∀ W, Below w.heap.size w W → Calls Tryd.prog 48 #[.pointer (some ⟨b, 0, none⟩), .int .i64 i] W fun e w' => e = .returned (.tuple #[ndV (nodeOf t i), .bool (Fm.has t i)]) ∧ Below W.heap.size W w') from fun W hW => node_any W (hT.later hW) i
  have KR := show Hid (∀ W, Below w.heap.size w W → Calls Tryd.prog 24 #[.pointer (some ⟨C, 0, none⟩), .int .i64 130] W fun r w' => ∃ q, r = .returned (.iface 80 (.pointer (some ⟨q, 0, none⟩))) ∧ Rf w' B q 130 way wv ∧ Below W.heap.size W w') from fun W hW => refuse_any W (h.later hW) hl (Nat.le_trans hB hW.size) 130
  have HC0 := show Hid (∀ W, Below w.heap.size w W → W.cell? ⟨C, 0, none⟩ = some (.pointer (some ⟨b, 0, none⟩))) from fun W hW => (h.later hW).blk.cell 0
  have HCK := show Hid (∀ W, Below w.heap.size w W → Ck W B C m n (.pointer (some ⟨b, 0, none⟩)) g wv way) from fun W hW => h.later hW
  generalize nodeOf t i = nd at *
  generalize Fm.has t i = q at *
  clear h hT
  go_enter Tryd.func58, Tryd.ntmps58
  go_wp2_with (refine wpList_alloc 54 rfl _ zeroNode rfl ?_)
  intro w1 b1 hn1
  have HN1 := show Hid _ from hn1
  have c0 := HC0.out w1 hn1.bel
  clear hn1
  go_wp2_with fail
  refine Calls.mono (KN.out w1 HN1.out.bel) ?_
  rintro e w2 ⟨rfl, hb2⟩
  have HB2 := show Hid (Below w1.heap.size w1 w2) from hb2
  clear hb2 KN c0
  unfold ndV
  go_wp2_with (refine wpList_alloc 54 rfl _ zeroNode rfl ?_)
  intro w3 b3 hn3
  go_wp2_with (refine wpList_st 54 rfl rfl _ _ rfl b3 rfl _ rfl _ _ hn3.blk sizeNode rfl (node_all nd) ?_)
  intro w4 hc4 hk4
  have hb14 : Below w1.heap.size w1 w4 := bel_kp (bel_new HB2.out hn3) hk4 (by have := hn3.ge; have := HB2.out.size; omega)
  have HB4 := show Hid (Below w.heap.size w w4) from HN1.out.bel.trans (hb14.mono HN1.out.bel.size)
  have HC1 := show Hid (Cl w4 b1 #[.int .i64 0, .string ⟨#[]⟩, .int .i64 0, .int .i64 0] 54) from Cl.later (show Cl w1 b1 _ _ from HN1.out.blk) hb14
  have HC4 := show Hid (Cl w4 b3 #[.int .i64 nd.k, .string nd.s, .int .i64 nd.l, .int .i64 nd.r] 54) from hc4
  have d0 : w4.cell? ⟨b3, 0, none⟩ = some (.int .i64 nd.k) := hc4.cell 0
  have HGE := show Hid (w.heap.size ≤ b1) from HN1.out.ge
  clear hn3 hc4 hk4 hb14 HB2 HN1
  by_cases hk : nd.k = k
  · have hkb : (nd.k != k) = false := by simpa using hk
    have HK := show Hid (nd.k = k) from hk
    clear hk
    go_wp2_with (first | (refine wpList_ldw 54 _ rfl b3 rfl _ _ HC4.out rfl Tryd.underlying54 sizeNode rfl ?_) | (refine wpList_st 54 rfl rfl _ _ rfl b1 rfl _ rfl _ _ HC1.out sizeNode rfl (node_all nd) ?_))
    intro w5 hc5 hk5
    go_wp2_with fail
    refine bodyPost_ret (results_node rfl _ _ b1 rfl hc5) rfl ?_
    exact ⟨fun _ => rfl, fun h => absurd HK.out h, bel_kp HB4.out hk5 HGE.out⟩
  · have hkb : (nd.k != k) = true := by simpa using hk
    go_wp2_with fail
    refine Calls.mono (KR.out w4 HB4.out) ?_
    rintro e w5 ⟨qq, rfl, hrf, hb5⟩
    have HC5 := show Hid _ from Cl.later HC1.out hb5
    have HB5 := show Hid (Below w.heap.size w w5) from HB4.out.trans (hb5.mono HB4.out.size)
    have HRF := show Hid (Rf w5 B qq 130 way wv) from hrf
    clear hrf hb5 KR
    go_wp2_with (refine wpList_st 54 rfl rfl _ _ rfl b1 rfl _ rfl _ _ HC5.out sizeNode rfl (node_all Fm.z) ?_)
    intro w6 hc6 hk6
    go_wp2_with fail
    refine bodyPost_ret (results_node (nd := Fm.z) rfl _ _ b1 rfl hc6) rfl ?_
    refine ⟨fun h => absurd h hk, fun _ => ⟨qq, rfl, ?_⟩, bel_kp HB5.out hk6 HGE.out⟩
    exact HRF.out.other HC5.out (by decide) (by decide) hk6
def TlP (B : Nat) (w' : World) (r : Ending) (wv : Value) : An → Prop
  | .ok f => r = .returned (.tuple #[.int .i64 f, .nilIface])
  | .no e wy => ∃ q, r = .returned (.tuple #[.int .i64 0, .iface 80 (.pointer (some ⟨q, 0, none⟩))]) ∧ Rf w' B q e wy wv
def ChP (B : Nat) (w' : World) (r : Ending) (wv : Value) : An → Prop
  | .ok _ => r = .returned .nilIface
  | .no e wy => ∃ q, r = .returned (.iface 80 (.pointer (some ⟨q, 0, none⟩))) ∧ Rf w' B q e wy wv
set_option maxRecDepth 100000 in
set_option maxHeartbeats 1000000 in
theorem toldName_any (w : World) {B C m n : Nat} {pt : Value} {g : Ty.Env} {wv : Value} {way : List Int} (h : Ck w B C m n pt g wv way) (hl : way.length ≤ 1000000) (hB : B ≤ w.heap.size) (s : ByteArray) (hs : s.size ≤ 140737488351232) :
    Calls Tryd.prog 29 #[.pointer (some ⟨C, 0, none⟩), .string s] w fun r w' => TlP B w' r wv (match g s with | some x => .ok x | none => .no 131 way) ∧ Below w.heap.size w w' := by
  have KR := show Hid (Calls Tryd.prog 24 #[.pointer (some ⟨C, 0, none⟩), .int .i64 131] w fun r w' => ∃ q, r = .returned (.iface 80 (.pointer (some ⟨q, 0, none⟩))) ∧ Rf w' B q 131 way wv ∧ Below w.heap.size w w') from refuse_any w h hl hB 131
  have c1 : w.cell? ⟨C, 1, none⟩ = some (.map (some m)) := h.blk.cell 1
  have hlk := h.map.look hs
  clear h
  go_enter Tryd.func29, Tryd.ntmps29
  cases hg : g s with
  | some x =>
    rw [hg] at hlk
    simp only [Option.getD_some, Option.isSome_some] at hlk
    go_wp2_with fail
    go_ret2
    exact ⟨rfl, Below.refl _ _⟩
  | none =>
    rw [hg] at hlk
    simp only [Option.getD_none, Option.isSome_none] at hlk
    go_wp2_with fail
    refine Calls.mono KR.out ?_
    rintro e w1 ⟨q, rfl, hrf, hb1⟩
    have HF := show Hid _ from And.intro hrf hb1
    clear hrf hb1 KR hlk c1
    go_wp2_with fail
    go_ret2
    exact ⟨⟨q, rfl, HF.out.1⟩, HF.out.2⟩
end Go.Proofs.YtkpbpecikibohaaDoor.Ya
