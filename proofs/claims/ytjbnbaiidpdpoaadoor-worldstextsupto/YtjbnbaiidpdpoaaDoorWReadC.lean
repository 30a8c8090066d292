/-
  read: of any text of up to 65536 bytes. The tables that the library reads stand.
-/
import Derived.Test.YtjbnbaiidpdpoaaDoorWRead
namespace Go.Proofs.YtjbnbaiidpdpoaaDoor.Wm
open Go.RowKit Go.Shelf Go.Maps
open Wd (Md)
set_option linter.unusedSimpArgs false
attribute [local go_sem] Oper.semAt_some

theorem zero_md (w : World) : (zeroValue 25).run Tryd.prog w = .ok (.agg #[.slice none 0 0, .slice none 0 0]) w := by kernel_rfl
theorem zero_bo (w : World) : (zeroValue 4).run Tryd.prog w = .ok (.bool false) w := by kernel_rfl
theorem cf_lines : Cf 60 := fun _ _ => by kernel_rfl
theorem wpList_alloc1 {ops : Array Oper} {rest : List Oper} {o : Oper} {a : Act} {Q : Exit → Act → World → Prop} {w : World} (T : TypeId) (hop : o.op = Op.alloc T) (z : Value) (hz : ∀ w, (zeroValue T).run Tryd.prog w = .ok z w) (hc : z.cells = #[z]) (hg : o.guard = none)
    (hK : ∀ w' b, New w w' b #[z] T → wpList Tryd.prog ops Q rest (a.put o.dst (.pointer (some ⟨b, 0, none⟩))) w') : wpList Tryd.prog ops Q (o :: rest) a w := by
  refine wpList_plain hg fun K' hK' => ?_
  have hrun : (execOp a.eval o).run Tryd.prog w = .ok (.value (.pointer (some ⟨w.heap.size, 0, none⟩))) (w.alloc (.cells #[z] T)) := by
    simp [execOp, hop, Instr.alloc, hz, go_sem, Result.andThen]
    exact congrArg (fun c => w.alloc (Obj.cells c T)) hc
  unfold Oper.wp
  rw [hrun, Oper.upon_value]
  exact hK' _ _ (hK _ _ (new_alloc w _ T))
theorem results_rd {fn : Func} {p2 p3 : Tmp} (h : fn.results = #[.cell p2 25, .cell p3 4]) (tmps : Array Value) (w : World) {b2 b3 : Nat} {uv vv : Value} {x : Bool} (h2 : tmps[p2]? = some (.pointer (some ⟨b2, 0, none⟩))) (h3 : tmps[p3]? = some (.pointer (some ⟨b3, 0, none⟩))) (x2 : Cl w b2 #[uv, vv] 25) (x3 : Cl w b3 #[.bool x] 4) :
    (results fn tmps).run Tryd.prog w = .ok (.tuple #[.agg #[uv, vv], .bool x]) w := by
  have c3 : w.cell? ⟨b3, 0, none⟩ = some (.bool x) := x3.cell 0
  have c20 : w.cell? ⟨b2, 0, none⟩ = some uv := x2.cell 0
  have c21 : w.cell? ⟨b2, 1, none⟩ = some vv := x2.cell 1
  have u3 : ∀ w, (isAgg 4).run Tryd.prog w = .ok false w := fun w => by kernel_rfl
  have l2 : (loadVar 25 ⟨b2, 0, none⟩).run Tryd.prog w = .ok (.agg #[uv, vv]) w := run_loadVar_row w b2 25 25 _ _ _ x2 Tryd.underlying25 rfl sizeM
  have l3 : (loadVar 4 ⟨b3, 0, none⟩).run Tryd.prog w = .ok (.bool x) w := by simp [loadVar, u3, go_sem, c3, Result.andThen]
  simp [results, h, h2, h3, asAddr, l2, l3, c20, c21, c3, go_sem, Result.andThen]
abbrev Ln := { x : ByteArray // x.size ≤ 65536 }
def bas (pre : List Ln) : List ByteArray := pre.map (·.1)
theorem bas_snoc (pre : List Ln) (x : Ln) : bas (pre ++ [x]) = bas pre ++ [x.1] := by simp [bas]
theorem lines_seq (w : World) (c : Nat) (s : ByteArray) (hs : s.size ≤ 65536) (hc : Cl w c #[.string s] 9) :
    SeqC (5 - 1) 60 #[.pointer (some ⟨c, 0, none⟩)] (fun x : Ln => #[Value.string x.1]) c (fun xs => bas xs = (linesF s.data.toList).map baOf) (fun pre => bas pre <+: (linesF s.data.toList).map baOf) ((linesF s.data.toList).map baOf).length w := by
  intro l J Jx W hW hJ hJx hY h0
  have hb : baOf s.data.toList = s := ba_ext rfl
  refine (lines1_any l c (fun pre A => ∃ p, bas p = pre ∧ J p A) (fun pre A => ∃ p, bas p = pre ∧ Jx p A) ((linesF s.data.toList).map baOf).length ((linesF s.data.toList).map baOf) ?_ 65536 ?_ W s.data.toList (by decide) hs (by rw [hb]; exact hc.later hW) rfl (Nat.le_refl _) ⟨[], rfl, h0⟩).mono ?_
  · rintro pre A B ⟨p, e, h⟩ hk
    exact ⟨p, e, hJ p A B h hk⟩
  · rintro pre x A ⟨p, rfl, h⟩ hlen hx
    obtain ⟨fn, tmps, assign, body, hy, hR⟩ := hY p ⟨x, hx⟩ A h (by simpa [bas] using hlen)
    refine ⟨fn, tmps, assign, body, hy, hR.mono ?_⟩
    rintro e B (⟨h1, h2, h3⟩ | ⟨h1, h2⟩)
    · exact Or.inl ⟨h1, ⟨_, bas_snoc p ⟨x, hx⟩, h2⟩, h3⟩
    · exact Or.inr ⟨h1, ⟨_, bas_snoc p ⟨x, hx⟩, h2⟩⟩
  · rintro e B ⟨h1, ⟨p, h2, h3⟩ | ⟨pre, h2, p, h3, h4⟩⟩
    · exact ⟨h1, Or.inl ⟨p, h2, h3⟩⟩
    · exact ⟨h1, Or.inr ⟨p, by show bas p <+: _; rw [h3]; exact h2, h4⟩⟩
theorem lines_len (s : List UInt8) : (linesF s).length ≤ s.length := by
  have : ∀ (f : Nat) (l : List UInt8), (lnF f l).length ≤ f := fun f => by
    induction f with
    | zero => intro l; simp [lnF]
    | succ f ih =>
      intro l
      rw [lnF]
      split
      · simp
      · split
        · rw [List.length_cons]; have := ih (l.drop ((Lib.indexByte l 10).toNat + 1)); omega
        · simp
  exact this _ _
theorem bsLS (w : World) (a : Option Addr) (n k : Nat) : (Instr.buildSlice 23 1 #[(0, .slice a n k)]).run Tryd.prog w = .ok (.slice (some ⟨w.heap.size, 0, none⟩) 1 1) (w.alloc (.cells #[.slice a n k] 39)) := by kernel_rfl
theorem cell_one {w : World} {q : Nat} {x : Value} (h : w.cell? ⟨q, 0, none⟩ = some x) : ∀ j u, [x][j]? = some u → w.cell? ((⟨q, 0, none⟩ : Addr).add j) = some u := by
  intro j u hj
  match j, hj with
  | 0, hj => simp at hj; subst hj; exact h
  | j + 1, hj => simp at hj
theorem own_form3 {b n size : Nat} {e : TypeId} {w : World} {v : Value} {xs : List Value} (h : w.ownsRow b e size v n xs) : ∃ p n c, v = .slice p n c := by
  obtain ⟨p, c, h⟩ := own_form h
  exact ⟨p, n, c, h⟩
theorem RowsZ.base {B B' : Nat} {w : World} {v : Value} {ls : List (List Int)} (h : RowsZ B w v ls) (hB : B' ≤ B) : RowsZ B' w v ls := by
  obtain ⟨xs, h1, h2⟩ := h
  exact ⟨xs, own_base h1 hB, fun i hi => let ⟨x, hx, ho⟩ := h2 i hi; ⟨x, hx, own_base ho hB⟩⟩
theorem RowsN.base {B B' : Nat} {w : World} {v : Value} {ls : List (List ByteArray)} (h : RowsN B w v ls) (hB : B' ≤ B) : RowsN B' w v ls := by
  obtain ⟨xs, h1, h2⟩ := h
  exact ⟨xs, own_base h1 hB, fun i hi => let ⟨x, hx, ho⟩ := h2 i hi; ⟨x, hx, own_base ho hB⟩⟩
def ReadR (w : World) (B : Nat) (ls : List ByteArray) (uv vv : Value) (ok : Bool) : Prop := ((∃ x ∈ ls, upL x = none) ∧ uv = .slice none 0 0 ∧ vv = .slice none 0 0 ∧ ok = false) ∨ ((∀ x ∈ ls, (upL x).isSome = true) ∧ RowsZ B w uv (mdL ls).up ∧ RowsN B w vv (mdL ls).val ∧ ok = true)
set_option maxRecDepth 100000 in
set_option maxHeartbeats 4000000 in
theorem read_any (w : World) (s : ByteArray) (hs : s.size ≤ 65536) (hT : Tb w) :
    Calls Tryd.prog 22 #[.string s] w fun e w' => ∃ uv vv ok, e = .returned (.tuple #[.agg #[uv, vv], .bool ok]) ∧ ReadR w' w.heap.size ((linesF s.data.toList).map baOf) uv vv ok ∧ Below w.heap.size w w' := by
  have HT := show Hid (∀ W : World, Below w.heap.size w W → Tb W) from fun W h => hT.later h
  clear hT
  refine (callsIn_wide (n := 5)).1 ?_
  refine callsIn_of_wp_marks Tryd.func22 rfl trivial ?_ rfl
  simp only [Tryd.ntmps22, List.size_toArray, List.length_cons, List.length_nil, Nat.reduceAdd, Nat.reduceSub, Array.replicate_succ, Array.replicate_zero, List.push_toArray, List.append_toArray, List.nil_append, List.cons_append]
  refine wpIn_wide.2 ?_
  go_wp2_with (refine wpList_alloc 25 rfl _ zero_md rfl ?_)
  intro w1 b2 hn1
  go_wp2_with (refine wpList_alloc1 4 rfl _ zero_bo rfl rfl ?_)
  intro w2 b3 hn2
  go_wp2_with (refine wpList_alloc 25 rfl _ zero_md rfl ?_)
  intro w3 b4 hn3
  have KL := show Hid _ from lines_any w3 s
  have H4 := show Hid (Rd w (w3.alloc (.cells #[.string s] 9)) (w3.heap.size + 1) b2 b3 b4 [] (.slice none 0 0) (.slice none 0 0) ∧ RdN' w (w3.heap.size + 1) b2 b3 b4 w3.heap.size) from by
    have e1 := hn1.eq; have e2 := hn1.up; have e3 := hn2.eq; have e4 := hn2.up; have e5 := hn3.eq; have e6 := hn3.up
    have hb4 := below_alloc w3 (.cells #[.string s] 9)
    have c1 : Cl w1 b2 #[.slice none 0 0, .slice none 0 0] 25 := hn1.blk
    have c2 : Cl w2 b3 #[.bool false] 4 := hn2.blk
    have c3 : Cl w3 b4 #[.slice none 0 0, .slice none 0 0] 25 := hn3.blk
    have bl := (hn1.bel.trans ((hn2.bel.trans (hn3.bel.mono hn2.bel.size)).mono hn1.bel.size))
    refine ⟨⟨fun x hx => (by cases hx), c3.later hb4, ⟨[], World.ownsRow_nil _ _ _ _, fun i hi => absurd hi (by simp [mdL])⟩, ⟨[], World.ownsRow_nil _ _ _ _, fun i hi => absurd hi (by simp [mdL])⟩, ((c1.later hn2.bel).later hn3.bel).later hb4, (c2.later hn3.bel).later hb4, bl.trans (hb4.mono bl.size), by simp⟩, by omega, by omega, by omega, by omega, by omega⟩
  clear hn1 hn2 hn3
  go_wp2_with fail
  refine Calls.mono KL.out ?_
  rintro e w5 ⟨rfl, hw5⟩
  have HB5 := show Hid (Cl w5 w3.heap.size #[.string s] 9 ∧ w5.heap.size = w3.heap.size + 1) from by rw [hw5]; exact ⟨heap_alloc_last w3 _, by simp⟩
  rw [← hw5, ← HB5.out.2] at H4
  clear hw5 KL
  generalize w3.heap.size = c at *
  go_wp2_with fail
  refine (wpIn_wide (n := 5)).1 ?_
  have hlen : ((linesF s.data.toList).map baOf).length ≤ 65536 := by
    have := lines_len s.data.toList
    rw [List.length_map]
    have h9 : s.data.toList.length = s.size := rfl
    omega
  refine range_boxE (α := Ln) (gf := 60) (lb := #[.pointer (some ⟨c, 0, none⟩)]) rfl cf_lines (lines_seq w5 c s hs HB5.out.1) (by have := HB5.out.2; omega) (fun _ => rfl)
    (fun pre W => ∃ uv vv, Rd w W w5.heap.size b2 b3 b4 (bas pre) uv vv) (fun pre W => Rx w W b2 b3 (bas pre))
    (fun pre A B h hk => by obtain ⟨uv, vv, h⟩ := h; exact ⟨uv, vv, h.kp H4.out.2 hk⟩) (fun pre A B h hk => Rx.kp h H4.out.2 hk)
    (fun pre A l o o' hl hb ho h => by obtain ⟨uv, vv, h⟩ := h; exact ⟨uv, vv, h.put H4.out.2 o' hl hb ho⟩) (fun pre A l o o' hl _ _ h => Rx.put h H4.out.2 o' hl)
    ⟨_, _, H4.out.1⟩ ?ab ?done ?stop
  case ab =>
    apply Exists.intro
    refine ⟨?assign, ?body⟩
    case assign =>
      intro l x W K hK
      gi_wp2
      exact hK
    case body =>
      rintro l pre x W ⟨uv, vv, hrd⟩ hlt
      have HRD := show Hid (Rd w W w5.heap.size b2 b3 b4 (bas pre) uv vv) from hrd
      have hpl : pre.length < 65536 := by omega
      clear hrd hlt hlen
      obtain ⟨x, hx⟩ := x
      simp only at *
      have HBS := show Hid (bas (pre ++ [⟨x, hx⟩]) = bas pre ++ [x]) from bas_snoc pre ⟨x, hx⟩
      have hl1 := cut_len x.data.toList [32, 58]
      have hxl : x.data.toList.length = x.size := rfl
      obtain ⟨ml, hml⟩ := (HT.out W HRD.out.bel).ml
      have K1 := show Hid _ from Tryd.strings_Cut x ⟨#[32, 58]⟩ ml W (by omega) hml
      have HUP := show Hid (upL x = rdN ((Lib.fieldsD (Lib.cut (Lib.cut x.data.toList [32, 58]).1 [32, 62]).2.1).map baOf)) from rfl
      have HVA := show Hid (vaL x = (Lib.fieldsD (Lib.cut x.data.toList [32, 58]).2.1).map baOf) from rfl
      change Hid (Calls Tryd.prog 40 #[.string x, .string ⟨#[32, 58]⟩] W fun e w' => e = .returned (.tuple #[.string ⟨(Lib.cut x.data.toList [32, 58]).1.toArray⟩, .string ⟨(Lib.cut x.data.toList [32, 58]).2.1.toArray⟩, .bool (Lib.cut x.data.toList [32, 58]).2.2]) ∧ ∃ n, w' = W.drewN n) at K1
      generalize (Lib.cut x.data.toList [32, 58]).1 = A1 at *
      generalize (Lib.cut x.data.toList [32, 58]).2.1 = N1 at *
      generalize (Lib.cut x.data.toList [32, 58]).2.2 = q1 at *
      gi_wp2
      refine ⟨trivial, ?_⟩
      refine (CallsIn.inRound l (callsIn_wide.2 K1.out)).mono ?_
      rintro e W1 ⟨rfl, n1, rfl⟩
      have HRD1 := show Hid (Rd w (W.drewN n1) w5.heap.size b2 b3 b4 (bas pre) uv vv) from HRD.out.later (below_drewN W n1)
      clear K1 hml
      have HW1 := show Hid (Below W.heap.size W (W.drewN n1)) from below_drewN W n1
      generalize W.drewN n1 = W1 at *
      obtain ⟨ml2, hml2⟩ := (HT.out W1 HRD1.out.bel).ml
      have hl2 := cut_len A1 [32, 62]
      have K2 := show Hid (Calls Tryd.prog 40 #[.string ⟨A1.toArray⟩, .string ⟨#[32, 62]⟩] W1 fun e w' => e = .returned (.tuple #[.string ⟨(Lib.cut A1 [32, 62]).1.toArray⟩, .string ⟨(Lib.cut A1 [32, 62]).2.1.toArray⟩, .bool (Lib.cut A1 [32, 62]).2.2]) ∧ ∃ n, w' = W1.drewN n) from Tryd.strings_Cut ⟨A1.toArray⟩ ⟨#[32, 62]⟩ ml2 W1 (by show A1.toArray.size < _; simp; omega) hml2
      generalize (Lib.cut A1 [32, 62]).1 = A2 at *
      generalize (Lib.cut A1 [32, 62]).2.1 = N2 at *
      generalize (Lib.cut A1 [32, 62]).2.2 = q2 at *
      gi_wp2
      refine ⟨trivial, ?_⟩
      refine (CallsIn.inRound l (callsIn_wide.2 K2.out)).mono ?_
      rintro e W2 ⟨rfl, n2, rfl⟩
      have HRD2 := show Hid (Rd w (W1.drewN n2) w5.heap.size b2 b3 b4 (bas pre) uv vv) from HRD1.out.later (below_drewN W1 n2)
      have HW2 := show Hid (Below W.heap.size W (W1.drewN n2)) from HW1.out.trans ((below_drewN W1 n2).mono HW1.out.size)
      clear K2 hml2 HRD1 HW1
      generalize W1.drewN n2 = W2 at *
      have hN2 : N2.length ≤ 65536 := by omega
      have K3 := show Hid (Calls Tryd.prog 42 #[.string ⟨N2.toArray⟩] W2 fun e w' => ∃ A, e = .returned (.slice (some ⟨A, 0, none⟩) (Lib.fieldsD N2).length (Lib.fieldsD N2).length) ∧ W2.heap.size ≤ A ∧ w'.ownsRow W2.heap.size 9 1 (.slice (some ⟨A, 0, none⟩) (Lib.fieldsD N2).length (Lib.fieldsD N2).length) (Lib.fieldsD N2).length ((Lib.fieldsD N2).map fun x => Value.string ⟨x.toArray⟩) ∧ Below W2.heap.size W2 w') from Tryd.strings_Fields_any ⟨N2.toArray⟩ W2 (by show N2.toArray.size < _; simp; omega) (HT.out W2 HRD2.out.bel).sp (HT.out W2 HRD2.out.bel).wh
      have hfl := fieldsD_len N2
      have HFX := show Hid (∀ y ∈ (Lib.fieldsD N2).map baOf, y.size ≤ 140737488351232) from fun y hy => by
        obtain ⟨z, hz, rfl⟩ := List.mem_map.1 hy
        rw [baOf_size]; have := hfl.2 z hz; omega
      have hfn : (Lib.fieldsD N2).length ≤ 1000000 := by have := hfl.1; omega
      gi_wp2
      refine ⟨trivial, ?_⟩
      refine (CallsIn.inRound l (callsIn_wide.2 K3.out)).mono ?_
      rintro e W3 ⟨fA, rfl, hfA, hfo, hfb⟩
      have HF3 := show Hid (OwnN W2.heap.size W3 (.slice (some ⟨fA, 0, none⟩) (Lib.fieldsD N2).length (Lib.fieldsD N2).length) ((Lib.fieldsD N2).map baOf)) from by
        show W3.ownsRow W2.heap.size 9 1 _ ((Lib.fieldsD N2).map baOf).length (((Lib.fieldsD N2).map baOf).map Value.string)
        rw [List.length_map, List.map_map]
        exact hfo
      have HRD3 := show Hid (Rd w W3 w5.heap.size b2 b3 b4 (bas pre) uv vv ∧ Below W2.heap.size W2 W3) from ⟨HRD2.out.later hfb, hfb⟩
      have HSZ3 := show Hid (w5.heap.size ≤ W3.heap.size) from HRD3.out.1.sz
      have K4 := show Hid _ from readNumbers_any W3 HF3.out.isN (Nat.le_refl _) (by rw [List.length_map]; exact hfn) HFX.out
      clear K3 hfo hfb HFX HRD2
      gi_wp2
      refine ⟨trivial, ?_⟩
      refine (CallsIn.inRound l (callsIn_wide.2 K4.out)).mono ?_
      rintro e W4 ⟨rv, ok, rfl, hR4, hb4⟩
      have HRD4 := show Hid (Rd w W4 w5.heap.size b2 b3 b4 (bas pre) uv vv ∧ KeepsFrom w5.heap.size W W4 ∧ W4.heap[c]? = W.heap[c]? ∧ W.heap.size ≤ W4.heap.size) from by
        have hall : Below W.heap.size W W4 := HW2.out.trans ((HRD3.out.2.trans (hb4.mono HRD3.out.2.size)).mono HW2.out.size)
        exact ⟨HRD3.out.1.later hb4, ⟨hall.size, fun k o _ hk _ => (hall.block k (lt_of_block hk)).trans hk⟩, hall.block c (by have := H4.out.2.wB; have := HRD.out.sz; omega), hall.size⟩
      clear K4 HF3 HRD3 HW2 hb4 HRD
      rcases hR4 with ⟨h1, rfl, rfl⟩ | ⟨row, h1, h2, rfl⟩
      · have HNO := show Hid (upL x = none) from HUP.out.trans h1
        have r20 : W4.cell? ⟨b2, 0, none⟩ = some (.slice none 0 0) := HRD4.out.1.r2.cell 0
        have r21 : W4.cell? ⟨b2, 1, none⟩ = some (.slice none 0 0) := HRD4.out.1.r2.cell 1
        have f20 : W4.frozen? ⟨b2, 0, none⟩ = false := HRD4.out.1.r2.fr 0
        have f21 : W4.frozen? ⟨b2, 1, none⟩ = false := HRD4.out.1.r2.fr 1
        have hba : Cl ((W4.setCell ⟨b2, 0, none⟩ (.slice none 0 0)).setCell ⟨b2, 1, none⟩ (.slice none 0 0)) b2 #[.slice none 0 0, .slice none 0 0] 25 := by
          have h1 : (W4.setCell ⟨b2, 0, none⟩ (.slice none 0 0)).heap[b2]? = some (.cells ((#[.slice none 0 0, .slice none 0 0] : Array Value).setIfInBounds 0 (.slice none 0 0)) 25 (0, 0)) := heap_setCell_same W4 b2 0 _ _ _ HRD4.out.1.r2
          have h2 : ((W4.setCell ⟨b2, 0, none⟩ (.slice none 0 0)).setCell ⟨b2, 1, none⟩ (.slice none 0 0)).heap[b2]? = some (.cells (((#[.slice none 0 0, .slice none 0 0] : Array Value).setIfInBounds 0 (.slice none 0 0)).setIfInBounds 1 (.slice none 0 0)) 25 (0, 0)) := heap_setCell_same _ b2 1 _ _ _ h1
          exact h2
        have hkp : Kp (fun k => k = b2) W4 ((W4.setCell ⟨b2, 0, none⟩ (.slice none 0 0)).setCell ⟨b2, 1, none⟩ (.slice none 0 0)) := ((Kp.refl (fun k => k = b2) W4).set (p := b2) rfl 0 _).set (p := b2) rfl 1 _
        have h32 : b3 ≠ b2 := by have := H4.out.2.w3; omega
        have hbb : Cl ((W4.setCell ⟨b2, 0, none⟩ (.slice none 0 0)).setCell ⟨b2, 1, none⟩ (.slice none 0 0)) b3 #[.bool false] 4 := HRD4.out.1.r3.kp hkp h32
        have r3 : ((W4.setCell ⟨b2, 0, none⟩ (.slice none 0 0)).setCell ⟨b2, 1, none⟩ (.slice none 0 0)).cell? ⟨b3, 0, none⟩ = some (.bool false) := hbb.cell 0
        have f3 : ((W4.setCell ⟨b2, 0, none⟩ (.slice none 0 0)).setCell ⟨b2, 1, none⟩ (.slice none 0 0)).frozen? ⟨b3, 0, none⟩ = false := hbb.fr 0
        have HX := show Hid (Rx w (((W4.setCell ⟨b2, 0, none⟩ (.slice none 0 0)).setCell ⟨b2, 1, none⟩ (.slice none 0 0)).setCell ⟨b3, 0, none⟩ (.bool false)) b2 b3 (bas pre ++ [x])) from by
          have hk3 : Kp (fun k => k = b3) ((W4.setCell ⟨b2, 0, none⟩ (.slice none 0 0)).setCell ⟨b2, 1, none⟩ (.slice none 0 0)) (((W4.setCell ⟨b2, 0, none⟩ (.slice none 0 0)).setCell ⟨b2, 1, none⟩ (.slice none 0 0)).setCell ⟨b3, 0, none⟩ (.bool false)) := (Kp.refl (fun k => k = b3) _).set (p := b3) rfl 0 _
          have hn := H4.out.2
          have := hn.w2; have := hn.w3
          have hbel := HRD4.out.1.bel.trans (hkp.below HRD4.out.1.bel.size fun k e => by omega)
          exact ⟨hba.kp hk3 (by omega), heap_setCell_same _ b3 0 _ _ _ hbb, hbel.trans (hk3.below hbel.size fun k e => by omega), x, by simp, HNO.out⟩
        clear h1 hba hkp hbb h32
        gi_wp2
        exact ⟨HRD4.out.2.1.trans ((((KeepsOthers.setCell _ _ _).trans (KeepsOthers.setCell _ _ _)).trans (KeepsOthers.setCell _ _ _)).from _), rfl, by rw [HBS.out]; exact HX.out⟩
      · obtain ⟨i0, hi, hz0, hz1, hz2⟩ := info_parts infoLI
        have HSO := show Hid (upL x = some row) from HUP.out.trans h1
        obtain ⟨xs, hx1, hx2⟩ := HRD4.out.1.up
        have HROW := show Hid (OwnZ w5.heap.size W4 rv row) from own_base h2 HSZ3.out
        obtain ⟨pu, cu, rfl⟩ := own_form hx1
        obtain ⟨pr, cr, rfl⟩ := own_form h2
        have HX1 := show Hid (W4.ownsRow w5.heap.size 42 1 (.slice pu (mdL (bas pre)).up.length cu) (mdL (bas pre)).up.length xs ∧ ∀ (i : Nat) (hi : i < (mdL (bas pre)).up.length), ∃ x, xs[i]? = some x ∧ OwnZ w5.heap.size W4 x (mdL (bas pre)).up[i]) from ⟨hx1, hx2⟩
        have hul : (mdL (bas pre)).up.length = pre.length := by simp [mdL, bas]
        have HUL := show Hid ((mdL (bas pre)).up.length ≤ 65536 ∧ (mdL (bas pre)).val.length ≤ 65536) from ⟨by omega, by simp [mdL, bas]; omega⟩
        have hul2 : (mdL (bas pre)).up.length ≤ 65536 := HUL.out.1
        have HR4 := show Hid (Rh w W4 w5.heap.size b2 b3 b4 (mdL (bas pre)).up (mdL (bas pre)).val (.slice pu (mdL (bas pre)).up.length cu) vv) from HRD4.out.1.half
        have HK4 := show Hid (KeepsFrom w5.heap.size W W4 ∧ W4.heap[c]? = W.heap[c]? ∧ ∀ y ∈ bas pre, (upL y).isSome = true) from ⟨HRD4.out.2.1, HRD4.out.2.2.1, HRD4.out.1.ok⟩
        have c40 : W4.cell? ⟨b4, 0, none⟩ = some (.slice pu (mdL (bas pre)).up.length cu) := HR4.out.m.cell 0
        have HMU := show Hid ((mdL (bas pre ++ [x])).up = (mdL (bas pre)).up ++ [row] ∧ (mdL (bas pre ++ [x])).val = (mdL (bas pre)).val ++ [(Lib.fieldsD N1).map baOf]) from by
          show (mdL (bas pre ++ [x])).up = (mdL (bas pre)).up ++ [row] ∧ (mdL (bas pre ++ [x])).val = (mdL (bas pre)).val ++ [(Lib.fieldsD N1).map baOf]
          rw [← HVA.out]
          simp [mdL, HSO.out]
        clear h1 h2 hx1 hx2 hul HRD4 HUP HVA
        generalize (mdL (bas pre)).up = up1 at *
        generalize (mdL (bas pre)).val = val at *
        gi_wp2_with (gi_at_builtin; refine wpListIn_append_own _ rfl _ _ 22 rfl w5.heap.size 42 i0 (.slice none 0 0) 1 24 Tryd.underlying22 hi hz0 hz1 hz2 rfl (by decide) _ up1.length xs rfl (HX1.out.1.alloc _) ⟨W4.heap.size, 0, none⟩ 1 1 [.slice pr row.length cr] rfl rfl (cell_one_new _ _ _) (by simp [Value.oneCell']) (by unfold maxLen; omega) (by omega) (by have := HR4.out.sz; simp; omega) ?_)
        intro v6 W6 ho6 hg6 _
        obtain ⟨p6, c6, rfl⟩ := own_form ho6
        have hRa := HR4.out.later (below_alloc W4 (.cells #[.slice pr row.length cr] 42))
        have hXa : (W4.alloc (.cells #[.slice pr row.length cr] 42)).ownsRow w5.heap.size 42 1 (.slice pu up1.length cu) up1.length xs := HX1.out.1.alloc _
        have hG6 := hRa.grow H4.out.2 hXa hg6
        have hU6 : RowsZ w5.heap.size W6 (.slice p6 (up1.length + 1) c6) (up1 ++ [row]) := RowsZ.snoc hXa (fun i hi => by
          obtain ⟨y, h1, h2⟩ := HX1.out.2 i hi
          exact ⟨y, h1, h2.later (below_alloc _ _)⟩) (HROW.out.later (below_alloc _ _)) ho6 hg6
        have hV6 : RowsN w5.heap.size W6 vv val := hRa.val.keep (St.of_grow hXa hg6 (by decide) (by decide))
        have hk7 : Kp (fun k => k = b4) W6 (W6.setCell ⟨b4, 0, none⟩ (.slice p6 (up1.length + 1) c6)) := (Kp.refl (fun k => k = b4) W6).set (p := b4) rfl 0 _
        have HR7 := show Hid (Rh w (W6.setCell ⟨b4, 0, none⟩ (.slice p6 (up1.length + 1) c6)) w5.heap.size b2 b3 b4 (up1 ++ [row]) val (.slice p6 (up1.length + 1) c6) vv ∧ KeepsFrom w5.heap.size W (W6.setCell ⟨b4, 0, none⟩ (.slice p6 (up1.length + 1) c6)) ∧ (W6.setCell ⟨b4, 0, none⟩ (.slice p6 (up1.length + 1) c6)).heap[c]? = W.heap[c]?) from by
          have hn := H4.out.2
          have := hn.w2; have := hn.w3; have := hn.w4; have := hn.wc; have := hn.wB
          refine ⟨⟨heap_setCell_same W6 b4 0 _ _ _ hG6.1, hU6.keep (St.of_kp hk7 (by omega)), hV6.keep (St.of_kp hk7 (by omega)), hG6.2.1.kp hk7 (by omega), hG6.2.2.1.kp hk7 (by omega), hG6.2.2.2.1.trans (hk7.below hG6.2.2.2.1.size fun k e => by omega), Nat.le_trans hG6.2.2.2.2.1 hk7.size⟩, (HK4.out.1.trans (((KeepsOthers.alloc _ _).from _).trans (keeps_grow hXa hg6 _))).trans ((KeepsOthers.setCell _ _ _).from _), ?_⟩
          have hsz := HR4.out.sz
          exact (hk7.block c (by have := hG6.2.2.2.2.1; omega) (by omega)).trans (hG6.2.2.2.2.2.trans (((below_alloc W4 _).block c (by omega)).trans HK4.out.2.1))
        have c60 : W6.cell? ⟨b4, 0, none⟩ = some (.slice pu up1.length cu) := Cl.cell (T := 25) hG6.1 0
        have f60 : W6.frozen? ⟨b4, 0, none⟩ = false := Cl.fr (T := 25) hG6.1 0
        clear hRa hXa hG6 hU6 hV6 hk7 ho6 hg6 c40 HX1 HR4 HROW
        gi_wp2
        clear c60 f60
        generalize W6.setCell ⟨b4, 0, none⟩ (.slice p6 (up1.length + 1) c6) = w7 at *
        generalize Value.slice p6 (up1.length + 1) c6 = uv2 at *
        generalize up1 ++ [row] = up2 at *
        obtain ⟨ys0, hy0, -⟩ := HR7.out.1.val
        obtain ⟨pv, cv, rfl⟩ := own_form hy0
        have HVB := show Hid (∀ k, (Value.slice pv val.length cv).ownBlock = some k → k < w7.heap.size) from fun k hk => (own_blk hy0 hk).2.1
        have HVAL := show Hid (RowsN w5.heap.size w7 (.slice pv val.length cv) val) from HR7.out.1.val
        have HVL := show Hid (val.length ≤ 65536) from HUL.out.2
        have HB4 := show Hid (b4 < w7.heap.size) from HR7.out.1.m.lt
        have HS7 := show Hid (w5.heap.size ≤ w7.heap.size) from HR7.out.1.sz
        have HRS := show Hid (RS w w7 w7.drew w5.heap.size b2 b3 b4 c up2 uv2 (.slice pv val.length cv) false false) from ⟨fun _ => HR7.out.1.m, HR7.out.1.up.keep (St.of_below ((Below.refl _ _).drew)), HR7.out.1.r2, HR7.out.1.r3, HR7.out.1.bel.drew, HR7.out.1.sz, Nat.le_refl _, (KeepsOthers.drew _).from _, rfl, fun _ => (Below.refl _ _).drew⟩
        have KF := show Hid (∀ W : World, Below w.heap.size w W → Calls Tryd.prog 42 #[.string ⟨N1.toArray⟩] W fun e w' => ∃ A, e = .returned (.slice (some ⟨A, 0, none⟩) (Lib.fieldsD N1).length (Lib.fieldsD N1).length) ∧ W.heap.size ≤ A ∧ w'.ownsRow W.heap.size 9 1 (.slice (some ⟨A, 0, none⟩) (Lib.fieldsD N1).length (Lib.fieldsD N1).length) (Lib.fieldsD N1).length ((Lib.fieldsD N1).map fun x => Value.string ⟨x.toArray⟩) ∧ Below W.heap.size W w') from fun W hW => Tryd.strings_Fields_any ⟨N1.toArray⟩ W (by show N1.toArray.size < _; simp; omega) (HT.out W hW).sp (HT.out W hW).wh
        clear hy0 HUL
        refine region_dep_round (by kernel_rfl) (by kernel_rfl) (fun h => h.elim fun a h => h.elim fun w h => h) [some 44, some 45, some 46, some 47, some 48, some 49, some 50, none] [[], [0], [], [2], [3], [1, 4], [], [6, 5]] [[], [0], [], [2], [3, 2], [1, 0, 4, 3, 2], [], [6, 5, 1, 0, 4, 3, 2]] (by kernel_rfl) (by decide) (fun i v W => match i with | 0 => v = .pointer (some ⟨b4, 1, none⟩) | 1 => v = .slice pv val.length cv | 2 => v = .string ⟨N1.toArray⟩ | 3 => OwnN w7.heap.size W v ((Lib.fieldsD N1).map baOf) ∧ ∃ q, v = .slice (some ⟨q, 0, none⟩) (Lib.fieldsD N1).length (Lib.fieldsD N1).length | 4 => ∃ q q2, v = .slice (some ⟨q, 0, none⟩) 1 1 ∧ w7.heap.size ≤ q ∧ W.cell? ⟨q, 0, none⟩ = some (.slice (some ⟨q2, 0, none⟩) (Lib.fieldsD N1).length (Lib.fieldsD N1).length) ∧ OwnN w7.heap.size W (.slice (some ⟨q2, 0, none⟩) (Lib.fieldsD N1).length (Lib.fieldsD N1).length) ((Lib.fieldsD N1).map baOf) | 5 => RowsN w5.heap.size W v (val ++ [((Lib.fieldsD N1).map baOf)]) ∧ ∃ p n c, v = .slice p n c | 6 => v = .pointer (some ⟨b4, 1, none⟩) | 7 => ∃ v2, Cl W b4 #[uv2, v2] 25 ∧ RowsN w5.heap.size W v2 (val ++ [((Lib.fieldsD N1).map baOf)]) | _ => True) (fun done W => RS w w7 W w5.heap.size b2 b3 b4 c up2 uv2 (.slice pv val.length cv) (done 5) (done 7)) (fun i W W' => LeR w7 b4 i W W') ?hle HRS.out (allLt 8 ?steps) ?fin
        case hle =>
          intro i j v W W' hij hn hl h
          match j, h, hij, hn with
          | 0, h, _, _ => exact h
          | 1, h, _, _ => exact h
          | 2, h, _, _ => exact h
          | 6, h, _, _ => exact h
          | 3, ⟨h1, h2⟩, _, _ => exact ⟨hl.own HB4.out h1, h2⟩
          | 4, ⟨q, q2, h1, h2, h3, h4⟩, _, _ => exact ⟨q, q2, h1, h2, (World.cell?_of_block (a := ⟨q, 0, none⟩) (hl.fresh HB4.out h2 (World.block_lt_of_cell? W _ h3))).trans h3, hl.own HB4.out h4⟩
          | 5, ⟨h1, h2⟩, hij, hn =>
            match i, hij, hn, hl with
            | 0, _, hn, _ => exact absurd (by decide) hn
            | 1, _, hn, _ => exact absurd (by decide) hn
            | 2, _, hn, _ => exact absurd (by decide) hn
            | 3, _, hn, _ => exact absurd (by decide) hn
            | 4, _, hn, _ => exact absurd (by decide) hn
            | 5, hij, _, _ => exact absurd rfl hij
            | 6, _, _, hl => exact ⟨h1.keep (St.of_below (hl.2.1 (by decide) (by decide))), h2⟩
            | 7, _, _, hl => exact ⟨h1.keep (St.of_kp (hl.2.2.2 rfl) (by have := H4.out.2.wc; have := H4.out.2.wB; omega)), h2⟩
            | i + 8, _, _, hl => exact absurd hl.1 (by omega)
          | 7, h, hij, hn =>
            match i, hij, hn, hl with
            | 0, _, hn, _ => exact absurd (by decide) hn
            | 1, _, hn, _ => exact absurd (by decide) hn
            | 2, _, hn, _ => exact absurd (by decide) hn
            | 3, _, hn, _ => exact absurd (by decide) hn
            | 4, _, hn, _ => exact absurd (by decide) hn
            | 5, _, hn, _ => exact absurd (by decide) hn
            | 6, _, hn, _ => exact absurd (by decide) hn
            | 7, hij, _, _ => exact absurd rfl hij
            | i + 8, _, _, hl => exact absurd hl.1 (by omega)
          | j + 8, _, _, _ => trivial
        case steps =>
          refine ⟨⟨⟨⟨⟨⟨⟨⟨trivial, ?s0⟩, ?s1⟩, ?s2⟩, ?s3⟩, ?s4⟩, ?s5⟩, ?s6⟩, ?s7⟩
          case s0 =>
            intro done a W hS hd hnd hno hO hN
            have o4 : a.tmps[4]? = some (.pointer (some ⟨b4, 0, none⟩)) := (hO.out 4 (by decide)).trans rfl
            exact relVal rfl (.pointer (some ⟨b4, 1, none⟩)) _ rfl (by go_simp) ⟨_, rfl, rfl, hS.later H4.out.2 HS7.out (Below.refl _ _) (fun e => by simpa using e) (fun e => by simpa using e), ⟨by decide, fun _ _ => Below.refl _ _, fun h => absurd h (by decide), fun h => absurd h (by decide)⟩⟩
          case s1 =>
            intro done a W hS hd hnd hno hO hN
            obtain ⟨v0, g0, r0⟩ := hN 0 (by decide)
            have g0 : a.tmps[44]? = some v0 := g0
            have e0 : v0 = .pointer (some ⟨b4, 1, none⟩) := r0
            rw [e0] at g0
            have hcl : W.cell? ⟨b4, 1, none⟩ = some (.slice pv val.length cv) := Cl.cell (T := 25) (hS.m (hno 7 (by decide))) 1
            exact relVal rfl (.slice pv val.length cv) _ rfl (by go_simp) ⟨_, rfl, rfl, hS.later H4.out.2 HS7.out (Below.refl _ _) (fun e => by simpa using e) (fun e => by simpa using e), ⟨by decide, fun _ _ => Below.refl _ _, fun h => absurd h (by decide), fun h => absurd h (by decide)⟩⟩
          case s2 =>
            intro done a W hS hd hnd hno hO hN
            have o7 : a.tmps[7]? = some (.string ⟨N1.toArray⟩) := (hO.out 7 (by decide)).trans rfl
            exact relVal rfl (.string ⟨N1.toArray⟩) _ rfl (by go_simp) ⟨_, rfl, rfl, hS.later H4.out.2 HS7.out (Below.refl _ _) (fun e => by simpa using e) (fun e => by simpa using e), ⟨by decide, fun _ _ => Below.refl _ _, fun h => absurd h (by decide), fun h => absurd h (by decide)⟩⟩
          case s3 =>
            intro done a W hS hd hnd hno hO hN
            obtain ⟨v2, g2, r2⟩ := hN 2 (by decide)
            have g2 : a.tmps[46]? = some v2 := g2
            have e2 : v2 = .string ⟨N1.toArray⟩ := r2
            rw [e2] at g2
            refine relCallF rfl rfl 42 [.tmp 46] #[9] rfl [.string ⟨N1.toArray⟩] (by simp [Act.eval, g2]) (fun _ _ => by kernel_rfl) (Calls.mono (KF.out W hS.bel) ?_)
            rintro e W2 ⟨q, rfl, hq, hfo, hfb⟩
            exact ⟨_, rfl, _, rfl, ⟨own_base (by rw [List.length_map, List.map_map]; exact hfo) hS.sz7, q, rfl⟩, hS.later H4.out.2 HS7.out hfb (fun e => by simpa using e) (fun e => by simpa using e), ⟨by decide, fun _ _ => hfb, fun h => absurd h (by decide), fun h => absurd h (by decide)⟩⟩
          case s4 =>
            intro done a W hS hd hnd hno hO hN
            obtain ⟨v3, g3, r3⟩ := hN 3 (by decide)
            have g3 : a.tmps[47]? = some v3 := g3
            obtain ⟨h3, q2, e3⟩ := r3
            rw [e3] at g3 h3
            have hb := bsLS W (some ⟨q2, 0, none⟩) (Lib.fieldsD N1).length (Lib.fieldsD N1).length
            exact relVal rfl (.slice (some ⟨W.heap.size, 0, none⟩) 1 1) (W.alloc (.cells #[.slice (some ⟨q2, 0, none⟩) (Lib.fieldsD N1).length (Lib.fieldsD N1).length] 39)) rfl (by simp [execOp, Act.eval, g3, hb, Result.andThen]) ⟨_, rfl, ⟨W.heap.size, q2, rfl, hS.sz7, by rw [World.cell?_alloc_new]; rfl, own_later h3 (below_alloc W _)⟩, hS.later H4.out.2 HS7.out (below_alloc W _) (fun e => by simpa using e) (fun e => by simpa using e), ⟨by decide, fun _ _ => below_alloc W _, fun h => absurd h (by decide), fun h => absurd h (by decide)⟩⟩
          case s5 =>
            intro done a W hS hd hnd hno hO hN
            obtain ⟨v1, g1, r1⟩ := hN 1 (by decide)
            have g1 : a.tmps[45]? = some v1 := g1
            have e1 : v1 = .slice pv val.length cv := r1
            rw [e1] at g1
            obtain ⟨v4, g4, r4⟩ := hN 4 (by decide)
            have g4 : a.tmps[48]? = some v4 := g4
            obtain ⟨q, q2, e4, hq, hcq, ho4⟩ := r4
            rw [e4] at g4
            obtain ⟨i0, hi, hz0, hz1, hz2⟩ := info_parts infoLS
            obtain ⟨ys, hy1, hy2⟩ := HVAL.out.keep (St.of_below (hS.b5 hd))
            have hd7 := hno 7 (by decide)
            rw [hd, hd7] at hS
            obtain ⟨v', W2, hrun, ho', hgr, _, hblk⟩ := run_append_own_at (P := Tryd.prog) (w := W) w5.heap.size 23 23 39 i0 _ 1 24 Tryd.underlying23 hi hz0 hz1 hz2 rfl (by decide) _ val.length _ hy1 ⟨q, 0, none⟩ 1 1 [.slice (some ⟨q2, 0, none⟩) (Lib.fieldsD N1).length (Lib.fieldsD N1).length] rfl (cell_one hcq) (by intro u hu; simp at hu; subst hu; rfl) (by unfold maxLen; have := HVL.out; omega) (by have := HVL.out; omega) hS.sz
            have hrow := RowsN.snoc hy1 hy2 (own_base ho4 HS7.out) ho' hgr
            refine relVal rfl v' W2 rfl (by simp [execOp, Act.eval, resolve, invoke, builtin, g1, g4, hrun, Result.andThen]) ⟨_, rfl, ⟨hrow, own_form3 ho'⟩, ?_, ⟨by decide, fun _ h => absurd rfl h, fun _ k hk hl => hgr.block k hl (fun e => ?_), fun h => absurd h (by decide)⟩⟩
            · have hg := hS.grow H4.out.2 hy1 hgr
              simpa [hd7] using hg
            · have := HVB.out k e.symm
              omega
          case s6 =>
            intro done a W hS hd hnd hno hO hN
            have o4 : a.tmps[4]? = some (.pointer (some ⟨b4, 0, none⟩)) := (hO.out 4 (by decide)).trans rfl
            exact relVal rfl (.pointer (some ⟨b4, 1, none⟩)) _ rfl (by go_simp) ⟨_, rfl, rfl, hS.later H4.out.2 HS7.out (Below.refl _ _) (fun e => by simpa using e) (fun e => by simpa using e), ⟨by decide, fun _ _ => Below.refl _ _, fun h => absurd h (by decide), fun h => absurd h (by decide)⟩⟩
          case s7 =>
            intro done a W hS hd hnd hno hO hN
            obtain ⟨v6, g6, r6⟩ := hN 6 (by decide)
            have g6 : a.tmps[50]? = some v6 := g6
            have e6 : v6 = .pointer (some ⟨b4, 1, none⟩) := r6
            rw [e6] at g6
            obtain ⟨v5, g5, r5⟩ := hN 5 (by decide)
            have g5 : a.tmps[49]? = some v5 := g5
            obtain ⟨hrow, pp, nn, cc, e5⟩ := r5
            rw [e5] at g5 hrow
            have hd5 := hnd 5 (by decide)
            rw [hd, hd5] at hS
            have hcl : W.cell? ⟨b4, 1, none⟩ = some (.slice pv val.length cv) := Cl.cell (T := 25) (hS.m rfl) 1
            have hfr : W.frozen? ⟨b4, 1, none⟩ = false := Cl.fr (T := 25) (hS.m rfl) 1
            have hkp : Kp (fun k => k = b4) W (W.setCell ⟨b4, 1, none⟩ (.slice pp nn cc)) := (Kp.refl (fun k => k = b4) W).set (p := b4) rfl 1 _
            have hst := hS.store H4.out.2 (.slice pp nn cc)
            refine relSkip rfl _ rfl (by go_simp) ⟨_, rfl, ⟨_, heap_setCell_same W b4 1 _ _ _ (hS.m rfl), hrow.keep (St.of_kp hkp (by have := H4.out.2.wc; have := H4.out.2.wB; omega))⟩, ?_, ⟨by decide, fun h => absurd rfl h, fun h => absurd h (by decide), fun _ => hkp⟩⟩
            simpa [hd5] using hst
        case fin =>
          intro vs done W9 hdone hS hV
          obtain ⟨v2, hm9, hv9⟩ : ∃ v2, Cl W9 b4 #[uv2, v2] 25 ∧ RowsN w5.heap.size W9 v2 (val ++ [((Lib.fieldsD N1).map baOf)]) := hV 7 (by decide)
          have HF := show Hid (Rh w W9 w5.heap.size b2 b3 b4 up2 (val ++ [((Lib.fieldsD N1).map baOf)]) uv2 v2 ∧ KeepsFrom w5.heap.size w7 W9 ∧ W9.heap[c]? = w7.heap[c]?) from ⟨⟨hm9, hS.up, hv9, hS.r2, hS.r3, hS.bel, hS.sz⟩, hS.kf, hS.cc⟩
          clear hS hV hm9 hv9
          simp only [putAll, Act.put, List.setIfInBounds_toArray, List.set_cons_zero, List.set_cons_succ]
          gi_wp2
          refine ⟨HR7.out.2.1.trans HF.out.2.1, HF.out.2.2.trans HR7.out.2.2, uv2, v2, ?_⟩
          rw [HBS.out]
          refine Rh.whole (by rw [HMU.out.1, HMU.out.2]; exact HF.out.1) (fun y hy => ?_)
          rcases List.mem_append.1 hy with hy | hy
          · exact HK4.out.2.2 y hy
          · simp at hy
            subst hy
            rw [HSO.out]; rfl
  case done =>
    rintro D ys W hD hys ⟨uv, vv, hrd⟩ hK
    have hDl := lt_of_block hK
    have hn := H4.out.2
    have n2 := hn.w2; have n3 := hn.w3; have n4 := hn.w4; have nc := hn.wc; have nB := hn.wB
    rw [hys] at hrd
    have HRD := show Hid (Rd w W w5.heap.size b2 b3 b4 ((linesF s.data.toList).map baOf) uv vv) from hrd
    have r20 : W.cell? ⟨b2, 0, none⟩ = some (.slice none 0 0) := hrd.r2.cell 0
    have r21 : W.cell? ⟨b2, 1, none⟩ = some (.slice none 0 0) := hrd.r2.cell 1
    have f20 : W.frozen? ⟨b2, 0, none⟩ = false := hrd.r2.fr 0
    have f21 : W.frozen? ⟨b2, 1, none⟩ = false := hrd.r2.fr 1
    obtain ⟨pu, cu, hpu⟩ : ∃ p c, uv = .slice p (mdL ((linesF s.data.toList).map baOf)).up.length c := by obtain ⟨xs, h1, _⟩ := hrd.up; exact own_form h1
    obtain ⟨pv, cv, hpv⟩ : ∃ p c, vv = .slice p (mdL ((linesF s.data.toList).map baOf)).val.length c := by obtain ⟨xs, h1, _⟩ := hrd.val; exact own_form h1
    have hba : Cl ((W.setCell ⟨b2, 0, none⟩ uv).setCell ⟨b2, 1, none⟩ vv) b2 #[uv, vv] 25 := by
      have h1 : (W.setCell ⟨b2, 0, none⟩ uv).heap[b2]? = some (.cells ((#[.slice none 0 0, .slice none 0 0] : Array Value).setIfInBounds 0 uv) 25 (0, 0)) := heap_setCell_same W b2 0 _ _ _ hrd.r2
      have h2 : ((W.setCell ⟨b2, 0, none⟩ uv).setCell ⟨b2, 1, none⟩ vv).heap[b2]? = some (.cells (((#[.slice none 0 0, .slice none 0 0] : Array Value).setIfInBounds 0 uv).setIfInBounds 1 vv) 25 (0, 0)) := heap_setCell_same _ b2 1 _ _ _ h1
      exact h2
    have hkp : Kp (fun k => k = b2) W ((W.setCell ⟨b2, 0, none⟩ uv).setCell ⟨b2, 1, none⟩ vv) := ((Kp.refl (fun k => k = b2) W).set (p := b2) rfl 0 _).set (p := b2) rfl 1 _
    have hbb : Cl ((W.setCell ⟨b2, 0, none⟩ uv).setCell ⟨b2, 1, none⟩ vv) b3 #[.bool false] 4 := hrd.r3.kp hkp (by omega)
    have r3 : ((W.setCell ⟨b2, 0, none⟩ uv).setCell ⟨b2, 1, none⟩ vv).cell? ⟨b3, 0, none⟩ = some (.bool false) := hbb.cell 0
    have f3 : ((W.setCell ⟨b2, 0, none⟩ uv).setCell ⟨b2, 1, none⟩ vv).frozen? ⟨b3, 0, none⟩ = false := hbb.fr 0
    have hk3 : Kp (fun k => k = b3) ((W.setCell ⟨b2, 0, none⟩ uv).setCell ⟨b2, 1, none⟩ vv) (((W.setCell ⟨b2, 0, none⟩ uv).setCell ⟨b2, 1, none⟩ vv).setCell ⟨b3, 0, none⟩ (.bool true)) := (Kp.refl (fun k => k = b3) _).set (p := b3) rfl 0 _
    have hkB : Kp (fun k => k = b2 ∨ k = b3) W (((W.setCell ⟨b2, 0, none⟩ uv).setCell ⟨b2, 1, none⟩ vv).setCell ⟨b3, 0, none⟩ (.bool true)) := (hkp.wide (S' := fun k => k = b2 ∨ k = b3) fun _ h => Or.inl h).trans (hk3.wide (S' := fun k => k = b2 ∨ k = b3) fun _ h => Or.inr h) fun _ h => Or.inl h
    have HFIN := show Hid (Cl (((W.setCell ⟨b2, 0, none⟩ uv).setCell ⟨b2, 1, none⟩ vv).setCell ⟨b3, 0, none⟩ (.bool true)) b2 #[uv, vv] 25 ∧ Cl (((W.setCell ⟨b2, 0, none⟩ uv).setCell ⟨b2, 1, none⟩ vv).setCell ⟨b3, 0, none⟩ (.bool true)) b3 #[.bool true] 4 ∧ (((W.setCell ⟨b2, 0, none⟩ uv).setCell ⟨b2, 1, none⟩ vv).setCell ⟨b3, 0, none⟩ (.bool true)).heap[D]? = some (.deferred (some [])) ∧ Below w.heap.size w (((W.setCell ⟨b2, 0, none⟩ uv).setCell ⟨b2, 1, none⟩ vv).setCell ⟨b3, 0, none⟩ (.bool true)) ∧ RowsZ w5.heap.size (((W.setCell ⟨b2, 0, none⟩ uv).setCell ⟨b2, 1, none⟩ vv).setCell ⟨b3, 0, none⟩ (.bool true)) uv (mdL ((linesF s.data.toList).map baOf)).up ∧ RowsN w5.heap.size (((W.setCell ⟨b2, 0, none⟩ uv).setCell ⟨b2, 1, none⟩ vv).setCell ⟨b3, 0, none⟩ (.bool true)) vv (mdL ((linesF s.data.toList).map baOf)).val) from
      ⟨hba.kp hk3 (by omega), heap_setCell_same _ b3 0 _ _ _ hbb, (hkB.block D hDl (by omega)).trans hK, hrd.bel.trans (hkB.below hrd.bel.size fun k e => by omega), hrd.up.keep fun k cs t hk _ hb => hkB.block k (lt_of_block hb) (by omega), hrd.val.keep fun k cs t hk _ hb => hkB.block k (lt_of_block hb) (by omega)⟩
    have HOK := show Hid (∀ x ∈ (linesF s.data.toList).map baOf, (upL x).isSome = true) from hrd.ok
    have HM := show Hid (Cl W b4 #[uv, vv] 25) from hrd.m
    clear hrd hba hkp hbb hk3 hkB hn HB5 H4 HRD hys hlen
    generalize hmm : mdL ((linesF s.data.toList).map baOf) = mm at *
    have HMM := show Hid (mdL ((linesF s.data.toList).map baOf) = mm) from hmm
    clear hmm
    subst hpu hpv
    go_wp2_with (refine wpList_ldw 25 _ rfl b4 rfl _ _ HM.out rfl Tryd.underlying25 sizeM rfl ?_)
    generalize ((W.setCell ⟨b2, 0, none⟩ (.slice pu mm.up.length cu)).setCell ⟨b2, 1, none⟩ (.slice pv mm.val.length cv)).setCell ⟨b3, 0, none⟩ (.bool true) = W9 at *
    obtain ⟨z1, z2, z3, z4, z5, z6⟩ := HFIN.out
    have hwD : w.heap.size ≤ D := by omega
    have hwB : w.heap.size ≤ w5.heap.size := by omega
    refine ⟨by simp, .inl ⟨_, _, rfl, run_takeDeferred z3, ?_⟩⟩
    refine ⟨_, results_rd rfl _ _ rfl rfl ((World.putObj_heap_other (by omega)).trans z1) ((World.putObj_heap_other (by omega)).trans z2), _, _, true, rfl, Or.inr ⟨HOK.out, by rw [HMM.out]; exact (z5.keep (St.put z3 rfl)).base hwB, by rw [HMM.out]; exact (z6.keep (St.put z3 rfl)).base hwB, rfl⟩, below_putO z4 hwD _⟩
  case stop =>
    rintro D pre W hD hpre ⟨x2, x3, hbel, y, hy, hyn⟩ hK
    have hn := H4.out.2
    have n2 := hn.w2; have n3 := hn.w3; have n4 := hn.w4; have nc := hn.wc; have nB := hn.wB
    have HX := show Hid (∃ x ∈ (linesF s.data.toList).map baOf, upL x = none) from ⟨y, hpre.subset hy, hyn⟩
    have hwD : w.heap.size ≤ D := by omega
    refine wpIn_wide.2 ?_
    go_wp2_with fail
    refine ⟨by simp, .inl ⟨_, _, rfl, run_takeDeferred hK, ?_⟩⟩
    refine ⟨_, results_rd rfl _ _ rfl rfl ((World.putObj_heap_other (by omega)).trans x2) ((World.putObj_heap_other (by omega)).trans x3), _, _, false, rfl, Or.inl ⟨HX.out, rfl, rfl, rfl⟩, below_putO hbel hwD _⟩
end Go.Proofs.YtjbnbaiidpdpoaaDoor.Wm
