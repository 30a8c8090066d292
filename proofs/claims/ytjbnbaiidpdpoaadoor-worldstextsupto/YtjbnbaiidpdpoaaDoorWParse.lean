/-
  Parse: of any text. The tables that the library reads stand.
-/
import Derived.Test.YtjbnbaiidpdpoaaDoorWReadC
import Derived.Lib.ItoaLen
namespace Go.Proofs.YtjbnbaiidpdpoaaDoor.Wm
open Go.RowKit Go.Shelf Go.Maps
open Wd (Md)
set_option linter.unusedSimpArgs false

def linesB (s : ByteArray) : List ByteArray := (linesF s.data.toList).map baOf
def PO (s : ByteArray) : Prop := s.size ≤ 65536 ∧ (∀ x ∈ linesB s, (upL x).isSome = true) ∧ Wd.Good (mdL (linesB s)) ∧ textF (mdL (linesB s)) = s.data.toList
theorem OwnZ.isI {base : Nat} {w : World} {v : Value} {l : List Int} (h : OwnZ base w v l) : IsI w w.heap.size v l := by
  rcases h.2 with ⟨rfl, h0⟩ | ⟨g, cap, cur, rfl, hg, hh, h1, h2, h3, h4⟩
  · obtain rfl : l = [] := List.eq_nil_of_length_eq_zero h0
    exact ⟨_, _, rfl, fun h => absurd h (by simp)⟩
  · refine ⟨_, _, rfl, fun h0 => ⟨g, 0, lt_of_block hh, rfl, fun k hk => ?_⟩⟩
    have hc := h.cellAt k (by omega)
    rw [Nat.zero_add]
    exact ⟨.int .i64 l[k], hc.trans (by simp [hk]), rfl⟩
theorem RowsZ.isU {B : Nat} {w : World} {v : Value} {ls : List (List Int)} (h : RowsZ B w v ls) : IsU w w.heap.size v ls := by
  obtain ⟨xs, h1, h2⟩ := h
  rcases h1.2 with ⟨rfl, h0⟩ | ⟨g, cap, cur, rfl, hg, hh, _⟩
  · obtain rfl : ls = [] := List.eq_nil_of_length_eq_zero h0
    exact ⟨_, _, rfl, fun h => absurd h (by simp)⟩
  · refine ⟨_, _, rfl, fun h0 => ⟨g, 0, lt_of_block hh, rfl, fun k hk => ?_⟩⟩
    have hc := h1.cellAt k (by omega)
    obtain ⟨x, hx, ho⟩ := h2 k hk
    rw [Nat.zero_add]
    exact ⟨x, hc.trans hx, OwnZ.isI ho⟩
theorem RowsN.isV {B : Nat} {w : World} {v : Value} {ls : List (List ByteArray)} (h : RowsN B w v ls) : IsV w w.heap.size v ls := by
  obtain ⟨xs, h1, h2⟩ := h
  rcases h1.2 with ⟨rfl, h0⟩ | ⟨g, cap, cur, rfl, hg, hh, _⟩
  · obtain rfl : ls = [] := List.eq_nil_of_length_eq_zero h0
    exact ⟨_, _, rfl, fun h => absurd h (by simp)⟩
  · refine ⟨_, _, rfl, fun h0 => ⟨g, 0, lt_of_block hh, rfl, fun k hk => ?_⟩⟩
    have hc := h1.cellAt k (by omega)
    obtain ⟨x, hx, ho⟩ := h2 k hk
    rw [Nat.zero_add]
    exact ⟨x, hc.trans hx, OwnN.isN ho⟩
theorem rdN_in : ∀ {l : List ByteArray} {r : List Int}, rdN l = some r → r.length = l.length ∧ ∀ i ∈ r, 0 ≤ i ∧ i ≤ 511
  | [], r, h => by cases h; exact ⟨rfl, fun i hi => (by cases hi)⟩
  | x :: l, r, h => by
    rw [rdN] at h
    split at h
    · rename_i h0
      obtain ⟨r', hr, rfl⟩ := Option.map_eq_some_iff.1 h
      obtain ⟨h1, h2⟩ := rdN_in hr
      refine ⟨by simp [h1], fun i hi => ?_⟩
      rcases List.mem_cons.1 hi with rfl | hi
      · unfold undecB at h0 ⊢
        split at h0
        · cases h0
        · rename_i c1
          rw [if_neg c1]
          split at h0
          · cases h0
          · rename_i c2
            rw [if_neg c2]
            unfold told at h0 ⊢
            split at h0
            · cases h0
            · rename_i n hn
              split at h0
              · cases h0
              · rename_i c3
                rw [if_neg c3]
                simp only
                omega
      · exact h2 i hi
    · cases h
theorem lines_small (s : ByteArray) : ∀ x ∈ linesB s, x.size ≤ s.size := by
  have : ∀ (f : Nat) (l : List UInt8), ∀ x ∈ lnF f l, x.length ≤ l.length := fun f => by
    induction f with
    | zero => intro l x hx; simp [lnF] at hx
    | succ f ih =>
      intro l x hx
      rw [lnF] at hx
      split at hx
      · cases hx
      · split at hx
        · rcases List.mem_cons.1 hx with rfl | hx
          · rw [List.length_take]; omega
          · have := ih _ x hx; rw [List.length_drop] at this; omega
        · simp at hx; subst hx; exact Nat.le_refl _
  intro x hx
  obtain ⟨y, hy, rfl⟩ := List.mem_map.1 hx
  rw [baOf_size]
  exact this _ _ y hy
theorem vaL_len {x : ByteArray} (hx : x.size ≤ 65536) : (vaL x).length ≤ 65538 ∧ ∀ y ∈ vaL x, y.size ≤ 65536 := by
  have hc := (cut_len x.data.toList [32, 58]).2
  have hf := fieldsD_len (Lib.cut x.data.toList [32, 58]).2.1
  have hxs : x.data.toList.length = x.size := rfl
  unfold vaL
  refine ⟨by rw [List.length_map]; omega, fun y hy => ?_⟩
  obtain ⟨z, hz, rfl⟩ := List.mem_map.1 hy
  rw [baOf_size]
  have := hf.2 z hz
  omega
theorem upL_len {x : ByteArray} (hx : x.size ≤ 65536) : ((upL x).getD []).length ≤ 65538 ∧ ∀ i ∈ (upL x).getD [], 0 ≤ i ∧ i ≤ 511 := by
  have hc := (cut_len x.data.toList [32, 58]).1
  have hc2 := (cut_len (Lib.cut x.data.toList [32, 58]).1 [32, 62]).2
  have hf := fieldsD_len (Lib.cut (Lib.cut x.data.toList [32, 58]).1 [32, 62]).2.1
  have hxs : x.data.toList.length = x.size := rfl
  unfold upL
  cases h : rdN ((Lib.fieldsD (Lib.cut (Lib.cut x.data.toList [32, 58]).1 [32, 62]).2.1).map baOf) with
  | none => exact ⟨by simp, fun i hi => (by cases hi)⟩
  | some r =>
    obtain ⟨h1, h2⟩ := rdN_in h
    rw [List.length_map] at h1
    exact ⟨by simp only [Option.getD_some]; omega, fun i hi => h2 i hi⟩
theorem fit_mdL {s : ByteArray} (hs : s.size ≤ 65536) : Fit (mdL (linesB s)) := by
  have hl : (linesB s).length ≤ 65536 := by
    have := lines_len s.data.toList
    have h9 : s.data.toList.length = s.size := rfl
    unfold linesB; rw [List.length_map]; omega
  refine ⟨by simp [mdL]; omega, by simp [mdL]; omega, fun r hr => ?_, fun r hr => ?_⟩
  · obtain ⟨x, hx, rfl⟩ := List.mem_map.1 hr
    have := upL_len (Nat.le_trans (lines_small s x hx) hs)
    exact ⟨by omega, fun i hi => by have := this.2 i hi; omega⟩
  · obtain ⟨x, hx, rfl⟩ := List.mem_map.1 hr
    have := vaL_len (Nat.le_trans (lines_small s x hx) hs)
    exact ⟨by omega, fun y hy => by have := this.2 y hy; omega⟩
theorem flat_le {α : Type} (f : α → List UInt8) (k : Nat) : ∀ (l : List α), (∀ x ∈ l, (f x).length ≤ k) → (l.flatMap f).length ≤ l.length * k
  | [], _ => by simp
  | x :: r, h => by
    have h1 := h x (by simp)
    have h2 := flat_le f k r fun y hy => h y (by simp [hy])
    rw [List.flatMap_cons, List.length_append, List.length_cons, Nat.succ_mul]
    omega
theorem rowT_le (sign : List UInt8) (l : List (List UInt8)) (k : Nat) (h : ∀ x ∈ l, x.length ≤ k) : (rowT sign l).length ≤ sign.length + l.length * (k + 1) := by
  unfold rowT
  split
  · simp
  · rw [List.length_append]
    have := flat_le (fun x : List UInt8 => (32 : UInt8) :: x) (k + 1) l fun x hx => by rw [List.length_cons]; have := h x hx; omega
    omega
theorem text_small {m : Md} (h5 : m.up.length ≤ 512) (hu : ∀ r ∈ m.up, r.length ≤ 65538 ∧ ∀ i ∈ r, 0 ≤ i ∧ i ≤ 512) (hv : ∀ r ∈ m.val, r.length ≤ 65538 ∧ ∀ y ∈ r, y.size ≤ 65536) : (textF m).length ≤ 140737488351232 := by
  have h : ∀ a, (lineF a (m.up.getD a []) (m.val.getD a [])).length ≤ 4400000000 ∨ 512 ≤ a := fun a => by
    by_cases ha : a < 512
    · left
      rw [← lineF_le]
      have i1 := Lib.itoa_length_le (a : Int) (by omega) (by omega)
      have hu2 : (m.up.getD a []).length ≤ 65538 ∧ ∀ i ∈ m.up.getD a [], 0 ≤ i ∧ i ≤ 512 := by
        rw [List.getD_eq_getElem?_getD]
        cases h : m.up[a]? with
        | none => exact ⟨by simp, fun i hi => (by cases hi)⟩
        | some r => exact hu r (List.mem_of_getElem? h)
      have hv2 : (m.val.getD a []).length ≤ 65538 ∧ ∀ y ∈ m.val.getD a [], y.size ≤ 65536 := by
        rw [List.getD_eq_getElem?_getD]
        cases h : m.val[a]? with
        | none => exact ⟨by simp, fun i hi => (by cases hi)⟩
        | some r => exact hv r (List.mem_of_getElem? h)
      have r1 := rowT_le [32, 62] ((m.up.getD a []).map Lib.itoa) 21 fun x hx => by
        obtain ⟨i, hi, rfl⟩ := List.mem_map.1 hx
        have := hu2.2 i hi
        exact Lib.itoa_length_le i (by omega) (by omega)
      have r2 := rowT_le [32, 58] ((m.val.getD a []).map fun s => s.data.toList) 65536 fun x hx => by
        obtain ⟨i, hi, rfl⟩ := List.mem_map.1 hx
        exact hv2.2 i hi
      rw [List.length_map] at r1 r2
      simp only [List.length_cons, List.length_nil] at r1 r2
      have := hu2.1
      have := hv2.1
      have e1 : (m.up.getD a []).length * (21 + 1) ≤ 65538 * 22 := Nat.mul_le_mul_right _ hu2.1
      have e2 : (m.val.getD a []).length * (65536 + 1) ≤ 65538 * 65537 := Nat.mul_le_mul_right _ hv2.1
      omega
    · right; omega
  unfold textF textTo
  have := flat_le (fun a => lineF a (m.up.getD a []) (m.val.getD a [])) 4400000000 (List.range m.up.length) fun a ha => by
    rcases h a with h | h
    · exact h
    · have := List.mem_range.1 ha; omega
  rw [List.length_range] at this
  have e : m.up.length * 4400000000 ≤ 512 * 4400000000 := Nat.mul_le_mul_right _ h5
  omega
theorem text_mdL {s : ByteArray} (hs : s.size ≤ 65536) (h5 : (mdL (linesB s)).up.length ≤ 512) : (textF (mdL (linesB s))).length ≤ 140737488351232 :=
  text_small h5 (fun r hr => by
    obtain ⟨x, hx, rfl⟩ := List.mem_map.1 hr
    have h := upL_len (Nat.le_trans (lines_small s x hx) hs)
    exact ⟨h.1, fun i hi => ⟨(h.2 i hi).1, Int.le_trans (h.2 i hi).2 (by decide)⟩⟩) (fun r hr => by
    obtain ⟨x, hx, rfl⟩ := List.mem_map.1 hr
    exact vaL_len (Nat.le_trans (lines_small s x hx) hs))
theorem results_m_tmp {fn : Func} {p t2 : Tmp} (h : fn.results = #[.cell p 25, .tmp t2]) (tmps : Array Value) (w : World) (g : Nat) {uv vv : Value} (hp : tmps.getD p undef = .pointer (some ⟨g, 0, none⟩)) (hr : Cl w g #[uv, vv] 25) :
    (results fn tmps).run Tryd.prog w = .ok (.tuple #[.agg #[uv, vv], tmps.getD t2 undef]) w := by
  rw [results_cell_tmp h, hp]
  simp [asAddr, run_loadVar_row w g 25 25 #[uv, vv] (0, 0) _ hr Tryd.underlying25 rfl sizeM, Result.andThen]
theorem set2 {w : World} {b : Nat} {x y : Value} {T : TypeId} (h : Cl w b #[x, y] T) (u v : Value) : Cl ((w.setCell ⟨b, 0, none⟩ u).setCell ⟨b, 1, none⟩ v) b #[u, v] T ∧ Kp (fun k => k = b) w ((w.setCell ⟨b, 0, none⟩ u).setCell ⟨b, 1, none⟩ v) := by
  have h1 : (w.setCell ⟨b, 0, none⟩ u).heap[b]? = some (.cells ((#[x, y] : Array Value).setIfInBounds 0 u) T (0, 0)) := heap_setCell_same w b 0 _ _ _ h
  have h2 : ((w.setCell ⟨b, 0, none⟩ u).setCell ⟨b, 1, none⟩ v).heap[b]? = some (.cells (((#[x, y] : Array Value).setIfInBounds 0 u).setIfInBounds 1 v) T (0, 0)) := heap_setCell_same _ b 1 _ _ _ h1
  exact ⟨h2, ((Kp.refl (fun k => k = b) w).set (p := b) rfl 0 _).set (p := b) rfl 1 _⟩
theorem wpList_st {ops : Array Oper} {rest : List Oper} {o : Oper} {a : Act} {Q : Exit → Act → World → Prop} {w : World} (T : TypeId) (hg : o.guard = none) (hd : o.dst = none) (x y : Operand) (hop : o.op = Op.store T x y) (b : Nat) (hx : a.eval x = .pointer (some ⟨b, 0, none⟩)) (cs : Array Value) (hy : a.eval y = .agg cs) (old : Array Value) (T0 : TypeId) (h : Cl w b old T0)
    (hs : (Tryd.prog.info? T).map (·.size) = some cs.size) (hs' : old.size = cs.size) (h1 : cs.all (·.oneCell') = true) (hK : ∀ w', Cl w' b cs T0 → Kp (fun k => k = b) w w' → wpList Tryd.prog ops Q rest a w') : wpList Tryd.prog ops Q (o :: rest) a w := by
  refine wpList_plain hg fun K' hK' => ?_
  have hrun : (Instr.storeAt T (.pointer (some ⟨b, 0, none⟩)) (.agg cs)).run Tryd.prog w = .ok () (w.setRow b cs) := by
    simp only [Instr.storeAt, Instr.sureAddr, Sem.run_bind, Sem.run_pure, Result.andThen]
    exact run_storeVar_row w b T0 T old cs h hs hs' h1
  unfold Oper.wp
  simp [execOp, hop, hx, hy, hrun, Result.andThen]
  rw [Oper.upon_skip, hd]
  exact hK' _ _ (hK _ (setRow_heap w b _ _ _ _ h) ⟨rfl, rfl, rfl, by simp, fun k _ hk => setRow_other w b k cs hk⟩)
def ParR (w : World) (B : Nat) (s : ByteArray) (uv vv : Value) (er : Int) : Prop := (PO s ∧ er = 0 ∧ RowsZ B w uv (mdL (linesB s)).up ∧ RowsN B w vv (mdL (linesB s)).val) ∨ (¬ PO s ∧ er = 170 ∧ uv = .slice none 0 0 ∧ vv = .slice none 0 0)
set_option maxRecDepth 100000 in
set_option maxHeartbeats 4000000 in
theorem parse_any (w : World) (s : ByteArray) (hb : s.size ≤ 140737488351232) (hT : Tb w) :
    Calls Tryd.prog 6 #[.string s] w fun e w' => ∃ uv vv er, e = .returned (.tuple #[.agg #[uv, vv], .int .i64 er]) ∧ ParR w' w.heap.size s uv vv er ∧ Below w.heap.size w w' := by
  have HT := show Hid (∀ W : World, Below w.heap.size w W → Tb W) from fun W h => hT.later h
  clear hT
  go_enter Tryd.func6, Tryd.ntmps6
  go_wp2_with (refine wpList_alloc 25 rfl _ zero_md rfl ?_)
  intro w1 b2 hn1
  have H1 := show Hid (Cl w1 b2 #[.slice none 0 0, .slice none 0 0] 25 ∧ Below w.heap.size w w1 ∧ w.heap.size ≤ b2) from ⟨hn1.blk, hn1.bel, hn1.ge⟩
  clear hn1
  by_cases hs : s.size ≤ 65536
  · have hsi : decide (65536 < (s.size : Int)) = false := decide_eq_false (by omega)
    have KR := show Hid _ from read_any w1 s hs (HT.out w1 H1.out.2.1)
    have HFT := show Hid (Fit (mdL (linesB s)) ∧ (Wd.Good (mdL (linesB s)) → (textF (mdL (linesB s))).length ≤ 140737488351232)) from ⟨fit_mdL hs, fun g => text_mdL hs (Wd.shaped_and g.shape).2.1⟩
    have HSS := show Hid (s.size ≤ 65536) from hs
    go_wp2_with fail
    refine Calls.mono KR.out ?_
    rintro e w2 ⟨uv, vv, ok, rfl, hR, hb2⟩
    have H2 := show Hid (Cl w2 b2 #[.slice none 0 0, .slice none 0 0] 25 ∧ Below w.heap.size w w2) from ⟨H1.out.1.later hb2, H1.out.2.1.trans (hb2.mono H1.out.2.1.size)⟩
    have HB2 := show Hid (w.heap.size ≤ b2 ∧ w.heap.size ≤ w1.heap.size ∧ b2 < w1.heap.size) from ⟨H1.out.2.2, H1.out.2.1.size, H1.out.1.lt⟩
    clear KR hb2 H1
    rcases hR with ⟨h1, rfl, rfl, rfl⟩ | ⟨h1, h2, h3, rfl⟩
    · have HNO := show Hid (¬ PO s) from fun h => by
        obtain ⟨x, hx, e⟩ := h1
        have := h.2.1 x hx
        rw [e] at this; cases this
      clear h1
      go_wp2_with (refine wpList_alloc 25 rfl _ zero_md rfl ?_)
      intro w3 b4 hn4
      go_wp2_with (refine wpList_st 25 rfl rfl _ _ rfl b4 rfl _ rfl _ _ hn4.blk sizeM rfl (by simp [Value.oneCell']) ?_)
      intro w4 hc4 hk4
      have H4 := show Hid (Cl w4 b2 #[.slice none 0 0, .slice none 0 0] 25 ∧ Below w.heap.size w w4) from ⟨(H2.out.1.later hn4.bel).kp hk4 (by have := H2.out.1.lt; have := hn4.ge; omega), (H2.out.2.trans (hn4.bel.mono H2.out.2.size)).trans (hk4.below (Nat.le_trans H2.out.2.size hn4.bel.size) fun k e => by have := hn4.ge; have := H2.out.2.size; omega)⟩
      clear hn4 hc4 hk4 H2
      have r20 : w4.cell? ⟨b2, 0, none⟩ = some (.slice none 0 0) := H4.out.1.cell 0
      have r21 : w4.cell? ⟨b2, 1, none⟩ = some (.slice none 0 0) := H4.out.1.cell 1
      have f20 : w4.frozen? ⟨b2, 0, none⟩ = false := H4.out.1.fr 0
      have f21 : w4.frozen? ⟨b2, 1, none⟩ = false := H4.out.1.fr 1
      have HS2 := show Hid _ from set2 H4.out.1 (.slice none 0 0) (.slice none 0 0)
      go_wp2_with fail
      refine bodyPost_ret (results_m_tmp rfl _ _ b2 rfl HS2.out.1) rfl ?_
      exact ⟨_, _, 170, rfl, Or.inr ⟨HNO.out, rfl, rfl, rfl⟩, H4.out.2.trans (HS2.out.2.below H4.out.2.size fun k e => by have := HB2.out.1; omega)⟩
    · obtain ⟨pu, cu, rfl⟩ : ∃ p c, uv = .slice p (mdL (linesB s)).up.length c := by obtain ⟨xs, h1, _⟩ := h2; exact own_form h1
      obtain ⟨pv, cv, rfl⟩ : ∃ p c, vv = .slice p (mdL (linesB s)).val.length c := by obtain ⟨xs, h1, _⟩ := h3; exact own_form h1
      have HRW := show Hid ((∀ x ∈ linesB s, (upL x).isSome = true) ∧ RowsZ w1.heap.size w2 (.slice pu (mdL (linesB s)).up.length cu) (mdL (linesB s)).up ∧ RowsN w1.heap.size w2 (.slice pv (mdL (linesB s)).val.length cv) (mdL (linesB s)).val) from ⟨h1, h2, h3⟩
      clear h1 h2 h3
      obtain ⟨m, hm⟩ : ∃ m, m = mdL (linesB s) := ⟨_, rfl⟩
      have HME := show Hid (mdL (linesB s) = m) from hm.symm
      rw [← hm] at HRW HFT
      simp only [← hm]
      clear hm
      go_wp2_with (refine wpList_alloc 25 rfl _ zero_md rfl ?_)
      intro w3 b4 hn4
      go_wp2_with (refine wpList_st 25 rfl rfl _ _ rfl b4 rfl _ rfl _ _ hn4.blk sizeM rfl (by simp [Value.oneCell']) ?_)
      intro w4 hc4 hk4
      have H4 := show Hid (Cl w4 b2 #[.slice none 0 0, .slice none 0 0] 25 ∧ Below w.heap.size w w4) from ⟨(H2.out.1.later hn4.bel).kp hk4 (by have := H2.out.1.lt; have := hn4.ge; omega), (H2.out.2.trans (hn4.bel.mono H2.out.2.size)).trans (hk4.below (Nat.le_trans H2.out.2.size hn4.bel.size) fun k e => by have := hn4.ge; have := H2.out.2.size; omega)⟩
      have HR4 := show Hid (Cl w4 b4 #[.slice pu m.up.length cu, .slice pv m.val.length cv] 25 ∧ RowsZ w1.heap.size w4 (.slice pu m.up.length cu) m.up ∧ RowsN w1.heap.size w4 (.slice pv m.val.length cv) m.val ∧ b4 ≠ b2) from by
        have hst : ∀ T T', St w1.heap.size T T' w2 w4 := fun T T' k cs t _ _ hb => (hk4.block k (Nat.lt_of_lt_of_le (lt_of_block hb) hn4.bel.size) (by have := lt_of_block hb; have := hn4.ge; omega)).trans (hn4.bel.block k (lt_of_block hb))
        exact ⟨hc4, HRW.out.2.1.keep (hst _ _), HRW.out.2.2.keep (hst _ _), by have := H2.out.1.lt; have := hn4.ge; omega⟩
      clear hn4 hc4 hk4 H2
      have HM4 := show Hid (IsM w4 w4.heap.size (.slice pu m.up.length cu) (.slice pv m.val.length cv) m) from ⟨HR4.out.2.1.isU, HR4.out.2.2.1.isV⟩
      have KC := show Hid _ from check_any w4 HM4.out HFT.out.1 (Nat.le_refl _)
      go_wp2_with (refine wpList_ldw 25 _ rfl b4 rfl _ _ HR4.out.1 rfl Tryd.underlying25 sizeM rfl ?_)
      refine Calls.mono KC.out ?_
      rintro e w5 ⟨er, rfl, hC, hb5⟩
      have H5 := show Hid (Cl w5 b2 #[.slice none 0 0, .slice none 0 0] 25 ∧ Below w.heap.size w w5) from ⟨H4.out.1.later hb5, H4.out.2.trans (hb5.mono H4.out.2.size)⟩
      have HR5 := show Hid (Cl w5 b4 #[.slice pu m.up.length cu, .slice pv m.val.length cv] 25 ∧ RowsZ w1.heap.size w5 (.slice pu m.up.length cu) m.up ∧ RowsN w1.heap.size w5 (.slice pv m.val.length cv) m.val ∧ b4 ≠ b2) from ⟨HR4.out.1.later hb5, HR4.out.2.1.keep (St.of_below hb5), HR4.out.2.2.1.keep (St.of_below hb5), HR4.out.2.2.2⟩
      clear KC hb5 HR4 HM4 H4
      rcases hC with ⟨hG, rfl⟩ | ⟨hG, rfl⟩
      · have HG := show Hid (Wd.Good m) from hG
        have HM5 := show Hid (IsM w5 w5.heap.size (.slice pu m.up.length cu) (.slice pv m.val.length cv) m) from ⟨HR5.out.2.1.isU, HR5.out.2.2.1.isV⟩
        have KT := show Hid _ from text_any w5 HM5.out HFT.out.1 (Nat.le_refl _) (HT.out w5 H5.out.2) (HFT.out.2 hG)
        clear hG
        go_wp2_with (refine wpList_ldw 25 _ rfl b4 rfl _ _ HR5.out.1 rfl Tryd.underlying25 sizeM rfl ?_)
        refine Calls.mono KT.out ?_
        rintro e w6 ⟨rfl, hb6⟩
        have H6 := show Hid (Cl w6 b2 #[.slice none 0 0, .slice none 0 0] 25 ∧ Below w.heap.size w w6) from ⟨H5.out.1.later hb6, H5.out.2.trans (hb6.mono H5.out.2.size)⟩
        have HR6 := show Hid (Cl w6 b4 #[.slice pu m.up.length cu, .slice pv m.val.length cv] 25 ∧ RowsZ w1.heap.size w6 (.slice pu m.up.length cu) m.up ∧ RowsN w1.heap.size w6 (.slice pv m.val.length cv) m.val ∧ b4 ≠ b2) from ⟨HR5.out.1.later hb6, HR5.out.2.1.keep (St.of_below hb6), HR5.out.2.2.1.keep (St.of_below hb6), HR5.out.2.2.2⟩
        clear KT hb6 HR5 HM5 H5
        by_cases ht : (⟨(textF m).toArray⟩ : ByteArray) = s
        · have hne : ((⟨(textF m).toArray⟩ : ByteArray).toList == s.toList) = true := beqS_eq ht
          have HPO := show Hid (PO s) from ⟨HSS.out, HRW.out.1, by rw [HME.out]; exact HG.out, by rw [HME.out, ← ht]⟩
          have r20 : w6.cell? ⟨b2, 0, none⟩ = some (.slice none 0 0) := H6.out.1.cell 0
          have r21 : w6.cell? ⟨b2, 1, none⟩ = some (.slice none 0 0) := H6.out.1.cell 1
          have f20 : w6.frozen? ⟨b2, 0, none⟩ = false := H6.out.1.fr 0
          have f21 : w6.frozen? ⟨b2, 1, none⟩ = false := H6.out.1.fr 1
          have HS2 := show Hid _ from set2 H6.out.1 (.slice pu m.up.length cu) (.slice pv m.val.length cv)
          clear ht
          generalize (⟨(textF m).toArray⟩ : ByteArray) = tx at *
          go_wp2_with (refine wpList_ldw 25 _ rfl b4 rfl _ _ HR6.out.1 rfl Tryd.underlying25 sizeM rfl ?_)
          refine bodyPost_ret (results_m_tmp rfl _ _ b2 rfl HS2.out.1) rfl ?_
          have hst : ∀ T T', St w1.heap.size T T' w6 ((w6.setCell ⟨b2, 0, none⟩ (.slice pu m.up.length cu)).setCell ⟨b2, 1, none⟩ (.slice pv m.val.length cv)) := fun T T' k cs t hk _ hb => HS2.out.2.block k (lt_of_block hb) (by have := HB2.out.2.2; omega)
          exact ⟨_, _, 0, rfl, Or.inl ⟨HPO.out, rfl, by rw [HME.out]; exact (HR6.out.2.1.keep (hst _ _)).base HB2.out.2.1, by rw [HME.out]; exact (HR6.out.2.2.1.keep (hst _ _)).base HB2.out.2.1⟩, H6.out.2.trans (HS2.out.2.below H6.out.2.size fun k e => by have := HB2.out.1; omega)⟩
        · have hne : ((⟨(textF m).toArray⟩ : ByteArray).toList == s.toList) = false := beqS_ne ht
          have HNO := show Hid (¬ PO s) from fun h => ht (by
            have h9 := h.2.2.2
            rw [HME.out] at h9
            rw [h9])
          clear ht
          generalize (⟨(textF m).toArray⟩ : ByteArray) = tx at *
          have r20 : w6.cell? ⟨b2, 0, none⟩ = some (.slice none 0 0) := H6.out.1.cell 0
          have r21 : w6.cell? ⟨b2, 1, none⟩ = some (.slice none 0 0) := H6.out.1.cell 1
          have f20 : w6.frozen? ⟨b2, 0, none⟩ = false := H6.out.1.fr 0
          have f21 : w6.frozen? ⟨b2, 1, none⟩ = false := H6.out.1.fr 1
          have HS2 := show Hid _ from set2 H6.out.1 (.slice none 0 0) (.slice none 0 0)
          go_wp2_with fail
          refine bodyPost_ret (results_m_tmp rfl _ _ b2 rfl HS2.out.1) rfl ?_
          exact ⟨_, _, 170, rfl, Or.inr ⟨HNO.out, rfl, rfl, rfl⟩, H6.out.2.trans (HS2.out.2.below H6.out.2.size fun k e => by have := HB2.out.1; omega)⟩
      · have HNO := show Hid (¬ PO s) from fun h => hG (by have h9 := h.2.2.1; rw [HME.out] at h9; exact h9)
        clear hG
        have r20 : w5.cell? ⟨b2, 0, none⟩ = some (.slice none 0 0) := H5.out.1.cell 0
        have r21 : w5.cell? ⟨b2, 1, none⟩ = some (.slice none 0 0) := H5.out.1.cell 1
        have f20 : w5.frozen? ⟨b2, 0, none⟩ = false := H5.out.1.fr 0
        have f21 : w5.frozen? ⟨b2, 1, none⟩ = false := H5.out.1.fr 1
        have HS2 := show Hid _ from set2 H5.out.1 (.slice none 0 0) (.slice none 0 0)
        go_wp2_with fail
        refine bodyPost_ret (results_m_tmp rfl _ _ b2 rfl HS2.out.1) rfl ?_
        exact ⟨_, _, 170, rfl, Or.inr ⟨HNO.out, rfl, rfl, rfl⟩, H5.out.2.trans (HS2.out.2.below H5.out.2.size fun k e => by have := HB2.out.1; omega)⟩
  · have hsi : decide (65536 < (s.size : Int)) = true := decide_eq_true (by omega)
    have HNO := show Hid (¬ PO s) from fun h => hs h.1
    have r20 : w1.cell? ⟨b2, 0, none⟩ = some (.slice none 0 0) := H1.out.1.cell 0
    have r21 : w1.cell? ⟨b2, 1, none⟩ = some (.slice none 0 0) := H1.out.1.cell 1
    have f20 : w1.frozen? ⟨b2, 0, none⟩ = false := H1.out.1.fr 0
    have f21 : w1.frozen? ⟨b2, 1, none⟩ = false := H1.out.1.fr 1
    have hs2 := set2 H1.out.1 (.slice none 0 0) (.slice none 0 0)
    go_wp2_with fail
    refine bodyPost_ret (results_m_tmp rfl _ _ b2 rfl hs2.1) rfl ?_
    exact ⟨_, _, 170, rfl, Or.inr ⟨HNO.out, rfl, rfl, rfl⟩, H1.out.2.1.trans (hs2.2.below H1.out.2.1.size fun k e => by have := H1.out.2.2; omega)⟩
end Go.Proofs.YtjbnbaiidpdpoaaDoor.Wm
