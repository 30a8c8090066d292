/-
  How often a formula stands in another one, counted from the formula down, the left part first: plain. No other condition than those that stand.
-/
import Derived.Test.YthdcppkohalkmaaGreatRCnt
namespace Go.Proofs.YthdcppkohalkmaaGreat
open Fm (Nd)

namespace Ms
theorem sm_ms {a : Int} (h : 0 ≤ a ∧ a ≤ M) (b : Int) : sm a b = ms a b := by
  unfold sm
  by_cases hh : a + b > M
  · rw [if_pos hh]; simp only [ms, M] at *; omega
  · rw [if_neg hh]; simp only [ms, M] at *; omega
theorem ms_swap {a b c : Int} (h : 0 ≤ a ∧ a ≤ M) (hb : 0 ≤ b ∧ b ≤ M) (hc : 0 ≤ c ∧ c ≤ M) : ms (ms a b) c = ms (ms a c) b := by
  simp only [ms, M] at *
  omega
theorem ms_in {a b : Int} (h : 0 ≤ a ∧ a ≤ M) (hb : 0 ≤ b ∧ b ≤ M) : 0 ≤ ms a b ∧ ms a b ≤ M := by
  simp only [ms, M] at *
  omega
/-- A row hands on to its left part first: the same. -/
theorem occ_step {t : List Nd} {i l r : Nat} (hj : Fm.jn (row t i).k = true) (hl : (row t i).l.toNat = l) (hr : (row t i).r.toNat = r) {c : C} (hc : Inr c) {f g : Nat → Int} (hf : ∀ j, (f j, g j) = c j) (j : Nat) :
    (updI (updI f l (sm (f l) (turn (row t i).k (c i)).1)) r (sm (updI f l (sm (f l) (turn (row t i).k (c i)).1) r) (f i)) j,
     updI (updI g l (sm (g l) (turn (row t i).k (c i)).2)) r (sm (updI g l (sm (g l) (turn (row t i).k (c i)).2) r) (g i)) j) = stp t i c j := by
  have h1 : ∀ j, f j = (c j).1 := fun j => by rw [← hf j]
  have h2 : ∀ j, g j = (c j).2 := fun j => by rw [← hf j]
  have ht := turn_in (k := (row t i).k) (hc i)
  have hci := hc i
  have hcl := hc l
  have hcr := hc r
  have hcj := hf j
  have e1 := h1 l; have e2 := h2 l; have e3 := h1 r; have e4 := h2 r; have e5 := h1 i; have e6 := h2 i
  rw [e5, e6, e1, e2]
  clear h1 h2
  unfold stp stpG
  rw [if_pos hj, hl, hr]
  generalize turn (row t i).k (c i) = x at *
  generalize c i = y at *
  unfold at2 add2 updI
  by_cases hrl : r = l
  · subst hrl
    simp only [if_true]
    by_cases hjr : j = r
    · subst hjr
      simp only [if_true]
      rw [sm_ms (a := (c j).1) (by omega), sm_ms (a := (c j).2) (by omega), sm_ms (a := ms (c j).1 x.1) (ms_in (by omega) (by omega)), sm_ms (a := ms (c j).2 x.2) (ms_in (by omega) (by omega)), ms_swap (a := (c j).1) (by omega) (by omega) (by omega), ms_swap (a := (c j).2) (by omega) (by omega) (by omega)]
    · simp only [if_neg hjr]
      exact hcj
  · have hlr : ¬ l = r := fun e => hrl e.symm
    simp only [if_neg hrl, if_neg hlr]
    rw [e3, e4, sm_ms (by omega), sm_ms (by omega), sm_ms (by omega), sm_ms (by omega)]
    by_cases hjr : j = r
    · subst hjr
      simp only [if_true, if_neg hrl]
    · simp only [if_neg hjr]
      by_cases hjl : j = l
      · subst hjl
        simp only [if_true]
      · simp only [if_neg hjl]
        exact hcj
theorem occ_skip {t : List Nd} {i : Nat} {c : C} (hc : Inr c) (h : Fm.jn (row t i).k = false ∨ (c i).1 + (c i).2 = 0) : stp t i c = c := by
  rcases h with h | h
  · unfold stp stpG
    rw [h]
    simp
  · exact stp_none t i hc (by unfold supp; rw [h]; rfl)
end Ms
end Go.Proofs.YthdcppkohalkmaaGreat
/-
  The document's call Occurs: for every table of the document's that calls made, and every two numbers. No other condition.
-/
namespace Go.Proofs.YthdcppkohalkmaaGreat
open Go.RowKit Go.Maps
open Fm (Nd)

theorem results_threeN {P : Program} {fn : Func} {p q r : Tmp} (h : fn.results = #[.tmp p, .tmp q, .tmp r]) (tmps : Array Value) (w : World) (_u : Unit) : (results fn tmps).run P w = .ok (.tuple #[tmps.getD p undef, tmps.getD q undef, tmps.getD r undef]) w := by
  simp [results, h]
/-- A node in a block of its own. -/
def Nb (w : World) (b : Nat) (nd : Nd) : Prop := w.heap[b]? = some (.cells #[.int .i64 nd.k, .string nd.s, .int .i64 nd.l, .int .i64 nd.r] 72 (0, 0))
/-- Two rows of numbers and a node beside them. -/
structure Oc (w wr : World) (n b : Nat) (f h : Nat → Int) (nd : Nd) : Prop where
  pos : Vs wr w.heap.size n f
  neg : Vs wr (w.heap.size + 1) n h
  nod : Nb wr b nd
  lt : w.heap.size + 1 < b
  bel : Below w.heap.size w wr
section
variable {w wr : World} {n b : Nat} {f h : Nat → Int} {nd : Nd}
theorem Nb.c0 (h : Nb w b nd) : w.cell? ⟨b, 0, none⟩ = some (.int .i64 nd.k) := by rw [cell_of_row w b 0 _ _ _ h]; rfl
theorem Nb.c1 (h : Nb w b nd) : w.cell? ⟨b, 1, none⟩ = some (.string nd.s) := by rw [cell_of_row w b 1 _ _ _ h]; rfl
theorem Nb.c2 (h : Nb w b nd) : w.cell? ⟨b, 2, none⟩ = some (.int .i64 nd.l) := by rw [cell_of_row w b 2 _ _ _ h]; rfl
theorem Nb.c3 (h : Nb w b nd) : w.cell? ⟨b, 3, none⟩ = some (.int .i64 nd.r) := by rw [cell_of_row w b 3 _ _ _ h]; rfl
theorem Nb.cells (h : Nb w b nd) : w.cell? ⟨b, 0, none⟩ = some (.int .i64 nd.k) ∧ w.cell? ⟨b, 1, none⟩ = some (.string nd.s) ∧ w.cell? ⟨b, 2, none⟩ = some (.int .i64 nd.l) ∧ w.cell? ⟨b, 3, none⟩ = some (.int .i64 nd.r) := ⟨h.c0, h.c1, h.c2, h.c3⟩
theorem vs_other {g g' j : Nat} (hv : Vs wr g n f) (hne : g ≠ g') (x : Value) : Vs (wr.setCell ⟨g', j, none⟩ x) g n f := (Below.heap_setCell wr ⟨g', j, none⟩ x g hne).trans hv
theorem nb_other {g' j : Nat} (hv : Nb wr b nd) (hne : b ≠ g') (x : Value) : Nb (wr.setCell ⟨g', j, none⟩ x) b nd := (Below.heap_setCell wr ⟨g', j, none⟩ x b hne).trans hv
theorem Oc.setP (hO : Oc w wr n b f h nd) (j : Nat) (x : Int) : Oc w (wr.setCell ⟨w.heap.size, j, none⟩ (.int .i64 x)) n b (updI f j x) h nd :=
  ⟨hO.pos.set j x, vs_other hO.neg (by omega) _, nb_other hO.nod (by have := hO.lt; omega) _, hO.lt, hO.bel.setCell (Nat.le_refl _) _⟩
theorem Oc.setN (hO : Oc w wr n b f h nd) (j : Nat) (x : Int) : Oc w (wr.setCell ⟨w.heap.size + 1, j, none⟩ (.int .i64 x)) n b f (updI h j x) nd :=
  ⟨vs_other hO.pos (by omega) _, hO.neg.set j x, nb_other hO.nod (by have := hO.lt; omega) _, hO.lt, hO.bel.setCell (Nat.le_succ _) _⟩
theorem Oc.drew (hO : Oc w wr n b f h nd) : Oc w wr.drew n b f h nd := ⟨hO.pos, hO.neg, hO.nod, hO.lt, hO.bel.drew⟩
theorem Oc.alloc (hO : Oc w wr n b f h nd) (o : Obj) : Oc w (wr.alloc o) n b f h nd :=
  ⟨(Below.heap_alloc _ _ _ hO.pos.lt).trans hO.pos, (Below.heap_alloc _ _ _ hO.neg.lt).trans hO.neg, (Below.heap_alloc _ _ _ (lt_of_block hO.nod)).trans hO.nod, hO.lt, hO.bel.alloc hO.bel.size _⟩
end
section
variable {ops : Array Oper} {Q : Exit → Act → World → Prop} {S : World → Prop} {fuel : Nat} {listed : Array Bool} {a : Act} {w : World}
/-- An operation behind a guard that is shut. -/
theorem takeU (i : Nat) (d : Option Tmp) {oi : Oper} (hi : ops[i]? = some oi) (hd : oi.dst = d) (hs : Region.noSelect ops = true) (hf : Region.free .any ops listed i = true) (hr : (Region.ready .any ops listed).contains i = true)
    (hQ : ∀ c a w, Q (.panic c) (a.put d undef) w → Q (.panic c) a w) (hw : Region.wanted oi (yielded ops a.tmps) = false) (hSw : S w)
    (h : wpAnyH Tryz.prog .any ops Q S fuel (listed.setIfInBounds i true) (a.put d undef) w) : wpAnyH Tryz.prog .any ops Q S (fuel + 1) listed a w := by
  subst hd
  exact wpAnyH_take hi hs hf hr hQ (.inr ⟨hw, rfl⟩) hSw h
end
def RG (f : Nat → Int) : Prop := ∀ j, 0 ≤ f j ∧ f j ≤ 1099511627776
theorem rg_upd {f : Nat → Int} (h : RG f) {x : Int} (hx : 0 ≤ x ∧ x ≤ 1099511627776) (i : Nat) : RG (updI f i (Ms.sm (f i) x)) := by
  intro j
  unfold updI
  by_cases e : j = i
  · rw [if_pos e]
    have := h i
    unfold Ms.sm
    by_cases h2 : f i + x > Ms.M
    · rw [if_pos h2]; unfold Ms.M; omega
    · rw [if_neg h2]; unfold Ms.M at h2; omega
  · rw [if_neg e]; exact h j
def occQ (t : List Nd) (part i : Int) : Int × Int × Int := if Fm.has t part && Fm.has t i then ((Ms.plc t i.toNat part.toNat).1, (Ms.plc t i.toNat part.toNat).2, 0) else (0, 0, 31)
set_option maxHeartbeats 400000 in
theorem roccurs_out (w : World) {c : Nat} {u : Value} {t : List Nd} (hT : Tr w c u t) (part i : Int) (h : (Fm.has t part && Fm.has t i) = false) :
    Calls Tryz.prog 21 #[.pointer (some ⟨c, 0, none⟩), .int .i64 part, .int .i64 i] w fun e w' => e = .returned (.tuple #[.int .i64 0, .int .i64 0, .int .i64 31]) ∧ w' = w := by
  have K1 := show Hid (Calls Tryz.prog 12 #[.pointer (some ⟨c, 0, none⟩), .int .i64 part] w fun e w'' => e = .returned (.bool (Fm.has t part)) ∧ w'' = w) from rhas_any (w := w) hT part
  have K2 := show Hid (Calls Tryz.prog 12 #[.pointer (some ⟨c, 0, none⟩), .int .i64 i] w fun e w'' => e = .returned (.bool (Fm.has t i)) ∧ w'' = w) from rhas_any (w := w) hT i
  clear hT
  generalize Fm.has t part = x at *
  generalize Fm.has t i = y at *
  cases x
  · go_enter Tryz.func21, Tryz.ntmps21
    go_wp2_with fail
    refine K1.out.mono ?_
    rintro e w' ⟨rfl, hw'⟩
    subst w'
    go_wp2_with fail
    refine bodyPost_ret (results_threeN rfl _ _ ()) rfl ?_
    exact ⟨rfl, rfl⟩
  · cases y
    · go_enter Tryz.func21, Tryz.ntmps21
      go_wp2_with fail
      refine K1.out.mono ?_
      rintro e w' ⟨rfl, hw'⟩
      subst w'
      go_wp2_with fail
      refine K2.out.mono ?_
      rintro e w' ⟨rfl, hw'⟩
      subst w'
      go_wp2_with fail
      refine bodyPost_ret (results_threeN rfl _ _ ()) rfl ?_
      exact ⟨rfl, rfl⟩
    · cases h
set_option maxRecDepth 100000 in
set_option maxHeartbeats 4000000 in
theorem roccurs_in (w : World) {c : Nat} {u : Value} {t : List Nd} (hT : Tr w c u t) (p id : Nat) (hp : p < t.length) (hid : id < t.length) :
    Calls Tryz.prog 21 #[.pointer (some ⟨c, 0, none⟩), .int .i64 (p : Int), .int .i64 (id : Int)] w fun e w' => e = .returned (.tuple #[.int .i64 (Ms.plc t id p).1, .int .i64 (Ms.plc t id p).2, .int .i64 0]) ∧ Below w.heap.size w w' := by
  have hok := hT.ok
  have hlen := hok.len
  have hmk : ∀ w : World, (Instr.makeSlice 33 (.int .i64 (t.length : Int)) (.int .i64 (t.length : Int))).run Tryz.prog w = .ok (.slice (some ⟨w.heap.size, 0, none⟩) t.length t.length) (w.alloc (.cells (madeCells #[.int .i64 0] t.length) 3)) := fun w => by
    have h := run_make_row' (P := Tryz.prog) 33 3 (.int .i64 0) 8 Tryz.underlying33 info_int rfl .i64 .i64 t.length (by omega) (by omega) w
    exact h
  obtain ⟨pp, cp, hv, hc1, hc2, hat⟩ := hT.row.isR
  have hc0 := hT.c0
  rw [hv] at hc0
  have K1 := show Hid (Calls Tryz.prog 12 #[.pointer (some ⟨c, 0, none⟩), .int .i64 (p : Int)] w fun e w'' => e = .returned (.bool true) ∧ w'' = w) from by
    have h := rhas_any (w := w) hT (p : Int)
    rw [Fm.has_iff.2 ⟨by omega, by omega⟩] at h
    exact h
  have K2 := show Hid (Calls Tryz.prog 12 #[.pointer (some ⟨c, 0, none⟩), .int .i64 (id : Int)] w fun e w'' => e = .returned (.bool true) ∧ w'' = w) from by
    have h := rhas_any (w := w) hT (id : Int)
    rw [Fm.has_iff.2 ⟨by omega, by omega⟩] at h
    exact h
  have HR := show Hid (∀ w', Below w.heap.size w w' → w'.cell? ⟨c, 0, none⟩ = some (.slice pp t.length cp) ∧ ∀ k (hk : k < t.length), ∃ rg ro, pp = some ⟨rg, ro, none⟩ ∧ At4 w' rg (ro + k * 4) (Ms.row t k)) from fun w' hb => by
    have hT' := hT.later hb
    obtain ⟨p2, cp2, hv2, _, _, hat2⟩ := hT'.row.isR
    rw [hv] at hv2
    obtain ⟨rfl, _, rfl⟩ := Value.slice.inj hv2
    refine ⟨by rw [← hv]; exact hT'.c0, fun k hk => ?_⟩
    obtain ⟨rg, ro, hp, h4⟩ := hat2 (by omega)
    exact ⟨rg, ro, hp, by rw [Ms.row_at hk]; exact h4 k hk⟩
  have HP := show Hid (∀ k, k < t.length → Fm.jn (Ms.row t k).k = true → (Ms.row t k).l.toNat < k ∧ (Ms.row t k).r.toNat < k ∧ 0 ≤ (Ms.row t k).l ∧ 0 ≤ (Ms.row t k).r) from fun k hk h => Ms.parts_lt hok hk h
  have HKD := show Hid (∀ k (hk : k < t.length), (Ms.row t k).k = 1 ∨ (Ms.row t k).k = 2 ∨ Fm.jn (Ms.row t k).k = true) from fun k hk => by rw [Ms.row_at hk]; exact Fm.ok_kind hok hk
  have HIN := show Hid (∀ k, Ms.Inr (Ms.from_ Ms.ms t id k)) from fun k => Ms.inr_from t id k
  have HSTEP := show Hid (∀ k, k < id + 1 → Ms.from_ Ms.ms t id k = Ms.stp t k (Ms.from_ Ms.ms t id (k + 1))) from fun k hk => Ms.from_step _ t id k hk
  have HTOP := show Hid (Ms.from_ Ms.ms t id (id + 1) = Ms.c0 id) from Ms.from_top _ t id
  have HAT := show Hid (∀ k, k ≤ id → Ms.plc t id k = Ms.from_ Ms.ms t id (k + 1) k) from fun k hk => Ms.plc_at hok hid hk
  have HAB := show Hid (∀ k, id < k → Ms.plc t id k = (0, 0)) from fun k hk => Ms.plc_above hok hid hk
  have HSK := show Hid (∀ {i : Nat} {c : Ms.C}, Ms.Inr c → (Fm.jn (Ms.row t i).k = false ∨ (c i).1 + (c i).2 = 0) → Ms.stp t i c = c) from fun hc h => Ms.occ_skip hc h
  have HOS := show Hid (∀ {i l r : Nat} (hj : Fm.jn (Ms.row t i).k = true) (hl : (Ms.row t i).l.toNat = l) (hr : (Ms.row t i).r.toNat = r) {c : Ms.C} (hc : Ms.Inr c) {f g : Nat → Int} (hf : ∀ j, (f j, g j) = c j) (j : Nat), (updI (updI f l (Ms.sm (f l) (Ms.turn (Ms.row t i).k (c i)).1)) r (Ms.sm (updI f l (Ms.sm (f l) (Ms.turn (Ms.row t i).k (c i)).1) r) (f i)) j, updI (updI g l (Ms.sm (g l) (Ms.turn (Ms.row t i).k (c i)).2)) r (Ms.sm (updI g l (Ms.sm (g l) (Ms.turn (Ms.row t i).k (c i)).2) r) (g i)) j) = Ms.stp t i c j) from fun hj hl hr _ hc _ _ hf j => Ms.occ_step hj hl hr hc hf j
  clear hT hat hv hok
  have hidi : (id : Int) < (t.length : Int) := by omega
  have hpi : (p : Int) < (t.length : Int) := by omega
  go_enter Tryz.func21, Tryz.ntmps21
  go_wp2_with fail
  refine K1.out.mono ?_
  rintro e w' ⟨rfl, hw'⟩
  subst w'
  clear K1
  go_wp2_with fail
  refine K2.out.mono ?_
  rintro e w' ⟨rfl, hw'⟩
  subst w'
  clear K2
  have a1 := (HR.out _ (below_alloc w (.cells (madeCells #[.int .i64 0] t.length) 3))).1
  have HBW := show Hid (Below w.heap.size w ((w.alloc (.cells (madeCells #[.int .i64 0] t.length) 3)).alloc (.cells (madeCells #[.int .i64 0] t.length) 3))) from (below_alloc w _).alloc (below_alloc w _).size _
  have hsz : (w.alloc (.cells (madeCells #[.int .i64 0] t.length) 3)).heap.size = w.heap.size + 1 := by simp
  have HVP := show Hid (Vs ((w.alloc (.cells (madeCells #[.int .i64 0] t.length) 3)).alloc (.cells (madeCells #[.int .i64 0] t.length) 3)) w.heap.size t.length (fun _ => 0)) from (Below.heap_alloc _ _ _ (vs_made w t.length).lt).trans (vs_made w t.length)
  have HVN := show Hid (Vs ((w.alloc (.cells (madeCells #[.int .i64 0] t.length) 3)).alloc (.cells (madeCells #[.int .i64 0] t.length) 3)) (w.heap.size + 1) t.length (fun _ => 0)) from by
    have h := vs_made (w.alloc (.cells (madeCells #[.int .i64 0] t.length) 3)) t.length
    rw [hsz] at h
    exact h
  have b0 := HVP.out.cell (j := id) hid
  have bf := HVP.out.fr
  go_wp2_with fail

  have HI0 := show Hid (Vs ((w.alloc (.cells ((madeCells #[.int .i64 0] t.length).setIfInBounds id (.int .i64 1)) 3)).alloc (.cells (madeCells #[.int .i64 0] t.length) 3)) w.heap.size t.length (updI (fun _ => 0) id 1) ∧ Vs ((w.alloc (.cells ((madeCells #[.int .i64 0] t.length).setIfInBounds id (.int .i64 1)) 3)).alloc (.cells (madeCells #[.int .i64 0] t.length) 3)) (w.heap.size + 1) t.length (fun _ => 0) ∧ (∀ j, (updI (fun _ => 0) id 1 j, (0 : Int)) = Ms.from_ Ms.ms t id (id + 1) j) ∧ Below w.heap.size w ((w.alloc (.cells ((madeCells #[.int .i64 0] t.length).setIfInBounds id (.int .i64 1)) 3)).alloc (.cells (madeCells #[.int .i64 0] t.length) 3))) from by
    refine ⟨?_, ?_, fun j => ?_, (below_alloc w _).alloc (below_alloc w _).size _⟩
    · have h := (vs_made w t.length).set id 1
      unfold Vs at h ⊢
      rw [heap_setCell_same _ _ _ _ _ _ (heap_alloc_new w _)] at h
      rw [Below.heap_alloc _ _ _ (by simp), heap_alloc_new]
      exact h
    · have h := vs_made (w.alloc (.cells ((madeCells #[.int .i64 0] t.length).setIfInBounds id (.int .i64 1)) 3)) t.length
      rw [show (w.alloc (.cells ((madeCells #[.int .i64 0] t.length).setIfInBounds id (.int .i64 1)) 3)).heap.size = w.heap.size + 1 from by simp] at h
      exact h
    · rw [HTOP.out]
      unfold updI Ms.c0
      by_cases e : j = id
      · rw [if_pos e, if_pos e]
      · rw [if_neg e, if_neg e]
  clear a1 HBW hsz HVP HVN b0 bf hmk hc0 HTOP
  generalize ((w.alloc (.cells ((madeCells #[.int .i64 0] t.length).setIfInBounds id (.int .i64 1)) 3)).alloc (.cells (madeCells #[.int .i64 0] t.length) 3)) = wx at *
  go_loopw [11] (fun iv wr => ∃ (k : Nat) (f h : Nat → Int), k ≤ id ∧ (k = id ∨ p ≤ k) ∧ iv = .int .i64 (k : Int) ∧ Hid (Vs wr w.heap.size t.length f ∧ Vs wr (w.heap.size + 1) t.length h ∧ (∀ j, (f j, h j) = Ms.from_ Ms.ms t id (k + 1) j) ∧ Below w.heap.size w wr)) (fun iv _ => (intOf iv).toNat)
  case atStart => exact ⟨id, _, _, Nat.le_refl _, Or.inl rfl, rfl, HI0⟩
  case round =>
    obtain ⟨k, f, h, hk, hkp, rfl, HI⟩ := hrel
    clear HI0
    by_cases hlt : p < k
    · have hki : (k : Int) < (t.length : Int) := by omega
      have hkpi : (k : Int) > (p : Int) := by omega
      obtain ⟨hcc, hrow⟩ := HR.out wr HI.out.2.2.2
      obtain ⟨rg, ro, rfl, hA⟩ := hrow k (by omega)
      have a0 := hA.c0; have a1 := hA.c1; have a2 := hA.c2; have a3 := hA.c3
      have HKD2 := show Hid _ from HKD.out k (by omega)
      have HP2 := show Hid _ from HP.out k (by omega)
      have HST2 := show Hid _ from HSTEP.out k (by omega)
      have HSK2 := show Hid (∀ {c : Ms.C}, Ms.Inr c → (Fm.jn (Ms.row t k).k = false ∨ (c k).1 + (c k).2 = 0) → Ms.stp t k c = c) from fun hc h => HSK.out hc h
      have HOS2 := show Hid (∀ {l r : Nat} (hj : Fm.jn (Ms.row t k).k = true) (hl : (Ms.row t k).l.toNat = l) (hr : (Ms.row t k).r.toNat = r) {c : Ms.C} (hc : Ms.Inr c) {f g : Nat → Int} (hf : ∀ j, (f j, g j) = c j) (j : Nat), (updI (updI f l (Ms.sm (f l) (Ms.turn (Ms.row t k).k (c k)).1)) r (Ms.sm (updI f l (Ms.sm (f l) (Ms.turn (Ms.row t k).k (c k)).1) r) (f k)) j, updI (updI g l (Ms.sm (g l) (Ms.turn (Ms.row t k).k (c k)).2)) r (Ms.sm (updI g l (Ms.sm (g l) (Ms.turn (Ms.row t k).k (c k)).2) r) (g k)) j) = Ms.stp t k c j) from fun hj hl hr _ hc _ _ hf j => HOS.out hj hl hr hc hf j
      have HI3 := show Hid (∀ j, 0 ≤ f j ∧ f j ≤ 1099511627776 ∧ 0 ≤ h j ∧ h j ≤ 1099511627776) from fun j => by
        have h1 := HIN.out (k + 1) j
        rw [← HI.out.2.2.1 j] at h1
        exact h1
      have hwsz : w.heap.size + 1 < wr.heap.size := HI.out.2.1.lt
      have HIN' := HIN.out (k + 1)
      clear HR HP HKD HSK HOS HSTEP hrow hA HAT HAB HIN
      have HIN := show Hid (Ms.Inr (Ms.from_ Ms.ms t id (k + 1))) from HIN'
      clear HIN'
      have KT := show Hid (∀ w : World, Calls Tryz.prog 43 #[.agg #[.int .i64 (Ms.row t k).k, .string (Ms.row t k).s, .int .i64 (Ms.row t k).l, .int .i64 (Ms.row t k).r]] w fun e w' => e = .returned (.bool (Fm.jn (Ms.row t k).k)) ∧ w' = w.alloc (Obj.cells #[.int .i64 (Ms.row t k).k, .string (Ms.row t k).s, .int .i64 (Ms.row t k).l, .int .i64 (Ms.row t k).r] 72)) from fun w => two_any w _ HKD2.out
      clear HKD2
      generalize Ms.row t k = nd at *
      obtain ⟨nk, ns, nl, nr⟩ := nd
      simp only at a0 a1 a2 a3 KT HP2 HSK2 HOS2
      have HO := show Hid (Oc w (wr.alloc (Obj.cells #[.int .i64 nk, .string ns, .int .i64 nl, .int .i64 nr] 72)) t.length wr.heap.size f h ⟨nk, ns, nl, nr⟩) from
        ⟨(Below.heap_alloc _ _ _ HI.out.1.lt).trans HI.out.1, (Below.heap_alloc _ _ _ HI.out.2.1.lt).trans HI.out.2.1, heap_alloc_new _ _, hwsz, HI.out.2.2.2.alloc HI.out.2.2.2.size _⟩
      have HF := show Hid (∀ j, (f j, h j) = Ms.from_ Ms.ms t id (k + 1) j) from HI.out.2.2.1
      clear HI
      generalize Ms.from_ Ms.ms t id (k + 1) = cc at *
      go_wp2_with fail
      clear a0 a1 a2 a3 hcc
      generalize wr.alloc (Obj.cells #[.int .i64 nk, .string ns, .int .i64 nl, .int .i64 nr] 72) = w3 at *
      generalize wr.heap.size = b at *
      refine wp_region_held_drew (S := fun wx => Oc w wx t.length b f h ⟨nk, ns, nl, nr⟩) (by kernel_rfl) HO.out.drew (fun hH => ?_)
      clear HO
      refine takeV 0 (some 53) (.agg #[.int .i64 nk, .string ns, .int .i64 nl, .int .i64 nr]) rfl rfl (by kernel_rfl) (by kernel_rfl) (by kernel_rfl) (fun _ _ _ h => h) rfl (fun wx hx => by obtain ⟨c0, c1, c2, c3⟩ := hx.nod.cells; simp only at c0 c1 c2 c3; go_simp) hH ?_
      simp only [Act.put, List.setIfInBounds_toArray, List.set_cons_zero, List.set_cons_succ]
      refine oneH 1 (by kernel_rfl) rfl (stepC 1 (some 54) rfl rfl 43 _ _ rfl [.agg #[.int .i64 nk, .string ns, .int .i64 nl, .int .i64 nr]] rfl (fun _ _ => Tryz.call43 _ _) ?_)
      refine (KT.out _).mono ?_
      rintro e w' ⟨rfl, rfl⟩
      refine ⟨_, rfl, hH.alloc _, fun hH => ?_⟩
      simp only [Act.put, List.setIfInBounds_toArray, List.set_cons_zero, List.set_cons_succ]
      clear KT
      cases hjn : Fm.jn nk
      · refine takeV 2 (some 55) (.bool true) rfl rfl (by kernel_rfl) (by kernel_rfl) (by kernel_rfl) (fun _ _ _ h => h) rfl (fun wx hx => by go_simp) hH ?_
        simp only [Act.put, List.setIfInBounds_toArray, List.set_cons_zero, List.set_cons_succ]
        refine takeV 3 (some 56) (.bool true) rfl rfl (by kernel_rfl) (by kernel_rfl) (by kernel_rfl) (fun _ _ _ h => h) rfl (fun wx hx => by go_simp) hH ?_
        simp only [Act.put, List.setIfInBounds_toArray, List.set_cons_zero, List.set_cons_succ]
        refine takeU 4 (some 57) rfl rfl (by kernel_rfl) (by kernel_rfl) (by kernel_rfl) (fun _ _ _ h => h) rfl hH ?_
        simp only [Act.put, List.setIfInBounds_toArray, List.set_cons_zero, List.set_cons_succ]
        refine takeU 5 (some 58) rfl rfl (by kernel_rfl) (by kernel_rfl) (by kernel_rfl) (fun _ _ _ h => h) rfl hH ?_
        simp only [Act.put, List.setIfInBounds_toArray, List.set_cons_zero, List.set_cons_succ]
        refine takeU 6 (some 59) rfl rfl (by kernel_rfl) (by kernel_rfl) (by kernel_rfl) (fun _ _ _ h => h) rfl hH ?_
        simp only [Act.put, List.setIfInBounds_toArray, List.set_cons_zero, List.set_cons_succ]
        refine takeU 7 (some 60) rfl rfl (by kernel_rfl) (by kernel_rfl) (by kernel_rfl) (fun _ _ _ h => h) rfl hH ?_
        simp only [Act.put, List.setIfInBounds_toArray, List.set_cons_zero, List.set_cons_succ]
        refine takeU 8 (some 61) rfl rfl (by kernel_rfl) (by kernel_rfl) (by kernel_rfl) (fun _ _ _ h => h) rfl hH ?_
        simp only [Act.put, List.setIfInBounds_toArray, List.set_cons_zero, List.set_cons_succ]
        refine takeU 9 (some 62) rfl rfl (by kernel_rfl) (by kernel_rfl) (by kernel_rfl) (fun _ _ _ h => h) rfl hH ?_
        simp only [Act.put, List.setIfInBounds_toArray, List.set_cons_zero, List.set_cons_succ]
        refine takeU 10 (some 63) rfl rfl (by kernel_rfl) (by kernel_rfl) (by kernel_rfl) (fun _ _ _ h => h) rfl hH ?_
        simp only [Act.put, List.setIfInBounds_toArray, List.set_cons_zero, List.set_cons_succ]
        refine takeU 11 (some 64) rfl rfl (by kernel_rfl) (by kernel_rfl) (by kernel_rfl) (fun _ _ _ h => h) rfl hH ?_
        simp only [Act.put, List.setIfInBounds_toArray, List.set_cons_zero, List.set_cons_succ]
        refine takeU 12 (some 65) rfl rfl (by kernel_rfl) (by kernel_rfl) (by kernel_rfl) (fun _ _ _ h => h) rfl hH ?_
        simp only [Act.put, List.setIfInBounds_toArray, List.set_cons_zero, List.set_cons_succ]
        refine takeU 13 (some 66) rfl rfl (by kernel_rfl) (by kernel_rfl) (by kernel_rfl) (fun _ _ _ h => h) rfl hH ?_
        simp only [Act.put, List.setIfInBounds_toArray, List.set_cons_zero, List.set_cons_succ]
        refine takeV 14 (some 67) (.bool true) rfl rfl (by kernel_rfl) (by kernel_rfl) (by kernel_rfl) (fun _ _ _ h => h) rfl (fun wx hx => by go_simp) hH ?_
        simp only [Act.put, List.setIfInBounds_toArray, List.set_cons_zero, List.set_cons_succ]
        refine wpAnyH_done (by kernel_rfl) ?_ _
        have HN := show Hid (Vs _ w.heap.size t.length f ∧ Vs _ (w.heap.size + 1) t.length h ∧ (∀ j, (f j, h j) = Ms.from_ Ms.ms t id (k - 1 + 1) j) ∧ Below w.heap.size w _) from ⟨hH.pos, hH.neg, fun j => by rw [show k - 1 + 1 = k from by omega, HST2.out, HSK2.out HIN.out (Or.inl hjn)]; exact HF.out j, hH.bel⟩
        clear hH HF HST2 HSK2 HOS2 HP2
        generalize World.alloc _ _ = w4 at *
        go_wp2_with fail
        go_roundw
        case rel => exact ⟨k - 1, _, _, by omega, Or.inr (by omega), by have : ((k - 1 : Nat) : Int) = (k : Int) - 1 := by omega
                                                                        rw [this], HN⟩
        case measure => simp [intOf]; omega
      · obtain ⟨hpl, hpr, hl0, hr0⟩ := HP2.out hjn
        obtain ⟨jl, rfl⟩ : ∃ jl : Nat, nl = jl := ⟨nl.toNat, by omega⟩
        obtain ⟨jr, rfl⟩ : ∃ jr : Nat, nr = jr := ⟨nr.toNat, by omega⟩
        simp only [Int.toNat_natCast] at hpl hpr HOS2
        have hjli : (jl : Int) < (t.length : Int) := by omega
        have hjri : (jr : Int) < (t.length : Int) := by omega
        obtain ⟨hf0, hf1, hh0, hh1⟩ := HI3.out k
        have Rf := show Hid (RG f) from fun j => ⟨(HI3.out j).1, (HI3.out j).2.1⟩
        have Rh := show Hid (RG h) from fun j => (HI3.out j).2.2
        clear HI3 HP2
        refine takeV 2 (some 55) (.bool false) rfl rfl (by kernel_rfl) (by kernel_rfl) (by kernel_rfl) (fun _ _ _ h => h) rfl (fun wx hx => by go_simp) hH ?_
        simp only [Act.put, List.setIfInBounds_toArray, List.set_cons_zero, List.set_cons_succ]
        refine takeV 3 (some 56) (.bool false) rfl rfl (by kernel_rfl) (by kernel_rfl) (by kernel_rfl) (fun _ _ _ h => h) rfl (fun wx hx => by go_simp) hH ?_
        simp only [Act.put, List.setIfInBounds_toArray, List.set_cons_zero, List.set_cons_succ]
        refine takeV 4 (some 57) (.slice (some ⟨w.heap.size, 0, none⟩) t.length t.length) rfl rfl (by kernel_rfl) (by kernel_rfl) (by kernel_rfl) (fun _ _ _ h => h) rfl (fun wx hx => by go_simp) hH ?_
        simp only [Act.put, List.setIfInBounds_toArray, List.set_cons_zero, List.set_cons_succ]
        refine takeV 5 (some 58) (.int .i64 (k : Int)) rfl rfl (by kernel_rfl) (by kernel_rfl) (by kernel_rfl) (fun _ _ _ h => h) rfl (fun wx hx => by go_simp) hH ?_
        simp only [Act.put, List.setIfInBounds_toArray, List.set_cons_zero, List.set_cons_succ]
        refine takeV 6 (some 59) (.pointer (some ⟨w.heap.size, k, none⟩)) rfl rfl (by kernel_rfl) (by kernel_rfl) (by kernel_rfl) (fun _ _ _ h => h) rfl (fun wx hx => by go_simp) hH ?_
        simp only [Act.put, List.setIfInBounds_toArray, List.set_cons_zero, List.set_cons_succ]
        refine takeV 7 (some 60) (.int .i64 (f k)) rfl rfl (by kernel_rfl) (by kernel_rfl) (by kernel_rfl) (fun _ _ _ h => h) rfl (fun wx hx => by have hcc := hx.pos.cell (j := k) (by omega); go_simp) hH ?_
        simp only [Act.put, List.setIfInBounds_toArray, List.set_cons_zero, List.set_cons_succ]
        refine takeV 8 (some 61) (.slice (some ⟨w.heap.size + 1, 0, none⟩) t.length t.length) rfl rfl (by kernel_rfl) (by kernel_rfl) (by kernel_rfl) (fun _ _ _ h => h) rfl (fun wx hx => by go_simp) hH ?_
        simp only [Act.put, List.setIfInBounds_toArray, List.set_cons_zero, List.set_cons_succ]
        refine takeV 9 (some 62) (.int .i64 (k : Int)) rfl rfl (by kernel_rfl) (by kernel_rfl) (by kernel_rfl) (fun _ _ _ h => h) rfl (fun wx hx => by go_simp) hH ?_
        simp only [Act.put, List.setIfInBounds_toArray, List.set_cons_zero, List.set_cons_succ]
        refine takeV 10 (some 63) (.pointer (some ⟨w.heap.size + 1, k, none⟩)) rfl rfl (by kernel_rfl) (by kernel_rfl) (by kernel_rfl) (fun _ _ _ h => h) rfl (fun wx hx => by go_simp) hH ?_
        simp only [Act.put, List.setIfInBounds_toArray, List.set_cons_zero, List.set_cons_succ]
        refine takeV 11 (some 64) (.int .i64 (h k)) rfl rfl (by kernel_rfl) (by kernel_rfl) (by kernel_rfl) (fun _ _ _ h => h) rfl (fun wx hx => by have hcc := hx.neg.cell (j := k) (by omega); go_simp) hH ?_
        simp only [Act.put, List.setIfInBounds_toArray, List.set_cons_zero, List.set_cons_succ]
        refine takeV 12 (some 65) (.int .i64 (f k + h k)) rfl rfl (by kernel_rfl) (by kernel_rfl) (by kernel_rfl) (fun _ _ _ h => h) rfl (fun wx hx => by go_simp; rw [IntKind.wrap_i64]; omega) hH ?_
        simp only [Act.put, List.setIfInBounds_toArray, List.set_cons_zero, List.set_cons_succ]
        by_cases hz : f k + h k = 0
        · refine takeV 13 (some 66) (.bool true) rfl rfl (by kernel_rfl) (by kernel_rfl) (by kernel_rfl) (fun _ _ _ h => h) rfl (fun wx hx => by have hq : (f k + h k == 0) = true := (by rw [hz]; rfl); go_simp) hH ?_
          simp only [Act.put, List.setIfInBounds_toArray, List.set_cons_zero, List.set_cons_succ]
          refine takeV 14 (some 67) (.bool true) rfl rfl (by kernel_rfl) (by kernel_rfl) (by kernel_rfl) (fun _ _ _ h => h) rfl (fun wx hx => by go_simp) hH ?_
          simp only [Act.put, List.setIfInBounds_toArray, List.set_cons_zero, List.set_cons_succ]
          refine wpAnyH_done (by kernel_rfl) ?_ _
          have HN := show Hid (Vs _ w.heap.size t.length f ∧ Vs _ (w.heap.size + 1) t.length h ∧ (∀ j, (f j, h j) = Ms.from_ Ms.ms t id (k - 1 + 1) j) ∧ Below w.heap.size w _) from ⟨hH.pos, hH.neg, fun j => by rw [show k - 1 + 1 = k from by omega, HST2.out, HSK2.out HIN.out (Or.inr (by rw [← HF.out k]; exact hz))]; exact HF.out j, hH.bel⟩
          clear hH HF HST2 HSK2 HOS2
          generalize World.alloc _ _ = w4 at *
          go_wp2_with fail
          go_roundw
          case rel => exact ⟨k - 1, _, _, by omega, Or.inr (by omega), by have : ((k - 1 : Nat) : Int) = (k : Int) - 1 := by omega
                                                                          rw [this], HN⟩
          case measure => simp [intOf]; omega
        · refine takeV 13 (some 66) (.bool false) rfl rfl (by kernel_rfl) (by kernel_rfl) (by kernel_rfl) (fun _ _ _ h => h) rfl (fun wx hx => by have hq : (f k + h k == 0) = false := beq_eq_false_iff_ne.2 hz; go_simp) hH ?_
          simp only [Act.put, List.setIfInBounds_toArray, List.set_cons_zero, List.set_cons_succ]
          refine takeV 14 (some 67) (.bool false) rfl rfl (by kernel_rfl) (by kernel_rfl) (by kernel_rfl) (fun _ _ _ h => h) rfl (fun wx hx => by go_simp) hH ?_
          simp only [Act.put, List.setIfInBounds_toArray, List.set_cons_zero, List.set_cons_succ]
          refine wpAnyH_done (by kernel_rfl) ?_ _
          have HO := show Hid (Oc w _ t.length b f h ⟨nk, ns, jl, jr⟩) from hH
          generalize World.alloc _ _ = w4 at *
          clear hH HSK2
          go_wp2_with fail
          refine wp_region_held_drew (S := fun wx => Oc w wx t.length b f h ⟨nk, ns, jl, jr⟩) (by kernel_rfl) HO.out.drew (fun hH => ?_)
          refine takeV 0 (some 68) (.slice (some ⟨w.heap.size, 0, none⟩) t.length t.length) rfl rfl (by kernel_rfl) (by kernel_rfl) (by kernel_rfl) (fun _ _ _ h => h) rfl (fun wx hx => by go_simp) hH ?_
          simp only [Act.put, List.setIfInBounds_toArray, List.set_cons_zero, List.set_cons_succ]
          refine takeV 1 (some 69) (.int .i64 (k : Int)) rfl rfl (by kernel_rfl) (by kernel_rfl) (by kernel_rfl) (fun _ _ _ h => h) rfl (fun wx hx => by go_simp) hH ?_
          simp only [Act.put, List.setIfInBounds_toArray, List.set_cons_zero, List.set_cons_succ]
          refine takeV 2 (some 70) (.pointer (some ⟨w.heap.size, k, none⟩)) rfl rfl (by kernel_rfl) (by kernel_rfl) (by kernel_rfl) (fun _ _ _ h => h) rfl (fun wx hx => by go_simp) hH ?_
          simp only [Act.put, List.setIfInBounds_toArray, List.set_cons_zero, List.set_cons_succ]
          refine takeV 3 (some 71) (.int .i64 (f k)) rfl rfl (by kernel_rfl) (by kernel_rfl) (by kernel_rfl) (fun _ _ _ h => h) rfl (fun wx hx => by have hcc := hx.pos.cell (j := k) (by omega); go_simp) hH ?_
          simp only [Act.put, List.setIfInBounds_toArray, List.set_cons_zero, List.set_cons_succ]
          refine takeV 4 (some 72) (.slice (some ⟨w.heap.size + 1, 0, none⟩) t.length t.length) rfl rfl (by kernel_rfl) (by kernel_rfl) (by kernel_rfl) (fun _ _ _ h => h) rfl (fun wx hx => by go_simp) hH ?_
          simp only [Act.put, List.setIfInBounds_toArray, List.set_cons_zero, List.set_cons_succ]
          refine takeV 5 (some 73) (.int .i64 (k : Int)) rfl rfl (by kernel_rfl) (by kernel_rfl) (by kernel_rfl) (fun _ _ _ h => h) rfl (fun wx hx => by go_simp) hH ?_
          simp only [Act.put, List.setIfInBounds_toArray, List.set_cons_zero, List.set_cons_succ]
          refine takeV 6 (some 74) (.pointer (some ⟨w.heap.size + 1, k, none⟩)) rfl rfl (by kernel_rfl) (by kernel_rfl) (by kernel_rfl) (fun _ _ _ h => h) rfl (fun wx hx => by go_simp) hH ?_
          simp only [Act.put, List.setIfInBounds_toArray, List.set_cons_zero, List.set_cons_succ]
          refine takeV 7 (some 75) (.int .i64 (h k)) rfl rfl (by kernel_rfl) (by kernel_rfl) (by kernel_rfl) (fun _ _ _ h => h) rfl (fun wx hx => by have hcc := hx.neg.cell (j := k) (by omega); go_simp) hH ?_
          simp only [Act.put, List.setIfInBounds_toArray, List.set_cons_zero, List.set_cons_succ]
          refine takeV 8 (some 13) (.int .i64 (f k)) rfl rfl (by kernel_rfl) (by kernel_rfl) (by kernel_rfl) (fun _ _ _ h => h) rfl (fun wx hx => by go_simp) hH ?_
          simp only [Act.put, List.setIfInBounds_toArray, List.set_cons_zero, List.set_cons_succ]
          refine takeV 9 (some 14) (.int .i64 (h k)) rfl rfl (by kernel_rfl) (by kernel_rfl) (by kernel_rfl) (fun _ _ _ h => h) rfl (fun wx hx => by go_simp) hH ?_
          simp only [Act.put, List.setIfInBounds_toArray, List.set_cons_zero, List.set_cons_succ]
          refine wpAnyH_done (by kernel_rfl) ?_ _
          clear HO
          have HO := show Hid (Oc w _ t.length b f h ⟨nk, ns, jl, jr⟩) from hH
          generalize World.drew _ = w5 at *
          clear hH
          obtain ⟨c0, c1, c2, c3⟩ := HO.out.nod.cells
          simp only at c0 c1 c2 c3
          have hck : cc k = (f k, h k) := (HF.out k).symm
          by_cases h5 : nk = 5
          · subst h5
            have htu : Ms.turn 5 (cc k) = (h k, f k) := by rw [hck]; rfl
            have HOS3 := show Hid (∀ j, _) from fun j => HOS2.out hjn rfl rfl HIN.out HF.out j
            rw [htu] at HOS3
            simp only at HOS3
            clear htu hck HOS2 hjn
            go_wp2_with fail
            clear c0 c1 c2 c3
            refine wp_region_held_drew (S := fun wx => Nb wx b ⟨5, ns, jl, jr⟩) (by kernel_rfl) HO.out.drew.nod (fun hH => ?_)
            have HO2 := show Hid _ from HO.out.drew
            refine takeV 0 (some 79) (.slice (some ⟨w.heap.size, 0, none⟩) t.length t.length) rfl rfl (by kernel_rfl) (by kernel_rfl) (by kernel_rfl) (fun _ _ _ h => h) rfl (fun wx hx => by go_simp) hH ?_
            simp only [Act.put, List.setIfInBounds_toArray, List.set_cons_zero, List.set_cons_succ]
            refine takeV 1 (some 80) (.pointer (some ⟨b, 2, none⟩)) rfl rfl (by kernel_rfl) (by kernel_rfl) (by kernel_rfl) (fun _ _ _ h => h) rfl (fun wx hx => by go_simp) hH ?_
            simp only [Act.put, List.setIfInBounds_toArray, List.set_cons_zero, List.set_cons_succ]
            refine takeV 2 (some 81) (.int .i64 (jl : Int)) rfl rfl (by kernel_rfl) (by kernel_rfl) (by kernel_rfl) (fun _ _ _ h => h) rfl (fun wx hx => by have hcc := Nb.c2 hx; simp only at hcc; go_simp) hH ?_
            simp only [Act.put, List.setIfInBounds_toArray, List.set_cons_zero, List.set_cons_succ]
            refine takeV 3 (some 82) (.slice (some ⟨w.heap.size, 0, none⟩) t.length t.length) rfl rfl (by kernel_rfl) (by kernel_rfl) (by kernel_rfl) (fun _ _ _ h => h) rfl (fun wx hx => by go_simp) hH ?_
            simp only [Act.put, List.setIfInBounds_toArray, List.set_cons_zero, List.set_cons_succ]
            refine takeV 4 (some 83) (.pointer (some ⟨b, 2, none⟩)) rfl rfl (by kernel_rfl) (by kernel_rfl) (by kernel_rfl) (fun _ _ _ h => h) rfl (fun wx hx => by go_simp) hH ?_
            simp only [Act.put, List.setIfInBounds_toArray, List.set_cons_zero, List.set_cons_succ]
            refine takeV 5 (some 84) (.int .i64 (jl : Int)) rfl rfl (by kernel_rfl) (by kernel_rfl) (by kernel_rfl) (fun _ _ _ h => h) rfl (fun wx hx => by have hcc := Nb.c2 hx; simp only at hcc; go_simp) hH ?_
            simp only [Act.put, List.setIfInBounds_toArray, List.set_cons_zero, List.set_cons_succ]
            refine takeV 6 (some 85) (.pointer (some ⟨w.heap.size, jl, none⟩)) rfl rfl (by kernel_rfl) (by kernel_rfl) (by kernel_rfl) (fun _ _ _ h => h) rfl (fun wx hx => by go_simp) hH ?_
            simp only [Act.put, List.setIfInBounds_toArray, List.set_cons_zero, List.set_cons_succ]
            refine takeV 8 (some 87) (.int .i64 (h k)) rfl rfl (by kernel_rfl) (by kernel_rfl) (by kernel_rfl) (fun _ _ _ h => h) rfl (fun wx hx => by go_simp) hH ?_
            simp only [Act.put, List.setIfInBounds_toArray, List.set_cons_zero, List.set_cons_succ]
            have hcj := HO2.out.pos.cell (j := jl) (by omega)
            have hfr := HO2.out.pos.fr
            refine oneH 7 (by kernel_rfl) rfl (stepW 7 (some 86) (.int .i64 (f jl)) _ rfl rfl (by go_simp) hH (fun _ => ?_))
            simp only [Act.put, List.setIfInBounds_toArray, List.set_cons_zero, List.set_cons_succ]
            refine oneH 9 (by kernel_rfl) rfl (stepC 9 (some 88) rfl rfl 44 _ _ rfl [.int .i64 (f jl), .int .i64 (h k)] rfl (fun _ _ => Tryz.call44 _ _) ?_)
            refine (rsum_any _ _ _ (Rf.out jl) (Rh.out k)).mono ?_
            rintro e w' ⟨rfl, hw'⟩
            subst w'
            refine ⟨_, rfl, hH, fun _ => ?_⟩
            simp only [Act.put, List.setIfInBounds_toArray, List.set_cons_zero, List.set_cons_succ]
            refine takeV 10 (some 89) (.pointer (some ⟨w.heap.size, jl, none⟩)) rfl rfl (by kernel_rfl) (by kernel_rfl) (by kernel_rfl) (fun _ _ _ h => h) rfl (fun wx hx => by go_simp) hH ?_
            simp only [Act.put, List.setIfInBounds_toArray, List.set_cons_zero, List.set_cons_succ]
            have HO3 := show Hid _ from HO2.out.setP jl (Ms.sm (f jl) (h k))
            refine oneH 11 (by kernel_rfl) rfl (stepU 11 _ rfl rfl (by go_simp) HO3.out.nod (fun _ => ?_))
            refine wpAnyH_done (by kernel_rfl) ?_ _
            clear hcj hfr hH HO2 HO
            have Rf1 := show Hid (RG (updI f jl (Ms.sm (f jl) (h k)))) from rg_upd Rf.out (Rh.out k) jl
            obtain ⟨f1, hf1⟩ : ∃ q : Nat → Int, q = updI f jl (Ms.sm (f jl) (h k)) := ⟨_, rfl⟩
            rw [← hf1] at HO3 Rf1
            have Ef1 := show Hid (f1 = updI f jl (Ms.sm (f jl) (h k))) from hf1
            clear hf1
            generalize World.setCell _ _ _ = w6 at *
            have HO := HO3
            clear HO3
            go_wp2_with fail
            refine wp_region_held_drew (S := fun wx => Nb wx b ⟨5, ns, jl, jr⟩) (by kernel_rfl) HO.out.drew.nod (fun hH => ?_)
            have HO2 := show Hid _ from HO.out.drew
            refine takeV 0 (some 90) (.slice (some ⟨w.heap.size + 1, 0, none⟩) t.length t.length) rfl rfl (by kernel_rfl) (by kernel_rfl) (by kernel_rfl) (fun _ _ _ h => h) rfl (fun wx hx => by go_simp) hH ?_
            simp only [Act.put, List.setIfInBounds_toArray, List.set_cons_zero, List.set_cons_succ]
            refine takeV 1 (some 91) (.pointer (some ⟨b, 2, none⟩)) rfl rfl (by kernel_rfl) (by kernel_rfl) (by kernel_rfl) (fun _ _ _ h => h) rfl (fun wx hx => by go_simp) hH ?_
            simp only [Act.put, List.setIfInBounds_toArray, List.set_cons_zero, List.set_cons_succ]
            refine takeV 2 (some 92) (.int .i64 (jl : Int)) rfl rfl (by kernel_rfl) (by kernel_rfl) (by kernel_rfl) (fun _ _ _ h => h) rfl (fun wx hx => by have hcc := Nb.c2 hx; simp only at hcc; go_simp) hH ?_
            simp only [Act.put, List.setIfInBounds_toArray, List.set_cons_zero, List.set_cons_succ]
            refine takeV 3 (some 93) (.slice (some ⟨w.heap.size + 1, 0, none⟩) t.length t.length) rfl rfl (by kernel_rfl) (by kernel_rfl) (by kernel_rfl) (fun _ _ _ h => h) rfl (fun wx hx => by go_simp) hH ?_
            simp only [Act.put, List.setIfInBounds_toArray, List.set_cons_zero, List.set_cons_succ]
            refine takeV 4 (some 94) (.pointer (some ⟨b, 2, none⟩)) rfl rfl (by kernel_rfl) (by kernel_rfl) (by kernel_rfl) (fun _ _ _ h => h) rfl (fun wx hx => by go_simp) hH ?_
            simp only [Act.put, List.setIfInBounds_toArray, List.set_cons_zero, List.set_cons_succ]
            refine takeV 5 (some 95) (.int .i64 (jl : Int)) rfl rfl (by kernel_rfl) (by kernel_rfl) (by kernel_rfl) (fun _ _ _ h => h) rfl (fun wx hx => by have hcc := Nb.c2 hx; simp only at hcc; go_simp) hH ?_
            simp only [Act.put, List.setIfInBounds_toArray, List.set_cons_zero, List.set_cons_succ]
            refine takeV 6 (some 96) (.pointer (some ⟨w.heap.size + 1, jl, none⟩)) rfl rfl (by kernel_rfl) (by kernel_rfl) (by kernel_rfl) (fun _ _ _ h => h) rfl (fun wx hx => by go_simp) hH ?_
            simp only [Act.put, List.setIfInBounds_toArray, List.set_cons_zero, List.set_cons_succ]
            refine takeV 8 (some 98) (.int .i64 (f k)) rfl rfl (by kernel_rfl) (by kernel_rfl) (by kernel_rfl) (fun _ _ _ h => h) rfl (fun wx hx => by go_simp) hH ?_
            simp only [Act.put, List.setIfInBounds_toArray, List.set_cons_zero, List.set_cons_succ]
            have hcj := HO2.out.neg.cell (j := jl) (by omega)
            have hfr := HO2.out.neg.fr
            refine oneH 7 (by kernel_rfl) rfl (stepW 7 (some 97) (.int .i64 (h jl)) _ rfl rfl (by go_simp) hH (fun _ => ?_))
            simp only [Act.put, List.setIfInBounds_toArray, List.set_cons_zero, List.set_cons_succ]
            refine oneH 9 (by kernel_rfl) rfl (stepC 9 (some 99) rfl rfl 44 _ _ rfl [.int .i64 (h jl), .int .i64 (f k)] rfl (fun _ _ => Tryz.call44 _ _) ?_)
            refine (rsum_any _ _ _ (Rh.out jl) (Rf.out k)).mono ?_
            rintro e w' ⟨rfl, hw'⟩
            subst w'
            refine ⟨_, rfl, hH, fun _ => ?_⟩
            simp only [Act.put, List.setIfInBounds_toArray, List.set_cons_zero, List.set_cons_succ]
            refine takeV 10 (some 100) (.pointer (some ⟨w.heap.size + 1, jl, none⟩)) rfl rfl (by kernel_rfl) (by kernel_rfl) (by kernel_rfl) (fun _ _ _ h => h) rfl (fun wx hx => by go_simp) hH ?_
            simp only [Act.put, List.setIfInBounds_toArray, List.set_cons_zero, List.set_cons_succ]
            have HO3 := show Hid _ from HO2.out.setN jl (Ms.sm (h jl) (f k))
            refine oneH 11 (by kernel_rfl) rfl (stepU 11 _ rfl rfl (by go_simp) HO3.out.nod (fun _ => ?_))
            refine wpAnyH_done (by kernel_rfl) ?_ _
            clear hcj hfr hH HO2 HO
            have Rh1 := show Hid (RG (updI h jl (Ms.sm (h jl) (f k)))) from rg_upd Rh.out (Rf.out k) jl
            obtain ⟨h1, hh1⟩ : ∃ q : Nat → Int, q = updI h jl (Ms.sm (h jl) (f k)) := ⟨_, rfl⟩
            rw [← hh1] at HO3 Rh1
            have Eh1 := show Hid (h1 = updI h jl (Ms.sm (h jl) (f k))) from hh1
            clear hh1
            generalize World.setCell _ _ _ = w7 at *
            have HO := HO3
            clear HO3
            go_wp2_with fail
            refine wp_region_held_drew (S := fun wx => Nb wx b ⟨5, ns, jl, jr⟩) (by kernel_rfl) HO.out.drew.nod (fun hH => ?_)
            have HO2 := show Hid _ from HO.out.drew
            refine takeV 0 (some 123) (.slice (some ⟨w.heap.size, 0, none⟩) t.length t.length) rfl rfl (by kernel_rfl) (by kernel_rfl) (by kernel_rfl) (fun _ _ _ h => h) rfl (fun wx hx => by go_simp) hH ?_
            simp only [Act.put, List.setIfInBounds_toArray, List.set_cons_zero, List.set_cons_succ]
            refine takeV 1 (some 124) (.pointer (some ⟨b, 3, none⟩)) rfl rfl (by kernel_rfl) (by kernel_rfl) (by kernel_rfl) (fun _ _ _ h => h) rfl (fun wx hx => by go_simp) hH ?_
            simp only [Act.put, List.setIfInBounds_toArray, List.set_cons_zero, List.set_cons_succ]
            refine takeV 2 (some 125) (.int .i64 (jr : Int)) rfl rfl (by kernel_rfl) (by kernel_rfl) (by kernel_rfl) (fun _ _ _ h => h) rfl (fun wx hx => by have hcc := Nb.c3 hx; simp only at hcc; go_simp) hH ?_
            simp only [Act.put, List.setIfInBounds_toArray, List.set_cons_zero, List.set_cons_succ]
            refine takeV 3 (some 126) (.slice (some ⟨w.heap.size, 0, none⟩) t.length t.length) rfl rfl (by kernel_rfl) (by kernel_rfl) (by kernel_rfl) (fun _ _ _ h => h) rfl (fun wx hx => by go_simp) hH ?_
            simp only [Act.put, List.setIfInBounds_toArray, List.set_cons_zero, List.set_cons_succ]
            refine takeV 4 (some 127) (.pointer (some ⟨b, 3, none⟩)) rfl rfl (by kernel_rfl) (by kernel_rfl) (by kernel_rfl) (fun _ _ _ h => h) rfl (fun wx hx => by go_simp) hH ?_
            simp only [Act.put, List.setIfInBounds_toArray, List.set_cons_zero, List.set_cons_succ]
            refine takeV 5 (some 128) (.int .i64 (jr : Int)) rfl rfl (by kernel_rfl) (by kernel_rfl) (by kernel_rfl) (fun _ _ _ h => h) rfl (fun wx hx => by have hcc := Nb.c3 hx; simp only at hcc; go_simp) hH ?_
            simp only [Act.put, List.setIfInBounds_toArray, List.set_cons_zero, List.set_cons_succ]
            refine takeV 6 (some 129) (.pointer (some ⟨w.heap.size, jr, none⟩)) rfl rfl (by kernel_rfl) (by kernel_rfl) (by kernel_rfl) (fun _ _ _ h => h) rfl (fun wx hx => by go_simp) hH ?_
            simp only [Act.put, List.setIfInBounds_toArray, List.set_cons_zero, List.set_cons_succ]
            refine takeV 8 (some 131) (.int .i64 (f k)) rfl rfl (by kernel_rfl) (by kernel_rfl) (by kernel_rfl) (fun _ _ _ h => h) rfl (fun wx hx => by go_simp) hH ?_
            simp only [Act.put, List.setIfInBounds_toArray, List.set_cons_zero, List.set_cons_succ]
            have hcj := HO2.out.pos.cell (j := jr) (by omega)
            have hfr := HO2.out.pos.fr
            refine oneH 7 (by kernel_rfl) rfl (stepW 7 (some 130) (.int .i64 (f1 jr)) _ rfl rfl (by go_simp) hH (fun _ => ?_))
            simp only [Act.put, List.setIfInBounds_toArray, List.set_cons_zero, List.set_cons_succ]
            refine oneH 9 (by kernel_rfl) rfl (stepC 9 (some 132) rfl rfl 44 _ _ rfl [.int .i64 (f1 jr), .int .i64 (f k)] rfl (fun _ _ => Tryz.call44 _ _) ?_)
            refine (rsum_any _ _ _ (Rf1.out jr) (Rf.out k)).mono ?_
            rintro e w' ⟨rfl, hw'⟩
            subst w'
            refine ⟨_, rfl, hH, fun _ => ?_⟩
            simp only [Act.put, List.setIfInBounds_toArray, List.set_cons_zero, List.set_cons_succ]
            refine takeV 10 (some 133) (.pointer (some ⟨w.heap.size, jr, none⟩)) rfl rfl (by kernel_rfl) (by kernel_rfl) (by kernel_rfl) (fun _ _ _ h => h) rfl (fun wx hx => by go_simp) hH ?_
            simp only [Act.put, List.setIfInBounds_toArray, List.set_cons_zero, List.set_cons_succ]
            have HO3 := show Hid _ from HO2.out.setP jr (Ms.sm (f1 jr) (f k))
            refine oneH 11 (by kernel_rfl) rfl (stepU 11 _ rfl rfl (by go_simp) HO3.out.nod (fun _ => ?_))
            refine wpAnyH_done (by kernel_rfl) ?_ _
            clear hcj hfr hH HO2 HO
            have Rf2 := show Hid (RG (updI f1 jr (Ms.sm (f1 jr) (f k)))) from rg_upd Rf1.out (Rf.out k) jr
            obtain ⟨f2, hf2⟩ : ∃ q : Nat → Int, q = updI f1 jr (Ms.sm (f1 jr) (f k)) := ⟨_, rfl⟩
            rw [← hf2] at HO3 Rf2
            have Ef2 := show Hid (f2 = updI f1 jr (Ms.sm (f1 jr) (f k))) from hf2
            clear hf2
            generalize World.setCell _ _ _ = w8 at *
            have HO := HO3
            clear HO3
            go_wp2_with fail
            refine wp_region_held_drew (S := fun wx => Nb wx b ⟨5, ns, jl, jr⟩) (by kernel_rfl) HO.out.drew.nod (fun hH => ?_)
            have HO2 := show Hid _ from HO.out.drew
            refine takeV 0 (some 134) (.slice (some ⟨w.heap.size + 1, 0, none⟩) t.length t.length) rfl rfl (by kernel_rfl) (by kernel_rfl) (by kernel_rfl) (fun _ _ _ h => h) rfl (fun wx hx => by go_simp) hH ?_
            simp only [Act.put, List.setIfInBounds_toArray, List.set_cons_zero, List.set_cons_succ]
            refine takeV 1 (some 135) (.pointer (some ⟨b, 3, none⟩)) rfl rfl (by kernel_rfl) (by kernel_rfl) (by kernel_rfl) (fun _ _ _ h => h) rfl (fun wx hx => by go_simp) hH ?_
            simp only [Act.put, List.setIfInBounds_toArray, List.set_cons_zero, List.set_cons_succ]
            refine takeV 2 (some 136) (.int .i64 (jr : Int)) rfl rfl (by kernel_rfl) (by kernel_rfl) (by kernel_rfl) (fun _ _ _ h => h) rfl (fun wx hx => by have hcc := Nb.c3 hx; simp only at hcc; go_simp) hH ?_
            simp only [Act.put, List.setIfInBounds_toArray, List.set_cons_zero, List.set_cons_succ]
            refine takeV 3 (some 137) (.slice (some ⟨w.heap.size + 1, 0, none⟩) t.length t.length) rfl rfl (by kernel_rfl) (by kernel_rfl) (by kernel_rfl) (fun _ _ _ h => h) rfl (fun wx hx => by go_simp) hH ?_
            simp only [Act.put, List.setIfInBounds_toArray, List.set_cons_zero, List.set_cons_succ]
            refine takeV 4 (some 138) (.pointer (some ⟨b, 3, none⟩)) rfl rfl (by kernel_rfl) (by kernel_rfl) (by kernel_rfl) (fun _ _ _ h => h) rfl (fun wx hx => by go_simp) hH ?_
            simp only [Act.put, List.setIfInBounds_toArray, List.set_cons_zero, List.set_cons_succ]
            refine takeV 5 (some 139) (.int .i64 (jr : Int)) rfl rfl (by kernel_rfl) (by kernel_rfl) (by kernel_rfl) (fun _ _ _ h => h) rfl (fun wx hx => by have hcc := Nb.c3 hx; simp only at hcc; go_simp) hH ?_
            simp only [Act.put, List.setIfInBounds_toArray, List.set_cons_zero, List.set_cons_succ]
            refine takeV 6 (some 140) (.pointer (some ⟨w.heap.size + 1, jr, none⟩)) rfl rfl (by kernel_rfl) (by kernel_rfl) (by kernel_rfl) (fun _ _ _ h => h) rfl (fun wx hx => by go_simp) hH ?_
            simp only [Act.put, List.setIfInBounds_toArray, List.set_cons_zero, List.set_cons_succ]
            refine takeV 8 (some 142) (.int .i64 (h k)) rfl rfl (by kernel_rfl) (by kernel_rfl) (by kernel_rfl) (fun _ _ _ h => h) rfl (fun wx hx => by go_simp) hH ?_
            simp only [Act.put, List.setIfInBounds_toArray, List.set_cons_zero, List.set_cons_succ]
            have hcj := HO2.out.neg.cell (j := jr) (by omega)
            have hfr := HO2.out.neg.fr
            refine oneH 7 (by kernel_rfl) rfl (stepW 7 (some 141) (.int .i64 (h1 jr)) _ rfl rfl (by go_simp) hH (fun _ => ?_))
            simp only [Act.put, List.setIfInBounds_toArray, List.set_cons_zero, List.set_cons_succ]
            refine oneH 9 (by kernel_rfl) rfl (stepC 9 (some 143) rfl rfl 44 _ _ rfl [.int .i64 (h1 jr), .int .i64 (h k)] rfl (fun _ _ => Tryz.call44 _ _) ?_)
            refine (rsum_any _ _ _ (Rh1.out jr) (Rh.out k)).mono ?_
            rintro e w' ⟨rfl, hw'⟩
            subst w'
            refine ⟨_, rfl, hH, fun _ => ?_⟩
            simp only [Act.put, List.setIfInBounds_toArray, List.set_cons_zero, List.set_cons_succ]
            refine takeV 10 (some 144) (.pointer (some ⟨w.heap.size + 1, jr, none⟩)) rfl rfl (by kernel_rfl) (by kernel_rfl) (by kernel_rfl) (fun _ _ _ h => h) rfl (fun wx hx => by go_simp) hH ?_
            simp only [Act.put, List.setIfInBounds_toArray, List.set_cons_zero, List.set_cons_succ]
            have HO3 := show Hid _ from HO2.out.setN jr (Ms.sm (h1 jr) (h k))
            refine oneH 11 (by kernel_rfl) rfl (stepU 11 _ rfl rfl (by go_simp) HO3.out.nod (fun _ => ?_))
            refine wpAnyH_done (by kernel_rfl) ?_ _
            clear hcj hfr hH HO2 HO
            have Rh2 := show Hid (RG (updI h1 jr (Ms.sm (h1 jr) (h k)))) from rg_upd Rh1.out (Rh.out k) jr
            obtain ⟨h2, hh2⟩ : ∃ q : Nat → Int, q = updI h1 jr (Ms.sm (h1 jr) (h k)) := ⟨_, rfl⟩
            rw [← hh2] at HO3 Rh2
            have Eh2 := show Hid (h2 = updI h1 jr (Ms.sm (h1 jr) (h k))) from hh2
            clear hh2
            generalize World.setCell _ _ _ = w9 at *
            have HO := HO3
            clear HO3
            go_wp2_with fail
            have HN := show Hid (Vs _ w.heap.size t.length f2 ∧ Vs _ (w.heap.size + 1) t.length h2 ∧ (∀ j, (f2 j, h2 j) = Ms.from_ Ms.ms t id (k - 1 + 1) j) ∧ Below w.heap.size w _) from ⟨HO.out.pos, HO.out.neg, fun j => by rw [show k - 1 + 1 = k from by omega, HST2.out, ← HOS3.out j, Ef2.out, Eh2.out, Ef1.out, Eh1.out], HO.out.bel⟩
            clear HO HF HST2 HOS3
            go_roundw
            case rel => exact ⟨k - 1, _, _, by omega, Or.inr (by omega), by have : ((k - 1 : Nat) : Int) = (k : Int) - 1 := by omega
                                                                            rw [this], HN⟩
            case measure => simp [intOf]; omega
          · have h5b : (nk == 5) = false := by simpa using h5
            have htu : Ms.turn nk (cc k) = (f k, h k) := by rw [hck]; exact if_neg h5
            have HOS3 := show Hid (∀ j, _) from fun j => HOS2.out hjn rfl rfl HIN.out HF.out j
            rw [htu] at HOS3
            simp only at HOS3
            clear htu hck HOS2 hjn
            go_wp2_with fail
            clear c0 c1 c2 c3
            refine wp_region_held_drew (S := fun wx => Nb wx b ⟨nk, ns, jl, jr⟩) (by kernel_rfl) HO.out.drew.nod (fun hH => ?_)
            have HO2 := show Hid _ from HO.out.drew
            refine takeV 0 (some 101) (.slice (some ⟨w.heap.size, 0, none⟩) t.length t.length) rfl rfl (by kernel_rfl) (by kernel_rfl) (by kernel_rfl) (fun _ _ _ h => h) rfl (fun wx hx => by go_simp) hH ?_
            simp only [Act.put, List.setIfInBounds_toArray, List.set_cons_zero, List.set_cons_succ]
            refine takeV 1 (some 102) (.pointer (some ⟨b, 2, none⟩)) rfl rfl (by kernel_rfl) (by kernel_rfl) (by kernel_rfl) (fun _ _ _ h => h) rfl (fun wx hx => by go_simp) hH ?_
            simp only [Act.put, List.setIfInBounds_toArray, List.set_cons_zero, List.set_cons_succ]
            refine takeV 2 (some 103) (.int .i64 (jl : Int)) rfl rfl (by kernel_rfl) (by kernel_rfl) (by kernel_rfl) (fun _ _ _ h => h) rfl (fun wx hx => by have hcc := Nb.c2 hx; simp only at hcc; go_simp) hH ?_
            simp only [Act.put, List.setIfInBounds_toArray, List.set_cons_zero, List.set_cons_succ]
            refine takeV 3 (some 104) (.slice (some ⟨w.heap.size, 0, none⟩) t.length t.length) rfl rfl (by kernel_rfl) (by kernel_rfl) (by kernel_rfl) (fun _ _ _ h => h) rfl (fun wx hx => by go_simp) hH ?_
            simp only [Act.put, List.setIfInBounds_toArray, List.set_cons_zero, List.set_cons_succ]
            refine takeV 4 (some 105) (.pointer (some ⟨b, 2, none⟩)) rfl rfl (by kernel_rfl) (by kernel_rfl) (by kernel_rfl) (fun _ _ _ h => h) rfl (fun wx hx => by go_simp) hH ?_
            simp only [Act.put, List.setIfInBounds_toArray, List.set_cons_zero, List.set_cons_succ]
            refine takeV 5 (some 106) (.int .i64 (jl : Int)) rfl rfl (by kernel_rfl) (by kernel_rfl) (by kernel_rfl) (fun _ _ _ h => h) rfl (fun wx hx => by have hcc := Nb.c2 hx; simp only at hcc; go_simp) hH ?_
            simp only [Act.put, List.setIfInBounds_toArray, List.set_cons_zero, List.set_cons_succ]
            refine takeV 6 (some 107) (.pointer (some ⟨w.heap.size, jl, none⟩)) rfl rfl (by kernel_rfl) (by kernel_rfl) (by kernel_rfl) (fun _ _ _ h => h) rfl (fun wx hx => by go_simp) hH ?_
            simp only [Act.put, List.setIfInBounds_toArray, List.set_cons_zero, List.set_cons_succ]
            refine takeV 8 (some 109) (.int .i64 (f k)) rfl rfl (by kernel_rfl) (by kernel_rfl) (by kernel_rfl) (fun _ _ _ h => h) rfl (fun wx hx => by go_simp) hH ?_
            simp only [Act.put, List.setIfInBounds_toArray, List.set_cons_zero, List.set_cons_succ]
            have hcj := HO2.out.pos.cell (j := jl) (by omega)
            have hfr := HO2.out.pos.fr
            refine oneH 7 (by kernel_rfl) rfl (stepW 7 (some 108) (.int .i64 (f jl)) _ rfl rfl (by go_simp) hH (fun _ => ?_))
            simp only [Act.put, List.setIfInBounds_toArray, List.set_cons_zero, List.set_cons_succ]
            refine oneH 9 (by kernel_rfl) rfl (stepC 9 (some 110) rfl rfl 44 _ _ rfl [.int .i64 (f jl), .int .i64 (f k)] rfl (fun _ _ => Tryz.call44 _ _) ?_)
            refine (rsum_any _ _ _ (Rf.out jl) (Rf.out k)).mono ?_
            rintro e w' ⟨rfl, hw'⟩
            subst w'
            refine ⟨_, rfl, hH, fun _ => ?_⟩
            simp only [Act.put, List.setIfInBounds_toArray, List.set_cons_zero, List.set_cons_succ]
            refine takeV 10 (some 111) (.pointer (some ⟨w.heap.size, jl, none⟩)) rfl rfl (by kernel_rfl) (by kernel_rfl) (by kernel_rfl) (fun _ _ _ h => h) rfl (fun wx hx => by go_simp) hH ?_
            simp only [Act.put, List.setIfInBounds_toArray, List.set_cons_zero, List.set_cons_succ]
            have HO3 := show Hid _ from HO2.out.setP jl (Ms.sm (f jl) (f k))
            refine oneH 11 (by kernel_rfl) rfl (stepU 11 _ rfl rfl (by go_simp) HO3.out.nod (fun _ => ?_))
            refine wpAnyH_done (by kernel_rfl) ?_ _
            clear hcj hfr hH HO2 HO
            have Rf1 := show Hid (RG (updI f jl (Ms.sm (f jl) (f k)))) from rg_upd Rf.out (Rf.out k) jl
            obtain ⟨f1, hf1⟩ : ∃ q : Nat → Int, q = updI f jl (Ms.sm (f jl) (f k)) := ⟨_, rfl⟩
            rw [← hf1] at HO3 Rf1
            have Ef1 := show Hid (f1 = updI f jl (Ms.sm (f jl) (f k))) from hf1
            clear hf1
            generalize World.setCell _ _ _ = w6 at *
            have HO := HO3
            clear HO3
            go_wp2_with fail
            refine wp_region_held_drew (S := fun wx => Nb wx b ⟨nk, ns, jl, jr⟩) (by kernel_rfl) HO.out.drew.nod (fun hH => ?_)
            have HO2 := show Hid _ from HO.out.drew
            refine takeV 0 (some 112) (.slice (some ⟨w.heap.size + 1, 0, none⟩) t.length t.length) rfl rfl (by kernel_rfl) (by kernel_rfl) (by kernel_rfl) (fun _ _ _ h => h) rfl (fun wx hx => by go_simp) hH ?_
            simp only [Act.put, List.setIfInBounds_toArray, List.set_cons_zero, List.set_cons_succ]
            refine takeV 1 (some 113) (.pointer (some ⟨b, 2, none⟩)) rfl rfl (by kernel_rfl) (by kernel_rfl) (by kernel_rfl) (fun _ _ _ h => h) rfl (fun wx hx => by go_simp) hH ?_
            simp only [Act.put, List.setIfInBounds_toArray, List.set_cons_zero, List.set_cons_succ]
            refine takeV 2 (some 114) (.int .i64 (jl : Int)) rfl rfl (by kernel_rfl) (by kernel_rfl) (by kernel_rfl) (fun _ _ _ h => h) rfl (fun wx hx => by have hcc := Nb.c2 hx; simp only at hcc; go_simp) hH ?_
            simp only [Act.put, List.setIfInBounds_toArray, List.set_cons_zero, List.set_cons_succ]
            refine takeV 3 (some 115) (.slice (some ⟨w.heap.size + 1, 0, none⟩) t.length t.length) rfl rfl (by kernel_rfl) (by kernel_rfl) (by kernel_rfl) (fun _ _ _ h => h) rfl (fun wx hx => by go_simp) hH ?_
            simp only [Act.put, List.setIfInBounds_toArray, List.set_cons_zero, List.set_cons_succ]
            refine takeV 4 (some 116) (.pointer (some ⟨b, 2, none⟩)) rfl rfl (by kernel_rfl) (by kernel_rfl) (by kernel_rfl) (fun _ _ _ h => h) rfl (fun wx hx => by go_simp) hH ?_
            simp only [Act.put, List.setIfInBounds_toArray, List.set_cons_zero, List.set_cons_succ]
            refine takeV 5 (some 117) (.int .i64 (jl : Int)) rfl rfl (by kernel_rfl) (by kernel_rfl) (by kernel_rfl) (fun _ _ _ h => h) rfl (fun wx hx => by have hcc := Nb.c2 hx; simp only at hcc; go_simp) hH ?_
            simp only [Act.put, List.setIfInBounds_toArray, List.set_cons_zero, List.set_cons_succ]
            refine takeV 6 (some 118) (.pointer (some ⟨w.heap.size + 1, jl, none⟩)) rfl rfl (by kernel_rfl) (by kernel_rfl) (by kernel_rfl) (fun _ _ _ h => h) rfl (fun wx hx => by go_simp) hH ?_
            simp only [Act.put, List.setIfInBounds_toArray, List.set_cons_zero, List.set_cons_succ]
            refine takeV 8 (some 120) (.int .i64 (h k)) rfl rfl (by kernel_rfl) (by kernel_rfl) (by kernel_rfl) (fun _ _ _ h => h) rfl (fun wx hx => by go_simp) hH ?_
            simp only [Act.put, List.setIfInBounds_toArray, List.set_cons_zero, List.set_cons_succ]
            have hcj := HO2.out.neg.cell (j := jl) (by omega)
            have hfr := HO2.out.neg.fr
            refine oneH 7 (by kernel_rfl) rfl (stepW 7 (some 119) (.int .i64 (h jl)) _ rfl rfl (by go_simp) hH (fun _ => ?_))
            simp only [Act.put, List.setIfInBounds_toArray, List.set_cons_zero, List.set_cons_succ]
            refine oneH 9 (by kernel_rfl) rfl (stepC 9 (some 121) rfl rfl 44 _ _ rfl [.int .i64 (h jl), .int .i64 (h k)] rfl (fun _ _ => Tryz.call44 _ _) ?_)
            refine (rsum_any _ _ _ (Rh.out jl) (Rh.out k)).mono ?_
            rintro e w' ⟨rfl, hw'⟩
            subst w'
            refine ⟨_, rfl, hH, fun _ => ?_⟩
            simp only [Act.put, List.setIfInBounds_toArray, List.set_cons_zero, List.set_cons_succ]
            refine takeV 10 (some 122) (.pointer (some ⟨w.heap.size + 1, jl, none⟩)) rfl rfl (by kernel_rfl) (by kernel_rfl) (by kernel_rfl) (fun _ _ _ h => h) rfl (fun wx hx => by go_simp) hH ?_
            simp only [Act.put, List.setIfInBounds_toArray, List.set_cons_zero, List.set_cons_succ]
            have HO3 := show Hid _ from HO2.out.setN jl (Ms.sm (h jl) (h k))
            refine oneH 11 (by kernel_rfl) rfl (stepU 11 _ rfl rfl (by go_simp) HO3.out.nod (fun _ => ?_))
            refine wpAnyH_done (by kernel_rfl) ?_ _
            clear hcj hfr hH HO2 HO
            have Rh1 := show Hid (RG (updI h jl (Ms.sm (h jl) (h k)))) from rg_upd Rh.out (Rh.out k) jl
            obtain ⟨h1, hh1⟩ : ∃ q : Nat → Int, q = updI h jl (Ms.sm (h jl) (h k)) := ⟨_, rfl⟩
            rw [← hh1] at HO3 Rh1
            have Eh1 := show Hid (h1 = updI h jl (Ms.sm (h jl) (h k))) from hh1
            clear hh1
            generalize World.setCell _ _ _ = w7 at *
            have HO := HO3
            clear HO3
            go_wp2_with fail
            refine wp_region_held_drew (S := fun wx => Nb wx b ⟨nk, ns, jl, jr⟩) (by kernel_rfl) HO.out.drew.nod (fun hH => ?_)
            have HO2 := show Hid _ from HO.out.drew
            refine takeV 0 (some 123) (.slice (some ⟨w.heap.size, 0, none⟩) t.length t.length) rfl rfl (by kernel_rfl) (by kernel_rfl) (by kernel_rfl) (fun _ _ _ h => h) rfl (fun wx hx => by go_simp) hH ?_
            simp only [Act.put, List.setIfInBounds_toArray, List.set_cons_zero, List.set_cons_succ]
            refine takeV 1 (some 124) (.pointer (some ⟨b, 3, none⟩)) rfl rfl (by kernel_rfl) (by kernel_rfl) (by kernel_rfl) (fun _ _ _ h => h) rfl (fun wx hx => by go_simp) hH ?_
            simp only [Act.put, List.setIfInBounds_toArray, List.set_cons_zero, List.set_cons_succ]
            refine takeV 2 (some 125) (.int .i64 (jr : Int)) rfl rfl (by kernel_rfl) (by kernel_rfl) (by kernel_rfl) (fun _ _ _ h => h) rfl (fun wx hx => by have hcc := Nb.c3 hx; simp only at hcc; go_simp) hH ?_
            simp only [Act.put, List.setIfInBounds_toArray, List.set_cons_zero, List.set_cons_succ]
            refine takeV 3 (some 126) (.slice (some ⟨w.heap.size, 0, none⟩) t.length t.length) rfl rfl (by kernel_rfl) (by kernel_rfl) (by kernel_rfl) (fun _ _ _ h => h) rfl (fun wx hx => by go_simp) hH ?_
            simp only [Act.put, List.setIfInBounds_toArray, List.set_cons_zero, List.set_cons_succ]
            refine takeV 4 (some 127) (.pointer (some ⟨b, 3, none⟩)) rfl rfl (by kernel_rfl) (by kernel_rfl) (by kernel_rfl) (fun _ _ _ h => h) rfl (fun wx hx => by go_simp) hH ?_
            simp only [Act.put, List.setIfInBounds_toArray, List.set_cons_zero, List.set_cons_succ]
            refine takeV 5 (some 128) (.int .i64 (jr : Int)) rfl rfl (by kernel_rfl) (by kernel_rfl) (by kernel_rfl) (fun _ _ _ h => h) rfl (fun wx hx => by have hcc := Nb.c3 hx; simp only at hcc; go_simp) hH ?_
            simp only [Act.put, List.setIfInBounds_toArray, List.set_cons_zero, List.set_cons_succ]
            refine takeV 6 (some 129) (.pointer (some ⟨w.heap.size, jr, none⟩)) rfl rfl (by kernel_rfl) (by kernel_rfl) (by kernel_rfl) (fun _ _ _ h => h) rfl (fun wx hx => by go_simp) hH ?_
            simp only [Act.put, List.setIfInBounds_toArray, List.set_cons_zero, List.set_cons_succ]
            refine takeV 8 (some 131) (.int .i64 (f k)) rfl rfl (by kernel_rfl) (by kernel_rfl) (by kernel_rfl) (fun _ _ _ h => h) rfl (fun wx hx => by go_simp) hH ?_
            simp only [Act.put, List.setIfInBounds_toArray, List.set_cons_zero, List.set_cons_succ]
            have hcj := HO2.out.pos.cell (j := jr) (by omega)
            have hfr := HO2.out.pos.fr
            refine oneH 7 (by kernel_rfl) rfl (stepW 7 (some 130) (.int .i64 (f1 jr)) _ rfl rfl (by go_simp) hH (fun _ => ?_))
            simp only [Act.put, List.setIfInBounds_toArray, List.set_cons_zero, List.set_cons_succ]
            refine oneH 9 (by kernel_rfl) rfl (stepC 9 (some 132) rfl rfl 44 _ _ rfl [.int .i64 (f1 jr), .int .i64 (f k)] rfl (fun _ _ => Tryz.call44 _ _) ?_)
            refine (rsum_any _ _ _ (Rf1.out jr) (Rf.out k)).mono ?_
            rintro e w' ⟨rfl, hw'⟩
            subst w'
            refine ⟨_, rfl, hH, fun _ => ?_⟩
            simp only [Act.put, List.setIfInBounds_toArray, List.set_cons_zero, List.set_cons_succ]
            refine takeV 10 (some 133) (.pointer (some ⟨w.heap.size, jr, none⟩)) rfl rfl (by kernel_rfl) (by kernel_rfl) (by kernel_rfl) (fun _ _ _ h => h) rfl (fun wx hx => by go_simp) hH ?_
            simp only [Act.put, List.setIfInBounds_toArray, List.set_cons_zero, List.set_cons_succ]
            have HO3 := show Hid _ from HO2.out.setP jr (Ms.sm (f1 jr) (f k))
            refine oneH 11 (by kernel_rfl) rfl (stepU 11 _ rfl rfl (by go_simp) HO3.out.nod (fun _ => ?_))
            refine wpAnyH_done (by kernel_rfl) ?_ _
            clear hcj hfr hH HO2 HO
            have Rf2 := show Hid (RG (updI f1 jr (Ms.sm (f1 jr) (f k)))) from rg_upd Rf1.out (Rf.out k) jr
            obtain ⟨f2, hf2⟩ : ∃ q : Nat → Int, q = updI f1 jr (Ms.sm (f1 jr) (f k)) := ⟨_, rfl⟩
            rw [← hf2] at HO3 Rf2
            have Ef2 := show Hid (f2 = updI f1 jr (Ms.sm (f1 jr) (f k))) from hf2
            clear hf2
            generalize World.setCell _ _ _ = w8 at *
            have HO := HO3
            clear HO3
            go_wp2_with fail
            refine wp_region_held_drew (S := fun wx => Nb wx b ⟨nk, ns, jl, jr⟩) (by kernel_rfl) HO.out.drew.nod (fun hH => ?_)
            have HO2 := show Hid _ from HO.out.drew
            refine takeV 0 (some 134) (.slice (some ⟨w.heap.size + 1, 0, none⟩) t.length t.length) rfl rfl (by kernel_rfl) (by kernel_rfl) (by kernel_rfl) (fun _ _ _ h => h) rfl (fun wx hx => by go_simp) hH ?_
            simp only [Act.put, List.setIfInBounds_toArray, List.set_cons_zero, List.set_cons_succ]
            refine takeV 1 (some 135) (.pointer (some ⟨b, 3, none⟩)) rfl rfl (by kernel_rfl) (by kernel_rfl) (by kernel_rfl) (fun _ _ _ h => h) rfl (fun wx hx => by go_simp) hH ?_
            simp only [Act.put, List.setIfInBounds_toArray, List.set_cons_zero, List.set_cons_succ]
            refine takeV 2 (some 136) (.int .i64 (jr : Int)) rfl rfl (by kernel_rfl) (by kernel_rfl) (by kernel_rfl) (fun _ _ _ h => h) rfl (fun wx hx => by have hcc := Nb.c3 hx; simp only at hcc; go_simp) hH ?_
            simp only [Act.put, List.setIfInBounds_toArray, List.set_cons_zero, List.set_cons_succ]
            refine takeV 3 (some 137) (.slice (some ⟨w.heap.size + 1, 0, none⟩) t.length t.length) rfl rfl (by kernel_rfl) (by kernel_rfl) (by kernel_rfl) (fun _ _ _ h => h) rfl (fun wx hx => by go_simp) hH ?_
            simp only [Act.put, List.setIfInBounds_toArray, List.set_cons_zero, List.set_cons_succ]
            refine takeV 4 (some 138) (.pointer (some ⟨b, 3, none⟩)) rfl rfl (by kernel_rfl) (by kernel_rfl) (by kernel_rfl) (fun _ _ _ h => h) rfl (fun wx hx => by go_simp) hH ?_
            simp only [Act.put, List.setIfInBounds_toArray, List.set_cons_zero, List.set_cons_succ]
            refine takeV 5 (some 139) (.int .i64 (jr : Int)) rfl rfl (by kernel_rfl) (by kernel_rfl) (by kernel_rfl) (fun _ _ _ h => h) rfl (fun wx hx => by have hcc := Nb.c3 hx; simp only at hcc; go_simp) hH ?_
            simp only [Act.put, List.setIfInBounds_toArray, List.set_cons_zero, List.set_cons_succ]
            refine takeV 6 (some 140) (.pointer (some ⟨w.heap.size + 1, jr, none⟩)) rfl rfl (by kernel_rfl) (by kernel_rfl) (by kernel_rfl) (fun _ _ _ h => h) rfl (fun wx hx => by go_simp) hH ?_
            simp only [Act.put, List.setIfInBounds_toArray, List.set_cons_zero, List.set_cons_succ]
            refine takeV 8 (some 142) (.int .i64 (h k)) rfl rfl (by kernel_rfl) (by kernel_rfl) (by kernel_rfl) (fun _ _ _ h => h) rfl (fun wx hx => by go_simp) hH ?_
            simp only [Act.put, List.setIfInBounds_toArray, List.set_cons_zero, List.set_cons_succ]
            have hcj := HO2.out.neg.cell (j := jr) (by omega)
            have hfr := HO2.out.neg.fr
            refine oneH 7 (by kernel_rfl) rfl (stepW 7 (some 141) (.int .i64 (h1 jr)) _ rfl rfl (by go_simp) hH (fun _ => ?_))
            simp only [Act.put, List.setIfInBounds_toArray, List.set_cons_zero, List.set_cons_succ]
            refine oneH 9 (by kernel_rfl) rfl (stepC 9 (some 143) rfl rfl 44 _ _ rfl [.int .i64 (h1 jr), .int .i64 (h k)] rfl (fun _ _ => Tryz.call44 _ _) ?_)
            refine (rsum_any _ _ _ (Rh1.out jr) (Rh.out k)).mono ?_
            rintro e w' ⟨rfl, hw'⟩
            subst w'
            refine ⟨_, rfl, hH, fun _ => ?_⟩
            simp only [Act.put, List.setIfInBounds_toArray, List.set_cons_zero, List.set_cons_succ]
            refine takeV 10 (some 144) (.pointer (some ⟨w.heap.size + 1, jr, none⟩)) rfl rfl (by kernel_rfl) (by kernel_rfl) (by kernel_rfl) (fun _ _ _ h => h) rfl (fun wx hx => by go_simp) hH ?_
            simp only [Act.put, List.setIfInBounds_toArray, List.set_cons_zero, List.set_cons_succ]
            have HO3 := show Hid _ from HO2.out.setN jr (Ms.sm (h1 jr) (h k))
            refine oneH 11 (by kernel_rfl) rfl (stepU 11 _ rfl rfl (by go_simp) HO3.out.nod (fun _ => ?_))
            refine wpAnyH_done (by kernel_rfl) ?_ _
            clear hcj hfr hH HO2 HO
            have Rh2 := show Hid (RG (updI h1 jr (Ms.sm (h1 jr) (h k)))) from rg_upd Rh1.out (Rh.out k) jr
            obtain ⟨h2, hh2⟩ : ∃ q : Nat → Int, q = updI h1 jr (Ms.sm (h1 jr) (h k)) := ⟨_, rfl⟩
            rw [← hh2] at HO3 Rh2
            have Eh2 := show Hid (h2 = updI h1 jr (Ms.sm (h1 jr) (h k))) from hh2
            clear hh2
            generalize World.setCell _ _ _ = w9 at *
            have HO := HO3
            clear HO3
            go_wp2_with fail
            have HN := show Hid (Vs _ w.heap.size t.length f2 ∧ Vs _ (w.heap.size + 1) t.length h2 ∧ (∀ j, (f2 j, h2 j) = Ms.from_ Ms.ms t id (k - 1 + 1) j) ∧ Below w.heap.size w _) from ⟨HO.out.pos, HO.out.neg, fun j => by rw [show k - 1 + 1 = k from by omega, HST2.out, ← HOS3.out j, Ef2.out, Eh2.out, Ef1.out, Eh1.out], HO.out.bel⟩
            clear HO HF HST2 HOS3
            go_roundw
            case rel => exact ⟨k - 1, _, _, by omega, Or.inr (by omega), by have : ((k - 1 : Nat) : Int) = (k : Int) - 1 := by omega
                                                                            rw [this], HN⟩
            case measure => simp [intOf]; omega
    · have hpk : ¬ ((k : Int) > (p : Int)) := by omega
      by_cases hpi2 : id < p
      · have hgt : (p : Int) > (id : Int) := by omega
        have HE := show Hid (Ms.plc t id p = (0, 0) ∧ Below w.heap.size w wr) from ⟨HAB.out p hpi2, HI.out.2.2.2⟩
        clear HI HR HP HKD HIN HSTEP HAT HAB HSK HOS
        go_wp2_with fail
        refine bodyPost_ret (results_threeN rfl _ _ ()) rfl ?_
        exact ⟨by rw [HE.out.1]; rfl, HE.out.2⟩
      · have hgt : ¬ ((p : Int) > (id : Int)) := by omega
        obtain rfl : k = p := by omega
        have HE := show Hid (Ms.plc t id k = (f k, h k) ∧ Below w.heap.size w wr) from ⟨by rw [HAT.out k (by omega)]; exact (HI.out.2.2.1 k).symm, HI.out.2.2.2⟩
        have b0 := HI.out.1.cell (j := k) hp
        have b1 := HI.out.2.1.cell (j := k) hp
        clear HI HR HP HKD HIN HSTEP HAT HAB HSK HOS
        go_wp2_with fail
        go_quiet (fail)
        go_wp2_with fail
        refine bodyPost_ret (results_threeN rfl _ _ ()) rfl ?_
        exact ⟨by rw [HE.out.1]; rfl, below_drewN HE.out.2 _⟩
end Go.Proofs.YthdcppkohalkmaaGreat
