/-
  The call Scan: the tokens of a text, or its first fault: for every text of at most 2^40 bytes, where the tables stand as the program's text lays them.
-/
import Derived.Test.YtcidldgenogdkaaGreatDoorTCur
namespace Go.Proofs.YtcidldgenogdkaaGreatDoor.Tw
open Go.RowKit

/-- The cells of one token of the text s, and of a row of them. -/
def tokC (s : List UInt8) (t : Tk.Tok × Nat) : List Value := [.int .i64 t.1.1, .string ⟨t.1.2.1.toArray⟩, .int .i64 t.1.2.2, .int .i64 (Tk.spot s t.2).1, .int .i64 (Tk.spot s t.2).2, .int .i64 (t.2 : Int)]
def toksC (s : List UInt8) (a : List (Tk.Tok × Nat)) : List Value := a.flatMap (tokC s)
theorem toksC_snoc (s : List UInt8) (a : List (Tk.Tok × Nat)) (t : Tk.Tok × Nat) : toksC s (a ++ [t]) = toksC s a ++ tokC s t := by simp [toksC]
/-- A fault at block g. -/
def F4 (w : World) (g : Nat) (e l c o : Int) : Prop := w.heap[g]? = some (.cells #[.int .i64 e, .int .i64 l, .int .i64 c, .int .i64 o] 31 (0, 0))
section
variable {w w' : World} {g : Nat} {e l c o : Int}
theorem F4.c0 (h : F4 w g e l c o) : w.cell? ⟨g, 0, none⟩ = some (.int .i64 e) := by rw [cell_of_row w g 0 _ _ _ h]; rfl
theorem F4.c1 (h : F4 w g e l c o) : w.cell? ⟨g, 1, none⟩ = some (.int .i64 l) := by rw [cell_of_row w g 1 _ _ _ h]; rfl
theorem F4.c2 (h : F4 w g e l c o) : w.cell? ⟨g, 2, none⟩ = some (.int .i64 c) := by rw [cell_of_row w g 2 _ _ _ h]; rfl
theorem F4.c3 (h : F4 w g e l c o) : w.cell? ⟨g, 3, none⟩ = some (.int .i64 o) := by rw [cell_of_row w g 3 _ _ _ h]; rfl
theorem F4.fr (h : F4 w g e l c o) (j : Nat) : w.frozen? ⟨g, j, none⟩ = false := frozen_of_row w g j _ _ h
theorem F4.s4 (h : F4 w g e l c o) (x y z u : Int) : F4 ((((w.setCell ⟨g, 0, none⟩ (.int .i64 x)).setCell ⟨g, 1, none⟩ (.int .i64 y)).setCell ⟨g, 2, none⟩ (.int .i64 z)).setCell ⟨g, 3, none⟩ (.int .i64 u)) g x y z u :=
  heap_setCell_same _ g 3 _ _ _ (heap_setCell_same _ g 2 _ _ _ (heap_setCell_same _ g 1 _ _ _ (heap_setCell_same w g 0 _ _ _ h)))
theorem F4.keep {B : Nat} (h : F4 w g e l c o) (hb : Below B w w') (hg : g < B) : F4 w' g e l c o := (hb.block g hg).trans h
end
theorem below_set4 {B : Nat} {a w : World} (h : Below B a w) {g : Nat} (hg : B ≤ g) (x y z u : Value) : Below B a ((((w.setCell ⟨g, 0, none⟩ x).setCell ⟨g, 1, none⟩ y).setCell ⟨g, 2, none⟩ z).setCell ⟨g, 3, none⟩ u) := (((h.setCell hg x).setCell hg y).setCell hg z).setCell hg u
theorem own_kept {w w' : World} {B n : Nat} {v : Value} {xs : List Value} (h : w.ownsRow B 45 6 v n xs) (hk : ∀ k, v.ownBlock = some k → w'.heap[k]? = w.heap[k]?) : w'.ownsRow B 45 6 v n xs := by
  refine ⟨h.1, ?_⟩
  rcases h.2 with h2 | ⟨g, cap, cur, rfl, hg, hh, r⟩
  · exact Or.inl h2
  · exact Or.inr ⟨g, cap, cur, rfl, hg, (hk g rfl).trans hh, r⟩
theorem own_lt {w : World} {B n : Nat} {v : Value} {xs : List Value} (h : w.ownsRow B 45 6 v n xs) : ∀ k, v.ownBlock = some k → B ≤ k ∧ k < w.heap.size ∧ ∃ cur, w.heap[k]? = some (.cells cur 45 (0, 0)) := by
  intro k hk
  rcases h.2 with ⟨rfl, _⟩ | ⟨g, cap, cur, rfl, hg, hh, r⟩
  · cases hk
  · obtain rfl : g = k := Option.some.inj hk
    exact ⟨hg, lt_of_block hh, cur, hh⟩
theorem own_below {w w' : World} {B n : Nat} {v : Value} {xs : List Value} (h : w.ownsRow B 45 6 v n xs) (hb : Below w.heap.size w w') : w'.ownsRow B 45 6 v n xs :=
  own_kept h fun k hk => hb.block k (own_lt h k hk).2.1
theorem own_ne_c {w : World} {B n g : Nat} {v : Value} {xs : List Value} {s : ByteArray} {l c o : Int} (h : w.ownsRow B 45 6 v n xs) (hc : C4 w g s l c o) : ∀ k, v.ownBlock = some k → k ≠ g := by
  intro k hk e
  obtain ⟨_, _, cur, hh⟩ := own_lt h k hk
  subst e
  unfold C4 at hc
  rw [hc] at hh
  simp at hh
theorem own_ne_f {w : World} {B n g : Nat} {v : Value} {xs : List Value} {e l c o : Int} (h : w.ownsRow B 45 6 v n xs) (hc : F4 w g e l c o) : ∀ k, v.ownBlock = some k → k ≠ g := by
  intro k hk e
  obtain ⟨_, _, cur, hh⟩ := own_lt h k hk
  subst e
  unfold F4 at hc
  rw [hc] at hh
  simp at hh
/-- A fault as a value. -/
def fltV (s : List UInt8) (e : Int) (o : Nat) : Value := if e = 0 then .agg #[.int .i64 0, .int .i64 0, .int .i64 0, .int .i64 0] else .agg #[.int .i64 e, .int .i64 (Tk.spot s o).1, .int .i64 (Tk.spot s o).2, .int .i64 (o : Int)]
/-- What Scan answers: the row of tokens at v, the fault. -/
def IsScan (s : List UInt8) (r : List (Tk.Tok × Nat) × Int × Nat) (w : World) (B : Nat) (e : Ending) : Prop :=
  ∃ v, e = .returned (.tuple #[v, fltV s r.2.1 r.2.2]) ∧ w.ownsRow B 45 6 v r.1.length (toksC s r.1)
theorem info_tok : (Tryz.prog.info? 45).map (fun i => (i.zero, i.size, i.bytes)) = some (some (.agg #[.int .i64 0, .string ⟨#[]⟩, .int .i64 0, .int .i64 0, .int .i64 0, .int .i64 0]), 6, 56) := by kernel_rfl
def flt0 : Obj := .cells #[.int .i64 0, .int .i64 0, .int .i64 0, .int .i64 0] 31
theorem lit_newsV (w : World) (cs : Array Value) (t : TypeId) (g : Nat) (hg : g = w.heap.size) : ∀ j u, cs.toList[j]? = some u → (w.alloc (.cells cs t)).cell? ((⟨g, 0, none⟩ : Addr).add j) = some u := by
  intro j u hu
  subst hg
  rw [Addr.add_lit, Nat.zero_add, World.cell?_alloc_new, ← Array.getElem?_toList]
  exact hu
theorem tokC_one (s : List UInt8) (t : Tk.Tok × Nat) : ∀ u ∈ tokC s t, u.oneCell' = true := by
  intro u hu
  simp only [tokC, List.mem_cons, List.not_mem_nil, or_false] at hu
  rcases hu with rfl | rfl | rfl | rfl | rfl | rfl <;> rfl
set_option maxRecDepth 100000 in
set_option maxHeartbeats 4000000 in
theorem scan_any (w : World) (s : ByteArray) (hs : s.size ≤ 1099511627776) (hL : Laid w) :
    Calls Tryz.prog 52 #[.string s] w fun e w' => IsScan s.data.toList (Tk.scan s.data.toList) w' w.heap.size e ∧ Below w.heap.size w w' := by
  obtain ⟨i0, hi, hz0, hz1, hz2⟩ := info_parts info_tok
  have HSL := show Hid (s.data.toList.length = s.size) from rfl
  have HL := show Hid (Laid w) from hL
  have HX : Hid (Tk.scanF (s.size + 1) s.data.toList 0 [] = Tk.scan s.data.toList) := rfl
  generalize Tk.scan s.data.toList = ans at *
  have HF : Hid (F4 (w.alloc flt0) w.heap.size 0 0 0 0) := heap_alloc_new _ _
  have C0 := show Hid (Calls Tryz.prog 81 #[] (w.alloc flt0) fun e w' => e = .returned (.agg #[.int .i64 1, .int .i64 1, .int .i64 0]) ∧ Below (w.alloc flt0).heap.size (w.alloc flt0) w') from start_any _
  clear hL
  go_enter Tryz.func52, Tryz.ntmps52
  go_wp2_with fail
  refine C0.out.mono ?_
  rintro e w1 ⟨rfl, hb1⟩
  have HB1 := show Hid (Below w.heap.size w w1) from (below_alloc _ _).trans (hb1.mono (by simp))
  have HF1 := show Hid (F4 w1 w.heap.size 0 0 0 0) from HF.out.keep hb1 (by simp)
  have hlt1 : w.heap.size < w1.heap.size := lt_of_block HF1.out
  clear C0 HF hb1
  go_wp2_with fail
  go_loopw [5, 7, 8] (fun v _ _ wr => ∃ (o f : Nat) (l c : Int) (a : List (Tk.Tok × Nat)), o ≤ s.size ∧ Hid (s.size < o + f) ∧ a.length ≤ o ∧ Hid (Tk.scanF f s.data.toList o a = ans) ∧ Hid (Tk.Bnd s.data.toList o ∧ Tk.spot s.data.toList o = (l, c)) ∧ Hid (wr.ownsRow w.heap.size 45 6 v a.length (toksC s.data.toList a)) ∧ Hid (C4 wr w1.heap.size s l c o) ∧ Hid (F4 wr w.heap.size 0 0 0 0) ∧ Hid (Below w.heap.size w wr)) (fun _ _ _ wr => s.size - (intOf ((wr.cell? ⟨w1.heap.size, 3, none⟩).getD (.bool false))).toNat)
  case atStart =>
    refine ⟨0, s.size + 1, 1, 1, [], by omega, show s.size < 0 + (s.size + 1) by omega, by simp, HX, ⟨Tk.Bnd.nil _, Tk.go_done _ _ _ (Or.inl rfl)⟩, World.ownsRow_nil _ _ _ _, heap_alloc_new _ _, ?_, ?_⟩
    · exact (Below.heap_alloc _ _ _ hlt1).trans HF1.out
    · exact HB1.out.alloc (by omega) _
  case round =>
    obtain ⟨o, f, l, c, a, ho, HFu, hal, HS, HP, HO, HC, HFr, HB⟩ := hrel
    have HM := show Hid ((intOf ((wr.cell? ⟨w1.heap.size, 3, none⟩).getD (.bool false))).toNat = o) from by rw [HC.out.c3]; rfl
    clear HX
    obtain ⟨i, hid⟩ : ∃ i, i = o + Tk.skip (s.data.toList.drop o) := ⟨_, rfl⟩
    have hio : i ≤ s.size := by
      have h1 := Tk.skip_le _ (s.data.toList.drop o) (Nat.le_refl _)
      rw [List.length_drop, HSL.out] at h1
      omega
    have hoi : o ≤ i := by omega
    have CS := skip_any wr w1.heap.size s l c o (by omega) ho HC.out
    have hsp : Tk.go (s.data.toList.drop o) (Tk.skip (s.data.toList.drop o)) (l, c) = Tk.spot s.data.toList i := by
      rw [hid, ← HP.out.2]
      exact (Tk.go_add HP.out.1 _ _).symm
    rw [hsp, ← hid] at CS
    have HP2 := show Hid (Tk.Bnd s.data.toList i) from by rw [hid]; exact HP.out.1.add (Tk.skip_bnd _ _ (Nat.le_refl _))
    have hst := HS.out
    rw [show f = (f - 1) + 1 by have := HFu.out; omega, Tk.scanF_step, ← hid] at hst
    have HS2 := show Hid _ from hst
    have CSH := show Hid (Calls Tryz.prog 82 #[.pointer (some ⟨w1.heap.size, 0, none⟩)] wr fun e w' => e = .returned (.tuple #[]) ∧ C4 w' w1.heap.size s (Tk.spot s.data.toList i).1 (Tk.spot s.data.toList i).2 (i : Nat) ∧ Kept w1.heap.size wr w') from CS
    have HSP := show Hid _ from hsp
    clear hst HS CS hsp hid
    go_wp2_with fail
    refine CSH.out.mono ?_
    rintro e w2 ⟨rfl, hc2, hk2⟩
    have HC2 := show Hid (C4 w2 w1.heap.size s (Tk.spot s.data.toList i).1 (Tk.spot s.data.toList i).2 i) from hc2
    have HO2 := show Hid (w2.ownsRow w.heap.size 45 6 u5 a.length (toksC s.data.toList a)) from own_kept HO.out fun k hk => hk2.block k (own_lt HO.out k hk).2.1 (own_ne_c HO.out HC.out k hk)
    have HF2 := show Hid (F4 w2 w.heap.size 0 0 0 0) from (hk2.block _ (lt_of_block HFr.out) (by omega)).trans HFr.out
    have HB2 := show Hid (Below w.heap.size w w2) from HB.out.trans (hk2.below (by omega) (by have := lt_of_block HC.out; omega))
    clear CSH hc2 hk2 HO HC HFr HB
    have CR := show Hid (Calls Tryz.prog 84 #[.pointer (some ⟨w1.heap.size, 0, none⟩)] w2 fun e w' => e = .returned (.string (rst s i)) ∧ ∃ n, w' = w2.drewN n) from rest_any w2 w1.heap.size s _ _ i hio HC2.out
    go_wp2_with fail
    refine CR.out.mono ?_
    rintro e w3 ⟨rfl, m3, rfl⟩
    have CC := show Hid (Calls Tryz.prog 83 #[.string (rst s i)] (w2.drewN m3) fun e w' => e = .returned (cutV (Tk.cut (s.data.toList.drop i))) ∧ Below (w2.drewN m3).heap.size (w2.drewN m3) w') from by
      have := cut_any (w2.drewN m3) (rst s i) (by rw [rst_size]; omega) (HL.out.later (HB2.out.trans ⟨rfl, rfl, rfl, Nat.le_refl _, fun _ _ => rfl⟩))
      rw [rst_list] at this
      exact this
    have HCG := show Hid (s.data.toList.drop i ≠ [] → (Tk.cut (s.data.toList.drop i)).2.2 = 0 → 1 ≤ (Tk.cut (s.data.toList.drop i)).2.1 ∧ Tk.Good (s.data.toList.drop i) (Tk.cut (s.data.toList.drop i)).2.1 ∧ (Tk.cut (s.data.toList.drop i)).1.1 ≠ 0) from Tk.cut_good _
    have HCE := show Hid (s.data.toList.drop i = [] → (Tk.cut (s.data.toList.drop i)).1.1 = 0) from fun h => by rw [h]; rfl
    generalize Tk.cut (s.data.toList.drop i) = ct at *
    obtain ⟨⟨tk, tt, ti⟩, tn, te⟩ := ct
    clear CR
    go_wp2_with fail
    refine CC.out.mono ?_
    rintro e w4 ⟨rfl, hb4'⟩
    have hb4 : Below w2.heap.size w2 w4 := ⟨hb4'.os, hb4'.tape, hb4'.output, hb4'.size, hb4'.block⟩
    clear hb4'
    have HC4 := show Hid (C4 w4 w1.heap.size s (Tk.spot s.data.toList i).1 (Tk.spot s.data.toList i).2 i) from HC2.out.keep hb4 (lt_of_block HC2.out)
    have HO4 := show Hid (w4.ownsRow w.heap.size 45 6 u5 a.length (toksC s.data.toList a)) from own_below HO2.out hb4
    have HF4 := show Hid (F4 w4 w.heap.size 0 0 0 0) from HF2.out.keep hb4 (lt_of_block HF2.out)
    have HB4 := show Hid (Below w.heap.size w w4) from HB2.out.trans (hb4.mono (Nat.le_of_lt (lt_of_block HF2.out)))
    clear hb4 CC HC2 HO2 HF2 HB2
    unfold cutV tokV
    have hlt4 : w1.heap.size < w4.heap.size := lt_of_block HC4.out
    by_cases hte : te = 0
    · subst hte
      have hc1 := HC4.out.c1; have hc2 := HC4.out.c2; have hc3 := HC4.out.c3
      obtain ⟨sl, hsl⟩ : ∃ sl, sl = (Tk.spot s.data.toList i).1 := ⟨_, rfl⟩
      obtain ⟨sc, hsc⟩ : ∃ sc, sc = (Tk.spot s.data.toList i).2 := ⟨_, rfl⟩
      rw [← hsl] at hc1
      rw [← hsc] at hc2
      have HTC := show Hid (tokC s.data.toList ((tk, tt, ti), i) = [.int .i64 tk, .string ⟨tt.toArray⟩, .int .i64 ti, .int .i64 sl, .int .i64 sc, .int .i64 (i : Int)]) from by rw [hsl, hsc]; rfl
      have HSLC := show Hid (sl = (Tk.spot s.data.toList i).1 ∧ sc = (Tk.spot s.data.toList i).2) from ⟨hsl, hsc⟩
      clear hsl hsc
      obtain ⟨xs, hxs⟩ : ∃ xs, xs = toksC s.data.toList a := ⟨_, rfl⟩
      rw [← hxs] at HO4
      have HXS := show Hid (toksC s.data.toList a = xs) from hxs.symm
      clear hxs
      have hal2 : a.length ≤ 1099511627777 := by omega
      have HN1 := show Hid (∀ u ∈ [Value.int .i64 tk, .string ⟨tt.toArray⟩, .int .i64 ti, .int .i64 sl, .int .i64 sc, .int .i64 (i : Int)], u.oneCell' = true) from by
        have := tokC_one s.data.toList ((tk, tt, ti), i)
        rw [HTC.out] at this
        exact this
      go_wp2_with (at_builtin; refine wpList_append_own _ rfl (.tmp 28) (.tmp 30) 39 rfl w.heap.size 45 i0 _ 6 56 Tryz.underlying39 hi hz0 hz1 hz2 rfl (by decide) u5 a.length xs rfl (own_below (own_below HO4.out (below_alloc _ _)) (below_alloc _ _)) ⟨w4.heap.size + 1, 0, none⟩ 1 1 [.int .i64 tk, .string ⟨tt.toArray⟩, .int .i64 ti, .int .i64 sl, .int .i64 sc, .int .i64 (i : Int)] rfl rfl (lit_newsV _ _ _ _ (by simp)) HN1.out (by unfold maxLen; omega) (by omega) (by simp; omega) ?_)
      intro v' w5 hown5 hg5 _
      have hv5 : u5.ownBlock ≠ some w4.heap.size := fun e => by have := (own_lt HO4.out _ e).2.1; omega
      have hvc : u5.ownBlock ≠ some w1.heap.size := fun e => own_ne_c HO4.out HC4.out _ e rfl
      have hvf : u5.ownBlock ≠ some w.heap.size := fun e => own_ne_f HO4.out HF4.out _ e rfl
      have HT5 := show Hid (T6 w5 w4.heap.size (.int .i64 tk) (.string ⟨tt.toArray⟩) (.int .i64 ti) (.int .i64 sl) (.int .i64 sc) (.int .i64 (i : Int))) from (hg5.block _ (by simp; omega) (fun e => hv5 e.symm)).trans (heap_alloc2_old _ _ _)
      have HC5 := show Hid (C4 w5 w1.heap.size s (Tk.spot s.data.toList i).1 (Tk.spot s.data.toList i).2 i) from (hg5.block _ (by simp; omega) (fun e => hvc e.symm)).trans ((Below.heap_alloc _ _ _ (by simp; omega)).trans ((Below.heap_alloc _ _ _ hlt4).trans HC4.out))
      have HF5 := show Hid (F4 w5 w.heap.size 0 0 0 0) from (hg5.block _ (by simp; omega) (fun e => hvf e.symm)).trans ((Below.heap_alloc _ _ _ (by simp; omega)).trans ((Below.heap_alloc _ _ _ (by omega)).trans HF4.out))
      have HB5 := show Hid (Below w.heap.size w w5) from ((HB4.out.alloc (by omega) _).alloc (by simp; omega) _).grown hg5 (by simp; omega) (fun k e => (own_lt HO4.out k e).1)
      have HO5 := show Hid (w5.ownsRow w.heap.size 45 6 v' (a ++ [((tk, tt, ti), i)]).length (toksC s.data.toList (a ++ [((tk, tt, ti), i)]))) from by
        rw [toksC_snoc, HTC.out, List.length_append, List.length_singleton, HXS.out]
        exact hown5
      have ht0 := HT5.out.c0
      clear hown5 hg5 HO4 HC4 HF4 HB4 hc1 hc2 hc3 hv5 hvc hvf
      have hst := HS2.out
      rw [if_neg (by simp)] at hst
      by_cases htk : tk = 0
      · subst htk
        rw [if_pos rfl] at hst
        subst hst
        clear HS2
        have hf0 := HF5.out.c0; have hf1 := HF5.out.c1; have hf2 := HF5.out.c2; have hf3 := HF5.out.c3; have hff := HF5.out.fr
        obtain ⟨pv, nv, cv, hv'⟩ : ∃ pv nv cv, v' = .slice pv nv cv := by
          rcases HO5.out.2 with ⟨h, _⟩ | ⟨g, cap, cur, h, _⟩
          · exact ⟨_, _, _, h⟩
          · exact ⟨_, _, _, h⟩
        subst hv'
        go_wp2_with fail
        refine bodyPost_ret (results_tmp_row rfl _ _ w.heap.size _ _ _ _ rfl (HF5.out.s4 0 0 0 0) Tryz.underlying31 rfl (by kernel_rfl)) rfl ?_
        refine ⟨⟨.slice pv nv cv, rfl, ?_⟩, below_set4 HB5.out (Nat.le_refl _) _ _ _ _⟩
        refine own_kept HO5.out fun k hk => ?_
        have hne := own_ne_f HO5.out HF5.out k hk
        exact (Below.heap_setCell _ _ _ _ hne).trans ((Below.heap_setCell _ _ _ _ hne).trans ((Below.heap_setCell _ _ _ _ hne).trans (Below.heap_setCell _ _ _ _ hne)))
      · have htk0 : (tk == 0) = false := beq_eq_false_iff_ne.2 htk
        rw [if_neg htk] at hst
        have HS3 := show Hid (Tk.scanF (f - 1) s.data.toList (i + tn) (a ++ [((tk, tt, ti), i)]) = ans) from hst
        have hne : s.data.toList.drop i ≠ [] := fun h => htk (HCE.out h)
        have hgd := HCG.out hne (by first | rfl | trivial)
        have hgl := hgd.2.1.le
        rw [List.length_drop, HSL.out] at hgl
        have htn : 1 ≤ tn := hgd.1
        have CP := pass_any w5 w1.heap.size s (Tk.spot s.data.toList i).1 (Tk.spot s.data.toList i).2 i tn (by omega) hio HC5.out hgd.2.1
        have hsp2 : Tk.go (s.data.toList.drop i) tn ((Tk.spot s.data.toList i).1, (Tk.spot s.data.toList i).2) = Tk.spot s.data.toList (i + tn) := (Tk.go_add HP2.out _ _).symm
        rw [hsp2] at CP
        have CPH := show Hid (Calls Tryz.prog 85 #[.pointer (some ⟨w1.heap.size, 0, none⟩), .int .i64 (tn : Int)] w5 fun e w' => e = .returned (.tuple #[]) ∧ C4 w' w1.heap.size s (Tk.spot s.data.toList (i + tn)).1 (Tk.spot s.data.toList (i + tn)).2 (i + tn : Nat) ∧ Kept w1.heap.size w5 w') from CP
        have HBN := show Hid (Tk.Bnd s.data.toList (i + tn)) from HP2.out.add hgd.2.1.bnd
        clear hst HS2 hne hgd CP hsp2 htk HCG HCE HP2
        go_wp2_with fail
        refine CPH.out.mono ?_
        rintro e w6 ⟨rfl, hc6, hk6⟩
        have HC6 := show Hid (C4 w6 w1.heap.size s (Tk.spot s.data.toList (i + tn)).1 (Tk.spot s.data.toList (i + tn)).2 (i + tn : Nat)) from hc6
        have HO6 := show Hid (w6.ownsRow w.heap.size 45 6 v' (a ++ [((tk, tt, ti), i)]).length (toksC s.data.toList (a ++ [((tk, tt, ti), i)]))) from own_kept HO5.out fun k hk => hk6.block k (own_lt HO5.out k hk).2.1 (own_ne_c HO5.out HC5.out k hk)
        have HF6 := show Hid (F4 w6 w.heap.size 0 0 0 0) from (hk6.block _ (lt_of_block HF5.out) (by omega)).trans HF5.out
        have HB6 := show Hid (Below w.heap.size w w6) from HB5.out.trans (hk6.below (by omega) (by have := lt_of_block HC5.out; omega))
        clear CPH hc6 hk6 HO5 HC5 HF5 HB5
        go_wp2_with fail
        go_roundw
        case rel =>
          refine ⟨i + tn, f - 1, _, _, a ++ [((tk, tt, ti), i)], by omega, ?_, ?_, HS3, ⟨HBN.out, rfl⟩, HO6, HC6, HF6, HB6⟩
          · show s.size < i + tn + (f - 1)
            have := HFu.out
            omega
          · simp; omega
        case measure =>
          rw [HM.out, HC6.out.c3]
          simp [intOf]
          omega
    · have hte0 : (te != 0) = true := by simp [hte]
      go_wp2_with fail
      generalize hw5 : w4.alloc _ = w5 at *
      have HC5 := show Hid (C4 w5 w1.heap.size s (Tk.spot s.data.toList i).1 (Tk.spot s.data.toList i).2 i) from by rw [← hw5]; exact (Below.heap_alloc _ _ _ hlt4).trans HC4.out
      have HF5 := show Hid (F4 w5 w.heap.size 0 0 0 0) from by rw [← hw5]; exact (Below.heap_alloc _ _ _ (by omega)).trans HF4.out
      have HB5 := show Hid (Below w.heap.size w w5) from by rw [← hw5]; exact HB4.out.alloc (by omega) _
      have hc1 := HC5.out.c1; have hc2 := HC5.out.c2; have hc3 := HC5.out.c3
      have hf0 := HF5.out.c0; have hf1 := HF5.out.c1; have hf2 := HF5.out.c2; have hf3 := HF5.out.c3; have hff := HF5.out.fr
      clear hw5
      go_region
      go_wp2_with fail
      have hA := HS2.out
      rw [if_pos hte] at hA
      subst hA
      refine bodyPost_ret (results_tmp_row rfl _ _ w.heap.size _ _ _ _ rfl (HF5.out.s4 te (Tk.spot s.data.toList i).1 (Tk.spot s.data.toList i).2 (i : Int)) Tryz.underlying31 rfl (by kernel_rfl)) rfl ?_
      refine ⟨⟨.slice none 0 0, ?_, World.ownsRow_nil _ _ _ _⟩, (below_set4 HB5.out (Nat.le_refl _) _ _ _ _).drew⟩
      show _ = Ending.returned (.tuple #[.slice none 0 0, fltV s.data.toList te i])
      unfold fltV
      rw [if_neg hte]
      rfl
end Go.Proofs.YtcidldgenogdkaaGreatDoor.Tw
