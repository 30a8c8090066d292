/-
  The document's parser in memory: its table, its tokens, what it has read; its small calls sign, counted, tok. For every list of tokens. No other condition.
-/
import Derived.Test.YtcidldgenogdkaaGreatDoorGSb
import Derived.Test.YtcidldgenogdkaaGreatDoorGRb
import Derived.Deep.RegionHeld3
namespace Go.Proofs.YtcidldgenogdkaaGreatDoor
open Go.RowKit Go.Maps
open Fm (Nd)
open Sx (Tn T)

/-- What the document's parser holds: the next token, how many are counted, how many parentheses are open, is the table full, the first fault, the rows. -/
structure Ds where
  i : Nat
  n : Nat
  d : Nat
  fl : Bool
  e : Int
  l : Int
  c : Int
  o : Int
  t : List Nd
def Pb (w : World) (p C g cap len : Nat) (q : Ds) : Prop :=
  w.heap[p]? = some (.cells #[.pointer (some ⟨C, 0, none⟩), .slice (some ⟨g, 0, none⟩) len cap, .int .i64 (q.i : Int), .int .i64 (q.n : Int), .int .i64 (q.d : Int), .bool q.fl, .int .i64 q.e, .int .i64 q.l, .int .i64 q.c, .int .i64 q.o] 75 (0, 0))
section
variable {w w' : World} {p C g cap len : Nat} {q : Ds}
theorem Pb.c0 (h : Pb w p C g cap len q) : w.cell? ⟨p, 0, none⟩ = some (.pointer (some ⟨C, 0, none⟩)) := by rw [cell_of_row w p 0 _ _ _ h]; rfl
theorem Pb.c1 (h : Pb w p C g cap len q) : w.cell? ⟨p, 1, none⟩ = some (.slice (some ⟨g, 0, none⟩) len cap) := by rw [cell_of_row w p 1 _ _ _ h]; rfl
theorem Pb.c2 (h : Pb w p C g cap len q) : w.cell? ⟨p, 2, none⟩ = some (.int .i64 (q.i : Int)) := by rw [cell_of_row w p 2 _ _ _ h]; rfl
theorem Pb.c3 (h : Pb w p C g cap len q) : w.cell? ⟨p, 3, none⟩ = some (.int .i64 (q.n : Int)) := by rw [cell_of_row w p 3 _ _ _ h]; rfl
theorem Pb.c4 (h : Pb w p C g cap len q) : w.cell? ⟨p, 4, none⟩ = some (.int .i64 (q.d : Int)) := by rw [cell_of_row w p 4 _ _ _ h]; rfl
theorem Pb.c5 (h : Pb w p C g cap len q) : w.cell? ⟨p, 5, none⟩ = some (.bool q.fl) := by rw [cell_of_row w p 5 _ _ _ h]; rfl
theorem Pb.c6 (h : Pb w p C g cap len q) : w.cell? ⟨p, 6, none⟩ = some (.int .i64 q.e) := by rw [cell_of_row w p 6 _ _ _ h]; rfl
theorem Pb.c7 (h : Pb w p C g cap len q) : w.cell? ⟨p, 7, none⟩ = some (.int .i64 q.l) := by rw [cell_of_row w p 7 _ _ _ h]; rfl
theorem Pb.c8 (h : Pb w p C g cap len q) : w.cell? ⟨p, 8, none⟩ = some (.int .i64 q.c) := by rw [cell_of_row w p 8 _ _ _ h]; rfl
theorem Pb.c9 (h : Pb w p C g cap len q) : w.cell? ⟨p, 9, none⟩ = some (.int .i64 q.o) := by rw [cell_of_row w p 9 _ _ _ h]; rfl
theorem Pb.fr (h : Pb w p C g cap len q) (j : Nat) : w.frozen? ⟨p, j, none⟩ = false := frozen_of_row w p j _ _ h
theorem Pb.lt (h : Pb w p C g cap len q) : p < w.heap.size := lt_of_block h
theorem Pb.nfr {u : Value} {t : List Nd} {C2 : Nat} (h : Pb w p C g cap len q) (hT : Tr w C2 u t) : ¬ Fr C2 u p := by
  unfold Pb at h
  rintro (rfl | e)
  · rw [hT.tab] at h; simp at h
  · obtain ⟨_, cur, hh⟩ := hT.row.lt p e
    rw [hh] at h; simp at h
end
/-- Every block of tokens is as it was. -/
def Tf (w w' : World) : Prop := ∀ (k : Nat) (cs : Array Value) (fr : Nat × Nat), w.heap[k]? = some (.cells cs 45 fr) → w'.heap[k]? = w.heap[k]?
theorem Tf.refl (w : World) : Tf w w := fun _ _ _ _ => rfl
theorem Tf.trans {a b c : World} (h : Tf a b) (k : Tf b c) : Tf a c := fun i cs fr e => (k i cs fr ((h i cs fr e).trans e)).trans (h i cs fr e)
theorem Tf.of_below {a b : World} (h : Below a.heap.size a b) : Tf a b := fun i _ _ e => h.block i (lt_of_block e)
/-- The document's parser and all that it holds, made since the world w0. -/
structure Dw (w0 w : World) (p C g cap : Nat) (ts : List Tn) (q : Ds) : Prop where
  pb : Pb w p C g cap ts.length q
  tr : ∃ u, Tr w C u q.t ∧ ∀ k, Fr C u k → w0.heap.size ≤ k
  tk : TsAt w g cap ts
  hp : w0.heap.size ≤ p
  be : Below w0.heap.size w0 w
section
variable {w0 w w' : World} {p C g cap : Nat} {ts : List Tn} {q q' : Ds}
theorem Dw.later (h : Dw w0 w p C g cap ts q) (hb : Below w.heap.size w w') : Dw w0 w' p C g cap ts q := by
  obtain ⟨u, hT, hf⟩ := h.tr
  obtain ⟨cur, hh, _⟩ := h.tk
  exact ⟨(hb.block p h.pb.lt).trans h.pb, ⟨u, hT.later hb, hf⟩, h.tk.keep (hb.block g (lt_of_block hh)), h.hp, h.be.trans (hb.mono h.be.size)⟩
theorem Dw.gp (h : Dw w0 w p C g cap ts q) : g ≠ p := by
  rintro rfl
  obtain ⟨cur, hh, _⟩ := h.tk
  have h2 := h.pb
  unfold Pb at h2
  rw [h2] at hh
  simp at hh
theorem Dw.set (h : Dw w0 w p C g cap ts q) {j : Nat} {x : Value} (hpb : Pb (w.setCell ⟨p, j, none⟩ x) p C g cap ts.length q') (ht : q'.t = q.t) : Dw w0 (w.setCell ⟨p, j, none⟩ x) p C g cap ts q' := by
  obtain ⟨u, hT, hf⟩ := h.tr
  refine ⟨hpb, ⟨u, ?_, hf⟩, h.tk.keep (Below.heap_setCell _ _ _ _ h.gp), h.hp, (show Below w0.heap.size w0 (w.setCell ⟨p, j, none⟩ x) from h.be.setCell h.hp x)⟩
  rw [ht]
  exact hT.keep fun k hk => Below.heap_setCell _ _ _ _ fun e => h.pb.nfr hT (by have e2 : k = p := e; rw [← e2]; exact hk)
theorem Dw.tset (h : Dw w0 w p C g cap ts q) (j : Nat) (x : Value) : Tf w (w.setCell ⟨p, j, none⟩ x) := fun k cs fr e => Below.heap_setCell _ _ _ _ fun e2 => by
  subst e2
  have h2 := h.pb
  unfold Pb at h2
  rw [h2] at e
  simp at e
theorem Dw.s2 (h : Dw w0 w p C g cap ts q) (x : Nat) : Dw w0 (w.setCell ⟨p, 2, none⟩ (.int .i64 (x : Int))) p C g cap ts { q with i := x } := h.set (heap_setCell_same w p 2 _ _ _ h.pb) rfl
theorem Dw.s3 (h : Dw w0 w p C g cap ts q) (x : Nat) : Dw w0 (w.setCell ⟨p, 3, none⟩ (.int .i64 (x : Int))) p C g cap ts { q with n := x } := h.set (heap_setCell_same w p 3 _ _ _ h.pb) rfl
theorem Dw.s4 (h : Dw w0 w p C g cap ts q) (x : Nat) : Dw w0 (w.setCell ⟨p, 4, none⟩ (.int .i64 (x : Int))) p C g cap ts { q with d := x } := h.set (heap_setCell_same w p 4 _ _ _ h.pb) rfl
theorem Dw.s5 (h : Dw w0 w p C g cap ts q) (x : Bool) : Dw w0 (w.setCell ⟨p, 5, none⟩ (.bool x)) p C g cap ts { q with fl := x } := h.set (heap_setCell_same w p 5 _ _ _ h.pb) rfl
theorem Dw.s6 (h : Dw w0 w p C g cap ts q) (x : Int) : Dw w0 (w.setCell ⟨p, 6, none⟩ (.int .i64 x)) p C g cap ts { q with e := x } := h.set (heap_setCell_same w p 6 _ _ _ h.pb) rfl
theorem Dw.s7 (h : Dw w0 w p C g cap ts q) (x : Int) : Dw w0 (w.setCell ⟨p, 7, none⟩ (.int .i64 x)) p C g cap ts { q with l := x } := h.set (heap_setCell_same w p 7 _ _ _ h.pb) rfl
theorem Dw.s8 (h : Dw w0 w p C g cap ts q) (x : Int) : Dw w0 (w.setCell ⟨p, 8, none⟩ (.int .i64 x)) p C g cap ts { q with c := x } := h.set (heap_setCell_same w p 8 _ _ _ h.pb) rfl
theorem Dw.s9 (h : Dw w0 w p C g cap ts q) (x : Int) : Dw w0 (w.setCell ⟨p, 9, none⟩ (.int .i64 x)) p C g cap ts { q with o := x } := h.set (heap_setCell_same w p 9 _ _ _ h.pb) rfl
theorem Dw.after (h : Dw w0 w p C g cap ts q) {u : Value} (hT : Tr w C u q.t) (hf : ∀ k, Fr C u k → w0.heap.size ≤ k) {t' : List Nd} (ha : AfterR w C u t' w') : Dw w0 w' p C g cap ts { q with t := t' } ∧ Tf w w' := by
  obtain ⟨u', hT', hL, hK⟩ := ha
  have htf : Tf w w' := fun k cs fr e => hK.block k (lt_of_block e) (by
    rintro (rfl | e2)
    · rw [hT.tab] at e; simp at e
    · obtain ⟨_, cur, hh⟩ := hT.row.lt k e2
      rw [hh] at e; simp at e)
  obtain ⟨cur, hh, _⟩ := h.tk
  refine ⟨⟨(hK.block p h.pb.lt (h.pb.nfr hT)).trans h.pb, ⟨u', hT', ?_⟩, h.tk.keep (htf _ _ _ hh), h.hp, h.be.trans (hK.below h.be.size hf)⟩, htf⟩
  rintro k (e | e)
  · exact hf k (Or.inl e)
  · rcases hL k e with h1 | h1
    · exact hf k (Or.inr h1)
    · exact Nat.le_trans h.be.size h1
end
section
variable (w : World) {w0 : World} {p C g cap : Nat} {ts : List Tn} {q : Ds}
set_option maxHeartbeats 1000000 in
theorem dsign_any (t : Tn) (x : ByteArray) :
    Calls Tryz.prog 59 #[tnV t, .string x] w fun e w' => e = .returned (.bool (Sx.sgn t x.data.toList)) ∧ Below w.heap.size w w' := by
  obtain ⟨tk, tx, tn, tl, tc, to⟩ := t
  unfold tnV
  have HE := show Hid (Sx.sgn ⟨tk, tx, tn, tl, tc, to⟩ x.data.toList = (tk == 3 && tx.data.toList == x.data.toList)) from rfl
  generalize Sx.sgn ⟨tk, tx, tn, tl, tc, to⟩ x.data.toList = r at *
  by_cases hk : tk = 3
  · subst hk
    go_enter Tryz.func59, Tryz.ntmps59
    go_wp2_with fail
    go_ret
    exact ⟨ret_bool (by rw [HE.out, ← ByteArray.toList_eq, ← ByteArray.toList_eq]; simp), below_alloc _ _⟩
  · have hk2 : (tk == 3) = false := beq_eq_false_iff_ne.2 hk
    go_enter Tryz.func59, Tryz.ntmps59
    go_wp2_with fail
    go_ret
    exact ⟨ret_bool (by rw [HE.out, hk2]; rfl), below_alloc _ _⟩
end
end Go.Proofs.YtcidldgenogdkaaGreatDoor
/-
  The document's parser: its small calls counted, tok, is, fail, take, put, two. For every list of tokens. No other condition.
-/
namespace Go.Proofs.YtcidldgenogdkaaGreatDoor
open Go.RowKit Go.Maps
open Fm (Nd)
open Sx (Tn T)

section
variable (w : World) {w0 : World} {p C g cap : Nat} {ts : List Tn} {q : Ds}
set_option maxHeartbeats 2000000 in
theorem counted_any (t : Tn) :
    Calls Tryz.prog 31 #[tnV t] w fun e w' => e = .returned (.bool (Sx.counts t)) ∧ Below w.heap.size w w' := by
  have K := show Hid (∀ (w1 : World) (x : ByteArray), Calls Tryz.prog 59 #[tnV t, .string x] w1 fun e w' => e = .returned (.bool (Sx.sgn t x.data.toList)) ∧ Below w1.heap.size w1 w') from fun w1 x => dsign_any w1 t x
  have HE := show Hid (Sx.counts t = (t.k == 1 || (Sx.sgn t [126] || Sx.sgn t [38] || Sx.sgn t [124] || Sx.sgn t [45, 62] || Sx.sgn t [60, 45, 62]))) from by
    show Sx.counts t = _
    unfold Sx.counts Sx.sgn
    cases (t.k == 3) <;> simp
  have KA := show Hid (∀ w1 : World, Calls Tryz.prog 59 #[tnV t, .string ⟨#[126]⟩] w1 fun e w' => e = .returned (.bool (Sx.sgn t [126])) ∧ Below w1.heap.size w1 w') from fun w1 => K.out w1 _
  have KB := show Hid (∀ w1 : World, Calls Tryz.prog 59 #[tnV t, .string ⟨#[38]⟩] w1 fun e w' => e = .returned (.bool (Sx.sgn t [38])) ∧ Below w1.heap.size w1 w') from fun w1 => K.out w1 _
  have KC := show Hid (∀ w1 : World, Calls Tryz.prog 59 #[tnV t, .string ⟨#[124]⟩] w1 fun e w' => e = .returned (.bool (Sx.sgn t [124])) ∧ Below w1.heap.size w1 w') from fun w1 => K.out w1 _
  have KD := show Hid (∀ w1 : World, Calls Tryz.prog 59 #[tnV t, .string ⟨#[45, 62]⟩] w1 fun e w' => e = .returned (.bool (Sx.sgn t [45, 62])) ∧ Below w1.heap.size w1 w') from fun w1 => K.out w1 _
  have KE := show Hid (∀ w1 : World, Calls Tryz.prog 59 #[tnV t, .string ⟨#[60, 45, 62]⟩] w1 fun e w' => e = .returned (.bool (Sx.sgn t [60, 45, 62])) ∧ Below w1.heap.size w1 w') from fun w1 => K.out w1 _
  clear K
  generalize Sx.counts t = r at *
  generalize Sx.sgn t [126] = qa at *
  generalize Sx.sgn t [38] = qb at *
  generalize Sx.sgn t [124] = qc at *
  generalize Sx.sgn t [45, 62] = qd at *
  generalize Sx.sgn t [60, 45, 62] = qe at *
  obtain ⟨tk, tx, tn, tl, tc, to⟩ := t
  unfold tnV at *
  simp only at HE
  have HB0 := show Hid (Below w.heap.size w (w.alloc (Obj.cells #[.int .i64 tk, .string tx, .int .i64 tn, .int .i64 tl, .int .i64 tc, .int .i64 to] 45)) ∧ T6' (w.alloc (Obj.cells #[.int .i64 tk, .string tx, .int .i64 tn, .int .i64 tl, .int .i64 tc, .int .i64 to] 45)) w.heap.size (.int .i64 tk) (.string tx) (.int .i64 tn) (.int .i64 tl) (.int .i64 tc) (.int .i64 to)) from ⟨below_alloc _ _, heap_alloc_new _ _⟩
  have HN := show Hid (∀ w1 w2 : World, (Below w.heap.size w w1 ∧ T6' w1 w.heap.size (.int .i64 tk) (.string tx) (.int .i64 tn) (.int .i64 tl) (.int .i64 tc) (.int .i64 to)) → Below w1.heap.size w1 w2 → (Below w.heap.size w w2 ∧ T6' w2 w.heap.size (.int .i64 tk) (.string tx) (.int .i64 tn) (.int .i64 tl) (.int .i64 tc) (.int .i64 to))) from fun w1 w2 h hb => ⟨h.1.trans (hb.mono h.1.size), (hb.block _ (lt_of_block h.2)).trans h.2⟩
  by_cases hk : tk = 1
  · subst hk
    go_enter Tryz.func31, Tryz.ntmps31
    go_wp2_with fail
    go_ret
    exact ⟨ret_bool (by rw [HE.out]; rfl), HB0.out.1⟩
  · have hk2 : (tk == 1) = false := beq_eq_false_iff_ne.2 hk
    go_enter Tryz.func31, Tryz.ntmps31
    go_wp2_with fail
    refine (KA.out _).mono ?_
    rintro e w1 ⟨rfl, hb1⟩
    have HB1 := show Hid (Below w.heap.size w w1 ∧ T6' w1 w.heap.size (.int .i64 tk) (.string tx) (.int .i64 tn) (.int .i64 tl) (.int .i64 tc) (.int .i64 to)) from HN.out _ _ HB0.out hb1
    have a0 := HB1.out.2.c0; have a1 := HB1.out.2.c1; have a2 := HB1.out.2.c2; have a3 := HB1.out.2.c3; have a4 := HB1.out.2.c4; have a5 := HB1.out.2.c5
    clear hb1 HB0 KA
    cases qa
    · go_wp2_with fail
      refine (KB.out _).mono ?_
      rintro e w2 ⟨rfl, hb2⟩
      have HB2 := show Hid (Below w.heap.size w w2 ∧ T6' w2 w.heap.size (.int .i64 tk) (.string tx) (.int .i64 tn) (.int .i64 tl) (.int .i64 tc) (.int .i64 to)) from HN.out _ _ HB1.out hb2
      clear a0 a1 a2 a3 a4 a5
      have a0 := HB2.out.2.c0; have a1 := HB2.out.2.c1; have a2 := HB2.out.2.c2; have a3 := HB2.out.2.c3; have a4 := HB2.out.2.c4; have a5 := HB2.out.2.c5
      clear hb2 HB1 KB
      cases qb
      · go_wp2_with fail
        refine (KC.out _).mono ?_
        rintro e w3 ⟨rfl, hb3⟩
        have HB3 := show Hid (Below w.heap.size w w3 ∧ T6' w3 w.heap.size (.int .i64 tk) (.string tx) (.int .i64 tn) (.int .i64 tl) (.int .i64 tc) (.int .i64 to)) from HN.out _ _ HB2.out hb3
        clear a0 a1 a2 a3 a4 a5
        have a0 := HB3.out.2.c0; have a1 := HB3.out.2.c1; have a2 := HB3.out.2.c2; have a3 := HB3.out.2.c3; have a4 := HB3.out.2.c4; have a5 := HB3.out.2.c5
        clear hb3 HB2 KC
        cases qc
        · go_wp2_with fail
          refine (KD.out _).mono ?_
          rintro e w4 ⟨rfl, hb4⟩
          have HB4 := show Hid (Below w.heap.size w w4 ∧ T6' w4 w.heap.size (.int .i64 tk) (.string tx) (.int .i64 tn) (.int .i64 tl) (.int .i64 tc) (.int .i64 to)) from HN.out _ _ HB3.out hb4
          clear a0 a1 a2 a3 a4 a5
          have a0 := HB4.out.2.c0; have a1 := HB4.out.2.c1; have a2 := HB4.out.2.c2; have a3 := HB4.out.2.c3; have a4 := HB4.out.2.c4; have a5 := HB4.out.2.c5
          clear hb4 HB3 KD
          cases qd
          · go_wp2_with fail
            refine (KE.out _).mono ?_
            rintro e w5 ⟨rfl, hb5⟩
            have HB5 := show Hid (Below w.heap.size w w5) from (HN.out _ _ HB4.out hb5).1
            clear hb5 HB4 KE
            go_wp2_with fail
            go_ret
            exact ⟨ret_bool (by rw [HE.out, hk2]; simp), HB5.out⟩
          · go_wp2_with fail
            go_ret
            exact ⟨ret_bool (by rw [HE.out]; simp), HB4.out.1⟩
        · go_wp2_with fail
          go_ret
          exact ⟨ret_bool (by rw [HE.out]; simp), HB3.out.1⟩
      · go_wp2_with fail
        go_ret
        exact ⟨ret_bool (by rw [HE.out]; simp), HB2.out.1⟩
    · go_wp2_with fail
      go_ret
      exact ⟨ret_bool (by rw [HE.out]; simp), HB1.out.1⟩
set_option maxHeartbeats 1000000 in
theorem tok_any (h : Dw w0 w p C g cap ts q) :
    Calls Tryz.prog 34 #[.pointer (some ⟨p, 0, none⟩)] w fun e w' => e = .returned (tnV (Sx.tk ts q.i)) ∧ Below w.heap.size w w' := by
  obtain ⟨wa, hwa⟩ : ∃ wa, wa = w.alloc (Obj.cells #[.int .i64 0, .string ⟨#[]⟩, .int .i64 0, .int .i64 0, .int .i64 0, .int .i64 0] 45) := ⟨_, rfl⟩
  have HB := show Hid (Below w.heap.size w wa) from by rw [hwa]; exact below_alloc w _
  have HR := show Hid (T6' wa w.heap.size (.int .i64 0) (.string ⟨#[]⟩) (.int .i64 0) (.int .i64 0) (.int .i64 0) (.int .i64 0)) from by rw [hwa]; exact heap_alloc_new w _
  have h0 := h.later HB.out
  have c1 := h0.pb.c1
  have c2 := h0.pb.c2
  have f0 := HR.out.fr
  have e0 := HR.out.c0; have e1 := HR.out.c1; have e2 := HR.out.c2; have e3 := HR.out.c3; have e4 := HR.out.c4; have e5 := HR.out.c5
  have HTK := show Hid (TsAt wa g cap ts) from h0.tk
  generalize q.i = i at *
  clear h h0
  by_cases hi : i < ts.length
  · have hlt : (i : Int) < (ts.length : Int) := by omega
    have hcell := HTK.out.cell hi
    have d0 := hcell 0 (by omega)
    have d1 := hcell 1 (by omega)
    have d2 := hcell 2 (by omega)
    have d3 := hcell 3 (by omega)
    have d4 := hcell 4 (by omega)
    have d5 := hcell 5 (by omega)
    rw [tk_get hi]
    generalize ts[i] = t at *
    obtain ⟨tk, tx, tn, tl, tc, to⟩ := t
    simp only [tnC, tnV, Nat.add_zero, List.getElem?_cons_zero, List.getElem?_cons_succ] at *
    clear hcell
    go_enter Tryz.func34, Tryz.ntmps34
    go_wp2_with fail
    rw [← hwa]
    clear hwa
    go_quiet (fail)
    go_wp2_with fail
    go_region
    go_wp2_with fail
    refine bodyPost_ret (results_cell_row rfl _ _ w.heap.size _ _ _ _ rfl ((HR.out.drewN (nq + 1)).s6 (.int .i64 tk) (.string tx) (.int .i64 tn) (.int .i64 tl) (.int .i64 tc) (.int .i64 to)) Tryz.underlying45 rfl (by kernel_rfl)) rfl ?_
    exact ⟨rfl, below_set6' (bdrewN HB.out (nq + 1)) (Nat.le_refl _) _ _ _ _ _ _⟩
  · rw [tk_out (by omega)]
    have hlt : ¬ (i : Int) < (ts.length : Int) := by omega
    go_enter Tryz.func34, Tryz.ntmps34
    go_wp2_with fail
    rw [← hwa]
    clear hwa
    go_quiet (fail)
    go_wp2_with fail
    refine bodyPost_ret (results_cell_row rfl _ _ w.heap.size _ _ _ _ rfl ((HR.out.drewN nq).s6 (.int .i64 0) (.string ⟨#[]⟩) (.int .i64 0) (.int .i64 0) (.int .i64 0) (.int .i64 0)) Tryz.underlying45 rfl (by kernel_rfl)) rfl ?_
    exact ⟨rfl, below_set6' (bdrewN HB.out nq) (Nat.le_refl _) _ _ _ _ _ _⟩
end
end Go.Proofs.YtcidldgenogdkaaGreatDoor
/-
  The document's parser: its small calls is, fail, take, put, two. For every list of tokens. No other condition.
-/
namespace Go.Proofs.YtcidldgenogdkaaGreatDoor
open Go.RowKit Go.Maps
open Fm (Nd)
open Sx (Tn T)

namespace Ds
/-- A row is put, if there is no fault and room. -/
def put (q : Ds) (n : Nd) : Int × Ds := if q.e ≠ 0 ∨ q.fl = true then (0, q) else ((Fm.put q.t n).1, { q with t := (Fm.put q.t n).2.2, fl := decide ((Fm.put q.t n).2.1 = 30) })
def flt (q : Ds) (e : Int) (t : Tn) : Ds := { q with e := e, l := t.l, c := t.c, o := t.o }
end Ds
section
variable (w : World) {w0 : World} {p C g cap : Nat} {ts : List Tn} {q : Ds}
set_option maxHeartbeats 1000000 in
theorem dis_any (h : Dw w0 w p C g cap ts q) (x : ByteArray) :
    Calls Tryz.prog 61 #[.pointer (some ⟨p, 0, none⟩), .string x] w fun e w' => e = .returned (.bool (q.e == 0 && Sx.sgn (Sx.tk ts q.i) x.data.toList)) ∧ Below w.heap.size w w' := by
  have KT := show Hid (Calls Tryz.prog 34 #[.pointer (some ⟨p, 0, none⟩)] w fun e w' => e = .returned (tnV (Sx.tk ts q.i)) ∧ Below w.heap.size w w') from tok_any w h
  have KS := show Hid (∀ (w1 : World), Calls Tryz.prog 59 #[tnV (Sx.tk ts q.i), .string x] w1 fun e w' => e = .returned (.bool (Sx.sgn (Sx.tk ts q.i) x.data.toList)) ∧ Below w1.heap.size w1 w') from fun w1 => dsign_any w1 _ x
  have c6 := h.pb.c6
  generalize Sx.sgn (Sx.tk ts q.i) x.data.toList = r at *
  generalize Sx.tk ts q.i = t at *
  obtain ⟨tk, tx, tn, tl, tc, to⟩ := t
  unfold tnV at *
  generalize q.e = e at *
  clear h
  by_cases he : e = 0
  · subst he
    go_enter Tryz.func61, Tryz.ntmps61
    go_wp2_with fail
    refine KT.out.mono ?_
    rintro e w1 ⟨rfl, hb1⟩
    have HB1 := show Hid (Below w.heap.size w w1) from hb1
    clear hb1 KT
    go_wp2_with fail
    refine (KS.out _).mono ?_
    rintro e w2 ⟨rfl, hb2⟩
    have HB2 := show Hid (Below w.heap.size w w2) from HB1.out.trans (hb2.mono HB1.out.size)
    clear hb2 KS HB1
    go_wp2_with fail
    go_ret
    exact ⟨ret_bool (by simp), HB2.out⟩
  · have he2 : (e == 0) = false := beq_eq_false_iff_ne.2 he
    go_enter Tryz.func61, Tryz.ntmps61
    go_wp2_with fail
    go_ret
    exact ⟨ret_bool (by first | rfl | (rw [he2]; rfl)), Below.refl _ _⟩
theorem field_at3 (w : World) (k n l c o : Int) (s : ByteArray) : (Instr.field 45 (.agg #[.int .i64 k, .string s, .int .i64 n, .int .i64 l, .int .i64 c, .int .i64 o]) 3).run Tryz.prog w = .ok (.agg #[.int .i64 l, .int .i64 c, .int .i64 o]) w := by kernel_rfl
set_option maxRecDepth 100000 in
set_option maxHeartbeats 1000000 in
theorem dfail_any (h : Dw w0 w p C g cap ts q) (x : Int) :
    Calls Tryz.prog 35 #[.pointer (some ⟨p, 0, none⟩), .int .i64 x] w fun e w' => e = .returned (.tuple #[]) ∧ Dw w0 w' p C g cap ts (if q.e = 0 then q.flt x (Sx.tk ts q.i) else q) ∧ Tf w w' := by
  have KT := show Hid (Calls Tryz.prog 34 #[.pointer (some ⟨p, 0, none⟩)] w fun e w' => e = .returned (tnV (Sx.tk ts q.i)) ∧ Below w.heap.size w w') from tok_any w h
  have c6 := h.pb.c6
  have HD := show Hid (Dw w0 w p C g cap ts q) from h
  by_cases he : q.e = 0
  · rw [if_pos he]
    rw [he] at c6
    unfold Ds.flt
    generalize Sx.tk ts q.i = t at *
    obtain ⟨tk, tx, tn, tl, tc, to⟩ := t
    unfold tnV at *
    simp only at *
    clear h he
    go_enter Tryz.func35, Tryz.ntmps35
    go_wp2_with fail
    refine KT.out.mono ?_
    rintro e w1 ⟨rfl, hb1⟩
    have D1 := show Hid (Dw w0 w1 p C g cap ts q) from HD.out.later hb1
    have HT1 := show Hid (Tf w w1) from Tf.of_below hb1
    clear hb1 KT c6
    have hfd := fun w => field_at3 w tk tn tl tc to tx
    have c6 := D1.out.pb.c6; have c7 := D1.out.pb.c7; have c8 := D1.out.pb.c8; have c9 := D1.out.pb.c9
    have fr := D1.out.pb.fr
    go_wp2_with fail
    first | go_end0 | refine bodyPost_ret (results_none rfl _ _ _) rfl ?_
    have D2 := D1.out.s6 x
    have D3 := D2.s7 tl
    have D4 := D3.s8 tc
    have D5 := D4.s9 to
    exact ⟨rfl, D5, (((HT1.out.trans (D1.out.tset 6 _)).trans (D2.tset 7 _)).trans (D3.tset 8 _)).trans (D4.tset 9 _)⟩
  · rw [if_neg he]
    generalize q.e = e at *
    clear h
    go_enter Tryz.func35, Tryz.ntmps35
    go_wp2_with fail
    first | go_end0 | refine bodyPost_ret (results_none rfl _ _ _) rfl ?_
    exact ⟨rfl, HD.out, Tf.refl _⟩
set_option maxRecDepth 100000 in
set_option maxHeartbeats 2000000 in
theorem dtake_any (h : Dw w0 w p C g cap ts q) (he : q.e = 0) (hi : q.i ≤ ts.length) (hu : Sx.up ts q.i q.n ≤ 512) :
    Calls Tryz.prog 62 #[.pointer (some ⟨p, 0, none⟩)] w fun e w' => e = .returned (.tuple #[]) ∧ Dw w0 w' p C g cap ts { q with i := q.i + 1, n := Sx.up ts q.i q.n } ∧ Tf w w' := by
  have hcl : ts.length ≤ 4611686018427387904 := by obtain ⟨cur, _, _, _, _, h1⟩ := h.tk; exact h1
  have KT := show Hid (Calls Tryz.prog 34 #[.pointer (some ⟨p, 0, none⟩)] w fun e w' => e = .returned (tnV (Sx.tk ts q.i)) ∧ Below w.heap.size w w') from tok_any w h
  have KC := show Hid (∀ w, Calls Tryz.prog 31 #[tnV (Sx.tk ts q.i)] w fun e w' => e = .returned (.bool (Sx.counts (Sx.tk ts q.i))) ∧ Below w.heap.size w w') from fun w => counted_any w _
  have HU := show Hid (Sx.up ts q.i q.n = if Sx.counts (Sx.tk ts q.i) then q.n + 1 else q.n) from rfl
  have c6 := h.pb.c6
  rw [he] at c6
  have HD := show Hid (Dw w0 w p C g cap ts q) from h
  generalize Sx.up ts q.i q.n = u at *
  generalize Sx.counts (Sx.tk ts q.i) = cc at *
  generalize Sx.tk ts q.i = t at *
  obtain ⟨tk, tx, tn, tl, tc, to⟩ := t
  unfold tnV at *
  have hi2 : q.i ≤ 4611686018427387904 := by omega
  clear h hi hcl
  obtain ⟨qi, qn, qd, qf, qe, ql, qc, qo, qt⟩ := q
  simp only at *
  subst he
  go_enter Tryz.func62, Tryz.ntmps62
  go_wp2_with fail
  refine KT.out.mono ?_
  rintro e w1 ⟨rfl, hb1⟩
  have D1 := show Hid (Dw w0 w1 p C g cap ts ⟨qi, qn, qd, qf, 0, ql, qc, qo, qt⟩ ∧ Tf w w1) from ⟨HD.out.later hb1, Tf.of_below hb1⟩
  clear hb1 KT c6
  go_wp2_with fail
  refine (KC.out _).mono ?_
  rintro e w2 ⟨rfl, hb2⟩
  have D2 := show Hid (Dw w0 w2 p C g cap ts ⟨qi, qn, qd, qf, 0, ql, qc, qo, qt⟩ ∧ Tf w w2) from ⟨D1.out.1.later hb2, D1.out.2.trans (Tf.of_below hb2)⟩
  clear hb2 KC D1
  have c2 := D2.out.1.pb.c2; have c3 := D2.out.1.pb.c3
  have fr := D2.out.1.pb.fr
  simp only at c2 c3
  cases cc
  · have hun : u = qn := HU.out
    subst hun
    go_wp2_with fail
    first | go_end0 | refine bodyPost_ret (results_none rfl _ _ _) rfl ?_
    have D3 := D2.out.1.s2 (qi + 1)
    exact ⟨rfl, by simpa using D3, by simpa using D2.out.2.trans (D2.out.1.tset 2 (.int .i64 ((qi + 1 : Nat) : Int)))⟩
  · have hun : u = qn + 1 := HU.out
    subst hun
    have hle : ¬ 512 < (qn : Int) + 1 := by omega
    have hle2 : (qn : Int) + 1 ≤ 512 := by omega
    go_wp2_with fail
    first | go_end0 | refine bodyPost_ret (results_none rfl _ _ _) rfl ?_
    have D3 := D2.out.1.s3 (qn + 1)
    have D4 := D3.s2 (qi + 1)
    exact ⟨rfl, by simpa using D4, by simpa using (D2.out.2.trans (D2.out.1.tset 3 (.int .i64 ((qn + 1 : Nat) : Int)))).trans (D3.tset 2 (.int .i64 ((qi + 1 : Nat) : Int)))⟩
set_option maxRecDepth 100000 in
set_option maxHeartbeats 2000000 in
theorem dput_any (h : Dw w0 w p C g cap ts q) (n : Nd) (hn : Fm.good n) :
    Calls Tryz.prog 95 #[.pointer (some ⟨p, 0, none⟩), ndV n] w fun e w' => e = .returned (.int .i64 (q.put n).1) ∧ Dw w0 w' p C g cap ts (q.put n).2 ∧ Tf w w' := by
  have c6 := (h.later (below_alloc w (Obj.cells #[.int .i64 n.k, .string n.s, .int .i64 n.l, .int .i64 n.r] 104))).pb.c6
  have c5 := (h.later (below_alloc w (Obj.cells #[.int .i64 n.k, .string n.s, .int .i64 n.l, .int .i64 n.r] 104))).pb.c5
  have c0 := (h.later (below_alloc w (Obj.cells #[.int .i64 n.k, .string n.s, .int .i64 n.l, .int .i64 n.r] 104))).pb.c0
  have HD := show Hid (Dw w0 (w.alloc (Obj.cells #[.int .i64 n.k, .string n.s, .int .i64 n.l, .int .i64 n.r] 104)) p C g cap ts q ∧ Tf w (w.alloc (Obj.cells #[.int .i64 n.k, .string n.s, .int .i64 n.l, .int .i64 n.r] 104))) from ⟨h.later (below_alloc _ _), Tf.of_below (below_alloc _ _)⟩
  have KP := show Hid (Calls Tryz.prog 79 #[.pointer (some ⟨C, 0, none⟩), ndV n] (w.alloc (Obj.cells #[.int .i64 n.k, .string n.s, .int .i64 n.l, .int .i64 n.r] 104)).drew fun e w' => e = .returned (.tuple #[.int .i64 (Fm.put q.t n).1, .int .i64 (Fm.put q.t n).2.1]) ∧ (Dw w0 w' p C g cap ts { q with t := (Fm.put q.t n).2.2 } ∧ Tf w w') ∧ (w'.cell? ⟨p, 0, none⟩ = some (.pointer (some ⟨C, 0, none⟩)) ∧ w'.cell? ⟨w.heap.size, 0, none⟩ = some (.int .i64 n.k) ∧ w'.cell? ⟨w.heap.size, 1, none⟩ = some (.string n.s) ∧ w'.cell? ⟨w.heap.size, 2, none⟩ = some (.int .i64 n.l) ∧ w'.cell? ⟨w.heap.size, 3, none⟩ = some (.int .i64 n.r))) from by
    obtain ⟨u, hT, hf⟩ := h.tr
    have hb : Below w.heap.size w (w.alloc (Obj.cells #[.int .i64 n.k, .string n.s, .int .i64 n.l, .int .i64 n.r] 104)).drew := bdrewN (below_alloc _ _) 1
    have h1 := h.later hb
    refine (rput_any _ (hT.later hb) n hn).mono ?_
    rintro e w' ⟨h2, h3⟩
    have h4 := h1.after (hT.later hb) hf h3
    obtain ⟨u', hT', hL, hK⟩ := h3
    have hN : N4 w' w.heap.size n := (hK.block _ (by simp [World.drew]) (fun hfr => by have := hT.foot _ hfr; omega)).trans (heap_alloc_new _ _)
    exact ⟨h2, ⟨h4.1, (Tf.of_below hb).trans h4.2⟩, h4.1.pb.c0, hN.c0, hN.c1, hN.c2, hN.c3⟩
  have HE := show Hid (q.put n = if q.e ≠ 0 ∨ q.fl = true then (0, q) else ((Fm.put q.t n).1, { q with t := (Fm.put q.t n).2.2, fl := decide ((Fm.put q.t n).2.1 = 30) })) from rfl
  generalize q.put n = r at *
  generalize Fm.put q.t n = pr at *
  obtain ⟨nk, ns, nl, nr⟩ := n
  obtain ⟨pa, pe, pt⟩ := pr
  obtain ⟨qi, qn, qd, qf, qe, ql, qc, qo, qt⟩ := q
  unfold ndV at *
  simp only at *
  have HS0 : (w.alloc (Obj.cells #[.int .i64 nk, .string ns, .int .i64 nl, .int .i64 nr] 104)).drew.cell? ⟨p, 0, none⟩ = some (.pointer (some ⟨C, 0, none⟩)) ∧ (w.alloc (Obj.cells #[.int .i64 nk, .string ns, .int .i64 nl, .int .i64 nr] 104)).drew.cell? ⟨w.heap.size, 0, none⟩ = some (.int .i64 nk) ∧ (w.alloc (Obj.cells #[.int .i64 nk, .string ns, .int .i64 nl, .int .i64 nr] 104)).drew.cell? ⟨w.heap.size, 1, none⟩ = some (.string ns) ∧ (w.alloc (Obj.cells #[.int .i64 nk, .string ns, .int .i64 nl, .int .i64 nr] 104)).drew.cell? ⟨w.heap.size, 2, none⟩ = some (.int .i64 nl) ∧ (w.alloc (Obj.cells #[.int .i64 nk, .string ns, .int .i64 nl, .int .i64 nr] 104)).drew.cell? ⟨w.heap.size, 3, none⟩ = some (.int .i64 nr) := by
    have hN : N4 (w.alloc (Obj.cells #[.int .i64 nk, .string ns, .int .i64 nl, .int .i64 nr] 104)).drew w.heap.size ⟨nk, ns, nl, nr⟩ := heap_alloc_new _ _
    exact ⟨c0, hN.c0, hN.c1, hN.c2, hN.c3⟩
  clear h hn
  by_cases he : qe = 0
  · subst he
    cases qf
    · have hr := HE.out
      rw [if_neg (by simp)] at hr
      subst hr
      clear HE
      go_enter Tryz.func95, Tryz.ntmps95
      go_wp2_with fail
      go_region_held3 (fun wx => wx.cell? ⟨p, 0, none⟩ = some (.pointer (some ⟨C, 0, none⟩)) ∧ wx.cell? ⟨w.heap.size, 0, none⟩ = some (.int .i64 nk) ∧ wx.cell? ⟨w.heap.size, 1, none⟩ = some (.string ns) ∧ wx.cell? ⟨w.heap.size, 2, none⟩ = some (.int .i64 nl) ∧ wx.cell? ⟨w.heap.size, 3, none⟩ = some (.int .i64 nr)) (first | assumption) (first | (go_at_call 79; refine KP.out.mono ?_; rintro e w1 ⟨rfl, ha, hS1⟩))
      clear c0 c5 c6 HS0
      have c5 := ha.1.pb.c5
      have fr := ha.1.pb.fr
      simp only at c5
      by_cases h30 : pe = 30
      · subst h30
        go_wp2_with fail
        go_ret
        exact ⟨rfl, ha.1.s5 true, ha.2.trans (ha.1.tset 5 _)⟩
      · go_wp2_with fail
        go_ret
        exact ⟨rfl, by simpa [h30] using ha.1, ha.2⟩
    · have hr := HE.out
      rw [if_pos (by simp)] at hr
      subst hr
      clear HE
      go_enter Tryz.func95, Tryz.ntmps95
      go_wp2_with fail
      go_ret
      exact ⟨rfl, HD.out⟩
  · have hr := HE.out
    rw [if_pos (Or.inl he)] at hr
    subst hr
    clear HE
    go_enter Tryz.func95, Tryz.ntmps95
    go_wp2_with fail
    go_ret
    exact ⟨rfl, HD.out⟩
set_option maxHeartbeats 1000000 in
theorem dtwo_any (h : Dw w0 w p C g cap ts q) (k a b : Int) (hn : Fm.good ⟨k, ⟨#[]⟩, a, b⟩) :
    Calls Tryz.prog 63 #[.pointer (some ⟨p, 0, none⟩), .int .i64 k, .int .i64 a, .int .i64 b] w fun e w' => e = .returned (.int .i64 (q.put ⟨k, ⟨#[]⟩, a, b⟩).1) ∧ Dw w0 w' p C g cap ts (q.put ⟨k, ⟨#[]⟩, a, b⟩).2 ∧ Tf w w' := by
  have K := show Hid (Calls Tryz.prog 95 #[.pointer (some ⟨p, 0, none⟩), .agg #[.int .i64 k, .string ⟨#[]⟩, .int .i64 a, .int .i64 b]] w fun e w' => e = .returned (.int .i64 (q.put ⟨k, ⟨#[]⟩, a, b⟩).1) ∧ Dw w0 w' p C g cap ts (q.put ⟨k, ⟨#[]⟩, a, b⟩).2 ∧ Tf w w') from dput_any w h _ hn
  generalize q.put ⟨k, ⟨#[]⟩, a, b⟩ = r at *
  clear h hn
  go_enter Tryz.func63, Tryz.ntmps63
  go_wp2_with fail
  refine K.out.mono ?_
  rintro e w1 ⟨rfl, ha⟩
  have HA := show Hid _ from ha
  clear ha K
  go_wp2_with fail
  go_ret
  exact ⟨rfl, HA.out⟩
end
end Go.Proofs.YtcidldgenogdkaaGreatDoor
