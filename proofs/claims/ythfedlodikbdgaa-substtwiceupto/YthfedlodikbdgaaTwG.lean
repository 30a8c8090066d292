/-
  How many places a row of names and formulas has, by its bulk. No condition.
-/
import Derived.Test.YthfedlodikbdgaaUArgs
import Derived.Test.YthfedlodikbdgaaRAtG
import Derived.Test.YthfedlodikbdgaaUHeads
import Derived.Test.YthfedlodikbdgaaLLike
import Derived.Test.YthfedlodikbdgaaUPW
import Derived.Test.YthfedlodikbdgaaRMatG
namespace Go.Proofs.Ythfedlodikbdgaa
open Go.ChangeShapes Go.WideShapes Go.ChangeAt Go.RowKit

theorem bulk_pos {H : Type} : ∀ d : DataW H, 1 ≤ Rows.uptoBulk d
  | .lit l => by cases l <;> simp [Rows.uptoBulk]
  | .nil => by simp [Rows.uptoBulk]
  | .ptr _ => by simp [Rows.uptoBulk]
  | .slice _ _ => by simp [Rows.uptoBulk]
  | .agg _ => by simp [Rows.uptoBulk]
  | .iface _ _ => by simp [Rows.uptoBulk]
  | .map _ => by simp [Rows.uptoBulk]
  | .held _ => by simp [Rows.uptoBulk]
theorem bulk_all {H : Type} : ∀ l : List (DataW H), l.length ≤ Rows.uptoBulkAll l
  | [] => by simp
  | d :: r => by
    have h1 := bulk_pos d
    have h2 := bulk_all r
    simp only [Rows.uptoBulkAll, List.length_cons]
    omega
set_option maxRecDepth 100000 in
theorem bulk_hyps {H : Type} {enc : TypeId × Value → H} {W : World} {v : Value} {d : DataW H} {p : List MemPlace} {q : Option Addr} {n c : Nat} (hv : v = .slice q n c)
    (h : DataW.Trod enc Try.prog W 0 (fun _ => true) true 23 v d p) : n ≤ Rows.uptoBulk d := by
  subst hv
  obtain ⟨fuel, hf⟩ := h
  rcases Deep.open_slice Try.underlying23 hf with ⟨hcs, hx⟩ | ⟨a, len', cap', m, n', D, Pl, hcs, hb, hl, hm, hmm, hx, hel⟩
  · simp only [Value.cells, List.cons.injEq, and_true] at hcs
    obtain ⟨rfl, rfl, rfl⟩ := Value.slice.inj (by simpa using hcs)
    exact Nat.zero_le _
  · obtain ⟨rfl, rfl, rfl⟩ := Value.slice.inj (by simpa [Value.cells] using hcs)
    obtain ⟨rfl, rfl⟩ := Prod.mk.inj hx
    simp only [Rows.uptoBulk]
    have h1 := bulk_all ((List.range n).map D)
    simp only [List.length_map, List.length_range] at h1
    omega
end Go.Proofs.Ythfedlodikbdgaa
/-
  Plain mathematics of two puts, one behind the other. No condition.
-/
namespace Go.Proofs.Ythfedlodikbdgaa
open Fm (Nd)

theorem put_errs {t : List Nd} {n : Nd} (hc : Fm.check t n = 0) : (Fm.put t n).2.1 = 0 ∨ (Fm.put t n).2.1 = 30 := by
  unfold Fm.put
  rw [if_pos hc]
  split
  · exact Or.inl rfl
  · split
    · exact Or.inr rfl
    · exact Or.inl rfl
theorem rowI_check {t : List Nd} (h : Fm.Ok t) {im : Nat → Int} (him : ∀ j, Fm.has t (im j) = true) {i : Nat} (hi : i < t.length) : Fm.check t (Sb.rowI t im i) = 0 := by
  cases hj : Fm.jn (Ms.row t i).k with
  | false =>
    have e : Sb.rowI t im i = Ms.row t i := by unfold Sb.rowI; rw [if_neg (by rw [hj]; simp)]
    rw [e]
    exact Sb.check_row h hi
  | true =>
    rw [Sb.rowI_at h hi im hj]
    have hw := check_ways t ⟨(Ms.row t i).k, ⟨#[]⟩, im (Ms.row t i).l.toNat, im (Ms.row t i).r.toNat⟩
    simp only [him] at hw
    have h345 := Sb.jn_three hj
    rcases hw with hw | hw | hw | hw
    · rcases h345 with e | e | e <;> (rw [e] at hw; exact absurd hw.1 (by decide))
    · rcases h345 with e | e | e <;> (rw [e] at hw; exact absurd hw.1 (by decide))
    · rcases hw.2 with q | q | q | q
      · exact absurd q.1 (by rw [ByteArray.toList_eq]; decide)
      · exact absurd q.2.1 (by decide)
      · exact absurd q.2.2.1 (by decide)
      · exact q.2.2.2
    · obtain ⟨_, _, h3, h4, h5, _⟩ := hw
      rcases h345 with e | e | e
      · rw [e] at h3; cases h3
      · rw [e] at h4; cases h4
      · rw [e] at h5; cases h5
theorem run_errs {t : List Nd} (h : Fm.Ok t) (h0 : 0 < t.length) {l : Sb.Hs} (ha : ∀ x ∈ l, Fm.has t x.2 = true) : ∀ (n : Nat) (b : List Nat), b.length = n → (∀ i ∈ b, i < t.length) → (Sb.run (Sb.putF l) b t).2.1 = 0 ∨ (Sb.run (Sb.putF l) b t).2.1 = 30
  | 0, b, hb, _ => by
    have := List.eq_nil_of_length_eq_zero hb
    subst this
    exact Or.inl rfl
  | n + 1, b, hb, hlt => by
    rcases List.eq_nil_or_concat b with rfl | ⟨r, i, rfl⟩
    · simp at hb
    · rw [List.concat_eq_append] at *
      have hr := run_errs h h0 ha n r (by simpa using hb) (fun j hj => hlt j (by simp [hj]))
      rw [Sb.run_snoc]
      have hR := Sb.runs_run h h0 (Sb.putF_fair ha) r (fun j hj => hlt j (by simp [hj]))
      generalize Sb.run (Sb.putF l) r t = s at *
      unfold Sb.step
      split
      · obtain ⟨u, hu⟩ := hR.ext
        have hi : i < s.2.2.length := by rw [hu, List.length_append]; have := hlt i (by simp); omega
        show (Sb.putF l s.2.2 i (Sb.rowI s.2.2 s.1 i)).2.1 = 0 ∨ _
        unfold Sb.putF
        split
        · exact Or.inl rfl
        · exact put_errs (rowI_check hR.ok hR.im hi)
      · exact hr
/-- What Put answers of what it takes. -/
theorem putR_ok {t : List Nd} (h : Fm.Ok t) {id : Int} {l : Sb.Hs} (h0 : (Sb.putR t id l).2.1 = 0) :
    Fm.has t id = true ∧ (∀ x ∈ l, Fm.has t x.2 = true) ∧ Sb.Dist l ∧ Sb.Words l ∧ Fm.Ok (Sb.putR t id l).2.2 ∧ (∃ u, (Sb.putR t id l).2.2 = t ++ u) ∧ Fm.has (Sb.putR t id l).2.2 (Sb.putR t id l).1 = true ∧
    Sb.T (Sb.putR t id l).2.2 (Sb.putR t id l).1.toNat = Sb.sub (fun s => (Sb.look l s).map fun f => Sb.T t f.toNat) (Sb.T t id.toNat) := by
  rcases putR_cases t id l with ⟨hh, ha, hd, hw, e⟩ | ⟨e0, hne, e⟩
  · rw [e] at h0 ⊢
    obtain ⟨q0, q1⟩ := Fm.has_iff.1 hh
    exact ⟨hh, ha, hd, hw, Sb.put_tree h (id := id.toNat) (by omega) hw ha h0⟩
  · rw [e] at h0
    exact absurd h0 hne
theorem putR_err {t : List Nd} (h : Fm.Ok t) {id : Int} {l : Sb.Hs} (hh : Fm.has t id = true) (ha : ∀ x ∈ l, Fm.has t x.2 = true) (hd : Sb.Dist l) (hw : Sb.Words l) : (Sb.putR t id l).2.1 = 0 ∨ (Sb.putR t id l).2.1 = 30 := by
  obtain ⟨q0, q1⟩ := Fm.has_iff.1 hh
  rw [(putR_ways t id l).1 ⟨hh, ha, hd, hw⟩]
  have hr := run_errs h (by omega) ha _ (Fm.below t id.toNat) rfl (fun i hi => by have := Ms.below_lt t _ i hi; omega)
  unfold Sb.anew
  split
  · exact Or.inl rfl
  · exact hr
theorem look_idx : ∀ (a b : Sb.Hs), a.map (·.1) = b.map (·.1) → ∀ s, (Sb.look a s = none ∧ Sb.look b s = none) ∨ ∃ (j : Nat) (ha : j < a.length) (hb : j < b.length), Sb.look a s = some a[j].2 ∧ Sb.look b s = some b[j].2
  | [], [], _, s => Or.inl ⟨rfl, rfl⟩
  | [], _ :: _, h, _ => by simp at h
  | _ :: _, [], h, _ => by simp at h
  | (n, f) :: a, (m, g) :: b, h, s => by
    simp only [List.map_cons, List.cons.injEq] at h
    obtain ⟨rfl, h2⟩ := h
    rw [Sb.look_cons, Sb.look_cons]
    by_cases e : n = s
    · rw [if_pos e, if_pos e]
      exact Or.inr ⟨0, by simp, by simp, rfl, rfl⟩
    · rw [if_neg e, if_neg e]
      rcases look_idx a b h2 s with q | ⟨j, ha, hb, q1, q2⟩
      · exact Or.inl q
      · exact Or.inr ⟨j + 1, by simpa using ha, by simpa using hb, by simpa using q1, by simpa using q2⟩
/-- What holds of the row of both, k of the first's names in it. -/
structure Tw (t1 t2 : List Nd) (bl tl : Sb.Hs) (k : Nat) (b1 : Sb.Hs) (tc : List Nd) : Prop where
  ok : Fm.Ok tc
  ext : ∃ u, tc = t2 ++ u
  nm : b1.map (·.1) = (bl.take k).map (·.1)
  im : ∀ j (hj : j < b1.length) (hb : j < bl.length), Fm.has tc b1[j].2 = true ∧ Sb.T tc b1[j].2.toNat = Sb.sub (fun s => (Sb.look tl s).map fun f => Sb.T t1 f.toNat) (Sb.T t1 bl[j].2.toNat)
section
variable {t t1 t2 tc : List Nd} {bl tl b1 : Sb.Hs} {k : Nat}
theorem Tw.start (h : Fm.Ok t2) : Tw t1 t2 bl tl 0 [] t2 := ⟨h, ⟨[], by simp⟩, rfl, fun j hj => absurd hj (by simp)⟩
theorem Tw.len (h : Tw t1 t2 bl tl k b1 tc) (hk : k ≤ bl.length) : b1.length = k := by
  have := congrArg List.length h.nm
  simp at this
  omega
theorem T_more {a u : List Nd} (h : Fm.Ok (a ++ u)) {f : Int} (hf : Fm.has a f = true) : Sb.T (a ++ u) f.toNat = Sb.T a f.toNat :=
  Sb.T_ext h (f.toNat + 1) f.toNat (by omega) (by have := Fm.has_iff.1 hf; omega)
theorem Tw.step (h : Tw t1 t2 bl tl k b1 tc) (hk : k < bl.length) (h12 : ∃ u, t2 = t1 ++ u) (hb : ∀ x ∈ bl, Fm.has t1 x.2 = true) (ht : ∀ x ∈ tl, Fm.has t1 x.2 = true) (h0 : (Sb.putR tc bl[k].2 tl).2.1 = 0) :
    Tw t1 t2 bl tl (k + 1) (b1 ++ [(bl[k].1, (Sb.putR tc bl[k].2 tl).1)]) (Sb.putR tc bl[k].2 tl).2.2 := by
  obtain ⟨_, _, _, _, g1, ⟨u2, g2⟩, g3, g4⟩ := putR_ok h.ok h0
  have hl := h.len (by omega)
  obtain ⟨u1, hu1⟩ := h.ext
  obtain ⟨u0, hu0⟩ := h12
  have ht1 : tc = t1 ++ (u0 ++ u1) := by rw [hu1, hu0, List.append_assoc]
  have hTm : ∀ f, Fm.has t1 f = true → Sb.T tc f.toNat = Sb.T t1 f.toNat := fun f hf => by
    have ho := h.ok
    rw [ht1] at ho ⊢
    exact T_more ho hf
  refine ⟨g1, ⟨u1 ++ u2, by rw [g2, hu1, List.append_assoc]⟩, ?_, fun j hj hjb => ?_⟩
  · rw [List.take_succ_eq_append_getElem hk, List.map_append, List.map_append, h.nm]
    rfl
  · by_cases e : j < b1.length
    · rw [List.getElem_append_left e]
      obtain ⟨q1, q2⟩ := h.im j e hjb
      rw [g2] at g1 ⊢
      exact ⟨Sb.has_ext q1, by rw [T_more g1 q1]; exact q2⟩
    · have ej : j = k := by simp at hj; omega
      subst ej
      have ee : (b1 ++ [(bl[j].1, (Sb.putR tc bl[j].2 tl).1)])[j] = (bl[j].1, (Sb.putR tc bl[j].2 tl).1) := by
        rw [List.getElem_append_right (by omega)]
        simp
      rw [ee]
      refine ⟨g3, ?_⟩
      simp only
      rw [g4, hTm _ (hb _ (List.getElem_mem hk))]
      congr 1
      funext s
      cases hq : Sb.look tl s with
      | none => rfl
      | some f => simp only [Option.map_some]; rw [hTm f (ht _ (Sb.look_mem hq))]
/-- The row of both makes what one behind the other makes. -/
theorem Tw.last {id : Nat} (hok : Fm.Ok t) (he : (Sb.putR t (id : Int) bl).2.1 = 0) (hf : (Sb.putR (Sb.putR t (id : Int) bl).2.2 (Sb.putR t (id : Int) bl).1 tl).2.1 = 0)
    (h : Tw (Sb.putR t (id : Int) bl).2.2 (Sb.putR (Sb.putR t (id : Int) bl).2.2 (Sb.putR t (id : Int) bl).1 tl).2.2 bl tl bl.length b1 tc) :
    ((Sb.putR tc (id : Int) (b1 ++ Sb.rest bl tl)).2.1 = 0 ∧ (Sb.putR tc (id : Int) (b1 ++ Sb.rest bl tl)).1 = (Sb.putR (Sb.putR t (id : Int) bl).2.2 (Sb.putR t (id : Int) bl).1 tl).1) ∨ (Sb.putR tc (id : Int) (b1 ++ Sb.rest bl tl)).2.1 = 30 := by
  obtain ⟨a1, a2, a3, a4, a5, ⟨ua, a6⟩, a7, a8⟩ := putR_ok hok he
  obtain ⟨c1, c2, c3, c4, c5, ⟨uc, c6⟩, c7, c8⟩ := putR_ok a5 hf
  generalize hr1 : Sb.putR t (id : Int) bl = r1 at *
  obtain ⟨xa, xe, t1⟩ := r1
  simp only at *
  generalize hr2 : Sb.putR t1 xa tl = r2 at *
  obtain ⟨xb, xf, t2⟩ := r2
  simp only at *
  have hl := h.len (Nat.le_refl _)
  obtain ⟨u1, hu1⟩ := h.ext
  have ht1 : tc = t1 ++ (uc ++ u1) := by rw [hu1, c6, List.append_assoc]
  have hTm : ∀ f, Fm.has t1 f = true → Sb.T tc f.toNat = Sb.T t1 f.toNat ∧ Fm.has tc f = true := fun f hf => by
    have ho := h.ok
    rw [ht1] at ho ⊢
    exact ⟨T_more ho hf, Sb.has_ext hf⟩
  have hT0 : ∀ f, Fm.has t f = true → Sb.T t1 f.toNat = Sb.T t f.toNat ∧ Fm.has t1 f = true := fun f hf => by
    have ho := a5
    rw [a6] at ho ⊢
    exact ⟨T_more ho hf, Sb.has_ext hf⟩
  have hnm : b1.map (·.1) = bl.map (·.1) := by have := h.nm; rwa [List.take_length] at this
  have hrest : ∀ x ∈ Sb.rest bl tl, x ∈ tl ∧ Sb.look bl x.1 = none := fun x hx => by
    unfold Sb.rest at hx
    obtain ⟨h1, h2⟩ := List.mem_filter.1 hx
    refine ⟨h1, ?_⟩
    rw [Sb.any_name] at h2
    cases hq : Sb.look bl x.1 with
    | none => rfl
    | some f => rw [hq] at h2; cases h2
  have hall : ∀ x ∈ b1 ++ Sb.rest bl tl, Fm.has tc x.2 = true := fun x hx => by
    rcases List.mem_append.1 hx with hx | hx
    · obtain ⟨j, hj, e⟩ := List.mem_iff_getElem.1 hx
      rw [← e]
      exact (h.im j hj (by omega)).1
    · exact (hTm _ (c2 x (hrest x hx).1)).2
  have hdist : Sb.Dist (b1 ++ Sb.rest bl tl) := by
    unfold Sb.Dist
    rw [List.map_append, hnm, List.nodup_append]
    refine ⟨a3, ?_, fun x hx y hy e => ?_⟩
    · unfold Sb.rest
      exact List.Nodup.sublist (List.Sublist.map _ List.filter_sublist) c3
    · subst e
      obtain ⟨z, hz, rfl⟩ := List.mem_map.1 hy
      have h1 := (look_isSome bl z.1).2 hx
      rw [(hrest z hz).2] at h1
      cases h1
  have hwords : Sb.Words (b1 ++ Sb.rest bl tl) := fun x hx => by
    rcases List.mem_append.1 hx with hx | hx
    · have hm : x.1 ∈ bl.map (·.1) := by rw [← hnm]; exact List.mem_map_of_mem hx
      obtain ⟨z, hz, e⟩ := List.mem_map.1 hm
      rw [← e]
      exact a4 z hz
    · exact c4 x (hrest x hx).1
  have hidc := (hTm _ (hT0 _ a1).2)
  rcases putR_err h.ok hidc.2 hall hdist hwords with g0 | g0
  · refine Or.inl ⟨g0, ?_⟩
    obtain ⟨_, _, _, _, g5, ⟨ug, g6⟩, g7, g8⟩ := putR_ok h.ok g0
    have hsub := Sb.sub_sub (fun s => (Sb.look bl s).map fun f => Sb.T t f.toNat) (fun s => (Sb.look tl s).map fun f => Sb.T t1 f.toNat) (fun s => (Sb.look (b1 ++ Sb.rest bl tl) s).map fun f => Sb.T tc f.toNat) (fun s => by
      rw [Sb.look_app]
      rcases look_idx b1 bl hnm s with ⟨q1, q2⟩ | ⟨j, hj, hjb, q1, q2⟩
      · rw [q1, q2]
        simp only [Option.map_none]
        rw [Sb.look_rest bl tl s q2]
        cases hq : Sb.look tl s with
        | none => rfl
        | some f => simp only [Option.map_some, Option.getD_some]; exact (hTm _ (c2 _ (Sb.look_mem hq))).1
      · rw [q1, q2]
        simp only [Option.map_some, Option.getD_some]
        rw [(h.im j hj hjb).2, (hT0 _ (a2 _ (List.getElem_mem hjb))).1])
    have hb2 : Fm.has tc xb = true ∧ Sb.T tc xb.toNat = Sb.T t2 xb.toNat := by
      have ho := h.ok
      rw [hu1] at ho ⊢
      exact ⟨Sb.has_ext c7, T_more ho c7⟩
    have hb3 : Fm.has (Sb.putR tc (id : Int) (b1 ++ Sb.rest bl tl)).2.2 xb = true ∧ Sb.T (Sb.putR tc (id : Int) (b1 ++ Sb.rest bl tl)).2.2 xb.toNat = Sb.T tc xb.toNat := by
      rw [g6] at g5 ⊢
      exact ⟨Sb.has_ext hb2.1, T_more g5 hb2.1⟩
    have key : Sb.T (Sb.putR tc (id : Int) (b1 ++ Sb.rest bl tl)).2.2 (Sb.putR tc (id : Int) (b1 ++ Sb.rest bl tl)).1.toNat = Sb.T (Sb.putR tc (id : Int) (b1 ++ Sb.rest bl tl)).2.2 xb.toNat := by
      rw [g8, hb3.2, hb2.2, c8, a8, hsub, hidc.1, (hT0 _ a1).1]
    have q1 := Fm.has_iff.1 g7
    have q2 := Fm.has_iff.1 hb3.1
    have := Sb.T_inj g5 _ _ _ (Nat.lt_succ_self _) (by omega) (by omega) key
    omega
  · exact Or.inr g0
end
end Go.Proofs.Ythfedlodikbdgaa
/-
  The law SubstTwice, as the program walks it: true for every row and number, and every two rows of names and formulas of at most 1048576 each. No other condition.
-/
namespace Go.Proofs.Ythfedlodikbdgaa
open Go.RowKit Go.Maps
open Fm (Nd)

/-- Two tables and a row of the law's own beside them. -/
structure PW (w0 w : World) (b m : Nat) (v : Value) (c : Nat) (u : Value) (t r : List Nd) (B0 : Nat) (ov : Value) (l : Sb.Hs) : Prop where
  pr : Pair w0 w b m v c u t r
  ow : w.ownsRow B0 39 2 ov l.length (cellsH l)
  ap : ∀ k, ov.ownBlock = some k → ¬ Ft b m v k ∧ ¬ Fr c u k
  be : w0.heap.size ≤ B0 ∧ B0 ≤ w.heap.size
section
variable {w0 w w2 : World} {b m c B0 : Nat} {v u ov : Value} {t r t' r' : List Nd} {l : Sb.Hs}
theorem PW.later (h : PW w0 w b m v c u t r B0 ov l) (hb : Below w.heap.size w w2) : PW w0 w2 b m v c u t r B0 ov l := ⟨h.pr.later hb, own_keep h.ow fun j _ hlt => hb.block j hlt, h.ap, h.be.1, Nat.le_trans h.be.2 hb.size⟩
theorem PW.drew (h : PW w0 w b m v c u t r B0 ov l) : PW w0 w.drew b m v c u t r B0 ov l := h.later (Below.refl _ _).drew
theorem PW.stepT (h : PW w0 w b m v c u t r B0 ov l) (ha : After w b m v t' w2) : ∃ v', PW w0 w2 b m v' c u t' r B0 ov l := by
  obtain ⟨v', hT, hL, hK⟩ := ha
  have hp := h.pr
  refine ⟨v', ⟨hT, hp.tr.keep fun k hk => hK.block k (hp.tr.foot k hk) (fun hf => hp.apart k hf hk), fun k hk e => ?_, ?_, hp.br, hp.bel.trans (hK.below hp.bel.size hp.bt)⟩, own_keep h.ow fun k hk hlt => hK.block k hlt (h.ap k hk).1, fun k hk => ⟨fun hf => ?_, (h.ap k hk).2⟩, h.be.1, Nat.le_trans h.be.2 hK.size⟩
  · rcases hL k hk with h1 | h1
    · exact hp.dis k h1 e
    · have := (hp.tr.row.lt k e).1
      omega
  · rintro k (e | e | e)
    · exact hp.bt k (Or.inl e)
    · exact hp.bt k (Or.inr (Or.inl e))
    · rcases hL k e with h1 | h1
      · exact hp.bt k (Or.inr (Or.inr h1))
      · exact Nat.le_trans hp.bel.size h1
  · obtain ⟨_, cur, hc⟩ := own_ge h.ow k hk
    have hl := lt_of_block hc
    rcases hf with e | e | e
    · exact (h.ap k hk).1 (Or.inl e)
    · exact (h.ap k hk).1 (Or.inr (Or.inl e))
    · rcases hL k e with h1 | h1
      · exact (h.ap k hk).1 (Or.inr (Or.inr h1))
      · omega
theorem PW.app {x : Hp} {nv : Value} {ob : Obj} (h : PW w0 w b m v c u t r B0 ov l) (hown : w2.ownsRow B0 39 2 nv (l.length + 1) (cellsH l ++ encH x)) (hgr : (w.alloc ob).grownBy w2 ov.ownBlock) (hat : nv.ownBlock = ov.ownBlock ∨ nv.ownBlock = some (w.heap.size + 1)) : PW w0 w2 b m v c u t r B0 nv (l ++ [x]) := by
  have hp := h.pr
  have hs : (w.alloc ob).heap.size = w.heap.size + 1 := by simp
  have hz := hgr.size
  have hkeep : ∀ k, k < w.heap.size → (∀ e, ov.ownBlock = some e → e ≠ k) → w2.heap[k]? = w.heap[k]? := fun k hk hn => (hgr.block k (by omega) (fun e => hn k e.symm rfl)).trans (Below.heap_alloc w ob k hk)
  refine ⟨⟨hp.tb.keep fun k hk => hkeep k (hp.tb.foot k hk) (fun e he hek => (h.ap e he).1 (hek ▸ hk)), hp.tr.keep fun k hk => hkeep k (hp.tr.foot k hk) (fun e he hek => (h.ap e he).2 (hek ▸ hk)), hp.dis, hp.bt, hp.br, (hp.bel.alloc hp.bel.size ob).grown hgr (by have := hp.bel.size; omega) (fun j e => Nat.le_trans h.be.1 (own_ge h.ow j e).1)⟩, ?_, fun k hk => ?_, h.be.1, by have := h.be.2; omega⟩
  · rw [cellsH_snoc, List.length_append, List.length_singleton]
    exact hown
  · rcases hat with e | e
    · exact h.ap k (e ▸ hk)
    · rw [e] at hk
      cases hk
      exact ⟨fun hf => by have := hp.tb.foot _ hf; omega, fun hf => by have := hp.tr.foot _ hf; omega⟩
end
theorem any_take {l : Sb.Hs} {s : ByteArray} {m : Nat} (hm : m < l.length) : ((l.take (m + 1)).any fun g => decide (g.1 = s)) = (((l.take m).any fun g => decide (g.1 = s)) || decide (l[m].1 = s)) := by
  rw [List.take_succ_eq_append_getElem hm, List.any_append]
  simp
theorem rest_take {a l : Sb.Hs} {k : Nat} (hk : k < l.length) : Sb.rest a (l.take (k + 1)) = Sb.rest a (l.take k) ++ (if (a.any fun g => decide (g.1 = l[k].1)) then [] else [l[k]]) := by
  rw [List.take_succ_eq_append_getElem hk]
  unfold Sb.rest
  rw [List.filter_append]
  cases hq : (a.any fun g => decide (g.1 = l[k].1)) <;> simp [hq]
set_option maxRecDepth 100000 in
set_option maxHeartbeats 2400000 in
theorem substTwice_any (w : World) (rv : Value) (rs : List Nd) (hR : IsR w rv rs) (hg : ∀ n ∈ rs, Fm.good n) (hl : rs.length * 40 ≤ 140737488351232) (hv : rv = .slice none 0 0 ∨ ∃ a n c, rv = .slice (some a) n c) (x : Int) (bv : Value) (bl : Sb.Hs) (hH : IsH w bv bl) (hG : GoodH bl) (hbl : bl.length ≤ 1048576) (tv : Value) (tl : Sb.Hs) (hH2 : IsH w tv tl) (hG2 : GoodH tl) (htl : tl.length ≤ 1048576) :
    Calls Try.prog 7 #[rv, .int .i64 x, bv, tv] w fun e w' => e = .returned (.bool true) ∧ Below w.heap.size w w' := by
  have KB := show Hid (Calls Try.prog 9 #[rv] w fun e w' => IsBoth w w' e (Fm.fr [] rs)) from both_any w rv rs hR hg hl hv
  have KH := show Hid (∀ w1 : World, Below w.heap.size w w1 → Calls Try.prog 10 #[] w1 fun e w' => e = .returned (.bool true) ∧ Below w.heap.size w w') from fun w1 hb => (heads_any w1).mono fun e w' ⟨he, hb'⟩ => ⟨he, hb.trans (hb'.mono hb.size)⟩
  generalize Fm.fr [] rs = ans at *
  have hsl : ∃ p n cc, rv = .slice p n cc := by
    rcases hv with rfl | ⟨a, n, cc, rfl⟩
    · exact ⟨_, _, _, rfl⟩
    · exact ⟨_, _, _, rfl⟩
  obtain ⟨p, n, cc, rfl⟩ := hsl
  have HHB := show Hid (IsH w bv bl ∧ GoodH bl) from ⟨hH, hG⟩
  have HHT := show Hid (IsH w tv tl ∧ GoodH tl) from ⟨hH2, hG2⟩
  clear hR hg hl hv hG hG2
  obtain ⟨i0, hi', hz0, hz1, hz2⟩ := info_parts info_hyp
  obtain ⟨pb, cb, hbe, -, -⟩ := hH
  subst hbe
  obtain ⟨pt, ct, hte, -, -⟩ := hH2
  subst hte
  have HBC := show Hid (∀ w', Below w.heap.size w w' → ∀ k (hk : k < bl.length), ∃ b o, pb = some ⟨b, o, none⟩ ∧ w'.cell? ⟨b, o + k * 2, none⟩ = some (.string bl[k].1) ∧ w'.cell? ⟨b, o + k * 2 + 1, none⟩ = some (.int .i64 bl[k].2)) from fun w' hb k hk => by
    obtain ⟨p2, c2, h2, _, hc2⟩ := HHB.out.1.later hb
    obtain ⟨rfl, _, _⟩ := Value.slice.inj h2
    exact hc2 k hk
  have HTC := show Hid (∀ w', Below w.heap.size w w' → ∀ k (hk : k < tl.length), ∃ b o, pt = some ⟨b, o, none⟩ ∧ w'.cell? ⟨b, o + k * 2, none⟩ = some (.string tl[k].1) ∧ w'.cell? ⟨b, o + k * 2 + 1, none⟩ = some (.int .i64 tl[k].2)) from fun w' hb k hk => by
    obtain ⟨p2, c2, h2, _, hc2⟩ := HHT.out.1.later hb
    obtain ⟨rfl, _, _⟩ := Value.slice.inj h2
    exact hc2 k hk
  go_enter Try.func7, Try.ntmps7
  go_wp2_with fail
  refine KB.out.mono ?_
  rintro e w1 (⟨h0, B, M, v, C, u, rfl, hP⟩ | ⟨h0, rfl, hb1⟩)
  · obtain ⟨a0, t⟩ := ans
    simp only at h0 hP
    clear KB
    have hok := hP.tb.ok
    have KHS := show Hid (Calls Try.prog 24 #[.pointer (some ⟨C, 0, none⟩), .int .i64 x] w1 fun e w' => e = .returned (.bool (Fm.has t x)) ∧ w' = w1) from rhas_any w1 hP.tr x
    cases hh : Fm.has t x with
    | false =>
      rw [hh] at KHS
      have KHw := show Hid (Calls Try.prog 10 #[] w1 fun e w' => e = .returned (.bool true) ∧ Below w.heap.size w w') from KH.out w1 hP.bel
      clear hP KH
      go_wp2_with fail
      refine KHS.out.mono ?_
      rintro e wx ⟨rfl, hwx⟩
      subst wx
      go_wp2_with fail
      refine KHw.out.mono ?_
      rintro e w6 ⟨rfl, hb6⟩
      have HB := show Hid (Below w.heap.size w w6) from hb6
      clear KHw hb6
      go_wp2_with fail
      go_ret
      exact ⟨rfl, HB.out⟩
    | true =>
    rw [hh] at KHS
    obtain ⟨hx0, hx1⟩ := Fm.has_iff.1 hh
    obtain ⟨id, rfl⟩ : ∃ j : Nat, x = j := ⟨x.toNat, by omega⟩
    have K1 := show Hid (Calls Try.prog 11 #[.pointer (some ⟨B, 0, none⟩), .int .i64 (id : Int), .slice pb bl.length cb] w1 fun e w' => e = .returned (.tuple #[.int .i64 (Sb.putR t (id : Int) bl).1, .int .i64 (Sb.putR t (id : Int) bl).2.1]) ∧ ∃ v', Pair w w' B M v' C u (Sb.putR t (id : Int) bl).2.2 t) from (Put_any w1 hP.tb (id : Int) _ bl (HHB.out.1.later hP.bel) HHB.out.2).mono fun e w' ⟨he, hA⟩ => ⟨he, hP.stepT hA⟩
    have KR := show Hid (∀ w2 v2, Pair w w2 B M v2 C u (Sb.putR t (id : Int) bl).2.2 t → Calls Try.prog 11 #[.pointer (some ⟨B, 0, none⟩), .int .i64 (Sb.putR t (id : Int) bl).1, .slice pt tl.length ct] w2 fun e w' => e = .returned (.tuple #[.int .i64 (Sb.putR (Sb.putR t (id : Int) bl).2.2 (Sb.putR t (id : Int) bl).1 tl).1, .int .i64 (Sb.putR (Sb.putR t (id : Int) bl).2.2 (Sb.putR t (id : Int) bl).1 tl).2.1]) ∧ ∃ v', Pair w w' B M v' C u (Sb.putR (Sb.putR t (id : Int) bl).2.2 (Sb.putR t (id : Int) bl).1 tl).2.2 t) from fun w2 v2 hP2 => (Put_any w2 hP2.tb _ _ tl (HHT.out.1.later hP2.bel) HHT.out.2).mono fun e w' ⟨he, hA⟩ => ⟨he, hP2.stepT hA⟩
    have HLA := show Hid (∀ b1 tc, (Sb.putR t (id : Int) bl).2.1 = 0 → (Sb.putR (Sb.putR t (id : Int) bl).2.2 (Sb.putR t (id : Int) bl).1 tl).2.1 = 0 → Tw (Sb.putR t (id : Int) bl).2.2 (Sb.putR (Sb.putR t (id : Int) bl).2.2 (Sb.putR t (id : Int) bl).1 tl).2.2 bl tl bl.length b1 tc → ((Sb.putR tc (id : Int) (b1 ++ Sb.rest bl tl)).2.1 = 0 ∧ (Sb.putR tc (id : Int) (b1 ++ Sb.rest bl tl)).1 = (Sb.putR (Sb.putR t (id : Int) bl).2.2 (Sb.putR t (id : Int) bl).1 tl).1) ∨ (Sb.putR tc (id : Int) (b1 ++ Sb.rest bl tl)).2.1 = 30) from fun b1 tc h1 h2 h3 => Tw.last hok h1 h2 h3
    have HFA := show Hid ((Sb.putR t (id : Int) bl).2.1 = 0 → (Sb.putR (Sb.putR t (id : Int) bl).2.2 (Sb.putR t (id : Int) bl).1 tl).2.1 = 0 → (∃ u, (Sb.putR (Sb.putR t (id : Int) bl).2.2 (Sb.putR t (id : Int) bl).1 tl).2.2 = (Sb.putR t (id : Int) bl).2.2 ++ u) ∧ (∀ x ∈ bl, Fm.has (Sb.putR t (id : Int) bl).2.2 x.2 = true) ∧ (∀ x ∈ tl, Fm.has (Sb.putR t (id : Int) bl).2.2 x.2 = true) ∧ Sb.Dist tl ∧ Sb.Words tl ∧ Fm.Ok (Sb.putR (Sb.putR t (id : Int) bl).2.2 (Sb.putR t (id : Int) bl).1 tl).2.2) from fun h1 h2 => by
      obtain ⟨_, a2, _, _, a5, ⟨ua, a6⟩, _, _⟩ := putR_ok hok h1
      obtain ⟨_, c2, c3, c4, c5, c6, _, _⟩ := putR_ok a5 h2
      exact ⟨c6, fun x hx => by rw [a6]; exact Sb.has_ext (a2 x hx), c2, c3, c4, c5⟩
    clear hP hh hok
    generalize Sb.putR t (id : Int) bl = r1 at *
    obtain ⟨xa, xe, t1⟩ := r1
    simp only at K1 KR HLA HFA
    generalize Sb.putR t1 xa tl = r2 at *
    obtain ⟨xb, xf, t2⟩ := r2
    simp only at K1 KR HLA HFA
    go_wp2_with fail
    refine KHS.out.mono ?_
    rintro e wx ⟨rfl, hwx⟩
    subst wx
    clear KHS
    go_wp2_with fail
    refine K1.out.mono ?_
    rintro e w2 ⟨rfl, v2, hP2⟩
    have K2 := show Hid _ from KR.out w2 v2 hP2
    clear K1 KR hP2
    go_wp2_with fail
    refine Calls.mono K2.out ?_
    rintro e w3 ⟨rfl, v3, hP3⟩
    have HP3 := show Hid (Pair w w3 B M v3 C u t2 t) from hP3
    clear K2 hP3
    by_cases hee : xe = 0
    · subst hee
      by_cases hff : xf = 0
      · subst hff
        obtain ⟨h12, hb1, ht1, htd, htw, hok2⟩ := HFA.out rfl rfl
        have HL2 := show Hid (∀ b1 tc, Tw t1 t2 bl tl bl.length b1 tc → ((Sb.putR tc (id : Int) (b1 ++ Sb.rest bl tl)).2.1 = 0 ∧ (Sb.putR tc (id : Int) (b1 ++ Sb.rest bl tl)).1 = xb) ∨ (Sb.putR tc (id : Int) (b1 ++ Sb.rest bl tl)).2.1 = 30) from fun b1 tc h => HLA.out b1 tc rfl rfl h
        have HST := show Hid (∀ k b1 tc (hk : k < bl.length), Tw t1 t2 bl tl k b1 tc → ((Sb.putR tc bl[k].2 tl).2.1 = 0 ∧ Tw t1 t2 bl tl (k + 1) (b1 ++ [(bl[k].1, (Sb.putR tc bl[k].2 tl).1)]) (Sb.putR tc bl[k].2 tl).2.2) ∨ (Sb.putR tc bl[k].2 tl).2.1 = 30) from fun k b1 tc hk hT => by
          obtain ⟨u1, hu1⟩ := hT.ext
          obtain ⟨u0, hu0⟩ := h12
          have hex : ∀ f, Fm.has t1 f = true → Fm.has tc f = true := fun f hf => by rw [hu1, hu0, List.append_assoc]; exact Sb.has_ext hf
          rcases putR_err hT.ok (id := bl[k].2) (l := tl) (hex _ (hb1 _ (List.getElem_mem hk))) (fun x hx => hex _ (ht1 x hx)) htd htw with g | g
          · exact Or.inl ⟨g, hT.step hk ⟨u0, hu0⟩ hb1 ht1 g⟩
          · exact Or.inr g
        have HPW := show Hid (PW w w3 B M v3 C u t2 t w3.heap.size (.slice none 0 0) [] ∧ Tw t1 t2 bl tl 0 [] t2) from ⟨⟨HP3.out, World.ownsRow_nil _ _ _ _, (fun k hk => by cases hk), HP3.out.bel.size, Nat.le_refl _⟩, Tw.start hok2⟩
        clear HLA HFA HP3 h12 hb1 ht1 htd htw hok2
        obtain ⟨B0, hB0⟩ : ∃ B0, B0 = w3.heap.size := ⟨_, rfl⟩
        rw [← hB0] at HPW
        clear hB0
        go_wp2_with fail
        go_loopw [16, 17] (fun sv i wr => ∃ (k : Nat) (b1 : Sb.Hs) (tc : List Nd) (vx : Value), k ≤ bl.length ∧ i = .int .i64 (k : Int) ∧ Hid (PW w wr B M vx C u tc t B0 sv b1 ∧ Tw t1 t2 bl tl k b1 tc)) (fun _ i _ => bl.length - (intOf i).toNat)
        case atStart => exact ⟨0, [], t2, v3, by omega, rfl, HPW.out⟩
        case round =>
          obtain ⟨k, b1, tc, vx, hk, rfl, HI⟩ := hrel
          clear HPW
          by_cases hlt : k < bl.length
          · obtain ⟨gb, go, hpb, c0, c1⟩ := HBC.out wr HI.out.1.pr.bel k hlt
            have HB2 := show Hid (∀ w', Below w.heap.size w w' → w'.cell? ⟨gb, go + k * 2, none⟩ = some (.string bl[k].1)) from fun w' hb => by
              obtain ⟨b2, o2, hp2, h1, _⟩ := HBC.out w' hb k hlt
              rw [hpb] at hp2
              cases hp2
              exact h1
            have hki : (k : Int) < (bl.length : Int) := by omega
            have hbn : b1.length = k := HI.out.2.len hk
            have HSK := show Hid _ from HST.out k b1 tc hlt HI.out.2
            have KP := show Hid (Calls Try.prog 11 #[.pointer (some ⟨B, 0, none⟩), .int .i64 bl[k].2, .slice pt tl.length ct] wr fun e w' => e = .returned (.tuple #[.int .i64 (Sb.putR tc bl[k].2 tl).1, .int .i64 (Sb.putR tc bl[k].2 tl).2.1]) ∧ ∃ v', PW w w' B M v' C u (Sb.putR tc bl[k].2 tl).2.2 t B0 u16 b1) from (Put_any wr HI.out.1.pr.tb _ _ tl (HHT.out.1.later HI.out.1.pr.bel) HHT.out.2).mono fun e w' ⟨he, hA⟩ => ⟨he, HI.out.1.stepT hA⟩
            subst hpb
            clear HI HL2 HST HBC HTC HHB HHT
            generalize bl[k] = y at *
            obtain ⟨ys, yi⟩ := y
            simp only at c0 c1 HSK KP HB2
            generalize Sb.putR tc yi tl = rp at *
            obtain ⟨pa, pe, tp⟩ := rp
            simp only at HSK KP
            go_wp2_with fail
            refine KP.out.mono ?_
            rintro e w4 ⟨rfl, v4, hW4⟩
            have HW4 := show Hid (PW w w4 B M v4 C u tp t B0 u16 b1) from hW4
            clear KP hW4 c0 c1
            rcases HSK.out with ⟨hpe, hTw⟩ | hpe
            · subst hpe
              have HTW := show Hid (Tw t1 t2 bl tl (k + 1) (b1 ++ [(ys, pa)]) tp) from hTw
              have c0 := HB2.out w4 HW4.out.pr.bel
              have hws : B0 ≤ w4.heap.size := HW4.out.be.2
              obtain ⟨xs, hxs⟩ : ∃ xs, xs = cellsH b1 := ⟨_, rfl⟩
              obtain ⟨nn, hnn⟩ : ∃ n, n = b1.length := ⟨_, rfl⟩
              have HOW := show Hid (w4.ownsRow B0 39 2 u16 nn xs) from by rw [hxs, hnn]; exact HW4.out.ow
              have HXN := show Hid (xs = cellsH b1 ∧ nn = b1.length) from ⟨hxs, hnn⟩
              have hn1 : nn ≤ 1048576 := by rw [hnn]; omega
              clear hTw HSK hxs hnn hbn
              go_wp2_with (at_builtin; refine wpList_append_own_at _ rfl (.tmp 85) (.tmp 93) 23 rfl B0 39 i0 _ 2 24 Try.underlying23 hi' hz0 hz1 hz2 rfl (by decide) u16 nn xs rfl (HOW.out.alloc _) ⟨w4.heap.size, 0, none⟩ 1 1 [.string ys, .int .i64 pa] rfl rfl (cell_two _ _ _) (by simp [Value.oneCell']) (by unfold maxLen; omega) (by omega) (by simp; omega) ?_)
              intro nv w5 hown hgr hnil hat
              have HW5 := show Hid (PW w w5 B M v4 C u tp t B0 nv (b1 ++ [(ys, pa)])) from HW4.out.app (x := (ys, pa)) (by rw [← HXN.out.1, ← HXN.out.2]; exact hown) hgr hat
              clear hown hgr hnil hat HOW HXN HW4
              go_wp2_with fail
              go_roundw
              case rel => exact ⟨k + 1, _, _, _, by omega, by go_num, HW5.out, HTW.out⟩
              case measure => first | (simp [intOf]; done) | (simp [intOf]; omega)
            · subst hpe
              have KHw := show Hid (Calls Try.prog 10 #[] w4 fun e w' => e = .returned (.bool true) ∧ Below w.heap.size w w') from KH.out w4 HW4.out.pr.bel
              clear HSK HW4 KH HB2
              go_wp2_with fail
              refine KHw.out.mono ?_
              rintro e w9 ⟨rfl, hb9⟩
              have HBx := show Hid (Below w.heap.size w w9) from hb9
              clear KHw hb9
              go_wp2_with fail
              go_ret
              exact ⟨rfl, HBx.out⟩
          · have hke : k = bl.length := by omega
            subst hke
            have hbn : b1.length = bl.length := HI.out.2.len hk
            have HLX := show Hid _ from HL2.out b1 tc HI.out.2
            have HGD := show Hid (∀ x ∈ b1 ++ Sb.rest bl tl, x.1.size ≤ 140737488351232 ∧ Fm.i64 x.2) from fun x hx => by
              rcases List.mem_append.1 hx with hx | hx
              · obtain ⟨j, hj, e⟩ := List.mem_iff_getElem.1 hx
                have hm : x.1 ∈ bl.map (·.1) := by
                  have h2 := HI.out.2.nm
                  rw [List.take_length] at h2
                  rw [← h2]
                  exact List.mem_map_of_mem hx
                obtain ⟨z, hz, e2⟩ := List.mem_map.1 hm
                refine ⟨by rw [← e2]; exact (HHB.out.2 z hz).1, ?_⟩
                rw [← e]
                exact (Sb.has_i64 HI.out.2.ok (HI.out.2.im j hj (by omega)).1).2.2
              · unfold Sb.rest at hx
                exact HHT.out.2 x (List.mem_filter.1 hx).1
            have HPX := show Hid (PW w wr B M vx C u tc t B0 u16 b1) from HI.out.1
            clear HI HL2 HST
            generalize wr = wb at *
            have H0 := show Hid (PW w wb B M vx C u tc t B0 u16 (b1 ++ Sb.rest bl (tl.take 0))) from by
              have h := HPX.out
              rw [show b1 ++ Sb.rest bl (tl.take 0) = b1 from by simp [Sb.rest]]
              exact h
            clear HPX
            go_wp2_with fail
            go_loopw [16, 20] (fun sv i wr => ∃ k : Nat, k ≤ tl.length ∧ i = .int .i64 (k : Int) ∧ Hid (PW w wr B M vx C u tc t B0 sv (b1 ++ Sb.rest bl (tl.take k)))) (fun _ i _ => tl.length - (intOf i).toNat)
            case atStart => exact ⟨0, by omega, rfl, H0.out⟩
            case round =>
              obtain ⟨k, hk, rfl, HI⟩ := hrel
              clear H0
              by_cases hlt : k < tl.length
              · have hki : (k : Int) < (tl.length : Int) := by omega
                have HTK := show Hid _ from rest_take (a := bl) hlt
                have hrl : (Sb.rest bl (tl.take k)).length ≤ 1048576 := by
                  have h1 : (Sb.rest bl (tl.take k)).length ≤ (tl.take k).length := List.length_filter_le _ _
                  rw [List.length_take] at h1
                  omega
                have HTQ := show Hid (∀ w', Below w.heap.size w w' → ∃ b o, pt = some ⟨b, o, none⟩ ∧ w'.cell? ⟨b, o + k * 2, none⟩ = some (.string tl[k].1) ∧ w'.cell? ⟨b, o + k * 2 + 1, none⟩ = some (.int .i64 tl[k].2)) from fun w' hb => HTC.out w' hb k hlt
                clear HLX HGD
                generalize tl[k] = y at *
                obtain ⟨ys, yi⟩ := y
                simp only at HTK HTQ
                go_wp2_with fail
                go_loopw [21, 22] (fun qv i wr => ∃ m : Nat, m ≤ bl.length ∧ i = .int .i64 (m : Int) ∧ qv = .bool ((bl.take m).any fun g => decide (g.1 = ys)) ∧ Hid (PW w wr B M vx C u tc t B0 u16 (b1 ++ Sb.rest bl (tl.take k)))) (fun _ i _ => bl.length - (intOf i).toNat)
                case atStart => exact ⟨0, by omega, rfl, rfl, HI.out⟩
                case round =>
                  obtain ⟨m, hm, rfl, rfl, HI2⟩ := hrel
                  clear HI
                  obtain ⟨gt, ot, hpt, f0, f1⟩ := HTQ.out wr HI2.out.pr.bel
                  by_cases hlt2 : m < bl.length
                  · have hmi : (m : Int) < (bl.length : Int) := by omega
                    obtain ⟨gb, go, hpb, c0, c1⟩ := HBC.out wr HI2.out.pr.bel m hlt2
                    have HAN := show Hid _ from any_take (s := ys) hlt2
                    have hbq := bytes_eq bl[m].1 ys
                    have HI3 := show Hid (PW w wr.drew B M vx C u tc t B0 u16 (b1 ++ Sb.rest bl (tl.take k))) from HI2.out.drew
                    clear HI2 HTQ HBC HTC HHB HHT HTK KH
                    subst hpt
                    subst hpb
                    generalize bl[m] = z at *
                    obtain ⟨zs, zi⟩ := z
                    simp only at c0 c1 HAN hbq
                    generalize ((bl.take m).any fun g => decide (g.1 = ys)) = q at *
                    cases q with
                    | true =>
                      have HA2 := show Hid _ from HAN.out
                      go_wp2_with fail
                      go_region
                      go_wp2_with fail
                      go_roundw
                      case rel => exact ⟨m + 1, by omega, by go_num, by rw [HAN.out]; simp, HI3⟩
                      case measure => first | (simp [intOf]; done) | (simp [intOf]; omega)
                    | false =>
                      generalize decide (zs = ys) = qq at *
                      go_wp2_with fail
                      go_region
                      go_wp2_with fail
                      go_roundw
                      case rel => exact ⟨m + 1, by omega, by go_num, by rw [HAN.out]; simp, HI3⟩
                      case measure => first | (simp [intOf]; done) | (simp [intOf]; omega)
                  · have hme : m = bl.length := by omega
                    subst hme
                    rw [List.take_length]
                    have hf0 := f0
                    subst hpt
                    have HI3 := show Hid (PW w wr B M vx C u tc t B0 u16 (b1 ++ Sb.rest bl (tl.take k))) from HI2.out
                    clear HI2 HTQ HBC HTC HHB HHT KH
                    generalize (bl.any fun g => decide (g.1 = ys)) = q at *
                    cases q with
                    | true =>
                      have htk := HTK.out
                      rw [if_pos rfl, List.append_nil] at htk
                      have HI4 := show Hid (PW w wr B M vx C u tc t B0 u16 (b1 ++ Sb.rest bl (tl.take (k + 1)))) from by rw [htk]; exact HI3.out
                      clear HTK htk HI3
                      go_wp2_with fail
                      go_roundw
                      case rel => exact ⟨k + 1, by omega, by go_num, HI4⟩
                      case measure => first | (simp [intOf]; done) | (simp [intOf]; omega)
                    | false =>
                      have htk := HTK.out
                      rw [if_neg (by simp)] at htk
                      have HTK2 := show Hid (b1 ++ Sb.rest bl (tl.take (k + 1)) = (b1 ++ Sb.rest bl (tl.take k)) ++ [(ys, yi)]) from (by rw [htk, List.append_assoc] : b1 ++ Sb.rest bl (tl.take (k + 1)) = (b1 ++ Sb.rest bl (tl.take k)) ++ [(ys, yi)])
                      have hws : B0 ≤ wr.heap.size := HI3.out.be.2
                      obtain ⟨bb, hbb⟩ : ∃ bb, bb = b1 ++ Sb.rest bl (tl.take k) := ⟨_, rfl⟩
                      have hbbl : bb.length ≤ 2097152 := by rw [hbb, List.length_append]; omega
                      rw [← hbb] at HI3 HTK2
                      obtain ⟨xs, hxs⟩ : ∃ xs, xs = cellsH bb := ⟨_, rfl⟩
                      obtain ⟨nn, hnn⟩ : ∃ n, n = bb.length := ⟨_, rfl⟩
                      have HOW := show Hid (wr.ownsRow B0 39 2 u16 nn xs) from by rw [hxs, hnn]; exact HI3.out.ow
                      have HXN := show Hid (xs = cellsH bb ∧ nn = bb.length) from ⟨hxs, hnn⟩
                      have hn1 : nn ≤ 2097152 := by rw [hnn]; omega
                      clear hxs hnn hbb htk HTK hbn hrl hbbl
                      go_wp2_with (at_builtin; refine wpList_append_own_at _ rfl (.tmp 123) (.tmp 128) 23 rfl B0 39 i0 _ 2 24 Try.underlying23 hi' hz0 hz1 hz2 rfl (by decide) u16 nn xs rfl (HOW.out.alloc _) ⟨wr.heap.size, 0, none⟩ 1 1 [.string ys, .int .i64 yi] rfl rfl (cell_two _ _ _) (by simp [Value.oneCell']) (by unfold maxLen; omega) (by omega) (by simp; omega) ?_)
                      intro nv w5 hown hgr hnil hat
                      have HW5 := show Hid (PW w w5 B M vx C u tc t B0 nv (bb ++ [(ys, yi)])) from HI3.out.app (x := (ys, yi)) (by rw [← HXN.out.1, ← HXN.out.2]; exact hown) hgr hat
                      clear hown hgr hnil hat HOW HXN HI3
                      go_wp2_with fail
                      go_roundw
                      case rel => exact ⟨k + 1, by omega, by go_num, by rw [HTK2.out]; exact HW5.out⟩
                      case measure => first | (simp [intOf]; done) | (simp [intOf]; omega)
              · have hke : k = tl.length := by omega
                subst hke
                have HI2 := show Hid (PW w wr B M vx C u tc t B0 u16 (b1 ++ Sb.rest bl tl)) from by
                  have h := HI.out
                  rw [List.take_length] at h
                  exact h
                have hrl : (Sb.rest bl tl).length ≤ 1048576 := Nat.le_trans (List.length_filter_le _ _) htl
                have hbbl : (b1 ++ Sb.rest bl tl).length ≤ 2097152 := by rw [List.length_append]; omega
                clear HI hrl hbn
                generalize b1 ++ Sb.rest bl tl = bb at *
                have hiH : IsH wr u16 bb := isH_own HI2.out.ow (by omega)
                have KP := show Hid (Calls Try.prog 11 #[.pointer (some ⟨B, 0, none⟩), .int .i64 (id : Int), u16] wr fun e w' => e = .returned (.tuple #[.int .i64 (Sb.putR tc (id : Int) bb).1, .int .i64 (Sb.putR tc (id : Int) bb).2.1]) ∧ ∃ v', Pair w w' B M v' C u (Sb.putR tc (id : Int) bb).2.2 t) from (Put_any wr HI2.out.pr.tb _ _ bb hiH HGD.out).mono fun e w' ⟨he, hA⟩ => ⟨he, HI2.out.pr.stepT hA⟩
                obtain ⟨pz, cz, hze, -, -⟩ := hiH
                subst hze
                clear HI2 HGD HBC HTC HHB HHT hbbl
                generalize Sb.putR tc (id : Int) bb = rz at *
                obtain ⟨za, ze, zt⟩ := rz
                simp only at KP HLX
                go_wp2_with fail
                refine KP.out.mono ?_
                rintro e w8 ⟨rfl, v8, hP8⟩
                have KHw := show Hid (Calls Try.prog 10 #[] w8 fun e w' => e = .returned (.bool true) ∧ Below w.heap.size w w') from KH.out w8 hP8.bel
                clear KP KH hP8
                rcases HLX.out with ⟨hze, hza⟩ | hze
                · subst hze
                  subst hza
                  clear HLX
                  go_wp2_with fail
                  refine KHw.out.mono ?_
                  rintro e w9 ⟨rfl, hb9⟩
                  have HBx := show Hid (Below w.heap.size w w9) from hb9
                  clear KHw hb9
                  go_wp2_with fail
                  go_ret
                  exact ⟨rfl, HBx.out⟩
                · subst hze
                  clear HLX
                  go_wp2_with fail
                  refine KHw.out.mono ?_
                  rintro e w9 ⟨rfl, hb9⟩
                  have HBx := show Hid (Below w.heap.size w w9) from hb9
                  clear KHw hb9
                  go_wp2_with fail
                  go_ret
                  exact ⟨rfl, HBx.out⟩
      · have hne : (xf != 0) = true := by simpa using hff
        have KHw := show Hid (Calls Try.prog 10 #[] w3 fun e w' => e = .returned (.bool true) ∧ Below w.heap.size w w') from KH.out w3 HP3.out.bel
        clear HP3 KH HLA HFA
        go_wp2_with fail
        refine KHw.out.mono ?_
        rintro e w6 ⟨rfl, hb6⟩
        have HB := show Hid (Below w.heap.size w w6) from hb6
        clear KHw hb6
        go_wp2_with fail
        go_ret
        exact ⟨rfl, HB.out⟩
    · have hne : (xe != 0) = true := by simpa using hee
      have KHw := show Hid (Calls Try.prog 10 #[] w3 fun e w' => e = .returned (.bool true) ∧ Below w.heap.size w w') from KH.out w3 HP3.out.bel
      clear HP3 KH HLA HFA
      go_wp2_with fail
      refine KHw.out.mono ?_
      rintro e w6 ⟨rfl, hb6⟩
      have HB := show Hid (Below w.heap.size w w6) from hb6
      clear KHw hb6
      go_wp2_with fail
      go_ret
      exact ⟨rfl, HB.out⟩
  · have KHw := show Hid (Calls Try.prog 10 #[] w1 fun e w' => e = .returned (.bool true) ∧ Below w.heap.size w w') from KH.out w1 hb1
    clear KB KH hb1
    go_wp2_with fail
    refine KHw.out.mono ?_
    rintro e w6 ⟨rfl, hb6⟩
    have HB := show Hid (Below w.heap.size w w6) from hb6
    clear KHw hb6
    go_wp2_with fail
    go_ret
    exact ⟨rfl, HB.out⟩
end Go.Proofs.Ythfedlodikbdgaa
