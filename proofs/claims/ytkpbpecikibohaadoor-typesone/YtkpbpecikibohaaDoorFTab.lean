/-
  Tables of the program's and of the document's in memory, what stays of them, and append onto a table's slice. No condition.
-/
import Derived.Test.YtkpbpecikibohaaDoorFKit
namespace Go.Proofs.YtkpbpecikibohaaDoor
open Go.RowKit Go.Maps
open Fm (Nd)

structure Tied (D : DataW Unit) (t : List Nd) : Prop where
  map : IsMap D
  tidy : Tidy D
  size : Maps.size D = t.length
  has : ∀ n, Fm.good n → Maps.has D (kl n) = decide (n ∈ t)
  num : ∀ n, Fm.good n → n ∈ t → ∀ z, D.atKey (kl n) z = .lit (.int .i64 (t.idxOf n : Int))
abbrev ownsM (w : World) (m : Nat) (D : DataW Unit) : Prop := w.ownsMap Tryd.prog 54 (plainElem Tryd.prog 3) m (Maps.size D) D
theorem own_size {w : World} {m n : Nat} {D : DataW Unit} (h : w.ownsMap Tryd.prog 54 (plainElem Tryd.prog 3) m n D) : ownsM w m D := by
  obtain ⟨es, clock, hb, F, _, rfl⟩ := h
  refine ⟨es, clock, hb, F, ?_, rfl⟩
  simp [Maps.size, length_sorted]
theorem kl_key {n : Nd} (h : Fm.good n) : WideAt.IsKeyLit (kl n) := law.key (key_nd h)
theorem tied_nil : Tied (.map []) [] := ⟨isMap_empty, tidy_empty, rfl, fun n _ => by simp [Maps.has], fun n _ h => by cases h⟩
theorem Tied.put {D : DataW Unit} {t : List Nd} (h : Tied D t) {n : Nd} (hn : Fm.good n) (hm : n ∉ t) : Tied (D.put (kl n) (.lit (.int .i64 (t.length : Int)))) (t ++ [n]) := by
  have hk := kl_key hn
  have hh : Maps.has D (kl n) = false := by rw [h.has n hn]; simp [hm]
  refine ⟨h.map.put _ _, h.tidy.put hk _, ?_, fun x hx => ?_, fun x hx hmem z => ?_⟩
  · rw [size_put h.tidy, hh, h.size]; simp
  · by_cases e : x = n
    · subst e
      rw [has_put_same h.map hk]
      simp
    · rw [has_put_other (fun e' => e (key_inj hx hn e')), h.has x hx]
      simp [e]
  · by_cases e : x = n
    · subst e
      rw [atKey_put_same h.map hk, List.idxOf_append, if_neg hm]
      simp
    · rw [atKey_put_other (fun e' => e (key_inj hx hn e'))]
      have hxt : x ∈ t := by
        rcases List.mem_append.1 hmem with h' | h'
        · exact h'
        · exact absurd (by simpa using h') e
      rw [h.num x hx hxt, List.idxOf_append, if_pos hxt]

structure Tb (w : World) (b m : Nat) (v : Value) (t : List Nd) : Prop where
  tab : w.heap[b]? = some (.cells #[v, .map (some m)] 44 (0, 0))
  row : Rw w v t
  map : ∃ D, ownsM w m D ∧ Tied D t
  ok : Fm.Ok t
structure Tr (w : World) (c : Nat) (u : Value) (t : List Nd) : Prop where
  tab : w.heap[c]? = some (.cells #[u] 51 (0, 0))
  row : Rw w u t
  ok : Fm.Ok t
def Ft (b m : Nat) (v : Value) (k : Nat) : Prop := k = b ∨ k = m ∨ v.ownBlock = some k
def Fr (c : Nat) (u : Value) (k : Nat) : Prop := k = c ∨ u.ownBlock = some k
def After (w : World) (b m : Nat) (v : Value) (t' : List Nd) (w' : World) : Prop := ∃ v', Tb w' b m v' t' ∧ Lies w.heap.size v v' ∧ Kp (Ft b m v) w w'
def AfterR (w : World) (c : Nat) (u : Value) (t' : List Nd) (w' : World) : Prop := ∃ u', Tr w' c u' t' ∧ Lies w.heap.size u u' ∧ Kp (Fr c u) w w'
section
variable {w w' : World} {b m c : Nat} {v u : Value} {t t' : List Nd}
theorem Tb.c0 (h : Tb w b m v t) : w.cell? ⟨b, 0, none⟩ = some v := by rw [cell_of_row w b 0 _ _ _ h.tab]; rfl
theorem Tb.c1 (h : Tb w b m v t) : w.cell? ⟨b, 1, none⟩ = some (.map (some m)) := by rw [cell_of_row w b 1 _ _ _ h.tab]; rfl
theorem Tb.fr (h : Tb w b m v t) (j : Nat) : w.frozen? ⟨b, j, none⟩ = false := frozen_of_row w b j _ _ h.tab
theorem Tr.c0 (h : Tr w c u t) : w.cell? ⟨c, 0, none⟩ = some u := by rw [cell_of_row w c 0 _ _ _ h.tab]; rfl
theorem Tr.fr (h : Tr w c u t) (j : Nat) : w.frozen? ⟨c, j, none⟩ = false := frozen_of_row w c j _ _ h.tab
theorem Tb.mlt (h : Tb w b m v t) : m < w.heap.size := by obtain ⟨D, hD, _⟩ := h.map; exact hD.lt
theorem Tb.blt (h : Tb w b m v t) : b < w.heap.size := lt_of_block h.tab
theorem Tr.clt (h : Tr w c u t) : c < w.heap.size := lt_of_block h.tab
theorem Tb.bm (h : Tb w b m v t) : b ≠ m := by
  obtain ⟨D, ⟨es, cl, hb, _⟩, _⟩ := h.map
  intro e
  subst e
  rw [h.tab] at hb
  cases hb
theorem Tb.vb (h : Tb w b m v t) : v.ownBlock ≠ some b := by
  intro e
  obtain ⟨_, cur, hh⟩ := h.row.lt b e
  rw [h.tab] at hh
  simp at hh
theorem Tb.vm (h : Tb w b m v t) : v.ownBlock ≠ some m := by
  intro e
  obtain ⟨_, cur, hh⟩ := h.row.lt m e
  obtain ⟨D, ⟨es, cl, hb, _⟩, _⟩ := h.map
  rw [hh] at hb
  cases hb
theorem Tr.uc (h : Tr w c u t) : u.ownBlock ≠ some c := by
  intro e
  obtain ⟨_, cur, hh⟩ := h.row.lt c e
  rw [h.tab] at hh
  simp at hh
theorem Tb.keep (h : Tb w b m v t) (hk : ∀ k, Ft b m v k → w'.heap[k]? = w.heap[k]?) : Tb w' b m v t := by
  refine ⟨(hk b (Or.inl rfl)).trans h.tab, h.row.keep fun k e => hk k (Or.inr (Or.inr e)), ?_, h.ok⟩
  obtain ⟨D, ⟨es, cl, hb, r⟩, hT⟩ := h.map
  exact ⟨D, ⟨es, cl, (hk m (Or.inr (Or.inl rfl))).trans hb, r⟩, hT⟩
theorem Tr.keep (h : Tr w c u t) (hk : ∀ k, Fr c u k → w'.heap[k]? = w.heap[k]?) : Tr w' c u t :=
  ⟨(hk c (Or.inl rfl)).trans h.tab, h.row.keep fun k e => hk k (Or.inr e), h.ok⟩
theorem Tb.foot (h : Tb w b m v t) : ∀ k, Ft b m v k → k < w.heap.size := by
  rintro k (rfl | rfl | e)
  · exact h.blt
  · exact h.mlt
  · exact (h.row.lt k e).1
theorem Tr.foot (h : Tr w c u t) : ∀ k, Fr c u k → k < w.heap.size := by
  rintro k (rfl | e)
  · exact h.clt
  · exact (h.row.lt k e).1
theorem Tb.later (h : Tb w b m v t) (hb : Below w.heap.size w w') : Tb w' b m v t := h.keep fun k hk => hb.block k (h.foot k hk)
theorem Tr.later (h : Tr w c u t) (hb : Below w.heap.size w w') : Tr w' c u t := h.keep fun k hk => hb.block k (h.foot k hk)
theorem Tb.drew (h : Tb w b m v t) : Tb w.drew b m v t := h.keep fun _ _ => rfl
theorem Tr.drew (h : Tr w c u t) : Tr w.drew c u t := h.keep fun _ _ => rfl
theorem After.of_below (h : Tb w b m v t) (hb : Below w.heap.size w w') : After w b m v t w' := ⟨v, h.later hb, Lies.refl _ _, Kp.of_below hb⟩
theorem AfterR.of_below (h : Tr w c u t) (hb : Below w.heap.size w w') : AfterR w c u t w' := ⟨u, h.later hb, Lies.refl _ _, Kp.of_below hb⟩
theorem After.trans {w1 w2 : World} {v1 : Value} (h1 : Lies w.heap.size v v1) (hk : Kp (Ft b m v) w w1) (h2 : After w1 b m v1 t' w2) : After w b m v t' w2 := by
  obtain ⟨v2, ht, hl, hk2⟩ := h2
  refine ⟨v2, ht, h1.trans hl hk.size, hk.trans hk2 ?_⟩
  rintro i (e | e | e)
  · exact Or.inl (Or.inl e)
  · exact Or.inl (Or.inr (Or.inl e))
  · rcases h1 i e with h | h
    · exact Or.inl (Or.inr (Or.inr h))
    · exact Or.inr h
theorem After.from_below {w1 w2 : World} (h : After w1 b m v t' w2) (hb : Below w.heap.size w w1) : After w b m v t' w2 := After.trans (Lies.refl _ _) (Kp.of_below hb) h
theorem AfterR.trans {w1 w2 : World} {u1 : Value} (h1 : Lies w.heap.size u u1) (hk : Kp (Fr c u) w w1) (h2 : AfterR w1 c u1 t' w2) : AfterR w c u t' w2 := by
  obtain ⟨v2, ht, hl, hk2⟩ := h2
  refine ⟨v2, ht, h1.trans hl hk.size, hk.trans hk2 ?_⟩
  rintro i (e | e)
  · exact Or.inl (Or.inl e)
  · rcases h1 i e with h | h
    · exact Or.inl (Or.inr h)
    · exact Or.inr h
theorem AfterR.from_below {w1 w2 : World} (h : AfterR w1 c u t' w2) (hb : Below w.heap.size w w1) : AfterR w c u t' w2 := AfterR.trans (Lies.refl _ _) (Kp.of_below hb) h
end

theorem lit_newsV (w : World) (cs : Array Value) (t : TypeId) (g : Nat) (hg : g = w.heap.size) : ∀ j u, cs.toList[j]? = some u → (w.alloc (.cells cs t)).cell? ((⟨g, 0, none⟩ : Addr).add j) = some u := by
  intro j u hu
  subst hg
  rw [Addr.add_lit, Nat.zero_add, World.cell?_alloc_new, ← Array.getElem?_toList]
  exact hu
/-! ### append -/
theorem info_node : (Tryd.prog.info? 54).map (fun i => (i.zero, i.size, i.bytes)) = some (some (.agg #[.int .i64 0, .string ⟨#[]⟩, .int .i64 0, .int .i64 0]), 4, 40) := by kernel_rfl
theorem run_append_rw (w : World) (ty : TypeId) {v : Value} {t : List Nd} (hR : Rw w v t) (hl : t.length ≤ 1048576) (n : Nd) (a : Addr) (hn : ∀ j u, (ndC n)[j]? = some u → w.cell? (a.add j) = some u) :
    ∃ v' w', (Builtin.append_ #[22, 22] ty #[v, .slice (some a) 1 1]).run Tryd.prog w = .ok v' w' ∧ Rw w' v' (t ++ [n]) ∧ w.grownBy w' v.ownBlock ∧ Lies w.heap.size v v' := by
  obtain ⟨i, hi, hz0, hz1, hz2⟩ := info_parts info_node
  have hgen : ∀ (old : Nat), old < t.length + 1 → ∀ (row : Option Nat),
      Rw (w.drew.alloc (.cells ((cellsOf t).toArray ++ (ndC n).toArray ++ Builtin.zeroCells (Value.cells (.agg #[.int .i64 0, .string ⟨#[]⟩, .int .i64 0, .int .i64 0])) (grownCap w (t.length + 1) old 54 - (t.length + 1))) 54))
        (.slice (some ⟨w.heap.size, 0, none⟩) (t.length + 1) (grownCap w (t.length + 1) old 54)) (t ++ [n]) ∧
      w.grownBy (w.drew.alloc (.cells ((cellsOf t).toArray ++ (ndC n).toArray ++ Builtin.zeroCells (Value.cells (.agg #[.int .i64 0, .string ⟨#[]⟩, .int .i64 0, .int .i64 0])) (grownCap w (t.length + 1) old 54 - (t.length + 1))) 54)) row := by
    intro old ho row
    have hge := grownCap_ge w (t.length + 1) old 54
    have hcm : grownCap w (t.length + 1) old 54 ≤ maxLen := grownCap_le_maxLen w (t.length + 1) old 54 (by unfold maxLen; omega)
    refine ⟨Or.inr ⟨w.heap.size, _, _, by rw [List.length_append, List.length_singleton], heap_alloc_new w.drew _, by rw [List.length_append, List.length_singleton]; exact hge, hcm, ?_, ?_⟩, ⟨rfl, rfl, rfl, by simp, fun k hk _ => Below.heap_alloc w.drew _ k hk⟩⟩
    · simp only [Array.size_append, List.size_toArray, size_zeroCells, cellsOf_len]
      show _ ≤ t.length * 4 + 4 + _ * 4
      omega
    · simp only [Array.toList_append, List.append_assoc]
      rw [cellsOf_snoc, ← List.append_assoc, List.length_append, List.length_singleton]
      have hlen : (cellsOf t ++ ndC n).length = (t.length + 1) * 4 := by rw [List.length_append, cellsOf_len]; show _ + 4 = _; omega
      rw [← hlen]
      exact List.take_left
  rcases hR with ⟨rfl, rfl⟩ | ⟨g, cap, cur, rfl, hg, hnc, hcm, hcs, htake⟩
  · have hr := run_append_nil (P := Tryd.prog) w 22 ty 54 i _ Tryd.underlying22 hi hz0 a 1 1 (ndC n) (by rw [hz1]; rfl) hn (by omega) (by omega) (by rw [hz2]; omega)
    have hgr := hgen 0 (by omega) none
    exact ⟨_, _, hr, hgr.1, hgr.2, fun k hk => Or.inr (by simp [Value.ownBlock] at hk; omega)⟩
  · by_cases hroom : t.length + 1 ≤ cap
    · have hr := run_append_room (P := Tryd.prog) w 22 ty 54 i Tryd.underlying22 hi g t.length cap cur hg a 1 1 (ndC n) (by rw [hz1]; rfl) hn (ndC_one n) hroom (by rw [hz1]; show _ + 4 ≤ _; omega)
      rw [hz1] at hr
      refine ⟨_, _, hr, Or.inr ⟨g, cap, _, by rw [List.length_append, List.length_singleton], setRow_heap w g cur _ 54 _ hg, by rw [List.length_append, List.length_singleton]; exact hroom, hcm, ?_, ?_⟩, ⟨rfl, rfl, rfl, by simp, fun k _ hk => setRow_other w g k _ (fun e => hk (by simp [Value.ownBlock, e]))⟩, fun k hk => Or.inl hk⟩
      · have : (ndC n).length = 4 := rfl
        simp only [List.size_toArray, List.length_append, List.length_take, List.length_drop, Array.length_toList]
        omega
      · rw [htake, cellsOf_snoc, List.length_append, List.length_singleton]
        have hlen : (cellsOf t ++ ndC n).length = (t.length + 1) * 4 := by rw [List.length_append, cellsOf_len]; show _ + 4 = _; omega
        rw [← hlen]
        exact List.take_left
    · have holds : ∀ j u, (cellsOf t)[j]? = some u → w.cell? ((⟨g, 0, none⟩ : Addr).add j) = some u := by
        intro j u hu
        have hadd : (⟨g, 0, none⟩ : Addr).add j = ⟨g, j, none⟩ := by unfold Addr.add; split <;> simp_all
        rw [hadd, cell_of_row w g j cur _ _ hg]
        rw [← htake, List.getElem?_take] at hu
        split at hu
        · simpa using hu
        · cases hu
      have hr := run_append_grow (P := Tryd.prog) w 22 ty 54 i _ Tryd.underlying22 hi hz0 ⟨g, 0, none⟩ t.length cap (cellsOf t) (by rw [hz1]; exact cellsOf_len t) holds a 1 1 (ndC n) (by rw [hz1]; rfl) hn (by omega) (by omega) (growslice_fits (by omega) (by rw [hz2]; omega))
      have hgr := hgen cap (by omega) (some g)
      exact ⟨_, _, hr, hgr.1, hgr.2, fun k hk => Or.inr (by simp [Value.ownBlock] at hk; omega)⟩
theorem step_append_rw {ops : Array Oper} {o : Oper} {a : Act} {w : World} {K : Act → World → Prop} {Q : Exit → Act → World → Prop} {E : Prop}
    (hg : o.guard = none) (s x : Operand) (hop : o.op = Op.call { callee := Callee.builtin Builtin.append, args := #[s, x], argTypes := #[22, 22] })
    (v : Value) (t : List Nd) (hs : a.eval s = v) (hR : Rw w v t) (hl : t.length ≤ 1048576) (n : Nd) (ad : Addr) (hx : a.eval x = .slice (some ad) 1 1) (hn : ∀ j u, (ndC n)[j]? = some u → w.cell? (ad.add j) = some u)
    (hK : ∀ v' w', Rw w' v' (t ++ [n]) → w.grownBy w' v.ownBlock → Lies w.heap.size v v' → K (a.put o.dst v') w') :
    if Region.wanted o (yielded ops a.tmps) = true then Oper.wp Tryd.prog o a w K Q else E := by
  have hw : Region.wanted o (yielded ops a.tmps) = true := by simp [Region.wanted, hg]
  rw [if_pos hw]
  obtain ⟨v', w', hrun, r1, r2, r3⟩ := run_append_rw w o.type hR hl n ad hn
  unfold Oper.wp
  simp [execOp, hop, resolve, invoke, builtin, hs, hx, hrun, Result.andThen]
  exact hK v' w' r1 r2 r3
end Go.Proofs.YtkpbpecikibohaaDoor
