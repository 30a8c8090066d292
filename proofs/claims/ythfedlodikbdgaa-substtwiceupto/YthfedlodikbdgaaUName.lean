/-
  Maps whose keys are names; rows of names and formulas in memory; the call named. For names that a machine can hold.
-/
import Derived.Test.YthfedlodikbdgaaUKit
import Derived.StringKeys
namespace Go.Proofs.Ythfedlodikbdgaa
open Go.RowKit Go.Maps
open Fm (Nd)

/-- The sizes that rows have. -/
def GoodH (l : Sb.Hs) : Prop := ∀ h ∈ l, h.1.size ≤ 140737488351232 ∧ Fm.i64 h.2
/-- A slice that holds these names and formulas, wherever it lies. -/
def IsH (w : World) (v : Value) (l : Sb.Hs) : Prop :=
  ∃ p c, v = .slice p l.length c ∧ l.length * 24 ≤ 140737488351232 ∧ ∀ k (hk : k < l.length), ∃ b o, p = some ⟨b, o, none⟩ ∧ w.cell? ⟨b, o + k * 2, none⟩ = some (.string l[k].1) ∧ w.cell? ⟨b, o + k * 2 + 1, none⟩ = some (.int .i64 l[k].2)
theorem IsH.later {w w' : World} {v : Value} {l : Sb.Hs} (h : IsH w v l) (hb : Below w.heap.size w w') : IsH w' v l := by
  obtain ⟨p, c, hv, h1, h2⟩ := h
  refine ⟨p, c, hv, h1, fun k hk => ?_⟩
  obtain ⟨b, o, hp, hc, hc'⟩ := h2 k hk
  exact ⟨b, o, hp, (hb.cell (p := ⟨b, _, none⟩) (World.block_lt_of_cell? w _ hc)).trans hc, (hb.cell (p := ⟨b, _, none⟩) (World.block_lt_of_cell? w _ hc')).trans hc'⟩
def kS (s : ByteArray) : Lit := .string s.data.toList
theorem kS_key {s : ByteArray} (h : s.size ≤ 140737488351232) : keyOf Try.prog 9 (.string s) = some (kS s) := Go.WideMaps.keyOf_string_mk Try.underlying9 (by unfold maxLen; omega)
theorem kS_lit {s : ByteArray} (h : s.size ≤ 140737488351232) : WideAt.IsKeyLit (kS s) := (string_keyed Try.underlying9).key (kS_key h)
theorem kS_inj {s s' : ByteArray} (h : kS s = kS s') : s = s' := by
  unfold kS at h
  have h1 : s.data.toList = s'.data.toList := by injection h
  obtain ⟨⟨a⟩⟩ := s
  obtain ⟨⟨b⟩⟩ := s'
  simp at h1
  rw [h1]
/-- Block m is a map from names to formulas. -/
def Mz (w : World) (m n : Nat) (g : ByteArray → Option Int) : Prop :=
  ∃ D : DataW Value, w.ownsMap Try.prog 9 heldR m n D ∧ ∀ s, s.size ≤ 140737488351232 → Maps.has D (kS s) = (g s).isSome ∧ ∀ z, D.atKey (kS s) z = ((g s).map fun x => DataW.held (Value.int .i64 x)).getD z
section
variable {w w' : World} {m n : Nat} {g : ByteArray → Option Int}
theorem mz_made (w : World) : Mz (w.alloc (.map #[] 0)) w.heap.size 0 (fun _ => none) :=
  ⟨.map [], World.ownsMap_made w _ _ _, fun i _ => ⟨by simp [Maps.has], fun z => rfl⟩⟩
theorem Mz.lt (h : Mz w m n g) : m < w.heap.size := by obtain ⟨D, hD, _⟩ := h; exact hD.lt
theorem Mz.keep (h : Mz w m n g) (hk : w'.heap[m]? = w.heap[m]?) : Mz w' m n g := by
  obtain ⟨D, ⟨es, cl, hb, r⟩, hg⟩ := h
  exact ⟨D, ⟨es, cl, hk.trans hb, r⟩, hg⟩
theorem Mz.later (h : Mz w m n g) (hb : Below w.heap.size w w') : Mz w' m n g := h.keep (hb.block m h.lt)
theorem Mz.look (h : Mz w m n g) {s : ByteArray} (hs : s.size ≤ 140737488351232) :
    (Instr.lookup 79 (.map (some m)) (.string s) true).run Try.prog w = .ok (.tuple #[.int .i64 ((g s).getD 0), .bool (g s).isSome]) w := by
  obtain ⟨D, hD, hg⟩ := h
  obtain ⟨v, ps, hr, hv⟩ := hD.look_ok (string_keyed Try.underlying9) Try.underlying79 (zero_intw w) (zd := .held (.int .i64 0)) (zp := []) rfl (kS_key hs)
  rw [hr, (hg s hs).1]
  have e1 : (DataW.held v : DataW Value) = D.atKey (kS s) (.held (.int .i64 0)) := by
    unfold heldR at hv
    exact congrArg Prod.fst (Option.some.inj hv)
  rw [(hg s hs).2] at e1
  cases hx : g s with
  | none => rw [hx] at e1; cases e1; rfl
  | some x => rw [hx] at e1; cases e1; rfl
end
def updZ (g : ByteArray → Option Int) (s : ByteArray) (x : Int) : ByteArray → Option Int := fun r => if r = s then some x else g r
theorem Mz.put {w : World} {m n : Nat} {g : ByteArray → Option Int} (h : Mz w m n g) (hn : n < maxLen) {s : ByteArray} (hs : s.size ≤ 140737488351232) (x : Int) :
    ∃ w', (Instr.mapUpdate 79 (.map (some m)) (.string s) (.int .i64 x)).run Try.prog w = .ok () w' ∧ Mz w' m (n + 1) (updZ g s x) ∧ Kp (fun k => k = m) w w' := by
  obtain ⟨D, hD, hg⟩ := h
  obtain ⟨w', hr, ho, hgr⟩ := hD.update (string_keyed Try.underlying9) Try.underlying79 hn (kS_key hs) (val := .int .i64 x) (d := .held (.int .i64 x)) (ps := []) rfl
  refine ⟨w', hr, ⟨_, ho, fun j hj => ?_⟩, ⟨hgr.os, hgr.tape, hgr.output, hgr.size, fun k hk hne => hgr.block k hk (fun e => hne (Option.some.inj e))⟩⟩
  unfold updZ
  by_cases e : j = s
  · subst e
    rw [if_pos rfl]
    exact ⟨has_put_same hD.isMap (kS_lit hs) _, fun z => atKey_put_same hD.isMap (kS_lit hs) _ _⟩
  · rw [if_neg e]
    have hne : kS j ≠ kS s := fun h => e (kS_inj h)
    exact ⟨(has_put_other hne _).trans (hg j hj).1, fun z => (atKey_put_other hne _ _).trans ((hg j hj).2 z)⟩
theorem look_snoc (l : Sb.Hs) (h : ByteArray × Int) (hn : Sb.look l h.1 = none) : Sb.look (l ++ [h]) = updZ (Sb.look l) h.1 h.2 := by
  funext s
  unfold Sb.look updZ
  rw [List.find?_append]
  by_cases e : s = h.1
  · subst e
    have hf : l.find? (fun h' => decide (h'.1 = h.1)) = none := by
      cases hx : l.find? (fun h' => decide (h'.1 = h.1)) with
      | none => rfl
      | some y => unfold Sb.look at hn; rw [hx] at hn; cases hn
    rw [hf, if_pos rfl]
    simp
  · rw [if_neg e]
    have : ([h].find? fun h' => decide (h'.1 = s)) = none := by simp [Ne.symm e]
    rw [this]
    simp
theorem look_isSome (l : Sb.Hs) (s : ByteArray) : (Sb.look l s).isSome = true ↔ s ∈ l.map (·.1) := by
  unfold Sb.look
  rw [Option.isSome_map, List.find?_isSome]
  simp
theorem dist_snoc {l : Sb.Hs} {h : ByteArray × Int} (hd : Sb.Dist l) (hn : Sb.look l h.1 = none) : Sb.Dist (l ++ [h]) := by
  unfold Sb.Dist at *
  rw [List.map_append, List.nodup_append]
  refine ⟨hd, by simp, fun a ha b hb e => ?_⟩
  simp at hb
  subst e
  subst hb
  have := (look_isSome l h.1).2 ha
  rw [hn] at this
  cases this
theorem dist_not {l : Sb.Hs} {k : Nat} (hk : k < l.length) (hs : (Sb.look (l.take k) l[k].1).isSome = true) : ¬ Sb.Dist l := by
  intro hd
  unfold Sb.Dist at hd
  have hm := (look_isSome _ _).1 hs
  obtain ⟨h, hh, he⟩ := List.mem_map.1 hm
  obtain ⟨j, hj, hj2⟩ := List.mem_iff_getElem.1 hh
  simp only [List.length_take] at hj
  rw [List.getElem_take] at hj2
  have := List.pairwise_iff_getElem.1 hd j k (by simp; omega) (by simp; omega) (by omega)
  apply this
  simp only [List.getElem_map]
  rw [hj2, he]
/-- What named leaves. -/
def NmP (w : World) (l : Sb.Hs) (ans : Int) (e : Ending) (w' : World) : Prop := Below w.heap.size w w' ∧ ((ans = 0 ∧ ∃ M n, e = .returned (.tuple #[.map (some M), .int .i64 0]) ∧ Mz w' M n (Sb.look l) ∧ w.heap.size ≤ M) ∨ (ans ≠ 0 ∧ e = .returned (.tuple #[.map none, .int .i64 ans])))
set_option maxRecDepth 100000 in
set_option maxHeartbeats 4000000 in
theorem named_any (w : World) (v : Value) (l : Sb.Hs) (hv : IsH w v l) (hg : GoodH l) :
    Calls Try.prog 36 #[v] w (NmP w l (Sb.namedR l)) := by
  have HNR := show Hid ((¬ Sb.Dist l → Sb.namedR l = 70) ∧ (Sb.Dist l → l.all (fun h => Fm.word h.1.data.toList) = true → Sb.namedR l = 0) ∧ (Sb.Dist l → l.all (fun h => Fm.word h.1.data.toList) = false → Sb.namedR l = 32)) from by
    refine ⟨fun h => ?_, fun h1 h2 => ?_, fun h1 h2 => ?_⟩
    · unfold Sb.namedR; rw [if_neg h]
    · unfold Sb.namedR; rw [if_pos h1, if_pos h2]
    · unfold Sb.namedR; rw [if_pos h1, h2]; rfl
  obtain ⟨p, c, rfl, hlen, hcell⟩ := hv
  have HC := show Hid (∀ w1, Below w.heap.size w w1 → ∀ k (hk : k < l.length), ∃ b o, p = some ⟨b, o, none⟩ ∧ w1.cell? ⟨b, o + k * 2, none⟩ = some (.string l[k].1) ∧ w1.cell? ⟨b, o + k * 2 + 1, none⟩ = some (.int .i64 l[k].2)) from fun w1 hb k hk => by
    obtain ⟨b, o, hp, hc, hc'⟩ := hcell k hk
    exact ⟨b, o, hp, (hb.cell (p := ⟨b, _, none⟩) (World.block_lt_of_cell? w _ hc)).trans hc, (hb.cell (p := ⟨b, _, none⟩) (World.block_lt_of_cell? w _ hc')).trans hc'⟩
  have HD := show Hid (∀ k (hk : k < l.length), ((Sb.look (l.take k) l[k].1).isSome = true → ¬ Sb.Dist l) ∧ (Sb.look (l.take k) l[k].1 = none → Sb.Dist (l.take k) → Sb.Dist (l.take (k + 1)) ∧ Sb.look (l.take (k + 1)) = updZ (Sb.look (l.take k)) l[k].1 l[k].2) ∧ (l.take (k + 1)).all (fun h => Fm.word h.1.data.toList) = ((l.take k).all (fun h => Fm.word h.1.data.toList) && Fm.word l[k].1.data.toList)) from fun k hk => by
    rw [List.take_succ_eq_append_getElem hk]
    refine ⟨dist_not hk, fun h1 h2 => ⟨dist_snoc h2 h1, look_snoc _ _ h1⟩, ?_⟩
    rw [List.all_append]
    simp
  have KW := show Hid (∀ (w : World) (s : ByteArray), s.size ≤ 140737488351232 → Calls Try.prog 62 #[.string s] w fun e w' => e = .returned (.bool (Fm.word s.data.toList)) ∧ w' = w) from word_any
  have HG := show Hid (∀ k (hk : k < l.length), l[k].1.size ≤ 140737488351232) from fun k hk => (hg _ (List.getElem_mem hk)).1
  obtain ⟨w1, hw1⟩ : ∃ w1, w1 = w.alloc (.map #[] 0) := ⟨_, rfl⟩
  have hmk : (Instr.makeMap 79 (some (.int .i64 (l.length : Int)))).run Try.prog w = .ok (.map (some w.heap.size)) w1 := by rw [hw1]; exact run_makeMapN Try.underlying79 (l.length : Int) w
  have HB1 := show Hid (Below w.heap.size w w1) from by rw [hw1]; exact below_alloc w _
  have HM1 := show Hid (Mz w1 w.heap.size 0 (Sb.look (l.take 0))) from by rw [hw1]; exact mz_made w
  clear hcell hg hw1
  generalize Sb.namedR l = ans at *
  go_enter Try.func36, Try.ntmps36
  go_wp2_with fail
  go_loopw [5, 15] (fun wd i wr => ∃ k : Nat, k ≤ l.length ∧ i = .int .i64 (k : Int) ∧ wd = .bool ((l.take k).all (fun h => Fm.word h.1.data.toList)) ∧ Hid (Below w.heap.size w wr ∧ Sb.Dist (l.take k) ∧ Mz wr w.heap.size k (Sb.look (l.take k)))) (fun _ i _ => l.length - (intOf i).toNat)
  case atStart => exact ⟨0, by omega, rfl, rfl, HB1.out, List.nodup_nil, HM1.out⟩
  case round =>
    obtain ⟨k, hk, rfl, rfl, HI⟩ := hrel
    by_cases hlt : k < l.length
    · obtain ⟨gb, go, rfl, hc0, hc1⟩ := HC.out wr HI.out.1 k hlt
      have hki : (k : Int) < (l.length : Int) := by omega
      obtain ⟨hd1, hd2, hd3⟩ := HD.out k hlt
      have hsz := HG.out k hlt
      have KW2 := show Hid _ from fun w => KW.out w l[k].1 hsz
      have hsw := HI.out.1.size
      obtain ⟨w2, hw2⟩ : ∃ w2, w2 = wr.alloc (Obj.cells #[.string l[k].1, .int .i64 l[k].2] 39) := ⟨_, rfl⟩
      have hb2 : Below wr.heap.size wr w2 := by rw [hw2]; exact below_alloc _ _
      have hM2 := HI.out.2.2.later hb2
      have hlk := hM2.look hsz
      have HB2 := show Hid (Below w.heap.size w w2) from HI.out.1.trans (hb2.mono HI.out.1.size)
      rw [hw2] at hlk
      cases hs : Sb.look (l.take k) l[k].1 with
      | some x =>
        have ea := HNR.out.1 (hd1 (by rw [hs]; rfl))
        subst ea
        rw [hs] at hlk
        clear HC HD KW HG hd1 hd2 hd3 HNR KW2
        generalize l[k] = h at *
        obtain ⟨nm, fm⟩ := h
        simp only at *
        go_wp2_with fail
        go_ret2
        rw [← hw2]
        exact ⟨HB2.out, Or.inr ⟨by decide, rfl⟩⟩
      | none =>
        obtain ⟨hd2a, hd2b⟩ := hd2 hs HI.out.2.1
        rw [hs] at hlk
        obtain ⟨w3, hup, hM3, hK3⟩ := hM2.put (by unfold maxLen; omega) hsz l[k].2
        rw [← hd2b] at hM3
        have HE := show Hid (Below w.heap.size w w3 ∧ Sb.Dist (l.take (k + 1)) ∧ Mz w3 w.heap.size (k + 1) (Sb.look (l.take (k + 1)))) from
          ⟨HB2.out.trans (hK3.below HB2.out.size (fun k e => by omega)), hd2a, hM3⟩
        have HW := show Hid _ from hd3
        have hcn : w3.cell? ⟨wr.heap.size, 0, none⟩ = some (.string l[k].1) := hK3.cell (by rw [hw2]; exact cell_of_row _ _ 0 _ _ _ (heap_alloc_new _ _)) (fun e => by have := HI.out.2.2.lt; have e' : wr.heap.size = w.heap.size := e; omega)
        rw [hw2] at hup
        clear HC HD KW HG hd1 hd3 HNR hM2 hd2b hM3 hK3 hd2a
        generalize l[k] = h at *
        obtain ⟨nm, fm⟩ := h
        simp only at hc0 hc1 hlk hup hcn
        cases hwd : (l.take k).all (fun h => Fm.word h.1.data.toList) with
        | false =>
          rw [hwd] at HW
          go_wp2_with fail
          go_roundw
          case rel => exact ⟨k + 1, by omega, by go_num, by rw [HW.out]; rfl, HE.out⟩
          case measure => first | (simp [intOf]; done) | (simp [intOf]; omega)
        | true =>
          rw [hwd] at HW
          go_wp2_with fail
          refine Calls.mono (KW2.out _) ?_
          rintro e w4 ⟨rfl, hw4⟩
          subst w4
          go_wp2_with fail
          go_roundw
          case rel => exact ⟨k + 1, by omega, by go_num, by rw [HW.out]; rfl, HE.out⟩
          case measure => first | (simp [intOf]; done) | (simp [intOf]; omega)
    · have hke : k = l.length := by omega
      subst hke
      have hEx := HI.out
      rw [List.take_length] at hEx
      rw [List.take_length]
      cases hwd : l.all (fun h => Fm.word h.1.data.toList) with
      | true =>
        have ea := HNR.out.2.1 hEx.2.1 hwd
        subst ea
        have HE := show Hid _ from hEx
        clear HC HD KW HG HNR HI hEx
        go_wp2_with fail
        go_ret2
        exact ⟨HE.out.1, Or.inl ⟨rfl, _, _, rfl, HE.out.2.2, Nat.le_refl _⟩⟩
      | false =>
        have ea := HNR.out.2.2 hEx.2.1 hwd
        subst ea
        have HE := show Hid _ from hEx
        clear HC HD KW HG HNR HI hEx
        go_wp2_with fail
        go_ret2
        exact ⟨HE.out.1, Or.inr ⟨by decide, rfl⟩⟩
end Go.Proofs.Ythfedlodikbdgaa
