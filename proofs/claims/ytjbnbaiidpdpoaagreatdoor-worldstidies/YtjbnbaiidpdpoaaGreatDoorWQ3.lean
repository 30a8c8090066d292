/-
  'append([]T{}, l...)' within a statement that adds a row: what stands and how an operation turns memory. No condition.
-/
import Derived.Test.YtjbnbaiidpdpoaaGreatDoorWQ2
import Derived.Test.YtjbnbaiidpdpoaaGreatDoorWSame
namespace Go.Proofs.YtjbnbaiidpdpoaaGreatDoor.Wm
open Go.RowKit Go.Maps
open Wd (Md)
set_option linter.unusedSimpArgs false

theorem run_copyE {α : Type} (W : World) (T TE : TypeId) (ty : TypeId) (bytes : Nat) {z : Value} (hu : Tryz.prog.underlying T = some (.slice TE)) (hinfo : (Tryz.prog.info? TE).map (fun i => (i.zero, i.size, i.bytes)) = some (some z, 1, bytes)) (hzc : z.cells.size = 1) (enc : α → Value) (h1 : ∀ a, (enc a).oneCell' = true) (q base : Nat) (hq : W.heap[q]? = some (.cells #[] TE (0, 0))) (hbq : base ≤ q) {L : Nat} {v : Value} {l : List α} (hs : IsS W L (fun a x => x = enc a) v l) (hb : l.length * bytes ≤ 140737488355328) (hm : l.length ≤ maxLen) :
    ∃ v' W', (Builtin.append_ #[T, T] ty #[.slice (some ⟨q, 0, none⟩) 0 0, v]).run Tryz.prog W = .ok v' W' ∧ W'.ownsRow base TE 1 v' l.length (l.map enc) ∧ Below W.heap.size W W' := by
  obtain ⟨i0, hi, hz0, hz1, hz2⟩ := info_parts hinfo
  obtain ⟨p, c, rfl, hat⟩ := hs
  have hown : W.ownsRow base TE 1 (.slice (some ⟨q, 0, none⟩) 0 0) 0 [] := ⟨rfl, .inr ⟨q, 0, #[], rfl, hbq, hq, Nat.le_refl _, Nat.zero_le _, rfl, rfl⟩⟩
  cases l with
  | nil =>
    refine ⟨.slice (some ⟨q, 0, none⟩) 0 0, W, ?_, hown, Below.refl _ _⟩
    cases p with
    | none => simp [Builtin.append_, run_underlying hu, sizeOf, typeInfo, hi, Builtin.lenOf, Builtin.firstCells, storeCells]
    | some a => simp [Builtin.append_, run_underlying hu, sizeOf, typeInfo, hi, Builtin.lenOf, Builtin.firstCells, loadCells, loadCellsFrom, storeCells]
  | cons x0 l0 =>
    obtain ⟨b, o, hbL, rfl, hc⟩ := hat (by simp)
    have hl : ((x0 :: l0).map enc).length = (x0 :: l0).length * 1 := by simp
    have hnews : ∀ j u, ((x0 :: l0).map enc)[j]? = some u → W.cell? ((⟨b, o, none⟩ : Addr).add j) = some u := fun j u hj => by
      obtain ⟨hlt, rfl⟩ := List.getElem?_eq_some_iff.1 hj
      obtain ⟨x, hx, e⟩ := hc j (by simpa using hlt)
      rw [List.getElem_map]
      have hx2 : x = enc (x0 :: l0)[j] := e
      rw [hx2] at hx
      by_cases hj0 : j = 0
      · subst hj0
        simpa [Addr.add] using hx
      · simpa [Addr.add, hj0] using hx
    have hone : ∀ u ∈ (x0 :: l0).map enc, u.oneCell' = true := fun u hu => by
      obtain ⟨n, _, rfl⟩ := List.mem_map.1 hu
      exact h1 n
    obtain ⟨v', W', hr, ho, _, _⟩ := run_append_own_at (P := Tryz.prog) W base T ty TE i0 z 1 bytes hu hi hz0 hz1 hz2 hzc (by decide) _ 0 [] hown ⟨b, o, none⟩ (x0 :: l0).length c _ hl hnews hone (by omega) (by rw [Nat.zero_add]; exact hb) (Nat.le_trans hbq (Nat.le_of_lt (lt_of_block hq)))
    rw [Nat.zero_add, List.nil_append] at ho
    refine ⟨v', W', hr, ho, ?_⟩
    have hr2 := run_append_grow (P := Tryz.prog) W T ty TE i0 z hu hi hz0 ⟨q, 0, none⟩ 0 0 [] (by simp) (fun j u h => by simp at h) ⟨b, o, none⟩ (x0 :: l0).length c _ (by rw [hz1]; exact hl) hnews (by simp) (by unfold maxLen at hm; omega) (growslice_fits (by simp) (by rw [hz2, Nat.zero_add]; exact hb))
    rw [hr] at hr2
    injection hr2 with _ e
    rw [e]
    exact (Below.refl _ _).drew.trans (below_alloc W.drew _)
def LeC (w7 : World) (b6 : Nat) (i : Nat) (W W' : World) : Prop := i < 13 ∧ (i ≠ 12 → i ≠ 10 → Below W.heap.size W W') ∧ (i = 10 → ∀ k, w7.heap.size ≤ k → k < W.heap.size → W'.heap[k]? = W.heap[k]?) ∧ (i = 12 → Kp (fun k => k = b6) W W')
theorem LeC.fresh {w7 W W' : World} {b6 i k : Nat} (h : LeC w7 b6 i W W') (hb : b6 < w7.heap.size) (hk : w7.heap.size ≤ k) (hl : k < W.heap.size) : W'.heap[k]? = W.heap[k]? := by
  by_cases e7 : i = 12
  · exact (h.2.2.2 e7).block k hl (by omega)
  · by_cases e5 : i = 10
    · exact h.2.2.1 e5 k hk hl
    · exact (h.2.1 e7 e5).block k hl
theorem LeC.own {w7 W W' : World} {b6 i n : Nat} {e : TypeId} {v : Value} {xs : List Value} (h : LeC w7 b6 i W W') (hb : b6 < w7.heap.size) (ho : W.ownsRow w7.heap.size e 1 v n xs) : W'.ownsRow w7.heap.size e 1 v n xs := own_kp ho fun _ _ hk hc _ => h.fresh hb hk (lt_of_block hc)
theorem bs0I (w : World) : (Instr.buildSlice 27 0 #[]).run Tryz.prog w = .ok (.slice (some ⟨w.heap.size, 0, none⟩) 0 0) (w.alloc (.cells #[] 3)) := by kernel_rfl
theorem bs0S (w : World) : (Instr.buildSlice 55 0 #[]).run Tryz.prog w = .ok (.slice (some ⟨w.heap.size, 0, none⟩) 0 0) (w.alloc (.cells #[] 9)) := by kernel_rfl
end Go.Proofs.YtjbnbaiidpdpoaaGreatDoor.Wm
/-
  The document's Copy: a model of its own. No condition but what a machine can hold.
-/
namespace Go.Proofs.YtjbnbaiidpdpoaaGreatDoor.Wm
open Go.RowKit Go.Maps
open Wd (Md)
set_option linter.unusedSimpArgs false

set_option maxRecDepth 100000 in
set_option maxHeartbeats 4000000 in
theorem copy_any (w : World) {L : Nat} {uv vv : Value} {m : Md} (hm : IsM w L uv vv m) (hL : L ≤ w.heap.size) (hu : m.up.length * 24 ≤ 140737488355328) (hv : m.val.length * 24 ≤ 140737488355328) (hfu : ∀ r ∈ m.up, r.length * 8 ≤ 140737488355328) (hfv : ∀ r ∈ m.val, r.length * 16 ≤ 140737488355328) :
    Calls Tryz.prog 5 #[.agg #[uv, vv]] w fun e w' => ∃ u' v', e = .returned (.agg #[u', v']) ∧ RowsZ w.heap.size w' u' m.up ∧ RowsN w.heap.size w' v' m.val ∧ Below w.heap.size w w' := by
  obtain ⟨pu, cu, rfl, hur⟩ := hm.up.row
  obtain ⟨pv, cv, rfl, hvr⟩ := hm.val.row
  have HUR := show Hid (∀ (j : Nat) (hj : j < m.up.length), ∃ b o q n, pu = some ⟨b, o, none⟩ ∧ b < L ∧ w.cell? ⟨b, o + j, none⟩ = some (.slice q m.up[j].length n) ∧ IsI w L (.slice q m.up[j].length n) m.up[j]) from hur
  have HVR := show Hid (∀ (j : Nat) (hj : j < m.val.length), ∃ b o q n, pv = some ⟨b, o, none⟩ ∧ b < L ∧ w.cell? ⟨b, o + j, none⟩ = some (.slice q m.val[j].length n) ∧ IsN w L (.slice q m.val[j].length n) m.val[j]) from hvr
  have HFU := show Hid (∀ r ∈ m.up, r.length * 8 ≤ 140737488355328) from hfu
  have HFV := show Hid (∀ r ∈ m.val, r.length * 16 ≤ 140737488355328) from hfv
  have HL := show Hid (L ≤ w.heap.size) from hL
  have hu1 : m.up.length ≤ 140737488351232 := by omega
  have hv1 : m.val.length ≤ 140737488351232 := by omega
  have HLU := show Hid (m.up.length * 24 ≤ 140737488355328 ∧ m.val.length * 24 ≤ 140737488355328) from ⟨hu, hv⟩
  clear hm hur hvr hfu hfv hL hu hv
  go_enter Tryz.func5, Tryz.ntmps5
  go_wp2_with (refine wpList_box 25 _ rfl _ rfl rfl ?_)
  intro w1 b1 hN1
  have H1 := show Hid (Below w.heap.size w w1 ∧ Cl w1 b1 #[.slice pu m.up.length cu, .slice pv m.val.length cv] 25) from ⟨hN1.bel, hN1.blk⟩
  clear hN1
  go_wp2_with (refine wpList_alloc 25 rfl _ zero_md rfl ?_)
  intro w2 b2 hN2
  have H2 := show Hid (Below w.heap.size w w2 ∧ Cl w2 b1 #[.slice pu m.up.length cu, .slice pv m.val.length cv] 25 ∧ Cl w2 b2 #[.slice none 0 0, .slice none 0 0] 25 ∧ w.heap.size ≤ b2) from ⟨H1.out.1.trans (hN2.bel.mono H1.out.1.size), H1.out.2.later hN2.bel, hN2.blk, Nat.le_trans H1.out.1.size hN2.ge⟩
  clear hN2 H1
  go_wp2_with (refine wpList_alloc 25 rfl _ zero_md rfl ?_)
  intro w3 b6 hN3
  have H3 := show Hid (Below w.heap.size w w3 ∧ Cl w3 b1 #[.slice pu m.up.length cu, .slice pv m.val.length cv] 25 ∧ Cl w3 b2 #[.slice none 0 0, .slice none 0 0] 25 ∧ w.heap.size ≤ b2 ∧ Cl w3 b6 #[.slice none 0 0, .slice none 0 0] 25 ∧ w.heap.size ≤ b6 ∧ b2 < b6 ∧ b1 < b6) from ⟨H2.out.1.trans (hN3.bel.mono H2.out.1.size), H2.out.2.1.later hN3.bel, H2.out.2.2.1.later hN3.bel, H2.out.2.2.2, hN3.blk, Nat.le_trans H2.out.1.size hN3.ge, Nat.lt_of_lt_of_le H2.out.2.2.1.lt hN3.ge, Nat.lt_of_lt_of_le H2.out.2.1.lt hN3.ge⟩
  clear hN3 H2
  go_wp2_with (refine wpList_st 25 rfl rfl _ _ rfl b6 rfl _ rfl _ _ H3.out.2.2.2.2.1 sizeM rfl (by simp [Value.oneCell']) ?_)
  intro wA hcA hkA
  have HA6 := show Hid (b6 < wA.heap.size) from hcA.lt
  have HB1 := show Hid (∀ W, Kp (fun k => k = b6) wA W → Below w.heap.size w W ∧ W.cell? ⟨b1, 0, none⟩ = some (.slice pu m.up.length cu) ∧ W.cell? ⟨b1, 1, none⟩ = some (.slice pv m.val.length cv) ∧ Cl W b2 #[.slice none 0 0, .slice none 0 0] 25) from fun W hW => by
    have hk := hkA.trans hW fun _ h => Or.inl h
    obtain ⟨x1, x2, x3, x4, x5, x6, x7, x8⟩ := H3.out
    have hb : Below w.heap.size w W := x1.trans (hk.below x1.size fun k e => by omega)
    have hc := x2.kp hk (by omega)
    exact ⟨hb, hc.cell 0, hc.cell 1, x3.kp hk (by omega)⟩
  have HT0 := show Hid (Td wA wA b6 (.slice none 0 0) (.slice none 0 0) (m.up.take 0) []) from ⟨hcA, ⟨[], World.ownsRow_nil _ _ _ _, fun i hi => absurd hi (by simp)⟩, ⟨[], World.ownsRow_nil _ _ _ _, fun i hi => absurd hi (by simp)⟩, Kp.refl _ _⟩
  have HWA := show Hid (w.heap.size ≤ wA.heap.size) from Nat.le_trans H3.out.1.size hkA.size
  have HB26 := show Hid (b2 ≠ b6 ∧ b2 < wA.heap.size ∧ w.heap.size ≤ b2) from ⟨by have := H3.out.2.2.2.2.2.2.1; omega, by have := H3.out.2.2.2.2.2.2.1; have := hcA.lt; omega, H3.out.2.2.2.1⟩
  clear hcA hkA H3
  go_wp2_with fail
  go_loopw [4] (fun i wr => ∃ k : Nat, k ≤ m.up.length ∧ i = .int .i64 (k : Int) ∧ Hid (∃ uk, Td wA wr b6 uk (.slice none 0 0) (m.up.take k) [])) (fun i _ => m.up.length - (intOf i).toNat)
  case atStart => exact ⟨0, Nat.zero_le _, rfl, _, HT0.out⟩
  case round =>
    obtain ⟨k, hk, rfl, HI⟩ := hrel
    clear HT0
    obtain ⟨uk, hTD⟩ := HI.out
    have c1 := (HB1.out wr hTD.kp).2.1
    by_cases hlt : k < m.up.length
    · have hki : (k : Int) < (m.up.length : Int) := by omega
      have HST := show Hid (m.up.take (k + 1) = m.up.take k ++ [m.up[k]]) from List.take_succ_eq_append_getElem hlt
      have HVL0 := show Hid ((m.up.take k).length = k) from by
        show (m.up.take k).length = k
        rw [List.length_take]; omega
      obtain ⟨bq, oq, qr, nr, rfl, hbq, hcq, hnq⟩ := HUR.out k hlt
      have HCQ := show Hid (∀ W, Kp (fun k => k = b6) wA W → W.cell? ⟨bq, oq + k, none⟩ = some (.slice qr m.up[k].length nr) ∧ IsI W L (.slice qr m.up[k].length nr) m.up[k]) from fun W hW => by
        have h2 := (HB1.out W hW).1
        have := HL.out
        exact ⟨(World.cell?_of_block (a := ⟨bq, oq + k, none⟩) (h2.block bq (by omega))).trans hcq, IsI.keep hnq fun j hj => h2.block j (by omega)⟩
      have HROW := show Hid (m.up[k].length * 8 ≤ 140737488355328) from HFU.out _ (List.getElem_mem hlt)
      clear hbq hcq hnq HI
      generalize m.up.take k = up at HST HVL0 hTD
      generalize m.up[k] = nm at HST HCQ HROW
      obtain ⟨xs0, hx0, -⟩ := id hTD.up
      obtain ⟨pk, ck, rfl⟩ := own_form hx0
      have HTD := show Hid (Td wA wr b6 (.slice pk up.length ck) (.slice none 0 0) up []) from hTD
      have HVB := show Hid (∀ j, (Value.slice pk up.length ck).ownBlock = some j → j < wr.heap.size) from fun j hj => (own_blk hx0 hj).2.1
      have HROWS := show Hid (RowsZ wA.heap.size wr (.slice pk up.length ck) up) from hTD.up
      have HVL := show Hid ((up.length + 1) * 24 ≤ 140737488355328) from by
        show (up.length + 1) * 24 ≤ 140737488355328
        have h1 := HVL0.out
        have h2 := HLU.out.1
        omega
      have HB6 := show Hid (b6 < wr.heap.size) from hTD.m.lt
      clear hx0 hTD HVL0
      go_wp2_with fail
      clear c1
      refine wp_region_dep (by kernel_rfl) [some 14, some 15, some 16, some 17, some 18, some 19, some 20, some 21, some 22, some 23, some 24, some 25, none] [[], [0], [], [], [3], [], [4, 5], [6], [2, 7], [8], [1, 9], [], [11, 10]] [[], [0], [], [], [3], [], [4, 3, 5], [6, 4, 3, 5], [2, 7, 6, 4, 3, 5], [8, 2, 7, 6, 4, 3, 5], [1, 0, 9, 8, 2, 7, 6, 4, 3, 5], [], [11, 10, 1, 0, 9, 8, 2, 7, 6, 4, 3, 5]] (by kernel_rfl) (by decide) (fun i v W => match i with | 0 => v = .pointer (some ⟨b6, 0, none⟩) | 1 => v = .slice pk up.length ck | 2 => ∃ q, v = .slice (some ⟨q, 0, none⟩) 0 0 ∧ wr.heap.size ≤ q ∧ W.heap[q]? = some (.cells #[] 3 (0, 0)) | 3 => v = .pointer (some ⟨b1, 0, none⟩) | 4 => v = .slice (some ⟨bq, oq, none⟩) m.up.length cu | 5 => v = .int .i64 (k : Int) | 6 => v = .pointer (some ⟨bq, oq + k, none⟩) | 7 => v = .slice qr nm.length nr | 8 => OwnZ wr.heap.size W v nm ∧ ∃ p n c, v = .slice p n c | 9 => ∃ q p n c, v = .slice (some ⟨q, 0, none⟩) 1 1 ∧ wr.heap.size ≤ q ∧ W.cell? ⟨q, 0, none⟩ = some (.slice p n c) ∧ OwnZ wr.heap.size W (.slice p n c) nm | 10 => RowsZ wA.heap.size W v (up ++ [nm]) ∧ ∃ p n c, v = .slice p n c | 11 => v = .pointer (some ⟨b6, 0, none⟩) | 12 => ∃ v2, Cl W b6 #[v2, .slice none 0 0] 25 ∧ RowsZ wA.heap.size W v2 (up ++ [nm]) | _ => True) (fun done W => TS wr W wA.heap.size b6 #[.slice pk up.length ck, .slice none 0 0] 55 9 (done 10) (done 12)) (fun i W W' => LeC wr b6 i W W') ?hle (TS.start HTD.out.m) (allLt 13 ?steps) ?fin
      case hle =>
        intro i j v W W' hij hn hl h
        match j, h, hij, hn with
        | 0, h, _, _ => exact h
        | 1, h, _, _ => exact h
        | 3, h, _, _ => exact h
        | 4, h, _, _ => exact h
        | 5, h, _, _ => exact h
        | 6, h, _, _ => exact h
        | 7, h, _, _ => exact h
        | 11, h, _, _ => exact h
        | 2, ⟨q, h1, h2, h3⟩, _, _ => exact ⟨q, h1, h2, (hl.fresh HB6.out h2 (lt_of_block h3)).trans h3⟩
        | 8, ⟨h1, h2⟩, _, _ => exact ⟨hl.own HB6.out h1, h2⟩
        | 9, ⟨q, p, n, c, h1, h2, h3, h4⟩, _, _ => exact ⟨q, p, n, c, h1, h2, (World.cell?_of_block (a := ⟨q, 0, none⟩) (hl.fresh HB6.out h2 (World.block_lt_of_cell? W _ h3))).trans h3, hl.own HB6.out h4⟩
        | 10, ⟨h1, h2⟩, hij, hn =>
          match i, hij, hn, hl with
          | 0, _, hn, _ => exact absurd (by decide) hn
          | 1, _, hn, _ => exact absurd (by decide) hn
          | 2, _, hn, _ => exact absurd (by decide) hn
          | 3, _, hn, _ => exact absurd (by decide) hn
          | 4, _, hn, _ => exact absurd (by decide) hn
          | 5, _, hn, _ => exact absurd (by decide) hn
          | 6, _, hn, _ => exact absurd (by decide) hn
          | 7, _, hn, _ => exact absurd (by decide) hn
          | 8, _, hn, _ => exact absurd (by decide) hn
          | 9, _, hn, _ => exact absurd (by decide) hn
          | 10, hij, _, _ => exact absurd rfl hij
          | 11, _, _, hl => exact ⟨h1.keep (St.of_below (hl.2.1 (by decide) (by decide))), h2⟩
          | 12, _, _, hl => exact ⟨h1.keep (St.of_kp (hl.2.2.2 rfl) HA6.out), h2⟩
          | i + 13, _, _, hl => exact absurd hl.1 (by omega)
        | 12, h, hij, hn =>
          match i, hij, hn, hl with
          | 0, _, hn, _ => exact absurd (by decide) hn
          | 1, _, hn, _ => exact absurd (by decide) hn
          | 2, _, hn, _ => exact absurd (by decide) hn
          | 3, _, hn, _ => exact absurd (by decide) hn
          | 4, _, hn, _ => exact absurd (by decide) hn
          | 5, _, hn, _ => exact absurd (by decide) hn
          | 6, _, hn, _ => exact absurd (by decide) hn
          | 7, _, hn, _ => exact absurd (by decide) hn
          | 8, _, hn, _ => exact absurd (by decide) hn
          | 9, _, hn, _ => exact absurd (by decide) hn
          | 10, _, hn, _ => exact absurd (by decide) hn
          | 11, _, hn, _ => exact absurd (by decide) hn
          | 12, hij, _, _ => exact absurd rfl hij
          | i + 13, _, _, hl => exact absurd hl.1 (by omega)
        | j + 13, _, _, _ => trivial
      case steps =>
        refine ⟨⟨⟨⟨⟨⟨⟨⟨⟨⟨⟨⟨⟨trivial, ?s0⟩, ?s1⟩, ?s2⟩, ?s3⟩, ?s4⟩, ?s5⟩, ?s6⟩, ?s7⟩, ?s8⟩, ?s9⟩, ?s10⟩, ?s11⟩, ?s12⟩
        case s0 =>
          intro done a W hS hd hnd hno hO hN
          have o3 : a.tmps[3]? = some (.pointer (some ⟨b6, 0, none⟩)) := (hO.out 3 (by decide)).trans rfl
          exact relVal rfl (.pointer (some ⟨b6, 0, none⟩)) _ rfl (by go_simp) ⟨_, rfl, rfl, hS.later HTD.out.sz (Below.refl _ _) (fun e => by simpa using e) (fun e => by simpa using e), ⟨by decide, fun _ _ => Below.refl _ _, fun h => absurd h (by decide), fun h => absurd h (by decide)⟩⟩
        case s1 =>
          intro done a W hS hd hnd hno hO hN
          obtain ⟨v0, g0, r0⟩ := hN 0 (by decide)
          have g0 : a.tmps[14]? = some v0 := g0
          have e0 : v0 = .pointer (some ⟨b6, 0, none⟩) := r0
          rw [e0] at g0
          have hcl : W.cell? ⟨b6, 0, none⟩ = some (.slice pk up.length ck) := Cl.cell (T := 25) (hS.m (hno 12 (by decide))) 0
          exact relVal rfl (.slice pk up.length ck) _ rfl (by go_simp) ⟨_, rfl, rfl, hS.later HTD.out.sz (Below.refl _ _) (fun e => by simpa using e) (fun e => by simpa using e), ⟨by decide, fun _ _ => Below.refl _ _, fun h => absurd h (by decide), fun h => absurd h (by decide)⟩⟩
        case s2 =>
          intro done a W hS hd hnd hno hO hN
          have hb := bs0I W
          exact relVal rfl (.slice (some ⟨W.heap.size, 0, none⟩) 0 0) (W.alloc (.cells #[] 3)) rfl (by simp [execOp, hb, Result.andThen]) ⟨_, rfl, ⟨W.heap.size, rfl, hS.sz, heap_alloc_new _ _⟩, hS.later HTD.out.sz (below_alloc W _) (fun e => by simpa using e) (fun e => by simpa using e), ⟨by decide, fun _ _ => below_alloc W _, fun h => absurd h (by decide), fun h => absurd h (by decide)⟩⟩
        case s3 =>
          intro done a W hS hd hnd hno hO hN
          have o1 : a.tmps[1]? = some (.pointer (some ⟨b1, 0, none⟩)) := (hO.out 1 (by decide)).trans rfl
          exact relVal rfl (.pointer (some ⟨b1, 0, none⟩)) _ rfl (by go_simp) ⟨_, rfl, rfl, hS.later HTD.out.sz (Below.refl _ _) (fun e => by simpa using e) (fun e => by simpa using e), ⟨by decide, fun _ _ => Below.refl _ _, fun h => absurd h (by decide), fun h => absurd h (by decide)⟩⟩
        case s4 =>
          intro done a W hS hd hnd hno hO hN
          obtain ⟨v3, g3, r3⟩ := hN 3 (by decide)
          have g3 : a.tmps[17]? = some v3 := g3
          have e3 : v3 = .pointer (some ⟨b1, 0, none⟩) := r3
          rw [e3] at g3
          have hcl := (HB1.out W (hS.kp HTD.out.kp (Nat.le_refl _))).2.1
          exact relVal rfl (.slice (some ⟨bq, oq, none⟩) m.up.length cu) _ rfl (by go_simp) ⟨_, rfl, rfl, hS.later HTD.out.sz (Below.refl _ _) (fun e => by simpa using e) (fun e => by simpa using e), ⟨by decide, fun _ _ => Below.refl _ _, fun h => absurd h (by decide), fun h => absurd h (by decide)⟩⟩
        case s5 =>
          intro done a W hS hd hnd hno hO hN
          have o4 : a.tmps[4]? = some (.int .i64 (k : Int)) := (hO.out 4 (by decide)).trans rfl
          exact relVal rfl (.int .i64 (k : Int)) _ rfl (by go_simp) ⟨_, rfl, rfl, hS.later HTD.out.sz (Below.refl _ _) (fun e => by simpa using e) (fun e => by simpa using e), ⟨by decide, fun _ _ => Below.refl _ _, fun h => absurd h (by decide), fun h => absurd h (by decide)⟩⟩
        case s6 =>
          intro done a W hS hd hnd hno hO hN
          obtain ⟨v4, g4, r4⟩ := hN 4 (by decide)
          have g4 : a.tmps[18]? = some v4 := g4
          have e4 : v4 = .slice (some ⟨bq, oq, none⟩) m.up.length cu := r4
          rw [e4] at g4
          obtain ⟨v5, g5, r5⟩ := hN 5 (by decide)
          have g5 : a.tmps[19]? = some v5 := g5
          have e5 : v5 = .int .i64 (k : Int) := r5
          rw [e5] at g5
          exact relVal rfl (.pointer (some ⟨bq, oq + k, none⟩)) _ rfl (by go_simp) ⟨_, rfl, rfl, hS.later HTD.out.sz (Below.refl _ _) (fun e => by simpa using e) (fun e => by simpa using e), ⟨by decide, fun _ _ => Below.refl _ _, fun h => absurd h (by decide), fun h => absurd h (by decide)⟩⟩
        case s7 =>
          intro done a W hS hd hnd hno hO hN
          obtain ⟨v6, g6, r6⟩ := hN 6 (by decide)
          have g6 : a.tmps[20]? = some v6 := g6
          have e6 : v6 = .pointer (some ⟨bq, oq + k, none⟩) := r6
          rw [e6] at g6
          have hcl := (HCQ.out W (hS.kp HTD.out.kp (Nat.le_refl _))).1
          exact relVal rfl (.slice qr nm.length nr) _ rfl (by go_simp) ⟨_, rfl, rfl, hS.later HTD.out.sz (Below.refl _ _) (fun e => by simpa using e) (fun e => by simpa using e), ⟨by decide, fun _ _ => Below.refl _ _, fun h => absurd h (by decide), fun h => absurd h (by decide)⟩⟩
        case s8 =>
          intro done a W hS hd hnd hno hO hN
          obtain ⟨v2, g2, r2⟩ := hN 2 (by decide)
          have g2 : a.tmps[16]? = some v2 := g2
          obtain ⟨v7, g7, r7⟩ := hN 7 (by decide)
          have g7 : a.tmps[21]? = some v7 := g7
          have e7 : v7 = .slice qr nm.length nr := r7
          rw [e7] at g7
          obtain ⟨q, e2, hq, hcq⟩ := r2
          rw [e2] at g2
          obtain ⟨v', W2, hrun, ho, hfb⟩ := run_copyE W 27 3 27 8 Tryz.underlying27 infoI rfl (Value.int .i64) (fun _ => rfl) q wr.heap.size hcq hq (HCQ.out W (hS.kp HTD.out.kp (Nat.le_refl _))).2 HROW.out (by unfold maxLen; have := HROW.out; omega)
          exact relVal rfl v' W2 rfl (by simp [execOp, Act.eval, resolve, invoke, builtin, g2, g7, hrun, Result.andThen]) ⟨_, rfl, ⟨ho, own_form3 ho⟩, hS.later HTD.out.sz hfb (fun e => by simpa using e) (fun e => by simpa using e), ⟨by decide, fun _ _ => hfb, fun h => absurd h (by decide), fun h => absurd h (by decide)⟩⟩
        case s9 =>
          intro done a W hS hd hnd hno hO hN
          obtain ⟨v8, g8, r8⟩ := hN 8 (by decide)
          have g8 : a.tmps[22]? = some v8 := g8
          obtain ⟨h8, p, n, c, e8⟩ := r8
          rw [e8] at g8 h8
          have hb := bsLI W p n c
          exact relVal rfl (.slice (some ⟨W.heap.size, 0, none⟩) 1 1) (W.alloc (.cells #[.slice p n c] 27)) rfl (by simp [execOp, Act.eval, g8, hb, Result.andThen]) ⟨_, rfl, ⟨W.heap.size, p, n, c, rfl, hS.sz, by rw [World.cell?_alloc_new]; rfl, own_later h8 (below_alloc W _)⟩, hS.later HTD.out.sz (below_alloc W _) (fun e => by simpa using e) (fun e => by simpa using e), ⟨by decide, fun _ _ => below_alloc W _, fun h => absurd h (by decide), fun h => absurd h (by decide)⟩⟩
        case s10 =>
          intro done a W hS hd hnd hno hO hN
          obtain ⟨v1, g1, r1⟩ := hN 1 (by decide)
          have g1 : a.tmps[15]? = some v1 := g1
          have e1 : v1 = .slice pk up.length ck := r1
          rw [e1] at g1
          obtain ⟨v9, g9, r9⟩ := hN 9 (by decide)
          have g9 : a.tmps[23]? = some v9 := g9
          obtain ⟨q, p, n, c, e9, hq, hcq, ho8⟩ := r9
          rw [e9] at g9
          obtain ⟨i0, hi, hz0, hz1, hz2⟩ := info_parts infoLI
          obtain ⟨ys, hy1, hy2⟩ := HROWS.out.keep (St.of_below (hS.b9 hd))
          have hd11 := hno 12 (by decide)
          rw [hd, hd11] at hS
          obtain ⟨v', W2, hrun, ho', hgr, _, hblk⟩ := run_append_own_at (P := Tryz.prog) (w := W) wA.heap.size 22 22 27 i0 _ 1 24 Tryz.underlying22 hi hz0 hz1 hz2 rfl (by decide) _ up.length _ hy1 ⟨q, 0, none⟩ 1 1 [.slice p n c] rfl (cell_one hcq) (by intro u hu; simp at hu; subst hu; rfl) (by unfold maxLen; have := HVL.out; omega) HVL.out (Nat.le_trans HTD.out.sz hS.sz)
          have hrow := RowsZ.snoc hy1 hy2 (own_base ho8 HTD.out.sz) ho' hgr
          refine relVal rfl v' W2 rfl (by simp [execOp, Act.eval, resolve, invoke, builtin, g1, g9, hrun, Result.andThen]) ⟨_, rfl, ⟨hrow, own_form3 ho'⟩, ?_, ⟨by decide, fun _ h => absurd rfl h, fun _ k hk hl => hgr.block k hl (fun e => ?_), fun h => absurd h (by decide)⟩⟩
          · have hg := hS.grow HTD.out.sz HA6.out hy1 hgr (by decide) (by decide)
            simpa [hd11] using hg
          · have := HVB.out k e.symm
            omega
        case s11 =>
          intro done a W hS hd hnd hno hO hN
          have o3 : a.tmps[3]? = some (.pointer (some ⟨b6, 0, none⟩)) := (hO.out 3 (by decide)).trans rfl
          exact relVal rfl (.pointer (some ⟨b6, 0, none⟩)) _ rfl (by go_simp) ⟨_, rfl, rfl, hS.later HTD.out.sz (Below.refl _ _) (fun e => by simpa using e) (fun e => by simpa using e), ⟨by decide, fun _ _ => Below.refl _ _, fun h => absurd h (by decide), fun h => absurd h (by decide)⟩⟩
        case s12 =>
          intro done a W hS hd hnd hno hO hN
          obtain ⟨v11, g11, r11⟩ := hN 11 (by decide)
          have g11 : a.tmps[25]? = some v11 := g11
          have e11 : v11 = .pointer (some ⟨b6, 0, none⟩) := r11
          rw [e11] at g11
          obtain ⟨v10, g10, r10⟩ := hN 10 (by decide)
          have g10 : a.tmps[24]? = some v10 := g10
          obtain ⟨hrow, pp, nn, cc, e10⟩ := r10
          rw [e10] at g10 hrow
          have hd9 := hnd 10 (by decide)
          rw [hd, hd9] at hS
          have hcl : W.cell? ⟨b6, 0, none⟩ = some (.slice pk up.length ck) := Cl.cell (T := 25) (hS.m rfl) 0
          have hfr : W.frozen? ⟨b6, 0, none⟩ = false := Cl.fr (T := 25) (hS.m rfl) 0
          have hkp : Kp (fun k => k = b6) W (W.setCell ⟨b6, 0, none⟩ (.slice pp nn cc)) := (Kp.refl (fun k => k = b6) W).set (p := b6) rfl 0 _
          have hst := hS.store HA6.out 0 (.slice pp nn cc)
          refine relSkip rfl _ rfl (by go_simp) ⟨_, rfl, ⟨_, heap_setCell_same W b6 0 _ _ _ (hS.m rfl), hrow.keep (St.of_kp hkp HA6.out)⟩, ?_, ⟨by decide, fun h => absurd rfl h, fun h => absurd h (by decide), fun _ => hkp⟩⟩
          simpa [hd9] using hst
      case fin =>
        intro vs done w8 hdone hS hV
        obtain ⟨v2, hm9, hv9⟩ : ∃ v2, Cl w8 b6 #[v2, .slice none 0 0] 25 ∧ RowsZ wA.heap.size w8 v2 (up ++ [nm]) := hV 12 (by decide)
        have HTD8 := show Hid (Td wA w8 b6 v2 (.slice none 0 0) (up ++ [nm]) []) from ⟨hm9, hv9, HTD.out.val.keep hS.st, hS.kp HTD.out.kp (Nat.le_refl _)⟩
        clear hS hV hm9 hv9
        simp only [putAll, Act.put, List.setIfInBounds_toArray, List.set_cons_zero, List.set_cons_succ]
        clear HTD HVB HROWS HVL HB6
        have HNEW := show Hid (Td wA w8 b6 v2 (.slice none 0 0) (m.up.take (k + 1)) []) from by
          have h := HTD8.out
          rw [← HST.out] at h
          exact h
        clear HTD8 HST HCQ HROW
        go_wp2_with fail
        go_roundw
        case rel => exact ⟨k + 1, by omega, val_int (by omega), _, HNEW.out⟩
        case measure => (simp only [intOf]; omega)
    · obtain rfl : k = m.up.length := by omega
      have HT0 := show Hid (∃ uk, Td wA wr b6 uk (.slice none 0 0) m.up (m.val.take 0)) from ⟨uk, by
        have h := hTD
        rw [List.take_length] at h
        exact h⟩
      clear hTD HI
      go_wp2_with fail
      clear c1
      go_loopw [5] (fun i wr => ∃ k : Nat, k ≤ m.val.length ∧ i = .int .i64 (k : Int) ∧ Hid (∃ uk vk, Td wA wr b6 uk vk m.up (m.val.take k))) (fun i _ => m.val.length - (intOf i).toNat)
      case atStart =>
        obtain ⟨uk, h⟩ := HT0.out
        exact ⟨0, Nat.zero_le _, rfl, uk, _, h⟩
      case round =>
        obtain ⟨k, hk, rfl, HI⟩ := hrel
        clear HT0
        obtain ⟨uk, vk, hTD⟩ := HI.out
        have c1 := (HB1.out wr hTD.kp).2.2.1
        by_cases hlt : k < m.val.length
        · have hki : (k : Int) < (m.val.length : Int) := by omega
          have HST := show Hid (m.val.take (k + 1) = m.val.take k ++ [m.val[k]]) from List.take_succ_eq_append_getElem hlt
          have HVL0 := show Hid ((m.val.take k).length = k) from by
            show (m.val.take k).length = k
            rw [List.length_take]; omega
          obtain ⟨bq, oq, qr, nr, rfl, hbq, hcq, hnq⟩ := HVR.out k hlt
          have HCQ := show Hid (∀ W, Kp (fun k => k = b6) wA W → W.cell? ⟨bq, oq + k, none⟩ = some (.slice qr m.val[k].length nr) ∧ IsN W L (.slice qr m.val[k].length nr) m.val[k]) from fun W hW => by
            have h2 := (HB1.out W hW).1
            have := HL.out
            exact ⟨(World.cell?_of_block (a := ⟨bq, oq + k, none⟩) (h2.block bq (by omega))).trans hcq, IsN.keep hnq fun j hj => h2.block j (by omega)⟩
          have HROW := show Hid (m.val[k].length * 16 ≤ 140737488355328) from HFV.out _ (List.getElem_mem hlt)
          clear hbq hcq hnq HI
          generalize m.val.take k = val at HST HVL0 hTD
          generalize m.val[k] = nm at HST HCQ HROW
          obtain ⟨xs0, hx0, -⟩ := id hTD.val
          obtain ⟨pk, ck, rfl⟩ := own_form hx0
          have HTD := show Hid (Td wA wr b6 uk (.slice pk val.length ck) m.up val) from hTD
          have HVB := show Hid (∀ j, (Value.slice pk val.length ck).ownBlock = some j → j < wr.heap.size) from fun j hj => (own_blk hx0 hj).2.1
          have HROWS := show Hid (RowsN wA.heap.size wr (.slice pk val.length ck) val) from hTD.val
          have HVL := show Hid ((val.length + 1) * 24 ≤ 140737488355328) from by
            show (val.length + 1) * 24 ≤ 140737488355328
            have h1 := HVL0.out
            have h2 := HLU.out.2
            omega
          have HB6 := show Hid (b6 < wr.heap.size) from hTD.m.lt
          clear hx0 hTD HVL0
          go_wp2_with fail
          clear c1
          refine wp_region_dep (by kernel_rfl) [some 33, some 34, some 35, some 36, some 37, some 38, some 39, some 40, some 41, some 42, some 43, some 44, none] [[], [0], [], [], [3], [], [4, 5], [6], [2, 7], [8], [1, 9], [], [11, 10]] [[], [0], [], [], [3], [], [4, 3, 5], [6, 4, 3, 5], [2, 7, 6, 4, 3, 5], [8, 2, 7, 6, 4, 3, 5], [1, 0, 9, 8, 2, 7, 6, 4, 3, 5], [], [11, 10, 1, 0, 9, 8, 2, 7, 6, 4, 3, 5]] (by kernel_rfl) (by decide) (fun i v W => match i with | 0 => v = .pointer (some ⟨b6, 1, none⟩) | 1 => v = .slice pk val.length ck | 2 => ∃ q, v = .slice (some ⟨q, 0, none⟩) 0 0 ∧ wr.heap.size ≤ q ∧ W.heap[q]? = some (.cells #[] 9 (0, 0)) | 3 => v = .pointer (some ⟨b1, 1, none⟩) | 4 => v = .slice (some ⟨bq, oq, none⟩) m.val.length cv | 5 => v = .int .i64 (k : Int) | 6 => v = .pointer (some ⟨bq, oq + k, none⟩) | 7 => v = .slice qr nm.length nr | 8 => OwnN wr.heap.size W v nm ∧ ∃ p n c, v = .slice p n c | 9 => ∃ q p n c, v = .slice (some ⟨q, 0, none⟩) 1 1 ∧ wr.heap.size ≤ q ∧ W.cell? ⟨q, 0, none⟩ = some (.slice p n c) ∧ OwnN wr.heap.size W (.slice p n c) nm | 10 => RowsN wA.heap.size W v (val ++ [nm]) ∧ ∃ p n c, v = .slice p n c | 11 => v = .pointer (some ⟨b6, 1, none⟩) | 12 => ∃ v2, Cl W b6 #[uk, v2] 25 ∧ RowsN wA.heap.size W v2 (val ++ [nm]) | _ => True) (fun done W => TS wr W wA.heap.size b6 #[uk, .slice pk val.length ck] 27 3 (done 10) (done 12)) (fun i W W' => LeC wr b6 i W W') ?hle (TS.start HTD.out.m) (allLt 13 ?steps) ?fin
          case hle =>
            intro i j v W W' hij hn hl h
            match j, h, hij, hn with
            | 0, h, _, _ => exact h
            | 1, h, _, _ => exact h
            | 3, h, _, _ => exact h
            | 4, h, _, _ => exact h
            | 5, h, _, _ => exact h
            | 6, h, _, _ => exact h
            | 7, h, _, _ => exact h
            | 11, h, _, _ => exact h
            | 2, ⟨q, h1, h2, h3⟩, _, _ => exact ⟨q, h1, h2, (hl.fresh HB6.out h2 (lt_of_block h3)).trans h3⟩
            | 8, ⟨h1, h2⟩, _, _ => exact ⟨hl.own HB6.out h1, h2⟩
            | 9, ⟨q, p, n, c, h1, h2, h3, h4⟩, _, _ => exact ⟨q, p, n, c, h1, h2, (World.cell?_of_block (a := ⟨q, 0, none⟩) (hl.fresh HB6.out h2 (World.block_lt_of_cell? W _ h3))).trans h3, hl.own HB6.out h4⟩
            | 10, ⟨h1, h2⟩, hij, hn =>
              match i, hij, hn, hl with
              | 0, _, hn, _ => exact absurd (by decide) hn
              | 1, _, hn, _ => exact absurd (by decide) hn
              | 2, _, hn, _ => exact absurd (by decide) hn
              | 3, _, hn, _ => exact absurd (by decide) hn
              | 4, _, hn, _ => exact absurd (by decide) hn
              | 5, _, hn, _ => exact absurd (by decide) hn
              | 6, _, hn, _ => exact absurd (by decide) hn
              | 7, _, hn, _ => exact absurd (by decide) hn
              | 8, _, hn, _ => exact absurd (by decide) hn
              | 9, _, hn, _ => exact absurd (by decide) hn
              | 10, hij, _, _ => exact absurd rfl hij
              | 11, _, _, hl => exact ⟨h1.keep (St.of_below (hl.2.1 (by decide) (by decide))), h2⟩
              | 12, _, _, hl => exact ⟨h1.keep (St.of_kp (hl.2.2.2 rfl) HA6.out), h2⟩
              | i + 13, _, _, hl => exact absurd hl.1 (by omega)
            | 12, h, hij, hn =>
              match i, hij, hn, hl with
              | 0, _, hn, _ => exact absurd (by decide) hn
              | 1, _, hn, _ => exact absurd (by decide) hn
              | 2, _, hn, _ => exact absurd (by decide) hn
              | 3, _, hn, _ => exact absurd (by decide) hn
              | 4, _, hn, _ => exact absurd (by decide) hn
              | 5, _, hn, _ => exact absurd (by decide) hn
              | 6, _, hn, _ => exact absurd (by decide) hn
              | 7, _, hn, _ => exact absurd (by decide) hn
              | 8, _, hn, _ => exact absurd (by decide) hn
              | 9, _, hn, _ => exact absurd (by decide) hn
              | 10, _, hn, _ => exact absurd (by decide) hn
              | 11, _, hn, _ => exact absurd (by decide) hn
              | 12, hij, _, _ => exact absurd rfl hij
              | i + 13, _, _, hl => exact absurd hl.1 (by omega)
            | j + 13, _, _, _ => trivial
          case steps =>
            refine ⟨⟨⟨⟨⟨⟨⟨⟨⟨⟨⟨⟨⟨trivial, ?s0⟩, ?s1⟩, ?s2⟩, ?s3⟩, ?s4⟩, ?s5⟩, ?s6⟩, ?s7⟩, ?s8⟩, ?s9⟩, ?s10⟩, ?s11⟩, ?s12⟩
            case s0 =>
              intro done a W hS hd hnd hno hO hN
              have o3 : a.tmps[3]? = some (.pointer (some ⟨b6, 0, none⟩)) := (hO.out 3 (by decide)).trans rfl
              exact relVal rfl (.pointer (some ⟨b6, 1, none⟩)) _ rfl (by go_simp) ⟨_, rfl, rfl, hS.later HTD.out.sz (Below.refl _ _) (fun e => by simpa using e) (fun e => by simpa using e), ⟨by decide, fun _ _ => Below.refl _ _, fun h => absurd h (by decide), fun h => absurd h (by decide)⟩⟩
            case s1 =>
              intro done a W hS hd hnd hno hO hN
              obtain ⟨v0, g0, r0⟩ := hN 0 (by decide)
              have g0 : a.tmps[33]? = some v0 := g0
              have e0 : v0 = .pointer (some ⟨b6, 1, none⟩) := r0
              rw [e0] at g0
              have hcl : W.cell? ⟨b6, 1, none⟩ = some (.slice pk val.length ck) := Cl.cell (T := 25) (hS.m (hno 12 (by decide))) 1
              exact relVal rfl (.slice pk val.length ck) _ rfl (by go_simp) ⟨_, rfl, rfl, hS.later HTD.out.sz (Below.refl _ _) (fun e => by simpa using e) (fun e => by simpa using e), ⟨by decide, fun _ _ => Below.refl _ _, fun h => absurd h (by decide), fun h => absurd h (by decide)⟩⟩
            case s2 =>
              intro done a W hS hd hnd hno hO hN
              have hb := bs0S W
              exact relVal rfl (.slice (some ⟨W.heap.size, 0, none⟩) 0 0) (W.alloc (.cells #[] 9)) rfl (by simp [execOp, hb, Result.andThen]) ⟨_, rfl, ⟨W.heap.size, rfl, hS.sz, heap_alloc_new _ _⟩, hS.later HTD.out.sz (below_alloc W _) (fun e => by simpa using e) (fun e => by simpa using e), ⟨by decide, fun _ _ => below_alloc W _, fun h => absurd h (by decide), fun h => absurd h (by decide)⟩⟩
            case s3 =>
              intro done a W hS hd hnd hno hO hN
              have o1 : a.tmps[1]? = some (.pointer (some ⟨b1, 0, none⟩)) := (hO.out 1 (by decide)).trans rfl
              exact relVal rfl (.pointer (some ⟨b1, 1, none⟩)) _ rfl (by go_simp) ⟨_, rfl, rfl, hS.later HTD.out.sz (Below.refl _ _) (fun e => by simpa using e) (fun e => by simpa using e), ⟨by decide, fun _ _ => Below.refl _ _, fun h => absurd h (by decide), fun h => absurd h (by decide)⟩⟩
            case s4 =>
              intro done a W hS hd hnd hno hO hN
              obtain ⟨v3, g3, r3⟩ := hN 3 (by decide)
              have g3 : a.tmps[36]? = some v3 := g3
              have e3 : v3 = .pointer (some ⟨b1, 1, none⟩) := r3
              rw [e3] at g3
              have hcl := (HB1.out W (hS.kp HTD.out.kp (Nat.le_refl _))).2.2.1
              exact relVal rfl (.slice (some ⟨bq, oq, none⟩) m.val.length cv) _ rfl (by go_simp) ⟨_, rfl, rfl, hS.later HTD.out.sz (Below.refl _ _) (fun e => by simpa using e) (fun e => by simpa using e), ⟨by decide, fun _ _ => Below.refl _ _, fun h => absurd h (by decide), fun h => absurd h (by decide)⟩⟩
            case s5 =>
              intro done a W hS hd hnd hno hO hN
              have o5 : a.tmps[5]? = some (.int .i64 (k : Int)) := (hO.out 5 (by decide)).trans rfl
              exact relVal rfl (.int .i64 (k : Int)) _ rfl (by go_simp) ⟨_, rfl, rfl, hS.later HTD.out.sz (Below.refl _ _) (fun e => by simpa using e) (fun e => by simpa using e), ⟨by decide, fun _ _ => Below.refl _ _, fun h => absurd h (by decide), fun h => absurd h (by decide)⟩⟩
            case s6 =>
              intro done a W hS hd hnd hno hO hN
              obtain ⟨v4, g4, r4⟩ := hN 4 (by decide)
              have g4 : a.tmps[37]? = some v4 := g4
              have e4 : v4 = .slice (some ⟨bq, oq, none⟩) m.val.length cv := r4
              rw [e4] at g4
              obtain ⟨v5, g5, r5⟩ := hN 5 (by decide)
              have g5 : a.tmps[38]? = some v5 := g5
              have e5 : v5 = .int .i64 (k : Int) := r5
              rw [e5] at g5
              exact relVal rfl (.pointer (some ⟨bq, oq + k, none⟩)) _ rfl (by go_simp) ⟨_, rfl, rfl, hS.later HTD.out.sz (Below.refl _ _) (fun e => by simpa using e) (fun e => by simpa using e), ⟨by decide, fun _ _ => Below.refl _ _, fun h => absurd h (by decide), fun h => absurd h (by decide)⟩⟩
            case s7 =>
              intro done a W hS hd hnd hno hO hN
              obtain ⟨v6, g6, r6⟩ := hN 6 (by decide)
              have g6 : a.tmps[39]? = some v6 := g6
              have e6 : v6 = .pointer (some ⟨bq, oq + k, none⟩) := r6
              rw [e6] at g6
              have hcl := (HCQ.out W (hS.kp HTD.out.kp (Nat.le_refl _))).1
              exact relVal rfl (.slice qr nm.length nr) _ rfl (by go_simp) ⟨_, rfl, rfl, hS.later HTD.out.sz (Below.refl _ _) (fun e => by simpa using e) (fun e => by simpa using e), ⟨by decide, fun _ _ => Below.refl _ _, fun h => absurd h (by decide), fun h => absurd h (by decide)⟩⟩
            case s8 =>
              intro done a W hS hd hnd hno hO hN
              obtain ⟨v2, g2, r2⟩ := hN 2 (by decide)
              have g2 : a.tmps[35]? = some v2 := g2
              obtain ⟨v7, g7, r7⟩ := hN 7 (by decide)
              have g7 : a.tmps[40]? = some v7 := g7
              have e7 : v7 = .slice qr nm.length nr := r7
              rw [e7] at g7
              obtain ⟨q, e2, hq, hcq⟩ := r2
              rw [e2] at g2
              obtain ⟨v', W2, hrun, ho, hfb⟩ := run_copyE W 55 9 55 16 Tryz.underlying55 infoTx rfl Value.string (fun _ => rfl) q wr.heap.size hcq hq (HCQ.out W (hS.kp HTD.out.kp (Nat.le_refl _))).2 HROW.out (by unfold maxLen; have := HROW.out; omega)
              exact relVal rfl v' W2 rfl (by simp [execOp, Act.eval, resolve, invoke, builtin, g2, g7, hrun, Result.andThen]) ⟨_, rfl, ⟨ho, own_form3 ho⟩, hS.later HTD.out.sz hfb (fun e => by simpa using e) (fun e => by simpa using e), ⟨by decide, fun _ _ => hfb, fun h => absurd h (by decide), fun h => absurd h (by decide)⟩⟩
            case s9 =>
              intro done a W hS hd hnd hno hO hN
              obtain ⟨v8, g8, r8⟩ := hN 8 (by decide)
              have g8 : a.tmps[41]? = some v8 := g8
              obtain ⟨h8, p, n, c, e8⟩ := r8
              rw [e8] at g8 h8
              have hb := bsLS W p n c
              exact relVal rfl (.slice (some ⟨W.heap.size, 0, none⟩) 1 1) (W.alloc (.cells #[.slice p n c] 55)) rfl (by simp [execOp, Act.eval, g8, hb, Result.andThen]) ⟨_, rfl, ⟨W.heap.size, p, n, c, rfl, hS.sz, by rw [World.cell?_alloc_new]; rfl, own_later h8 (below_alloc W _)⟩, hS.later HTD.out.sz (below_alloc W _) (fun e => by simpa using e) (fun e => by simpa using e), ⟨by decide, fun _ _ => below_alloc W _, fun h => absurd h (by decide), fun h => absurd h (by decide)⟩⟩
            case s10 =>
              intro done a W hS hd hnd hno hO hN
              obtain ⟨v1, g1, r1⟩ := hN 1 (by decide)
              have g1 : a.tmps[34]? = some v1 := g1
              have e1 : v1 = .slice pk val.length ck := r1
              rw [e1] at g1
              obtain ⟨v9, g9, r9⟩ := hN 9 (by decide)
              have g9 : a.tmps[42]? = some v9 := g9
              obtain ⟨q, p, n, c, e9, hq, hcq, ho8⟩ := r9
              rw [e9] at g9
              obtain ⟨i0, hi, hz0, hz1, hz2⟩ := info_parts infoLS
              obtain ⟨ys, hy1, hy2⟩ := HROWS.out.keep (St.of_below (hS.b9 hd))
              have hd11 := hno 12 (by decide)
              rw [hd, hd11] at hS
              obtain ⟨v', W2, hrun, ho', hgr, _, hblk⟩ := run_append_own_at (P := Tryz.prog) (w := W) wA.heap.size 23 23 55 i0 _ 1 24 Tryz.underlying23 hi hz0 hz1 hz2 rfl (by decide) _ val.length _ hy1 ⟨q, 0, none⟩ 1 1 [.slice p n c] rfl (cell_one hcq) (by intro u hu; simp at hu; subst hu; rfl) (by unfold maxLen; have := HVL.out; omega) HVL.out (Nat.le_trans HTD.out.sz hS.sz)
              have hrow := RowsN.snoc hy1 hy2 (own_base ho8 HTD.out.sz) ho' hgr
              refine relVal rfl v' W2 rfl (by simp [execOp, Act.eval, resolve, invoke, builtin, g1, g9, hrun, Result.andThen]) ⟨_, rfl, ⟨hrow, own_form3 ho'⟩, ?_, ⟨by decide, fun _ h => absurd rfl h, fun _ k hk hl => hgr.block k hl (fun e => ?_), fun h => absurd h (by decide)⟩⟩
              · have hg := hS.grow HTD.out.sz HA6.out hy1 hgr (by decide) (by decide)
                simpa [hd11] using hg
              · have := HVB.out k e.symm
                omega
            case s11 =>
              intro done a W hS hd hnd hno hO hN
              have o3 : a.tmps[3]? = some (.pointer (some ⟨b6, 0, none⟩)) := (hO.out 3 (by decide)).trans rfl
              exact relVal rfl (.pointer (some ⟨b6, 1, none⟩)) _ rfl (by go_simp) ⟨_, rfl, rfl, hS.later HTD.out.sz (Below.refl _ _) (fun e => by simpa using e) (fun e => by simpa using e), ⟨by decide, fun _ _ => Below.refl _ _, fun h => absurd h (by decide), fun h => absurd h (by decide)⟩⟩
            case s12 =>
              intro done a W hS hd hnd hno hO hN
              obtain ⟨v11, g11, r11⟩ := hN 11 (by decide)
              have g11 : a.tmps[44]? = some v11 := g11
              have e11 : v11 = .pointer (some ⟨b6, 1, none⟩) := r11
              rw [e11] at g11
              obtain ⟨v10, g10, r10⟩ := hN 10 (by decide)
              have g10 : a.tmps[43]? = some v10 := g10
              obtain ⟨hrow, pp, nn, cc, e10⟩ := r10
              rw [e10] at g10 hrow
              have hd9 := hnd 10 (by decide)
              rw [hd, hd9] at hS
              have hcl : W.cell? ⟨b6, 1, none⟩ = some (.slice pk val.length ck) := Cl.cell (T := 25) (hS.m rfl) 1
              have hfr : W.frozen? ⟨b6, 1, none⟩ = false := Cl.fr (T := 25) (hS.m rfl) 1
              have hkp : Kp (fun k => k = b6) W (W.setCell ⟨b6, 1, none⟩ (.slice pp nn cc)) := (Kp.refl (fun k => k = b6) W).set (p := b6) rfl 1 _
              have hst := hS.store HA6.out 1 (.slice pp nn cc)
              refine relSkip rfl _ rfl (by go_simp) ⟨_, rfl, ⟨_, heap_setCell_same W b6 1 _ _ _ (hS.m rfl), hrow.keep (St.of_kp hkp HA6.out)⟩, ?_, ⟨by decide, fun h => absurd rfl h, fun h => absurd h (by decide), fun _ => hkp⟩⟩
              simpa [hd9] using hst
          case fin =>
            intro vs done w8 hdone hS hV
            obtain ⟨v2, hm9, hv9⟩ : ∃ v2, Cl w8 b6 #[uk, v2] 25 ∧ RowsN wA.heap.size w8 v2 (val ++ [nm]) := hV 12 (by decide)
            have HTD8 := show Hid (Td wA w8 b6 uk v2 m.up (val ++ [nm])) from ⟨hm9, HTD.out.up.keep hS.st, hv9, hS.kp HTD.out.kp (Nat.le_refl _)⟩
            clear hS hV hm9 hv9
            simp only [putAll, Act.put, List.setIfInBounds_toArray, List.set_cons_zero, List.set_cons_succ]
            clear HTD HVB HROWS HVL HB6
            have HNEW := show Hid (Td wA w8 b6 uk v2 m.up (m.val.take (k + 1))) from by
              have h := HTD8.out
              rw [← HST.out] at h
              exact h
            clear HTD8 HST HCQ HROW
            go_wp2_with fail
            go_roundw
            case rel => exact ⟨k + 1, by omega, val_int (by omega), _, _, HNEW.out⟩
            case measure => (simp only [intOf]; omega)
        · obtain rfl : k = m.val.length := by omega
          obtain ⟨xs0, hx0, -⟩ := id hTD.up
          obtain ⟨p1, n1, e1, rfl⟩ := own_form3 hx0
          obtain ⟨ys0, hy0, -⟩ := id hTD.val
          obtain ⟨p2, n2, e2, rfl⟩ := own_form3 hy0
          have HTD := show Hid (Td wA wr b6 (.slice p1 n1 e1) (.slice p2 n2 e2) m.up m.val) from by
            have h := hTD
            rw [List.take_length] at h
            exact h
          have HC2 := show Hid (Cl wr b2 #[.slice none 0 0, .slice none 0 0] 25 ∧ Below w.heap.size w wr) from ⟨(HB1.out wr hTD.kp).2.2.2, (HB1.out wr hTD.kp).1⟩
          clear hTD hx0 hy0 HI HUR HVR
          go_wp2_with (first | (refine wpList_ldw 25 _ rfl b6 rfl _ _ HTD.out.m rfl Tryz.underlying25 sizeM rfl ?_) | (refine wpList_st 25 rfl rfl _ _ rfl b2 rfl _ rfl _ _ HC2.out.1 sizeM rfl (by simp [Value.oneCell']) ?_))
          intro w5 hc5 hk5
          have H5 := show Hid (Cl w5 b2 #[.slice p1 n1 e1, .slice p2 n2 e2] 25 ∧ RowsZ w.heap.size w5 (.slice p1 n1 e1) m.up ∧ RowsN w.heap.size w5 (.slice p2 n2 e2) m.val ∧ Below w.heap.size w w5) from ⟨hc5, (HTD.out.up.keep (St.of_kp hk5 HB26.out.2.1)).base HWA.out, (HTD.out.val.keep (St.of_kp hk5 HB26.out.2.1)).base HWA.out, HC2.out.2.trans (hk5.below HC2.out.2.size fun k e => by have := HB26.out.2.2; omega)⟩
          clear hc5 hk5 HTD HC2
          go_wp2_with fail
          refine bodyPost_ret (results_cell_row rfl _ w5 b2 _ _ _ _ rfl H5.out.1 Tryz.underlying25 rfl sizeM) rfl ?_
          exact ⟨_, _, rfl, H5.out.2.1, H5.out.2.2.1, H5.out.2.2.2⟩
end Go.Proofs.YtjbnbaiidpdpoaaGreatDoor.Wm
