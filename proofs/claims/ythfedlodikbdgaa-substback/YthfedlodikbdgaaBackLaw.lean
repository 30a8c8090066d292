/-
  The law SubstBack, as the program walks it: true for every row, every number, every row of names and formulas that a machine can hold. No other condition.
-/
import Derived.Test.YthfedlodikbdgaaUHeads
import Derived.Test.YthfedlodikbdgaaLLike
import Derived.Test.YthfedlodikbdgaaUPW
import Derived.Test.YthfedlodikbdgaaRAtG
import Derived.Test.YthfedlodikbdgaaRMatG
namespace Go.Proofs.Ythfedlodikbdgaa
open Go.RowKit Go.Maps
open Fm (Nd)

theorem Ob.later {w wr w' : World} {ov : Value} {l : Sb.Hs} (h : Ob w ov l wr) (hb : Below wr.heap.size wr w') : Ob w ov l w' := ⟨own_keep h.1 fun j _ hlt => hb.block j hlt, h.2.trans (hb.mono h.2.size)⟩
theorem selfs_names (t : List Nd) (l : List Nat) : (selfs t l).map (·.1) = nms t l := by unfold selfs nms; rw [List.map_map]; rfl
theorem selfs_at {t : List Nd} (h : Fm.Ok t) {l : List Nat} (hl : ∀ i ∈ l, i < t.length) {x : Hp} (hx : x ∈ selfs t l) : numOf t (atomN x.1) = x.2 ∧ x.1.size ≤ 140737488351232 ∧ Fm.i64 x.2 := by
  unfold selfs at hx
  obtain ⟨i, hi, e⟩ := List.mem_map.1 hx
  obtain ⟨hi1, hi2⟩ := List.mem_filter.1 hi
  have hk : (Ms.row t i).k = 1 := of_decide_eq_true hi2
  have li := hl i hi1
  subst e
  have hr : atomN (Ms.row t i).s = Ms.row t i := by
    rcases Sb.row_kind h li with r | r | r
    · generalize Ms.row t i = n at *
      obtain ⟨nk, ns, nl, nr⟩ := n
      simp only at r
      obtain ⟨rfl, _, rfl, rfl, _⟩ := r
      rfl
    · rw [r.1] at hk; cases hk
    · exact absurd hk r.2.1
  refine ⟨?_, (Sb.good_row h i li).2.1, (Sb.has_i64 h (Fm.has_iff.2 ⟨by simp, by simpa using li⟩)).2.2⟩
  simp only
  rw [hr]
  unfold numOf
  rw [if_pos (Sb.mem_row li), Sb.idx_row h li]
/-- What of a row has a name that is not among some. -/
def others (l : Sb.Hs) (ns : List ByteArray) : Sb.Hs := l.filter fun x => !hasB ns x.1
theorem others_take {l : Sb.Hs} {ns : List ByteArray} {k : Nat} (hk : k < l.length) : others (l.take (k + 1)) ns = others (l.take k) ns ++ (if hasB ns l[k].1 then [] else [l[k]]) := by
  rw [List.take_succ_eq_append_getElem hk]
  unfold others
  rw [List.filter_append]
  cases hq : hasB ns l[k].1 <;> simp [hq]
theorem others_len (l : Sb.Hs) (ns : List ByteArray) : (others l ns).length ≤ l.length := List.length_filter_le _ _
/-- What is wanted of a name, by the first of a row. -/
def wnt (l : Sb.Hs) (s : ByteArray) (m : Nat) : Int := (Sb.look (l.take m) s).getD (-1)
theorem wnt_step {l : Sb.Hs} (hd : Sb.Dist l) {s : ByteArray} {m : Nat} (hm : m < l.length) : wnt l s (m + 1) = if l[m].1 = s then l[m].2 else wnt l s m := by
  unfold wnt
  rw [List.take_succ_eq_append_getElem hm, Sb.look_app]
  by_cases e : l[m].1 = s
  · rw [if_pos e]
    cases hq : Sb.look (l.take m) s with
    | none =>
      have : Sb.look [l[m]] s = some l[m].2 := by
        generalize l[m] = x at *
        obtain ⟨xs, xi⟩ := x
        rw [Sb.look_cons, if_pos e]
      simp only [this]
      rfl
    | some f =>
      exfalso
      refine dist_not hm ?_ hd
      rw [e, hq]
      rfl
  · rw [if_neg e]
    cases hq : Sb.look (l.take m) s with
    | none =>
      have : Sb.look [l[m]] s = none := by
        generalize l[m] = x at *
        obtain ⟨xs, xi⟩ := x
        rw [Sb.look_cons, if_neg e]
        rfl
      simp only [this]
    | some f => rfl
set_option maxRecDepth 100000 in
set_option maxHeartbeats 1200000 in
theorem substBack_any (w : World) (rv : Value) (rs : List Nd) (hR : IsR w rv rs) (hg : ∀ n ∈ rs, Fm.good n) (hl : rs.length * 40 ≤ 140737488351232) (hv : rv = .slice none 0 0 ∨ ∃ a n c, rv = .slice (some a) n c) (x : Int) (bv : Value) (bl : Sb.Hs) (hH : IsH w bv bl) (hG : GoodH bl) :
    Calls Try.prog 6 #[rv, .int .i64 x, bv] w fun e w' => e = .returned (.bool true) ∧ Below w.heap.size w w' := by
  have KB := show Hid (Calls Try.prog 9 #[rv] w fun e w' => IsBoth w w' e (Fm.fr [] rs)) from both_any w rv rs hR hg hl hv
  have KH := show Hid (∀ w1 : World, Below w.heap.size w w1 → Calls Try.prog 10 #[] w1 fun e w' => e = .returned (.bool true) ∧ Below w.heap.size w w') from fun w1 hb => (heads_any w1).mono fun e w' ⟨he, hb'⟩ => ⟨he, hb.trans (hb'.mono hb.size)⟩
  generalize Fm.fr [] rs = ans at *
  have hsl : ∃ p n cc, rv = .slice p n cc := by
    rcases hv with rfl | ⟨a, n, cc, rfl⟩
    · exact ⟨_, _, _, rfl⟩
    · exact ⟨_, _, _, rfl⟩
  obtain ⟨p, n, cc, rfl⟩ := hsl
  have HHH := show Hid (IsH w bv bl) from hH
  have HGG := show Hid (GoodH bl) from hG
  clear hR hg hl hv
  obtain ⟨i0, hi', hz0, hz1, hz2⟩ := info_parts info_hyp
  obtain ⟨pb, cb, hbe, hl24, -⟩ := hH
  subst hbe
  have HBC := show Hid (∀ w', Below w.heap.size w w' → ∀ k (hk : k < bl.length), ∃ b o, pb = some ⟨b, o, none⟩ ∧ w'.cell? ⟨b, o + k * 2, none⟩ = some (.string bl[k].1) ∧ w'.cell? ⟨b, o + k * 2 + 1, none⟩ = some (.int .i64 bl[k].2)) from fun w' hb k hk => by
    obtain ⟨p2, c2, h2, _, hc2⟩ := HHH.out.later hb
    obtain ⟨rfl, _, _⟩ := Value.slice.inj h2
    exact hc2 k hk
  clear hG
  go_enter Try.func6, Try.ntmps6
  go_wp2_with fail
  refine KB.out.mono ?_
  rintro e w1 (⟨h0, B, M, v, C, u, rfl, hP⟩ | ⟨h0, rfl, hb1⟩)
  · obtain ⟨a0, t⟩ := ans
    simp only at h0 hP
    clear KB
    have hok := hP.tb.ok
    have hlen := hok.len
    have HPP := show Hid (Pair w w1 B M v C u t t) from hP
    have KHS := show Hid (Calls Try.prog 24 #[.pointer (some ⟨C, 0, none⟩), .int .i64 x] w1 fun e w' => e = .returned (.bool (Fm.has t x)) ∧ w' = w1) from rhas_any w1 hP.tr x
    cases hh : Fm.has t x with
    | false =>
      rw [hh] at KHS
      have KHw := show Hid (Calls Try.prog 10 #[] w1 fun e w' => e = .returned (.bool true) ∧ Below w.heap.size w w') from KH.out w1 hP.bel
      clear hP HPP KH
      go_wp2_with fail
      refine KHS.out.mono ?_
      rintro e wx ⟨rfl, hwx⟩
      subst wx
      go_wp2_with fail
      refine KHw.out.mono ?_
      rintro e w6 ⟨rfl, hb6⟩
      have HB := show Hid (Below w.heap.size w w6) from hb6
      clear KHw hb6
      go_wp2_with fail
      go_ret
      exact ⟨rfl, HB.out⟩
    | true =>
    rw [hh] at KHS
    obtain ⟨hx0, hx1⟩ := Fm.has_iff.1 hh
    obtain ⟨id, rfl⟩ : ∃ j : Nat, x = j := ⟨x.toNat, by omega⟩
    have hid : id < t.length := by omega
    have hblt : ∀ i ∈ Fm.below t id, i < t.length := fun i hi => by have := Ms.below_lt t id i hi; omega
    have KA := show Hid (Calls Try.prog 25 #[.pointer (some ⟨C, 0, none⟩), .int .i64 (id : Int)] w1 fun e w' => ∃ pn cn, e = .returned (.slice pn (nms t (Fm.below t id)).length cn) ∧ (∀ k (hk : k < (nms t (Fm.below t id)).length), ∃ b o, pn = some ⟨b, o, none⟩ ∧ w'.cell? ⟨b, o + k, none⟩ = some (.string (nms t (Fm.below t id))[k])) ∧ Below w1.heap.size w1 w') from (ratoms_any w1 hP.tr id hid).mono fun e w' ⟨ov, he, ho, hb⟩ => by
      rcases ho with ⟨hl, ⟨e1, hn⟩ | ⟨g, cap, cur, e1, hg1, hh, h1, h2, h3, h4⟩⟩
      · refine ⟨none, 0, by rw [he, e1, hn], fun k hk => by omega, hb⟩
      · refine ⟨_, cap, by rw [he, e1], fun k hk => ⟨g, 0, rfl, ?_⟩, hb⟩
        rw [cell_of_row w' g _ cur _ _ hh, Nat.zero_add, ← Array.getElem?_toList]
        have hq : (cur.toList.take ((nms t (Fm.below t id)).length * 1))[k]? = ((nms t (Fm.below t id)).map Value.string)[k]? := by rw [h4]
        rw [List.getElem?_take, if_pos (by omega)] at hq
        rw [hq]
        simp [hk]
    have hnl : (nms t (Fm.below t id)).length ≤ 1024 := by
      have h1 := nms_len t (Fm.below t id)
      have h2 := belowR_len hok (id : Int)
      unfold belowR at h2
      rw [if_pos hh] at h2
      simp at h2
      omega
    have HSN := show Hid ((selfs t (Fm.below t id)).map (·.1) = nms t (Fm.below t id)) from selfs_names t _
    have HSA := show Hid (∀ y ∈ selfs t (Fm.below t id), numOf t (atomN y.1) = y.2 ∧ y.1.size ≤ 140737488351232 ∧ Fm.i64 y.2) from fun y hy => selfs_at hok hblt hy
    have HSP := show Hid (Sb.putR t (id : Int) (selfs t (Fm.below t id)) = ((id : Int), 0, t)) from self_put hok hid
    have HOP := show Hid (∀ l, (∀ x ∈ l, x.1 ∉ nms t (Fm.below t id)) → (Sb.putR t (id : Int) l).2.2 = t ∧ ((Sb.putR t (id : Int) l).2.1 = 0 → (Sb.putR t (id : Int) l).1 = (id : Int))) from fun l hl => other_put hok hid hl
    have HBM := show Hid ((Sb.putR t (id : Int) bl).2.1 = 0 → Sb.Dist bl ∧ (∀ x ∈ bl, 0 ≤ x.2) ∧ Fm.Ok (Sb.putR t (id : Int) bl).2.2 ∧ ∃ hs : Sb.Hs, matchR (Sb.putR t (id : Int) bl).2.2 (id : Int) (Sb.putR t (id : Int) bl).1 = (hs, true, 0) ∧ hs.length = (nms t (Fm.below t id)).length ∧
      ∀ x ∈ hs, ∃ i, i < (Sb.putR t (id : Int) bl).2.2.length ∧ (Ms.row (Sb.putR t (id : Int) bl).2.2 i).k = 1 ∧ (Ms.row (Sb.putR t (id : Int) bl).2.2 i).s = x.1 ∧ x.2 = (Sb.look bl x.1).getD (i : Int)) from fun h => back_match hok hid h
    clear hP hblt hh
    generalize hsf : selfs t (Fm.below t id) = sf at *
    generalize nms t (Fm.below t id) = ns at *
    clear hsf
    have hsl : sf.length = ns.length := by rw [← HSN.out, List.length_map]
    go_wp2_with fail
    refine KHS.out.mono ?_
    rintro e wx ⟨rfl, hwx⟩
    subst wx
    clear KHS
    go_wp2_with fail
    refine KA.out.mono ?_
    rintro e w2 ⟨pn, cn, rfl, hnc, hb2⟩
    have HNC := show Hid (∀ w', Below w2.heap.size w2 w' → ∀ k (hk : k < ns.length), ∃ b o, pn = some ⟨b, o, none⟩ ∧ w'.cell? ⟨b, o + k, none⟩ = some (.string ns[k])) from fun w' hb k hk => by
      obtain ⟨b, o, hp, hc⟩ := hnc k hk
      exact ⟨b, o, hp, (hb.cell (p := ⟨b, _, none⟩) (World.block_lt_of_cell? w2 _ hc)).trans hc⟩
    have HP2 := show Hid (∀ w', Below w2.heap.size w2 w' → Pair w w' B M v C u t t) from fun w' hb => (HPP.out.later hb2).later hb
    have HFT := show Hid (∀ k, Ft B M v k ∨ Fr C u k → k < w2.heap.size) from fun k hk => by
      have h1 := hb2.size
      rcases hk with h | h
      · have := HPP.out.tb.foot k h; omega
      · have := HPP.out.tr.foot k h; omega
    have HNB := show Hid (∀ k (hk : k < ns.length), ns[k] = (sf[k]'(by omega)).1) from fun k hk => by
      have h := congrArg (fun l : List ByteArray => l[k]?) HSN.out
      simp only [List.getElem?_map] at h
      rw [List.getElem?_eq_getElem (by omega), List.getElem?_eq_getElem hk] at h
      simpa using h.symm
    clear KA hnc hb2 HPP
    go_wp2_with fail
    go_loopw [11, 13] (fun sv i wr => ∃ k : Nat, k ≤ ns.length ∧ i = .int .i64 (k : Int) ∧ Hid (Ob w2 sv (sf.take k) wr)) (fun _ i _ => ns.length - (intOf i).toNat)
    case atStart => exact ⟨0, by omega, rfl, World.ownsRow_nil _ _ _ _, Below.refl _ _⟩
    case round =>
      obtain ⟨k, hk, rfl, HI⟩ := hrel
      by_cases hlt : k < ns.length
      · obtain ⟨gb, go, rfl, hc⟩ := HNC.out wr HI.out.2 k hlt
        have hki : (k : Int) < (ns.length : Int) := by omega
        have hks : k < sf.length := by omega
        have HAT := show Hid _ from HSA.out sf[k] (List.getElem_mem hks)
        have hnb := HNB.out k hlt
        rw [hnb] at hc
        have HTK := show Hid (sf.take (k + 1) = sf.take k ++ [sf[k]]) from List.take_succ_eq_append_getElem hks
        have hol : (sf.take k).length ≤ 1024 := by rw [List.length_take]; omega
        have HOB := show Hid (Ob w2 u11 (sf.take k) wr) from HI.out
        have KF := show Hid (Calls Try.prog 26 #[.pointer (some ⟨C, 0, none⟩), .agg #[.int .i64 1, .string sf[k].1, .int .i64 0, .int .i64 0]] wr fun e w' => ∃ q, e = .returned (.tuple #[.int .i64 sf[k].2, .bool q]) ∧ w'.cell? ⟨gb, go + k, none⟩ = some (.string sf[k].1) ∧ Ob w2 u11 (sf.take k) w') from (rfind_any wr (HP2.out wr HI.out.2).tr (atomN sf[k].1) (good_atom HAT.out.2.1)).mono fun e w' ⟨he, hb⟩ => ⟨_, by rw [he, HAT.out.1], (hb.cell (p := ⟨gb, _, none⟩) (World.block_lt_of_cell? wr _ hc)).trans hc, HI.out.later hb⟩
        clear HI HNC HSN HSA HSP HOP HBM HP2 HFT HNB HOB hnb
        generalize sf[k] = y at *
        obtain ⟨ys, yi⟩ := y
        simp only at hc KF HTK
        go_wp2_with fail
        refine KF.out.mono ?_
        rintro e w3 ⟨q, rfl, hc3, hob⟩
        have HOB := show Hid (Ob w2 u11 (sf.take k) w3) from hob
        clear KF hob hc
        obtain ⟨xsw4, hxs⟩ : ∃ xs, xs = cellsH (sf.take k) := ⟨_, rfl⟩
        obtain ⟨nw4, hn⟩ : ∃ n, n = ((sf.take k)).length := ⟨_, rfl⟩
        have hn1 : nw4 * 24 ≤ 24576 := by rw [hn]; omega
        have HOW := show Hid (w3.ownsRow w2.heap.size 39 2 u11 nw4 xsw4) from by rw [hxs, hn]; exact HOB.out.1
        have HXN := show Hid (xsw4 = cellsH (sf.take k) ∧ nw4 = ((sf.take k)).length) from ⟨hxs, hn⟩
        have hwsw4 : w2.heap.size ≤ w3.heap.size := HOB.out.2.size
        clear hxs hn
        go_wp2_with (at_builtin; refine wpList_append_own_at _ rfl (.tmp 65) (.tmp 72) 23 rfl w2.heap.size 39 i0 _ 2 24 Try.underlying23 hi' hz0 hz1 hz2 rfl (by decide) u11 nw4 xsw4 rfl (HOW.out.alloc _) ⟨w3.heap.size, 0, none⟩ 1 1 [.string ys, .int .i64 yi] rfl rfl (cell_two _ _ _) (by simp [Value.oneCell']) (by unfold maxLen; omega) (by omega) (by simp; omega) ?_)
        intro v4 w4 hown hgr hnil hat
        have HOB2 := show Hid (Ob w2 v4 ((sf.take k) ++ [(ys, yi)]) w4) from by
          refine ⟨?_, (HOB.out.2.alloc HOB.out.2.size _).grown hgr (HOB.out.2.alloc HOB.out.2.size _).size (fun j e => ?_)⟩
          · rw [cellsH_snoc, List.length_append, List.length_singleton, ← HXN.out.1, ← HXN.out.2]
            exact hown
          · exact (own_ge HOW.out j e).1
        clear HOB
        have HOB := HOB2
        clear HOB2 hown hgr hnil hat HOW HXN
        go_wp2_with fail
        go_roundw
        case rel => exact ⟨k + 1, by omega, by go_num, by rw [HTK.out]; exact HOB.out⟩
        case measure => first | (simp [intOf]; done) | (simp [intOf]; omega)
      · have hke : k = ns.length := by omega
        subst hke
        have HOB := show Hid (Ob w2 u11 sf wr) from by
          have h := HI.out
          rw [← hsl, List.take_length] at h
          exact h
        have HSI := show Hid (IsH wr u11 sf ∧ GoodH sf) from ⟨isH_own HOB.out.1 (by omega), fun y hy => (HSA.out y hy).2⟩
        have HSB := show Hid (∀ j, u11.ownBlock = some j → w2.heap.size ≤ j) from fun j hj => (own_ge HOB.out.1 j hj).1
        have HBW := show Hid (Below w2.heap.size w2 wr) from HOB.out.2
        obtain ⟨ps, cs, hse, -⟩ := HSI.out.1
        subst hse
        clear HI HOB HSA HNB HSN hsl
        generalize wr = w3 at *
        go_wp2_with fail
        go_loopw [12, 16] (fun sv i wr => ∃ k : Nat, k ≤ bl.length ∧ i = .int .i64 (k : Int) ∧ Hid (Ob w3 sv (others (bl.take k) ns) wr)) (fun _ i _ => bl.length - (intOf i).toNat)
        case atStart => exact ⟨0, by omega, rfl, World.ownsRow_nil _ _ _ _, Below.refl _ _⟩
        case round =>
          obtain ⟨k, hk, rfl, HI⟩ := hrel
          have hwb : Below w2.heap.size w2 wr := HBW.out.trans (HI.out.2.mono HBW.out.size)
          by_cases hlt : k < bl.length
          · obtain ⟨gb, go, rfl, hc0, hc1⟩ := HBC.out wr (HP2.out wr hwb).bel k hlt
            have hki : (k : Int) < (bl.length : Int) := by omega
            have KHS := show Hid (Calls Try.prog 27 #[.slice pn ns.length cn, .string bl[k].1] wr fun e w' => e = .returned (.bool (hasB ns bl[k].1)) ∧ w' = wr) from lhas_any wr pn cn ns (HNC.out wr hwb) hnl bl[k].1
            have HTK := show Hid _ from others_take (ns := ns) hlt
            have hol : (others (bl.take k) ns).length ≤ bl.length := Nat.le_trans (others_len _ _) (by rw [List.length_take]; omega)
            have HOB := show Hid (Ob w3 u12 (others (bl.take k) ns) wr) from HI.out
            clear HI HNC HSP HOP HBM HP2 HFT HBC HSI HSB hwb
            generalize bl[k] = y at *
            obtain ⟨ys, yi⟩ := y
            simp only at hc0 hc1 KHS HTK
            cases hq : hasB ns ys with
            | true =>
              rw [hq] at KHS
              have htk := HTK.out
              rw [hq, if_pos rfl, List.append_nil] at htk
              have HTK2 := show Hid _ from htk
              clear HTK htk
              go_wp2_with fail
              refine KHS.out.mono ?_
              rintro e wx ⟨rfl, hwx⟩
              subst wx
              clear KHS
              go_wp2_with fail
              go_roundw
              case rel => exact ⟨k + 1, by omega, by go_num, by rw [HTK2.out]; exact HOB.out⟩
              case measure => first | (simp [intOf]; done) | (simp [intOf]; omega)
            | false =>
              rw [hq] at KHS
              have htk := HTK.out
              rw [hq, if_neg (by simp)] at htk
              have HTK2 := show Hid _ from htk
              clear HTK htk
              go_wp2_with fail
              refine KHS.out.mono ?_
              rintro e wx ⟨rfl, hwx⟩
              subst wx
              clear KHS
              obtain ⟨xsw4, hxs⟩ : ∃ xs, xs = cellsH (others (bl.take k) ns) := ⟨_, rfl⟩
              obtain ⟨nw4, hn⟩ : ∃ n, n = ((others (bl.take k) ns)).length := ⟨_, rfl⟩
              have hn1 : nw4 * 24 ≤ 140737488351232 := by rw [hn]; omega
              have HOW := show Hid (wr.ownsRow w3.heap.size 39 2 u12 nw4 xsw4) from by rw [hxs, hn]; exact HOB.out.1
              have HXN := show Hid (xsw4 = cellsH (others (bl.take k) ns) ∧ nw4 = ((others (bl.take k) ns)).length) from ⟨hxs, hn⟩
              have hwsw4 : w3.heap.size ≤ wr.heap.size := HOB.out.2.size
              clear hxs hn
              go_wp2_with (at_builtin; refine wpList_append_own_at _ rfl (.tmp 88) (.tmp 93) 23 rfl w3.heap.size 39 i0 _ 2 24 Try.underlying23 hi' hz0 hz1 hz2 rfl (by decide) u12 nw4 xsw4 rfl (HOW.out.alloc _) ⟨wr.heap.size, 0, none⟩ 1 1 [.string ys, .int .i64 yi] rfl rfl (cell_two _ _ _) (by simp [Value.oneCell']) (by unfold maxLen; omega) (by omega) (by simp; omega) ?_)
              intro v4 w4 hown hgr hnil hat
              have HOB2 := show Hid (Ob w3 v4 ((others (bl.take k) ns) ++ [(ys, yi)]) w4) from by
                refine ⟨?_, (HOB.out.2.alloc HOB.out.2.size _).grown hgr (HOB.out.2.alloc HOB.out.2.size _).size (fun j e => ?_)⟩
                · rw [cellsH_snoc, List.length_append, List.length_singleton, ← HXN.out.1, ← HXN.out.2]
                  exact hown
                · exact (own_ge HOW.out j e).1
              clear HOB
              have HOB := HOB2
              clear HOB2 hown hgr hnil hat HOW HXN
              go_wp2_with fail
              go_roundw
              case rel => exact ⟨k + 1, by omega, by go_num, by rw [HTK2.out]; exact HOB.out⟩
              case measure => first | (simp [intOf]; done) | (simp [intOf]; omega)
          · have hke : k = bl.length := by omega
            subst hke
            have hol : (others bl ns).length ≤ bl.length := others_len _ _
            have HOB := show Hid (Ob w3 u12 (others bl ns) wr) from by
              have h := HI.out
              rw [List.take_length] at h
              exact h
            have hoi : IsH wr u12 (others bl ns) := isH_own HOB.out.1 (by omega)
            have HOG := show Hid (GoodH (others bl ns)) from fun y hy => HGG.out y (List.mem_filter.1 hy).1
            have HOQ := show Hid _ from HOP.out (others bl ns) (fun y hy => by
              unfold others at hy
              have h2 := (List.mem_filter.1 hy).2
              intro hm
              rw [hasB_iff.2 hm] at h2
              cases h2)
            have HPO := show Hid (PO w wr B M v C u t t u12 (others bl ns)) from ⟨HP2.out wr hwb, hoi, fun hne k hk => by
              have h1 := (own_ge HOB.out.1 k hk).1
              have h2 := HBW.out.size
              exact ⟨fun hf => by have := HFT.out k (Or.inl hf); omega, fun hf => by have := HFT.out k (Or.inr hf); omega⟩⟩
            obtain ⟨po, co, hoe, -⟩ := hoi
            subst hoe
            have HS2 := show Hid (IsH wr (.slice ps sf.length cs) sf) from HSI.out.1.later HOB.out.2
            have HG2 := show Hid (GoodH sf) from HSI.out.2
            clear HI HOB HSI HSB HBW HP2 HFT HNC HOP
            generalize others bl ns = ol at *
            generalize wr = w4 at *
            have K1 := show Hid (Calls Try.prog 11 #[.pointer (some ⟨B, 0, none⟩), .int .i64 (id : Int), .slice ps sf.length cs] w4 fun e w' => e = .returned (.tuple #[.int .i64 (id : Int), .int .i64 0]) ∧ ∃ v', PO w w' B M v' C u t t (.slice po ol.length co) ol) from (by
              have h := Put_any w4 HPO.out.pr.tb (id : Int) _ sf HS2.out HG2.out
              rw [HSP.out] at h
              exact h.mono fun e w' ⟨he, hA⟩ => ⟨he, HPO.out.stepT hA⟩)
            clear HPO HS2 HG2 HSP
            go_wp2_with fail
            refine K1.out.mono ?_
            rintro e w5 ⟨rfl, v5, hP5⟩
            have K2 := show Hid (Calls Try.prog 11 #[.pointer (some ⟨B, 0, none⟩), .int .i64 (id : Int), .slice po ol.length co] w5 fun e w' => e = .returned (.tuple #[.int .i64 (Sb.putR t (id : Int) ol).1, .int .i64 (Sb.putR t (id : Int) ol).2.1]) ∧ ∃ v', Pair w w' B M v' C u t t) from (by
              have h := Put_any w5 hP5.pr.tb (id : Int) _ ol hP5.is HOG.out
              rw [HOQ.out.1] at h
              exact h.mono fun e w' ⟨he, hA⟩ => ⟨he, hP5.pr.stepT hA⟩)
            have HOZ := show Hid ((Sb.putR t (id : Int) ol).2.1 = 0 → (Sb.putR t (id : Int) ol).1 = (id : Int)) from HOQ.out.2
            clear K1 hP5 HOQ HOG
            generalize Sb.putR t (id : Int) ol = ro at *
            obtain ⟨oa, oe, ot⟩ := ro
            simp only at K2 HOZ
            go_wp2_with fail
            refine K2.out.mono ?_
            rintro e w6 ⟨rfl, v6, hP6⟩
            have K3 := show Hid (Calls Try.prog 11 #[.pointer (some ⟨B, 0, none⟩), .int .i64 (id : Int), .slice pb bl.length cb] w6 fun e w' => e = .returned (.tuple #[.int .i64 (Sb.putR t (id : Int) bl).1, .int .i64 (Sb.putR t (id : Int) bl).2.1]) ∧ ∃ v', Pair w w' B M v' C u (Sb.putR t (id : Int) bl).2.2 t) from (Put_any w6 hP6.tb (id : Int) _ bl (HHH.out.later hP6.bel) HGG.out).mono fun e w' ⟨he, hA⟩ => ⟨he, hP6.stepT hA⟩
            clear K2 hP6
            generalize Sb.putR t (id : Int) bl = rb at *
            obtain ⟨ca, ce, t1⟩ := rb
            simp only at K3 HBM
            have ho3 : ∃ q, (oe = 0 → oa = (id : Int)) ∧ q = true := ⟨true, HOZ.out, rfl⟩
            clear HOZ
            obtain ⟨_, ho3, _⟩ := ho3
            by_cases hoe : oe = 0
            · have hoa := ho3 hoe
              subst hoe
              subst oa
              clear ho3
              go_wp2_with fail
              refine K3.out.mono ?_
              rintro e w7 ⟨rfl, v7, hP7⟩
              have HP7 := show Hid (Pair w w7 B M v7 C u t1 t) from hP7
              clear K3 hP7
              by_cases hce : ce = 0
              · subst hce
                obtain ⟨hdi, hnn, hok1, hs, hmr, hhl, hha⟩ := HBM.out rfl
                have KM := show Hid (Calls Try.prog 19 #[.pointer (some ⟨B, 0, none⟩), .int .i64 (id : Int), .int .i64 ca] w7 fun e w' => ∃ pl cl, e = .returned (.tuple #[.slice pl ns.length cl, .bool true, .int .i64 0]) ∧ IsH w' (.slice pl ns.length cl) hs ∧ Pair w w' B M v7 C u t1 t) from (by
                  have h := Match_any w7 HP7.out.tb (id : Int) ca
                  rw [hmr] at h
                  refine h.mono fun e w' ⟨sv, he, hI, _, hb⟩ => ?_
                  obtain ⟨pl, cl, rfl, h1, h2⟩ := hI
                  rw [show (hs, true, (0 : Int)).1 = hs from rfl, hhl] at he
                  exact ⟨pl, cl, he, ⟨pl, cl, by rw [← hhl], h1, h2⟩, HP7.out.later hb⟩)
                have HDI := show Hid (Sb.Dist bl ∧ ∀ x ∈ bl, 0 ≤ x.2) from ⟨hdi, hnn⟩
                have HHA := show Hid (∀ x ∈ hs, ∃ i, i < t1.length ∧ (Ms.row t1 i).k = 1 ∧ (Ms.row t1 i).s = x.1 ∧ x.2 = (Sb.look bl x.1).getD (i : Int)) from hha
                have HHL := show Hid (hs.length = ns.length) from hhl
                clear HP7 HBM hdi hnn hmr hha hhl hok1
                go_wp2_with fail
                refine KM.out.mono ?_
                rintro e w8 ⟨pl, cl, rfl, hI8, hP8⟩
                have HP8 := show Hid (∀ w', Below w8.heap.size w8 w' → Pair w w' B M v7 C u t1 t) from fun w' hb => hP8.later hb
                have HLC := show Hid (∀ w', Below w8.heap.size w8 w' → ∀ k (hk : k < hs.length), ∃ b o, pl = some ⟨b, o, none⟩ ∧ w'.cell? ⟨b, o + k * 2, none⟩ = some (.string hs[k].1) ∧ w'.cell? ⟨b, o + k * 2 + 1, none⟩ = some (.int .i64 hs[k].2)) from fun w' hb k hk => by
                  obtain ⟨p2, c2, h2, _, hc2⟩ := hI8.later hb
                  obtain ⟨rfl, _, _⟩ := Value.slice.inj h2
                  exact hc2 k hk
                clear KM hI8 hP8
                go_wp2_with fail
                go_loopw [26] (fun i wr => ∃ k : Nat, k ≤ ns.length ∧ i = .int .i64 (k : Int) ∧ Hid (Below w8.heap.size w8 wr)) (fun i _ => ns.length - (intOf i).toNat)
                case atStart => exact ⟨0, by omega, rfl, Below.refl _ _⟩
                case round =>
                  obtain ⟨k, hk, rfl, HB⟩ := hrel
                  by_cases hlt : k < ns.length
                  · have hki : (k : Int) < (ns.length : Int) := by omega
                    have hks : k < hs.length := by rw [HHL.out]; exact hlt
                    obtain ⟨i, hi1, hi2, hi3, hi4⟩ := HHA.out hs[k] (List.getElem_mem hks)
                    have HLK := show Hid (∀ w', Below w8.heap.size w8 w' → ∃ b o, pl = some ⟨b, o, none⟩ ∧ w'.cell? ⟨b, o + k * 2, none⟩ = some (.string hs[k].1) ∧ w'.cell? ⟨b, o + k * 2 + 1, none⟩ = some (.int .i64 hs[k].2)) from fun w' hb => HLC.out w' hb k hks
                    clear HLC HHA
                    generalize hs[k] = y at *
                    obtain ⟨ys, yi⟩ := y
                    simp only at hi3 hi4 HLK
                    have HI4 := show Hid ((Ms.row t1 i).k = 1 ∧ (Ms.row t1 i).s = ys ∧ yi = (Sb.look bl ys).getD (i : Int)) from ⟨hi2, hi3, hi4⟩
                    clear hi2 hi3 hi4
                    go_wp2_with fail
                    go_loopw [27, 28] (fun wv i wr => ∃ m : Nat, m ≤ bl.length ∧ i = .int .i64 (m : Int) ∧ wv = .int .i64 (wnt bl ys m) ∧ Hid (Below w8.heap.size w8 wr)) (fun _ i _ => bl.length - (intOf i).toNat)
                    case atStart => exact ⟨0, by omega, rfl, rfl, HB.out⟩
                    case round =>
                      obtain ⟨m, hm, rfl, rfl, HB2⟩ := hrel
                      have HWL := show Hid (Below w.heap.size w wr) from (HP8.out wr HB2.out).bel
                      obtain ⟨gl, ol2, hpl, f0, f1⟩ := HLK.out wr HB2.out
                      by_cases hlt2 : m < bl.length
                      · have hmi : (m : Int) < (bl.length : Int) := by omega
                        obtain ⟨gb, go, hpb, c0, c1⟩ := HBC.out wr HWL.out m hlt2
                        have HWS := show Hid _ from wnt_step HDI.out.1 (s := ys) hlt2
                        have hbq := bytes_eq bl[m].1 ys
                        have HB3 := show Hid (∀ n, Below w8.heap.size w8 (wr.drewN n)) from fun n => below_drewN HB2.out n
                        clear HB HB2 HWL HBC HHH HGG HP8 HLK HDI KH
                        subst hpl
                        subst hpb
                        generalize bl[m] = z at *
                        obtain ⟨zs, zi⟩ := z
                        simp only at c0 c1 HWS hbq
                        by_cases e : zs = ys
                        · rw [decide_eq_true e] at hbq
                          have hw2 := HWS.out
                          rw [if_pos e] at hw2
                          have HW2 := show Hid _ from hw2
                          clear HWS e hw2
                          go_wp2_with fail
                          go_quiet (fail)
                          go_wp2_with fail
                          go_roundw
                          case rel => exact ⟨m + 1, by omega, by go_num, by rw [HW2.out], HB3.out _⟩
                          case measure => first | (simp [intOf]; done) | (simp [intOf]; omega)
                        · rw [decide_eq_false e] at hbq
                          have hw2 := HWS.out
                          rw [if_neg e] at hw2
                          have HW2 := show Hid _ from hw2
                          clear HWS e hw2
                          go_wp2_with fail
                          go_quiet (fail)
                          go_wp2_with fail
                          go_roundw
                          case rel => exact ⟨m + 1, by omega, by go_num, by rw [HW2.out], HB3.out _⟩
                          case measure => first | (simp [intOf]; done) | (simp [intOf]; omega)
                      · have hme : m = bl.length := by omega
                        subst hme
                        have KN := show Hid (Calls Try.prog 28 #[.pointer (some ⟨B, 0, none⟩), .int .i64 yi] wr fun e w' => e = .returned (.tuple #[.agg #[.int .i64 (nodeOf t1 yi).k, .string (nodeOf t1 yi).s, .int .i64 (nodeOf t1 yi).l, .int .i64 (nodeOf t1 yi).r], .bool (Fm.has t1 yi)]) ∧ Below w8.heap.size w8 w' ∧ w'.cell? ⟨gl, ol2 + k * 2, none⟩ = some (.string ys) ∧ w'.cell? ⟨gl, ol2 + k * 2 + 1, none⟩ = some (.int .i64 yi)) from (node_any wr (HP8.out wr HB2.out).tb yi).mono fun e w' ⟨he, hb⟩ => ⟨he, HB2.out.trans (hb.mono HB2.out.size), (hb.cell (p := ⟨gl, _, none⟩) (World.block_lt_of_cell? wr _ f0)).trans f0, (hb.cell (p := ⟨gl, _, none⟩) (World.block_lt_of_cell? wr _ f1)).trans f1⟩
                        subst hpl
                        have hwe : wnt bl ys bl.length = (Sb.look bl ys).getD (-1) := by unfold wnt; rw [List.take_length]
                        rw [hwe]
                        have HND := show Hid (yi = (i : Int) → nodeOf t1 yi = Ms.row t1 i ∧ Fm.has t1 yi = true) from fun e => by rw [e]; exact nodeOf_in hi1
                        have HNG := show Hid (∀ f, Sb.look bl ys = some f → 0 ≤ f) from fun f hf => HDI.out.2 _ (Sb.look_mem hf)
                        generalize nodeOf t1 yi = nd at *
                        generalize Fm.has t1 yi = hb at *
                        generalize Ms.row t1 i = rw1 at *
                        clear HB HB2 HWL HBC HHH HGG HP8 HLK HDI KH hwe
                        go_wp2_with fail
                        refine KN.out.mono ?_
                        rintro e w9 ⟨rfl, hb9, g0, g1⟩
                        clear KN f0 f1
                        obtain ⟨nk, nn, nl, nr⟩ := nd
                        have hgl : gl < w9.heap.size := World.block_lt_of_cell? w9 _ g0
                        have hglne : gl ≠ w9.heap.size := by omega
                        have HB9 := show Hid (Below w8.heap.size w8 (w9.alloc (Obj.cells #[.int .i64 nk, .string nn, .int .i64 nl, .int .i64 nr] 59))) from hb9.alloc hb9.size _
                        have k0 : (w9.alloc (Obj.cells #[.int .i64 nk, .string nn, .int .i64 nl, .int .i64 nr] 59)).cell? ⟨gl, ol2 + k * 2, none⟩ = some (.string ys) := ((below_alloc w9 _).cell (p := ⟨gl, _, none⟩) hgl).trans g0
                        have k1 : (w9.alloc (Obj.cells #[.int .i64 nk, .string nn, .int .i64 nl, .int .i64 nr] 59)).cell? ⟨gl, ol2 + k * 2 + 1, none⟩ = some (.int .i64 yi) := ((below_alloc w9 _).cell (p := ⟨gl, _, none⟩) hgl).trans g1
                        have hN := heap_alloc_new w9 (Obj.cells #[.int .i64 nk, .string nn, .int .i64 nl, .int .i64 nr] 59)
                        have m0 : (w9.alloc (Obj.cells #[.int .i64 nk, .string nn, .int .i64 nl, .int .i64 nr] 59)).cell? ⟨w9.heap.size, 0, none⟩ = some (.int .i64 nk) := by rw [cell_of_row _ _ 0 _ _ _ hN]; rfl
                        have m1 : (w9.alloc (Obj.cells #[.int .i64 nk, .string nn, .int .i64 nl, .int .i64 nr] 59)).cell? ⟨w9.heap.size, 1, none⟩ = some (.string nn) := by rw [cell_of_row _ _ 1 _ _ _ hN]; rfl
                        obtain ⟨hi2, hi3, hi4⟩ := HI4.out
                        clear HI4
                        cases hlk : Sb.look bl ys with
                        | some f =>
                          rw [hlk] at hi4
                          have hyf : yi = f := hi4
                          have hf0 := HNG.out f hlk
                          subst hyf
                          have hfn : decide (yi < 0) = false := decide_eq_false (by omega)
                          have hfp : decide (0 ≤ yi) = true := decide_eq_true hf0
                          clear HND HNG hlk hi2 hi3 hi4 hN hb9 g0 g1
                          simp only [Option.getD_some]
                          go_wp2_with fail
                          generalize w9.alloc (Obj.cells #[.int .i64 nk, .string nn, .int .i64 nl, .int .i64 nr] 59) = wa at *
                          go_region
                          go_wp2_with fail
                          go_roundw
                          case rel => exact ⟨k + 1, by omega, by go_num, HB9.out.drew⟩
                          case measure => first | (simp [intOf]; done) | (simp [intOf]; omega)
                        | none =>
                          rw [hlk] at hi4
                          have hyf : yi = (i : Int) := hi4
                          obtain ⟨hn1, hn2⟩ := HND.out hyf
                          subst hn2
                          rw [← hn1] at hi2 hi3
                          simp only at hi2 hi3
                          subst hi2
                          subst hi3
                          have hbq := bytes_eq nn nn
                          clear HND HNG hlk hn1 hN hb9 g0 g1 hi4 hyf
                          simp only [Option.getD_none]
                          go_wp2_with fail
                          generalize w9.alloc (Obj.cells #[.int .i64 1, .string nn, .int .i64 nl, .int .i64 nr] 59) = wa at *
                          go_region
                          go_wp2_with fail
                          go_roundw
                          case rel => exact ⟨k + 1, by omega, by go_num, HB9.out.drew⟩
                          case measure => first | (simp [intOf]; done) | (simp [intOf]; omega)
                  · have KHw := show Hid (Calls Try.prog 10 #[] wr fun e w' => e = .returned (.bool true) ∧ Below w.heap.size w w') from KH.out wr (HP8.out wr HB.out).bel
                    clear HB HBC HHH HGG HP8 HLC HDI KH HHA
                    go_wp2_with fail
                    refine KHw.out.mono ?_
                    rintro e w9 ⟨rfl, hb9⟩
                    have HBx := show Hid (Below w.heap.size w w9) from hb9
                    clear KHw hb9
                    go_wp2_with fail
                    go_ret
                    exact ⟨rfl, HBx.out⟩
              · have hcn : (ce != 0) = true := by simpa using hce
                have KHw := show Hid (Calls Try.prog 10 #[] w7 fun e w' => e = .returned (.bool true) ∧ Below w.heap.size w w') from KH.out w7 HP7.out.bel
                clear HP7 HBM HBC HHH HGG KH
                go_wp2_with fail
                refine KHw.out.mono ?_
                rintro e w9 ⟨rfl, hb9⟩
                have HBx := show Hid (Below w.heap.size w w9) from hb9
                clear KHw hb9
                go_wp2_with fail
                go_ret
                exact ⟨rfl, HBx.out⟩
            · have hon : (oe == 0) = false := by simpa using hoe
              clear ho3
              go_wp2_with fail
              refine K3.out.mono ?_
              rintro e w7 ⟨rfl, v7, hP7⟩
              have HP7 := show Hid (Pair w w7 B M v7 C u t1 t) from hP7
              clear K3 hP7
              by_cases hce : ce = 0
              · subst hce
                obtain ⟨hdi, hnn, hok1, hs, hmr, hhl, hha⟩ := HBM.out rfl
                have KM := show Hid (Calls Try.prog 19 #[.pointer (some ⟨B, 0, none⟩), .int .i64 (id : Int), .int .i64 ca] w7 fun e w' => ∃ pl cl, e = .returned (.tuple #[.slice pl ns.length cl, .bool true, .int .i64 0]) ∧ IsH w' (.slice pl ns.length cl) hs ∧ Pair w w' B M v7 C u t1 t) from (by
                  have h := Match_any w7 HP7.out.tb (id : Int) ca
                  rw [hmr] at h
                  refine h.mono fun e w' ⟨sv, he, hI, _, hb⟩ => ?_
                  obtain ⟨pl, cl, rfl, h1, h2⟩ := hI
                  rw [show (hs, true, (0 : Int)).1 = hs from rfl, hhl] at he
                  exact ⟨pl, cl, he, ⟨pl, cl, by rw [← hhl], h1, h2⟩, HP7.out.later hb⟩)
                have HDI := show Hid (Sb.Dist bl ∧ ∀ x ∈ bl, 0 ≤ x.2) from ⟨hdi, hnn⟩
                have HHA := show Hid (∀ x ∈ hs, ∃ i, i < t1.length ∧ (Ms.row t1 i).k = 1 ∧ (Ms.row t1 i).s = x.1 ∧ x.2 = (Sb.look bl x.1).getD (i : Int)) from hha
                have HHL := show Hid (hs.length = ns.length) from hhl
                clear HP7 HBM hdi hnn hmr hha hhl hok1
                go_wp2_with fail
                refine KM.out.mono ?_
                rintro e w8 ⟨pl, cl, rfl, hI8, hP8⟩
                have HP8 := show Hid (∀ w', Below w8.heap.size w8 w' → Pair w w' B M v7 C u t1 t) from fun w' hb => hP8.later hb
                have HLC := show Hid (∀ w', Below w8.heap.size w8 w' → ∀ k (hk : k < hs.length), ∃ b o, pl = some ⟨b, o, none⟩ ∧ w'.cell? ⟨b, o + k * 2, none⟩ = some (.string hs[k].1) ∧ w'.cell? ⟨b, o + k * 2 + 1, none⟩ = some (.int .i64 hs[k].2)) from fun w' hb k hk => by
                  obtain ⟨p2, c2, h2, _, hc2⟩ := hI8.later hb
                  obtain ⟨rfl, _, _⟩ := Value.slice.inj h2
                  exact hc2 k hk
                clear KM hI8 hP8
                go_wp2_with fail
                go_loopw [26] (fun i wr => ∃ k : Nat, k ≤ ns.length ∧ i = .int .i64 (k : Int) ∧ Hid (Below w8.heap.size w8 wr)) (fun i _ => ns.length - (intOf i).toNat)
                case atStart => exact ⟨0, by omega, rfl, Below.refl _ _⟩
                case round =>
                  obtain ⟨k, hk, rfl, HB⟩ := hrel
                  by_cases hlt : k < ns.length
                  · have hki : (k : Int) < (ns.length : Int) := by omega
                    have hks : k < hs.length := by rw [HHL.out]; exact hlt
                    obtain ⟨i, hi1, hi2, hi3, hi4⟩ := HHA.out hs[k] (List.getElem_mem hks)
                    have HLK := show Hid (∀ w', Below w8.heap.size w8 w' → ∃ b o, pl = some ⟨b, o, none⟩ ∧ w'.cell? ⟨b, o + k * 2, none⟩ = some (.string hs[k].1) ∧ w'.cell? ⟨b, o + k * 2 + 1, none⟩ = some (.int .i64 hs[k].2)) from fun w' hb => HLC.out w' hb k hks
                    clear HLC HHA
                    generalize hs[k] = y at *
                    obtain ⟨ys, yi⟩ := y
                    simp only at hi3 hi4 HLK
                    have HI4 := show Hid ((Ms.row t1 i).k = 1 ∧ (Ms.row t1 i).s = ys ∧ yi = (Sb.look bl ys).getD (i : Int)) from ⟨hi2, hi3, hi4⟩
                    clear hi2 hi3 hi4
                    go_wp2_with fail
                    go_loopw [27, 28] (fun wv i wr => ∃ m : Nat, m ≤ bl.length ∧ i = .int .i64 (m : Int) ∧ wv = .int .i64 (wnt bl ys m) ∧ Hid (Below w8.heap.size w8 wr)) (fun _ i _ => bl.length - (intOf i).toNat)
                    case atStart => exact ⟨0, by omega, rfl, rfl, HB.out⟩
                    case round =>
                      obtain ⟨m, hm, rfl, rfl, HB2⟩ := hrel
                      have HWL := show Hid (Below w.heap.size w wr) from (HP8.out wr HB2.out).bel
                      obtain ⟨gl, ol2, hpl, f0, f1⟩ := HLK.out wr HB2.out
                      by_cases hlt2 : m < bl.length
                      · have hmi : (m : Int) < (bl.length : Int) := by omega
                        obtain ⟨gb, go, hpb, c0, c1⟩ := HBC.out wr HWL.out m hlt2
                        have HWS := show Hid _ from wnt_step HDI.out.1 (s := ys) hlt2
                        have hbq := bytes_eq bl[m].1 ys
                        have HB3 := show Hid (∀ n, Below w8.heap.size w8 (wr.drewN n)) from fun n => below_drewN HB2.out n
                        clear HB HB2 HWL HBC HHH HGG HP8 HLK HDI KH
                        subst hpl
                        subst hpb
                        generalize bl[m] = z at *
                        obtain ⟨zs, zi⟩ := z
                        simp only at c0 c1 HWS hbq
                        by_cases e : zs = ys
                        · rw [decide_eq_true e] at hbq
                          have hw2 := HWS.out
                          rw [if_pos e] at hw2
                          have HW2 := show Hid _ from hw2
                          clear HWS e hw2
                          go_wp2_with fail
                          go_quiet (fail)
                          go_wp2_with fail
                          go_roundw
                          case rel => exact ⟨m + 1, by omega, by go_num, by rw [HW2.out], HB3.out _⟩
                          case measure => first | (simp [intOf]; done) | (simp [intOf]; omega)
                        · rw [decide_eq_false e] at hbq
                          have hw2 := HWS.out
                          rw [if_neg e] at hw2
                          have HW2 := show Hid _ from hw2
                          clear HWS e hw2
                          go_wp2_with fail
                          go_quiet (fail)
                          go_wp2_with fail
                          go_roundw
                          case rel => exact ⟨m + 1, by omega, by go_num, by rw [HW2.out], HB3.out _⟩
                          case measure => first | (simp [intOf]; done) | (simp [intOf]; omega)
                      · have hme : m = bl.length := by omega
                        subst hme
                        have KN := show Hid (Calls Try.prog 28 #[.pointer (some ⟨B, 0, none⟩), .int .i64 yi] wr fun e w' => e = .returned (.tuple #[.agg #[.int .i64 (nodeOf t1 yi).k, .string (nodeOf t1 yi).s, .int .i64 (nodeOf t1 yi).l, .int .i64 (nodeOf t1 yi).r], .bool (Fm.has t1 yi)]) ∧ Below w8.heap.size w8 w' ∧ w'.cell? ⟨gl, ol2 + k * 2, none⟩ = some (.string ys) ∧ w'.cell? ⟨gl, ol2 + k * 2 + 1, none⟩ = some (.int .i64 yi)) from (node_any wr (HP8.out wr HB2.out).tb yi).mono fun e w' ⟨he, hb⟩ => ⟨he, HB2.out.trans (hb.mono HB2.out.size), (hb.cell (p := ⟨gl, _, none⟩) (World.block_lt_of_cell? wr _ f0)).trans f0, (hb.cell (p := ⟨gl, _, none⟩) (World.block_lt_of_cell? wr _ f1)).trans f1⟩
                        subst hpl
                        have hwe : wnt bl ys bl.length = (Sb.look bl ys).getD (-1) := by unfold wnt; rw [List.take_length]
                        rw [hwe]
                        have HND := show Hid (yi = (i : Int) → nodeOf t1 yi = Ms.row t1 i ∧ Fm.has t1 yi = true) from fun e => by rw [e]; exact nodeOf_in hi1
                        have HNG := show Hid (∀ f, Sb.look bl ys = some f → 0 ≤ f) from fun f hf => HDI.out.2 _ (Sb.look_mem hf)
                        generalize nodeOf t1 yi = nd at *
                        generalize Fm.has t1 yi = hb at *
                        generalize Ms.row t1 i = rw1 at *
                        clear HB HB2 HWL HBC HHH HGG HP8 HLK HDI KH hwe
                        go_wp2_with fail
                        refine KN.out.mono ?_
                        rintro e w9 ⟨rfl, hb9, g0, g1⟩
                        clear KN f0 f1
                        obtain ⟨nk, nn, nl, nr⟩ := nd
                        have hgl : gl < w9.heap.size := World.block_lt_of_cell? w9 _ g0
                        have hglne : gl ≠ w9.heap.size := by omega
                        have HB9 := show Hid (Below w8.heap.size w8 (w9.alloc (Obj.cells #[.int .i64 nk, .string nn, .int .i64 nl, .int .i64 nr] 59))) from hb9.alloc hb9.size _
                        have k0 : (w9.alloc (Obj.cells #[.int .i64 nk, .string nn, .int .i64 nl, .int .i64 nr] 59)).cell? ⟨gl, ol2 + k * 2, none⟩ = some (.string ys) := ((below_alloc w9 _).cell (p := ⟨gl, _, none⟩) hgl).trans g0
                        have k1 : (w9.alloc (Obj.cells #[.int .i64 nk, .string nn, .int .i64 nl, .int .i64 nr] 59)).cell? ⟨gl, ol2 + k * 2 + 1, none⟩ = some (.int .i64 yi) := ((below_alloc w9 _).cell (p := ⟨gl, _, none⟩) hgl).trans g1
                        have hN := heap_alloc_new w9 (Obj.cells #[.int .i64 nk, .string nn, .int .i64 nl, .int .i64 nr] 59)
                        have m0 : (w9.alloc (Obj.cells #[.int .i64 nk, .string nn, .int .i64 nl, .int .i64 nr] 59)).cell? ⟨w9.heap.size, 0, none⟩ = some (.int .i64 nk) := by rw [cell_of_row _ _ 0 _ _ _ hN]; rfl
                        have m1 : (w9.alloc (Obj.cells #[.int .i64 nk, .string nn, .int .i64 nl, .int .i64 nr] 59)).cell? ⟨w9.heap.size, 1, none⟩ = some (.string nn) := by rw [cell_of_row _ _ 1 _ _ _ hN]; rfl
                        obtain ⟨hi2, hi3, hi4⟩ := HI4.out
                        clear HI4
                        cases hlk : Sb.look bl ys with
                        | some f =>
                          rw [hlk] at hi4
                          have hyf : yi = f := hi4
                          have hf0 := HNG.out f hlk
                          subst hyf
                          have hfn : decide (yi < 0) = false := decide_eq_false (by omega)
                          have hfp : decide (0 ≤ yi) = true := decide_eq_true hf0
                          clear HND HNG hlk hi2 hi3 hi4 hN hb9 g0 g1
                          simp only [Option.getD_some]
                          go_wp2_with fail
                          generalize w9.alloc (Obj.cells #[.int .i64 nk, .string nn, .int .i64 nl, .int .i64 nr] 59) = wa at *
                          go_region
                          go_wp2_with fail
                          go_roundw
                          case rel => exact ⟨k + 1, by omega, by go_num, HB9.out.drew⟩
                          case measure => first | (simp [intOf]; done) | (simp [intOf]; omega)
                        | none =>
                          rw [hlk] at hi4
                          have hyf : yi = (i : Int) := hi4
                          obtain ⟨hn1, hn2⟩ := HND.out hyf
                          subst hn2
                          rw [← hn1] at hi2 hi3
                          simp only at hi2 hi3
                          subst hi2
                          subst hi3
                          have hbq := bytes_eq nn nn
                          clear HND HNG hlk hn1 hN hb9 g0 g1 hi4 hyf
                          simp only [Option.getD_none]
                          go_wp2_with fail
                          generalize w9.alloc (Obj.cells #[.int .i64 1, .string nn, .int .i64 nl, .int .i64 nr] 59) = wa at *
                          go_region
                          go_wp2_with fail
                          go_roundw
                          case rel => exact ⟨k + 1, by omega, by go_num, HB9.out.drew⟩
                          case measure => first | (simp [intOf]; done) | (simp [intOf]; omega)
                  · have KHw := show Hid (Calls Try.prog 10 #[] wr fun e w' => e = .returned (.bool true) ∧ Below w.heap.size w w') from KH.out wr (HP8.out wr HB.out).bel
                    clear HB HBC HHH HGG HP8 HLC HDI KH HHA
                    go_wp2_with fail
                    refine KHw.out.mono ?_
                    rintro e w9 ⟨rfl, hb9⟩
                    have HBx := show Hid (Below w.heap.size w w9) from hb9
                    clear KHw hb9
                    go_wp2_with fail
                    go_ret
                    exact ⟨rfl, HBx.out⟩
              · have hcn : (ce != 0) = true := by simpa using hce
                have KHw := show Hid (Calls Try.prog 10 #[] w7 fun e w' => e = .returned (.bool true) ∧ Below w.heap.size w w') from KH.out w7 HP7.out.bel
                clear HP7 HBM HBC HHH HGG KH
                go_wp2_with fail
                refine KHw.out.mono ?_
                rintro e w9 ⟨rfl, hb9⟩
                have HBx := show Hid (Below w.heap.size w w9) from hb9
                clear KHw hb9
                go_wp2_with fail
                go_ret
                exact ⟨rfl, HBx.out⟩
  · have KHw := show Hid (Calls Try.prog 10 #[] w1 fun e w' => e = .returned (.bool true) ∧ Below w.heap.size w w') from KH.out w1 hb1
    clear KB KH hb1
    go_wp2_with fail
    refine KHw.out.mono ?_
    rintro e w6 ⟨rfl, hb6⟩
    have HB := show Hid (Below w.heap.size w w6) from hb6
    clear KHw hb6
    go_wp2_with fail
    go_ret
    exact ⟨rfl, HB.out⟩
end Go.Proofs.Ythfedlodikbdgaa
