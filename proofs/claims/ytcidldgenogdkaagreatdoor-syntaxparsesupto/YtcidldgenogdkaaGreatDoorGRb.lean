/-
  The document's call Same: for every two slices of rows or of numbers that hold so many. No other condition.
-/
import Derived.Test.YtcidldgenogdkaaGreatDoorGRa
namespace Go.Proofs.YtcidldgenogdkaaGreatDoor
open Go.RowKit Go.Maps
open Fm (Nd)

theorem below_drewN {B : Nat} {a w : World} (h : Below B a w) (n : Nat) : Below B a (w.drewN n) := ⟨h.os, h.tape, h.output, h.size, h.block⟩
set_option maxRecDepth 100000 in
set_option maxHeartbeats 2000000 in
theorem same_eq (w : World) (v1 v2 : Value) (ts : List Nd) (h1 : IsR w v1 ts) (h2 : IsR w v2 ts) :
    Calls Tryz.prog 22 #[v1, v2] w fun e w' => e = .returned (.bool true) ∧ ∃ n, w' = w.drewN n := by
  obtain ⟨p1, c1, rfl, hc1, hd1, hp1⟩ := h1
  obtain ⟨p2, c2, rfl, hc2, hd2, hp2⟩ := h2
  have H1 := show Hid (0 < ts.length → ∃ b o, p1 = some ⟨b, o, none⟩ ∧ ∀ k (hk : k < ts.length), At4 w b (o + k * 4) ts[k]) from hp1
  have H2 := show Hid (0 < ts.length → ∃ b o, p2 = some ⟨b, o, none⟩ ∧ ∀ k (hk : k < ts.length), At4 w b (o + k * 4) ts[k]) from hp2
  clear hp1 hp2
  go_enter Tryz.func22, Tryz.ntmps22
  go_wp2_with fail
  go_loopw [5] (fun i wr => ∃ k n : Nat, k ≤ ts.length ∧ i = .int .i64 k ∧ wr = w.drewN n) (fun i _ => ts.length - (intOf i).toNat)
  case atStart => exact ⟨0, 0, by omega, rfl, rfl⟩
  case round =>
    obtain ⟨k, n, hk, rfl, rfl⟩ := hrel
    by_cases hlt : k < ts.length
    · obtain ⟨b, o, rfl, hcell⟩ := H1.out (by omega)
      obtain ⟨b2, o2, rfl, hcell2⟩ := H2.out (by omega)
      have hA := hcell k hlt
      have hB := hcell2 k hlt
      clear hcell hcell2
      generalize ts[k] = t at *
      obtain ⟨tk, tt, tl, tr⟩ := t
      have a0 := hA.c0; have a1 := hA.c1; have a2 := hA.c2; have a3 := hA.c3
      have e0 := hB.c0; have e1 := hB.c1; have e2 := hB.c2; have e3 := hB.c3
      simp only at a0 a1 a2 a3 e0 e1 e2 e3
      have hki : (k : Int) < (ts.length : Int) := by omega
      clear hA hB
      go_wp2_with fail
      go_quiet (fail)
      go_wp2_with fail
      go_roundw
      case rel => exact ⟨k + 1, _, by omega, by go_num, rfl⟩
      case measure => first | (simp [intOf]; done) | (simp [intOf]; omega)
    · go_wp2_with fail
      go_ret
      exact ⟨rfl, _, rfl⟩
theorem ints_cell {w : World} {B : Nat} {v : Value} {l : List Nat} (h : IsI w B v l) : ∃ p c, v = .slice p l.length c ∧ l.length ≤ c ∧ c ≤ 9223372036854775807 ∧ (0 < l.length → ∃ g, p = some ⟨g, 0, none⟩ ∧ ∀ k (hk : k < l.length), w.cell? ⟨g, k, none⟩ = some (.int .i64 (l[k] : Int))) := by
  rcases h.2 with ⟨rfl, h0⟩ | ⟨g, cap, cur, rfl, hg, hh, h1, h2, h3, h4⟩
  · exact ⟨none, 0, by rw [h0], by omega, by omega, fun hp => by omega⟩
  · refine ⟨_, cap, rfl, h1, by unfold maxLen at h2; omega, fun _ => ⟨g, rfl, fun k hk => ?_⟩⟩
    rw [cell_of_row w g k cur _ _ hh]
    have e : (ints l)[k]? = some (.int .i64 (l[k] : Int)) := by simp [ints, hk]
    rw [← h4, List.getElem?_take, if_pos (by omega)] at e
    simpa using e
end Go.Proofs.YtcidldgenogdkaaGreatDoor
/-
  The document's call From: for every slice of rows that a machine can hold. No other condition.
-/
namespace Go.Proofs.YtcidldgenogdkaaGreatDoor
open Go.RowKit Go.Maps
open Fm (Nd)

/-- What From answers: a table of its own, or nil and the error. -/
def IsFromR (w w' : World) (e : Ending) (r : Int × List Nd) : Prop :=
  (r.1 = 0 ∧ ∃ C u, e = .returned (.tuple #[.pointer (some ⟨C, 0, none⟩), .int .i64 0]) ∧ Tr w' C u r.2 ∧ ∀ k, Fr C u k → w.heap.size ≤ k) ∨
  (r.1 ≠ 0 ∧ e = .returned (.tuple #[.pointer none, .int .i64 r.1]))
set_option maxRecDepth 100000 in
set_option maxHeartbeats 2000000 in
theorem rfrom_any (w : World) (rv : Value) (rs : List Nd) (hR : IsR w rv rs) (hg : ∀ n ∈ rs, Fm.good n) (hl : rs.length ≤ 140737488351232) :
    Calls Tryz.prog 50 #[rv] w fun e w' => IsFromR w w' e (Fm.fr [] rs) ∧ Below w.heap.size w w' := by
  have KP := show Hid (∀ (w1 : World) (c : Nat) (u : Value) (t : List Nd), Tr w1 c u t → ∀ n, Fm.good n → Calls Tryz.prog 79 #[.pointer (some ⟨c, 0, none⟩), .agg #[.int .i64 n.k, .string n.s, .int .i64 n.l, .int .i64 n.r]] w1 fun e w' => e = .returned (.tuple #[.int .i64 (Fm.put t n).1, .int .i64 (Fm.put t n).2.1]) ∧ AfterR w1 c u (Fm.put t n).2.2 w') from fun w1 c u t h n hn => rput_any w1 h n hn
  have HX := show Hid (Fm.fr [] (rs.drop 0) = Fm.fr [] rs) from by rw [List.drop_zero]; rfl
  have HG := show Hid (∀ n ∈ rs, Fm.good n) from hg
  generalize Fm.fr [] rs = ans at *
  obtain ⟨p, c, rfl, hc1, hc2, hat⟩ := hR.at
  have HA := show Hid (0 < rs.length → ∃ b o, p = some ⟨b, o, none⟩ ∧ ∀ w', Below w.heap.size w w' → ∀ k (hk : k < rs.length), At4 w' b (o + k * 4) rs[k]) from hat
  have HT0 := show Hid (Tr (w.alloc (Obj.cells #[.slice none 0 0] 61)) w.heap.size (.slice none 0 0) []) from ⟨heap_alloc_new _ _, rw_nil _, Fm.ok_nil⟩
  clear hR hg hat
  go_enter Tryz.func50, Tryz.ntmps50
  go_wp2_with fail
  go_loopw [5] (fun i wr => ∃ (t : List Nd) (v : Value), t.length ≤ rs.length ∧ i = .int .i64 (t.length : Int) ∧ Hid (Fm.fr t (rs.drop t.length) = ans) ∧ Hid (Tr wr w.heap.size v t ∧ ∀ k, v.ownBlock = some k → w.heap.size ≤ k) ∧ Hid (Below w.heap.size w wr)) (fun i _ => rs.length - (intOf i).toNat)
  case atStart => exact ⟨[], .slice none 0 0, by simp, rfl, HX, ⟨HT0.out, fun k hk => by simp [Value.ownBlock] at hk⟩, below_alloc _ _⟩
  case round =>
    obtain ⟨t, v, hk, rfl, HF, HT, HB⟩ := hrel
    clear HX HT0
    by_cases hlt : t.length < rs.length
    · obtain ⟨rb, ro, rfl, hat⟩ := HA.out (by omega)
      have hA := hat wr HB.out t.length hlt
      have HGN := show Hid (Fm.good rs[t.length]) from HG.out _ (List.getElem_mem hlt)
      have hst := HF.out
      rw [List.drop_eq_getElem_cons hlt, fr_step] at hst
      generalize rs[t.length] = nd at *
      have HST := show Hid _ from hst
      have HGW := show Hid (Fm.put t nd |>.2.1 = 0 → (Fm.put t nd).1 = t.length → (Fm.put t nd).2.2.length = t.length + 1) from fun h1 h2 => put_grew h1 h2
      obtain ⟨nk, ns, nl, nr⟩ := nd
      have a0 := hA.c0; have a1 := hA.c1; have a2 := hA.c2; have a3 := hA.c3
      simp only at a0 a1 a2 a3
      have hki : (t.length : Int) < (rs.length : Int) := by omega
      clear hat hA hst HF
      have KP2 := show Hid (Calls Tryz.prog 79 #[.pointer (some ⟨w.heap.size, 0, none⟩), .agg #[.int .i64 nk, .string ns, .int .i64 nl, .int .i64 nr]] wr fun e w' => e = .returned (.tuple #[.int .i64 (Fm.put t ⟨nk, ns, nl, nr⟩).1, .int .i64 (Fm.put t ⟨nk, ns, nl, nr⟩).2.1]) ∧ AfterR wr w.heap.size v (Fm.put t ⟨nk, ns, nl, nr⟩).2.2 w') from KP.out _ _ _ _ HT.out.1 ⟨nk, ns, nl, nr⟩ HGN.out
      generalize Fm.put t ⟨nk, ns, nl, nr⟩ = pr at *
      obtain ⟨p1, p2, p3⟩ := pr
      simp only at KP2 HGW
      go_wp2_with fail
      refine KP2.out.mono ?_
      rintro e w2 ⟨rfl, v2, hT2, hL2, hK2⟩
      have HB2 := show Hid (Below w.heap.size w w2) from HB.out.trans (hK2.below HB.out.size (by
        rintro k (e | e)
        · omega
        · exact HT.out.2 k e))
      have HT2 := show Hid (Tr w2 w.heap.size v2 p3 ∧ ∀ k, v2.ownBlock = some k → w.heap.size ≤ k) from ⟨hT2, fun k hk => by
        rcases hL2 k hk with h | h
        · exact HT.out.2 k h
        · have := HB.out.size
          omega⟩
      clear hT2 hL2 hK2 KP2 HB HT
      by_cases h0 : p2 = 0
      · subst h0
        have hst := HST.out
        rw [if_pos rfl] at hst
        by_cases h1 : p1 = t.length
        · subst h1
          rw [if_pos rfl] at hst
          have hgw := HGW.out rfl rfl
          have HF2 := show Hid (Fm.fr p3 (rs.drop p3.length) = ans) from by rw [hgw]; exact hst
          have HGL := show Hid (p3.length = t.length + 1) from hgw
          clear hst hgw HST HGW
          go_wp2_with fail
          go_roundw
          case rel => exact ⟨p3, v2, by have := HGL.out; omega, by rw [HGL.out]; go_num, HF2, HT2, HB2⟩
          case measure => first | (simp [intOf]; done) | (simp [intOf]; omega)
        · rw [if_neg h1] at hst
          have hne : (p1 != (t.length : Int)) = true := by simp [h1]
          subst hst
          go_wp2_with fail
          go_ret2
          exact ⟨Or.inr ⟨by simp, rfl⟩, HB2.out⟩
      · have hst := HST.out
        rw [if_neg h0] at hst
        have hne : (p2 != 0) = true := by simp [h0]
        subst hst
        go_wp2_with fail
        go_ret2
        exact ⟨Or.inr ⟨h0, rfl⟩, HB2.out⟩
    · have hke : t.length = rs.length := by omega
      have hst := HF.out
      rw [hke, List.drop_length, Fm.fr] at hst
      subst hst
      have hki : ¬ (t.length : Int) < (rs.length : Int) := by omega
      clear hke
      go_wp2_with fail
      go_ret2
      refine ⟨Or.inl ⟨rfl, w.heap.size, v, rfl, HT.out.1, ?_⟩, HB.out⟩
      rintro k (e | e)
      · omega
      · exact HT.out.2 k e
end Go.Proofs.YtcidldgenogdkaaGreatDoor
/-
  A table of the program's and one of the document's beside each other: what one call does to the one leaves the other as it was; the document's call Same. No condition.
-/
namespace Go.Proofs.YtcidldgenogdkaaGreatDoor
open Go.RowKit Go.Maps
open Fm (Nd)

/-- Two tables of a call's own, made since the world w0. -/
structure Pair (w0 w : World) (b m : Nat) (v : Value) (c : Nat) (u : Value) (t r : List Nd) : Prop where
  tb : Tb w b m v t
  tr : Tr w c u r
  dis : ∀ k, v.ownBlock = some k → u.ownBlock ≠ some k
  bt : ∀ k, Ft b m v k → w0.heap.size ≤ k
  br : ∀ k, Fr c u k → w0.heap.size ≤ k
  bel : Below w0.heap.size w0 w
section
variable {w0 w w2 : World} {b m c : Nat} {v u : Value} {t r t' r' : List Nd}
theorem Pair.apart (h : Pair w0 w b m v c u t r) : ∀ k, Ft b m v k → ¬ Fr c u k := by
  have hc := h.tr.tab
  have hb := h.tb.tab
  obtain ⟨D, ⟨es, cl, hm, _⟩, _⟩ := h.tb.map
  rintro k (rfl | rfl | e) (rfl | e')
  · rw [hb] at hc; simp at hc
  · obtain ⟨_, cur, hh⟩ := h.tr.row.lt k e'
    rw [hb] at hh; simp at hh
  · rw [hm] at hc; cases hc
  · obtain ⟨_, cur, hh⟩ := h.tr.row.lt k e'
    rw [hm] at hh; cases hh
  · obtain ⟨_, cur, hh⟩ := h.tb.row.lt k e
    rw [hc] at hh; simp at hh
  · exact h.dis k e e'
theorem Pair.stepT (h : Pair w0 w b m v c u t r) (ha : After w b m v t' w2) : ∃ v', Pair w0 w2 b m v' c u t' r := by
  obtain ⟨v', hT, hL, hK⟩ := ha
  refine ⟨v', hT, h.tr.keep fun k hk => hK.block k (h.tr.foot k hk) (fun hf => h.apart k hf hk), fun k hk e => ?_, ?_, h.br, h.bel.trans (hK.below h.bel.size h.bt)⟩
  · rcases hL k hk with h1 | h1
    · exact h.dis k h1 e
    · have := (h.tr.row.lt k e).1
      omega
  · rintro k (e | e | e)
    · exact h.bt k (Or.inl e)
    · exact h.bt k (Or.inr (Or.inl e))
    · rcases hL k e with h1 | h1
      · exact h.bt k (Or.inr (Or.inr h1))
      · exact Nat.le_trans h.bel.size h1
theorem Pair.stepR (h : Pair w0 w b m v c u t r) (ha : AfterR w c u r' w2) : ∃ u', Pair w0 w2 b m v c u' t r' := by
  obtain ⟨u', hT, hL, hK⟩ := ha
  refine ⟨u', h.tb.keep fun k hk => hK.block k (h.tb.foot k hk) (fun hf => h.apart k hk hf), hT, fun k hk e => ?_, h.bt, ?_, h.bel.trans (hK.below h.bel.size h.br)⟩
  · rcases hL k e with h1 | h1
    · exact h.dis k hk h1
    · have := (h.tb.row.lt k hk).1
      omega
  · rintro k (e | e)
    · exact h.br k (Or.inl e)
    · rcases hL k e with h1 | h1
      · exact h.br k (Or.inr h1)
      · exact Nat.le_trans h.bel.size h1
theorem Pair.later (h : Pair w0 w b m v c u t r) (hb : Below w.heap.size w w2) : Pair w0 w2 b m v c u t r :=
  ⟨h.tb.later hb, h.tr.later hb, h.dis, h.bt, h.br, h.bel.trans (hb.mono h.bel.size)⟩
end
set_option maxRecDepth 100000 in
set_option maxHeartbeats 2000000 in
theorem same_any (w : World) (v1 v2 : Value) (ts us : List Nd) (h1 : IsR w v1 ts) (h2 : IsR w v2 us) (hg1 : ∀ n ∈ ts, Fm.good n) (hg2 : ∀ n ∈ us, Fm.good n) :
    Calls Tryz.prog 22 #[v1, v2] w fun e w' => e = .returned (.bool (decide (ts = us))) ∧ ∃ n, w' = w.drewN n := by
  obtain ⟨p1, c1, rfl, hc1, hd1, hp1⟩ := h1
  obtain ⟨p2, c2, rfl, hc2, hd2, hp2⟩ := h2
  have HG1 := show Hid (∀ n ∈ ts, Fm.good n) from hg1
  have HG2 := show Hid (∀ n ∈ us, Fm.good n) from hg2
  by_cases hl : ts.length = us.length
  · have H1 := show Hid (0 < ts.length → ∃ b o, p1 = some ⟨b, o, none⟩ ∧ ∀ k (hk : k < ts.length), At4 w b (o + k * 4) ts[k]) from hp1
    have H2 := show Hid (0 < us.length → ∃ b o, p2 = some ⟨b, o, none⟩ ∧ ∀ k (hk : k < us.length), At4 w b (o + k * 4) us[k]) from hp2
    have HL := show Hid (ts.length = us.length) from hl
    have HEQ := show Hid (∀ k (h1 : k < ts.length) (h2 : k < us.length) (w : World), (Op.equalIn 10000 104 (ndV ts[k]) (ndV us[k])).run Tryz.prog w = .ok (decide (ts[k] = us[k])) w) from fun k h1 h2 w => eq_nd w (hg1 _ (List.getElem_mem h1)) (hg2 _ (List.getElem_mem h2))
    have HY := show Hid ((∀ j (h1 : j < ts.length) (h2 : j < us.length), ts[j] = us[j]) → decide (ts = us) = true) from fun h => decide_eq_true (List.ext_getElem hl h)
    have HN := show Hid (∀ j (h1 : j < ts.length) (h2 : j < us.length), ts[j] ≠ us[j] → decide (ts = us) = false) from fun j h1 h2 hne => decide_eq_false fun e => hne (by subst e; rfl)
    generalize decide (ts = us) = rs at *
    clear hp1 hp2 hg1 hg2
    rw [hl]
    have hc1' : us.length ≤ c1 := by omega
    clear hl
    go_enter Tryz.func22, Tryz.ntmps22
    go_wp2_with fail
    go_loopw [5] (fun i wr => ∃ k n : Nat, k ≤ us.length ∧ i = .int .i64 k ∧ wr = w.drewN n ∧ Hid (∀ j (h1 : j < ts.length) (h2 : j < us.length), j < k → ts[j] = us[j])) (fun i _ => us.length - (intOf i).toNat)
    case atStart => exact ⟨0, 0, by omega, rfl, rfl, fun j _ _ h => by omega⟩
    case round =>
      obtain ⟨k, n, hk, rfl, rfl, HI⟩ := hrel
      by_cases hlt : k < us.length
      · have hlt1 : k < ts.length := by have := HL.out; omega
        obtain ⟨b, o, rfl, hcell⟩ := H1.out (by omega)
        obtain ⟨b2, o2, rfl, hcell2⟩ := H2.out (by omega)
        have hA := hcell k hlt1
        have hB := hcell2 k hlt
        have heq := HEQ.out k hlt1 hlt
        have HNK := show Hid (ts[k] ≠ us[k] → rs = false) from HN.out k hlt1 hlt
        have HIK := show Hid (ts[k] = us[k] → ∀ j (h1 : j < ts.length) (h2 : j < us.length), j < k + 1 → ts[j] = us[j]) from fun he j h1 h2 h => by
          by_cases e : j = k
          · subst e; exact he
          · exact HI.out j h1 h2 (by omega)
        clear hcell hcell2 HEQ HN HY
        generalize ts[k] = x at *
        generalize us[k] = y at *
        obtain ⟨q, hq⟩ : ∃ q, q = decide (x = y) := ⟨_, rfl⟩
        rw [← hq] at heq
        have HQ := show Hid (q = decide (x = y)) from hq
        unfold ndV at heq
        have a0 := hA.c0; have a1 := hA.c1; have a2 := hA.c2; have a3 := hA.c3
        have e0 := hB.c0; have e1 := hB.c1; have e2 := hB.c2; have e3 := hB.c3
        have hki : (k : Int) < (us.length : Int) := by omega
        clear hA hB hq
        go_wp2_with fail
        go_quiet (fail)
        cases q
        · have hne : x ≠ y := of_decide_eq_false HQ.out.symm
          have hr := HNK.out hne
          subst hr
          clear hne HQ HNK HIK
          go_wp2_with fail
          go_ret
          exact ⟨rfl, n + nq, by simp [World.drewN, Nat.add_assoc]⟩
        · have he : x = y := of_decide_eq_true HQ.out.symm
          have HI2 := show Hid (∀ j (h1 : j < ts.length) (h2 : j < us.length), j < k + 1 → ts[j] = us[j]) from HIK.out he
          clear he HQ HNK HIK
          go_wp2_with fail
          go_roundw
          case rel => exact ⟨k + 1, _, by omega, by go_num, rfl, HI2⟩
          case measure => first | (simp [intOf]; done) | (simp [intOf]; omega)
      · have hr := HY.out fun j h1 h2 => HI.out j h1 h2 (by omega)
        subst hr
        go_wp2_with fail
        go_ret
        exact ⟨rfl, _, rfl⟩
  · have hr : decide (ts = us) = false := decide_eq_false fun e => hl (by rw [e])
    rw [hr]
    have hne : ((ts.length : Int) != (us.length : Int)) = true := by simp; omega
    clear hr hp1 hp2
    go_enter Tryz.func22, Tryz.ntmps22
    go_wp2_with fail
    go_ret
    exact ⟨rfl, 0, rfl⟩
end Go.Proofs.YtcidldgenogdkaaGreatDoor
/-
  The law's calls Like and Both. No condition beyond rows that a machine can hold.
-/
namespace Go.Proofs.YtcidldgenogdkaaGreatDoor
open Go.RowKit Go.Maps
open Fm (Nd)

set_option maxRecDepth 100000 in
set_option maxHeartbeats 4000000 in
theorem like_any (w0 w : World) {b m c : Nat} {v u : Value} {t : List Nd} (h : Pair w0 w b m v c u t t) :
    Calls Tryz.prog 11 #[.pointer (some ⟨b, 0, none⟩), .pointer (some ⟨c, 0, none⟩)] w fun e w' => e = .returned (.bool true) ∧ Below w.heap.size w w' := by
  obtain ⟨p, cp, rfl⟩ := h.tr.row.form
  have HC := show Hid (∀ w', Below w.heap.size w w' → w'.cell? ⟨c, 0, none⟩ = some (.slice p t.length cp)) from fun w' hb => (h.tr.later hb).c0
  have KR := show Hid (∀ w', Below w.heap.size w w' → Calls Tryz.prog 21 #[.pointer (some ⟨b, 0, none⟩)] w' fun e w'' => ∃ p' c', e = .returned (.slice p' t.length c') ∧ Rw w'' (.slice p' t.length c') t ∧ Below w.heap.size w w'') from fun w' hb => (rows_any w' (h.tb.later hb)).mono fun e w'' ⟨v', he, hf⟩ => by
    obtain ⟨p', c', rfl⟩ := hf.1.form
    exact ⟨p', c', he, hf.1, hb.trans (hf.2.2.mono hb.size)⟩
  have KS := show Hid (∀ (w' : World) (p' : Option Addr) (c' : Nat), Below w.heap.size w w' → Rw w' (.slice p' t.length c') t → Calls Tryz.prog 22 #[.slice p' t.length c', .slice p t.length cp] w' fun e w'' => e = .returned (.bool true) ∧ Below w.heap.size w w'') from fun w' p' c' hb hr => (same_eq w' _ _ t hr.isR (h.tr.later hb).row.isR).mono fun e w'' ⟨he, n, hn⟩ => by
    subst hn
    exact ⟨he, below_drewN hb n⟩
  have KL := show Hid (∀ w', Below w.heap.size w w' → Calls Tryz.prog 20 #[.pointer (some ⟨b, 0, none⟩)] w' fun e w'' => e = .returned (.int .i64 (t.length : Int)) ∧ w'' = w') from fun w' hb => len_any w' (h.tb.later hb)
  have c0 := h.tr.c0
  have HB0 := show Hid (Below w.heap.size w w.drew) from (Below.refl _ _).drew
  clear h
  go_enter Tryz.func11, Tryz.ntmps11
  go_wp2_with fail
  go_region_held3 (fun wx => wx.cell? ⟨c, 0, none⟩ = some (.slice p t.length cp)) (first | go_keep | exact HC.out _ (by assumption)) (first | (go_at_call 21; refine (KR.out _ ?_).mono ?_; (first | exact HB0.out | assumption); rintro e w3 ⟨p3, c3, rfl, hr3, hb3⟩) | (go_at_call 22; refine (KS.out _ _ _ ?_ ?_).mono ?_; assumption; assumption; rintro e w4 ⟨rfl, hb4⟩) | (go_at_call 20; refine (KL.out _ ?_).mono ?_; assumption; rintro e w5 ⟨rfl, hw5⟩; subst w5))
  have HB4 := show Hid (Below w.heap.size w w4) from hb4
  clear hb4
  go_wp2_with fail
  go_ret
  exact ⟨rfl, HB4.out⟩
/-- What Both answers: two tables with these rows, or none. -/
def IsBoth (w w' : World) (e : Ending) (r : Int × List Nd) : Prop :=
  (r.1 = 0 ∧ ∃ B M v C u, e = .returned (.tuple #[.pointer (some ⟨B, 0, none⟩), .pointer (some ⟨C, 0, none⟩), .bool true]) ∧ Pair w w' B M v C u r.2 r.2) ∨
  (r.1 ≠ 0 ∧ e = .returned (.tuple #[.pointer none, .pointer none, .bool false]) ∧ Below w.heap.size w w')
set_option maxRecDepth 100000 in
set_option maxHeartbeats 4000000 in
theorem both_any (w : World) (rv : Value) (rs : List Nd) (hR : IsR w rv rs) (hg : ∀ n ∈ rs, Fm.good n) (hl : rs.length * 40 ≤ 140737488351232) (hv : rv = .slice none 0 0 ∨ ∃ a n c, rv = .slice (some a) n c) :
    Calls Tryz.prog 23 #[rv] w fun e w' => IsBoth w w' e (Fm.fr [] rs) := by
  have HRR := show Hid (IsR w rv rs) from hR
  have HG := show Hid (∀ n ∈ rs, Fm.good n) from hg
  have KF := show Hid (∀ (w' : World) (x : Value), IsR w' x rs → Calls Tryz.prog 51 #[x] w' fun e w'' => IsFrom w' w'' e (Fm.fr [] rs) ∧ Below w'.heap.size w' w'') from fun w' x hx => from_any w' x rs hx hg (by omega)
  have KG := show Hid (∀ (w' : World) (x : Value), IsR w' x rs → Calls Tryz.prog 50 #[x] w' fun e w'' => IsFromR w' w'' e (Fm.fr [] rs) ∧ Below w'.heap.size w' w'') from fun w' x hx => rfrom_any w' x rs hx hg (by omega)
  generalize Fm.fr [] rs = ans at *
  obtain ⟨i0, hi, hz0, hz1, hz2⟩ := info_parts info_node
  rcases hv with rfl | ⟨a, n, c, rfl⟩
  · have hrs : rs = [] := by
      obtain ⟨p, c, hv, _⟩ := hR
      exact List.eq_nil_of_length_eq_zero (Value.slice.inj hv).2.1.symm
    subst hrs
    clear hR hg
    go_enter Tryz.func23, Tryz.ntmps23
    go_wp2_with fail
    have HB1 := show Hid (Below w.heap.size w (w.alloc (Obj.cells #[] 104))) from below_alloc _ _
    have HV1 := show Hid (IsR (w.alloc (Obj.cells #[] 104)) (.slice (some ⟨w.heap.size, 0, none⟩) 0 0) []) from ⟨_, 0, rfl, by simp, by omega, fun h => by simp at h⟩
    have HR1 := show Hid (IsR (w.alloc (Obj.cells #[] 104)) (.slice none 0 0) []) from HRR.out.later (below_alloc _ _)
    generalize w.alloc (Obj.cells #[] 104) = w1 at *
    clear HRR
    refine (KG.out _ _ HR1.out).mono ?_
    rintro e w2 ⟨hF, hb2⟩
    have HB2 := show Hid (Below w.heap.size w w2) from HB1.out.trans (hb2.mono HB1.out.size)
    have HV2 := show Hid (IsR w2 (.slice (some ⟨w.heap.size, 0, none⟩) 0 0) []) from HV1.out.later hb2
    have HLT := show Hid (w.heap.size ≤ w1.heap.size) from HB1.out.size
    rcases hF with ⟨h0, C, u, rfl, hT, hf⟩ | ⟨h0, rfl⟩
    · obtain ⟨a1, a2⟩ := ans
      simp only at h0 hT
      subst h0
      have HT := show Hid (Tr w2 C u a2 ∧ ∀ k, Fr C u k → w.heap.size ≤ k) from ⟨hT, fun k hk => Nat.le_trans HLT.out (hf k hk)⟩
      clear hT hf hb2 KG HV1 HR1
      go_wp2_with fail
      refine (KF.out _ _ HV2.out).mono ?_
      rintro e w3 ⟨hF, hb3⟩
      rcases hF with ⟨h0, B, M, v, rfl, hT3, hf3⟩ | ⟨h0, rfl⟩
      · have HP := show Hid (Pair w w3 B M v C u a2 a2) from ⟨hT3, HT.out.1.later hb3, fun k hk e => by
          have h1 := hf3 k (Or.inr (Or.inr hk))
          have h2 := (HT.out.1.row.lt k e).1
          omega, fun k hk => Nat.le_trans HB2.out.size (hf3 k hk), HT.out.2, HB2.out.trans (hb3.mono HB2.out.size)⟩
        clear hT3 hf3 hb3 KF
        go_wp2_with fail
        refine bodyPost_ret (v := .tuple #[.pointer (some ⟨B, 0, none⟩), .pointer (some ⟨C, 0, none⟩), .bool true]) (by simp [results, Tryz.results23, go_sem]) rfl ?_
        exact Or.inl ⟨rfl, B, M, v, C, u, rfl, HP.out⟩
      · exact absurd rfl h0
    · have hne : (ans.1 != 0) = true := by simp [h0]
      clear hb2
      go_wp2_with fail
      refine bodyPost_ret (v := .tuple #[.pointer none, .pointer none, .bool false]) (by simp [results, Tryz.results23, go_sem]) rfl ?_
      exact Or.inr ⟨h0, rfl, HB2.out⟩
  · have hn : n = rs.length := by
      obtain ⟨p, c, hv, _⟩ := hR
      exact (Value.slice.inj hv).2.1
    subst hn
    have HSRC := show Hid (∀ j u, (cellsOf rs)[j]? = some u → (w.alloc (Obj.cells #[] 104)).cell? (a.add j) = some u) from src_any (hR.later (below_alloc _ _))
    obtain ⟨xs, hxs⟩ : ∃ xs, xs = cellsOf rs := ⟨_, rfl⟩
    have HXS := show Hid (xs = cellsOf rs) from hxs
    rw [← hxs] at HSRC
    have HXL := show Hid (xs.length = rs.length * 4) from by rw [hxs]; exact cellsOf_len rs
    have HX1 := show Hid (∀ u ∈ xs, u.oneCell' = true) from by rw [hxs]; exact cellsOf_one rs
    clear hxs hR hg
    go_enter Tryz.func23, Tryz.ntmps23
    go_wp2_with (at_builtin; refine wpList_append_own_at _ rfl (.tmp 10) (.tmp 11) 22 rfl w.heap.size 104 i0 _ 4 40 Tryz.underlying22 hi hz0 hz1 hz2 rfl (by decide) (.slice (some ⟨w.heap.size, 0, none⟩) 0 0) 0 [] rfl (World.ownsRow_made w #[] 0 (Nat.le_refl _) (Nat.zero_le _) rfl) a rs.length c xs rfl HXL.out HSRC.out HX1.out (by unfold maxLen; omega) (by omega) (by simp) ?_)
    intro v' w1 hown hgr hnil hat
    have hbel : Below w.heap.size w w1 := (below_alloc _ _).grown hgr (by simp) (fun k hk => by cases hk; exact Nat.le_refl _)
    have hrw : Rw w1 v' rs := (rw_of_own (by rw [← HXS.out]; exact hown)).1
    have HB1 := show Hid (Below w.heap.size w w1) from hbel
    have HV1 := show Hid (IsR w1 v' rs) from hrw.isR
    have HR1 := show Hid (IsR w1 (.slice (some a) rs.length c) rs) from HRR.out.later hbel
    clear hown hgr hnil hat hbel hrw HXS HXL HX1 HSRC HRR
    go_wp2_with fail
    refine (KG.out _ _ HR1.out).mono ?_
    rintro e w2 ⟨hF, hb2⟩
    have HB2 := show Hid (Below w.heap.size w w2) from HB1.out.trans (hb2.mono HB1.out.size)
    have HV2 := show Hid (IsR w2 v' rs) from HV1.out.later hb2
    have HLT := show Hid (w.heap.size ≤ w1.heap.size) from HB1.out.size
    rcases hF with ⟨h0, C, u, rfl, hT, hf⟩ | ⟨h0, rfl⟩
    · obtain ⟨a1, a2⟩ := ans
      simp only at h0 hT
      subst h0
      have HT := show Hid (Tr w2 C u a2 ∧ ∀ k, Fr C u k → w.heap.size ≤ k) from ⟨hT, fun k hk => Nat.le_trans HLT.out (hf k hk)⟩
      clear hT hf hb2 KG HV1 HR1
      go_wp2_with fail
      refine (KF.out _ _ HV2.out).mono ?_
      rintro e w3 ⟨hF, hb3⟩
      rcases hF with ⟨h0, B, M, v, rfl, hT3, hf3⟩ | ⟨h0, rfl⟩
      · have HP := show Hid (Pair w w3 B M v C u a2 a2) from ⟨hT3, HT.out.1.later hb3, fun k hk e => by
          have h1 := hf3 k (Or.inr (Or.inr hk))
          have h2 := (HT.out.1.row.lt k e).1
          omega, fun k hk => Nat.le_trans HB2.out.size (hf3 k hk), HT.out.2, HB2.out.trans (hb3.mono HB2.out.size)⟩
        clear hT3 hf3 hb3 KF
        go_wp2_with fail
        refine bodyPost_ret (v := .tuple #[.pointer (some ⟨B, 0, none⟩), .pointer (some ⟨C, 0, none⟩), .bool true]) (by simp [results, Tryz.results23, go_sem]) rfl ?_
        exact Or.inl ⟨rfl, B, M, v, C, u, rfl, HP.out⟩
      · exact absurd rfl h0
    · have hne : (ans.1 != 0) = true := by simp [h0]
      clear hb2
      go_wp2_with fail
      refine bodyPost_ret (v := .tuple #[.pointer none, .pointer none, .bool false]) (by simp [results, Tryz.results23, go_sem]) rfl ?_
      exact Or.inr ⟨h0, rfl, HB2.out⟩
end Go.Proofs.YtcidldgenogdkaaGreatDoor
