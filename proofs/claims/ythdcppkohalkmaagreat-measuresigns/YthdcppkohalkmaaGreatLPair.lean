/-
  A table of the program's and one of the document's beside each other: what one call does to the one leaves the other as it was; the document's call Same. No condition.
-/
import Derived.Test.YthdcppkohalkmaaGreatRFrom
namespace Go.Proofs.YthdcppkohalkmaaGreat
open Go.RowKit Go.Maps
open Fm (Nd)

/-- Two tables of a call's own, made since the world w0. -/
structure Pair (w0 w : World) (b m : Nat) (v : Value) (c : Nat) (u : Value) (t r : List Nd) : Prop where
  tb : Tb w b m v t
  tr : Tr w c u r
  dis : ∀ k, v.ownBlock = some k → u.ownBlock ≠ some k
  bt : ∀ k, Ft b m v k → w0.heap.size ≤ k
  br : ∀ k, Fr c u k → w0.heap.size ≤ k
  bel : Below w0.heap.size w0 w
section
variable {w0 w w2 : World} {b m c : Nat} {v u : Value} {t r t' r' : List Nd}
theorem Pair.apart (h : Pair w0 w b m v c u t r) : ∀ k, Ft b m v k → ¬ Fr c u k := by
  have hc := h.tr.tab
  have hb := h.tb.tab
  obtain ⟨D, ⟨es, cl, hm, _⟩, _⟩ := h.tb.map
  rintro k (rfl | rfl | e) (rfl | e')
  · rw [hb] at hc; simp at hc
  · obtain ⟨_, cur, hh⟩ := h.tr.row.lt k e'
    rw [hb] at hh; simp at hh
  · rw [hm] at hc; cases hc
  · obtain ⟨_, cur, hh⟩ := h.tr.row.lt k e'
    rw [hm] at hh; cases hh
  · obtain ⟨_, cur, hh⟩ := h.tb.row.lt k e
    rw [hc] at hh; simp at hh
  · exact h.dis k e e'
theorem Pair.stepT (h : Pair w0 w b m v c u t r) (ha : After w b m v t' w2) : ∃ v', Pair w0 w2 b m v' c u t' r := by
  obtain ⟨v', hT, hL, hK⟩ := ha
  refine ⟨v', hT, h.tr.keep fun k hk => hK.block k (h.tr.foot k hk) (fun hf => h.apart k hf hk), fun k hk e => ?_, ?_, h.br, h.bel.trans (hK.below h.bel.size h.bt)⟩
  · rcases hL k hk with h1 | h1
    · exact h.dis k h1 e
    · have := (h.tr.row.lt k e).1
      omega
  · rintro k (e | e | e)
    · exact h.bt k (Or.inl e)
    · exact h.bt k (Or.inr (Or.inl e))
    · rcases hL k e with h1 | h1
      · exact h.bt k (Or.inr (Or.inr h1))
      · exact Nat.le_trans h.bel.size h1
theorem Pair.stepR (h : Pair w0 w b m v c u t r) (ha : AfterR w c u r' w2) : ∃ u', Pair w0 w2 b m v c u' t r' := by
  obtain ⟨u', hT, hL, hK⟩ := ha
  refine ⟨u', h.tb.keep fun k hk => hK.block k (h.tb.foot k hk) (fun hf => h.apart k hk hf), hT, fun k hk e => ?_, h.bt, ?_, h.bel.trans (hK.below h.bel.size h.br)⟩
  · rcases hL k e with h1 | h1
    · exact h.dis k hk h1
    · have := (h.tb.row.lt k hk).1
      omega
  · rintro k (e | e)
    · exact h.br k (Or.inl e)
    · rcases hL k e with h1 | h1
      · exact h.br k (Or.inr h1)
      · exact Nat.le_trans h.bel.size h1
theorem Pair.later (h : Pair w0 w b m v c u t r) (hb : Below w.heap.size w w2) : Pair w0 w2 b m v c u t r :=
  ⟨h.tb.later hb, h.tr.later hb, h.dis, h.bt, h.br, h.bel.trans (hb.mono h.bel.size)⟩
end
set_option maxRecDepth 100000 in
set_option maxHeartbeats 2000000 in
theorem same_any (w : World) (v1 v2 : Value) (ts us : List Nd) (h1 : IsR w v1 ts) (h2 : IsR w v2 us) (hg1 : ∀ n ∈ ts, Fm.good n) (hg2 : ∀ n ∈ us, Fm.good n) :
    Calls Tryz.prog 69 #[v1, v2] w fun e w' => e = .returned (.bool (decide (ts = us))) ∧ ∃ n, w' = w.drewN n := by
  obtain ⟨p1, c1, rfl, hc1, hd1, hp1⟩ := h1
  obtain ⟨p2, c2, rfl, hc2, hd2, hp2⟩ := h2
  have HG1 := show Hid (∀ n ∈ ts, Fm.good n) from hg1
  have HG2 := show Hid (∀ n ∈ us, Fm.good n) from hg2
  by_cases hl : ts.length = us.length
  · have H1 := show Hid (0 < ts.length → ∃ b o, p1 = some ⟨b, o, none⟩ ∧ ∀ k (hk : k < ts.length), At4 w b (o + k * 4) ts[k]) from hp1
    have H2 := show Hid (0 < us.length → ∃ b o, p2 = some ⟨b, o, none⟩ ∧ ∀ k (hk : k < us.length), At4 w b (o + k * 4) us[k]) from hp2
    have HL := show Hid (ts.length = us.length) from hl
    have HEQ := show Hid (∀ k (h1 : k < ts.length) (h2 : k < us.length) (w : World), (Op.equalIn 10000 72 (ndV ts[k]) (ndV us[k])).run Tryz.prog w = .ok (decide (ts[k] = us[k])) w) from fun k h1 h2 w => eq_nd w (hg1 _ (List.getElem_mem h1)) (hg2 _ (List.getElem_mem h2))
    have HY := show Hid ((∀ j (h1 : j < ts.length) (h2 : j < us.length), ts[j] = us[j]) → decide (ts = us) = true) from fun h => decide_eq_true (List.ext_getElem hl h)
    have HN := show Hid (∀ j (h1 : j < ts.length) (h2 : j < us.length), ts[j] ≠ us[j] → decide (ts = us) = false) from fun j h1 h2 hne => decide_eq_false fun e => hne (by subst e; rfl)
    generalize decide (ts = us) = rs at *
    clear hp1 hp2 hg1 hg2
    rw [hl]
    have hc1' : us.length ≤ c1 := by omega
    clear hl
    go_enter Tryz.func69, Tryz.ntmps69
    go_wp2_with fail
    go_loopw [5] (fun i wr => ∃ k n : Nat, k ≤ us.length ∧ i = .int .i64 k ∧ wr = w.drewN n ∧ Hid (∀ j (h1 : j < ts.length) (h2 : j < us.length), j < k → ts[j] = us[j])) (fun i _ => us.length - (intOf i).toNat)
    case atStart => exact ⟨0, 0, by omega, rfl, rfl, fun j _ _ h => by omega⟩
    case round =>
      obtain ⟨k, n, hk, rfl, rfl, HI⟩ := hrel
      by_cases hlt : k < us.length
      · have hlt1 : k < ts.length := by have := HL.out; omega
        obtain ⟨b, o, rfl, hcell⟩ := H1.out (by omega)
        obtain ⟨b2, o2, rfl, hcell2⟩ := H2.out (by omega)
        have hA := hcell k hlt1
        have hB := hcell2 k hlt
        have heq := HEQ.out k hlt1 hlt
        have HNK := show Hid (ts[k] ≠ us[k] → rs = false) from HN.out k hlt1 hlt
        have HIK := show Hid (ts[k] = us[k] → ∀ j (h1 : j < ts.length) (h2 : j < us.length), j < k + 1 → ts[j] = us[j]) from fun he j h1 h2 h => by
          by_cases e : j = k
          · subst e; exact he
          · exact HI.out j h1 h2 (by omega)
        clear hcell hcell2 HEQ HN HY
        generalize ts[k] = x at *
        generalize us[k] = y at *
        obtain ⟨q, hq⟩ : ∃ q, q = decide (x = y) := ⟨_, rfl⟩
        rw [← hq] at heq
        have HQ := show Hid (q = decide (x = y)) from hq
        unfold ndV at heq
        have a0 := hA.c0; have a1 := hA.c1; have a2 := hA.c2; have a3 := hA.c3
        have e0 := hB.c0; have e1 := hB.c1; have e2 := hB.c2; have e3 := hB.c3
        have hki : (k : Int) < (us.length : Int) := by omega
        clear hA hB hq
        go_wp2_with fail
        go_quiet (fail)
        cases q
        · have hne : x ≠ y := of_decide_eq_false HQ.out.symm
          have hr := HNK.out hne
          subst hr
          clear hne HQ HNK HIK
          go_wp2_with fail
          go_ret
          exact ⟨rfl, n + nq, by simp [World.drewN, Nat.add_assoc]⟩
        · have he : x = y := of_decide_eq_true HQ.out.symm
          have HI2 := show Hid (∀ j (h1 : j < ts.length) (h2 : j < us.length), j < k + 1 → ts[j] = us[j]) from HIK.out he
          clear he HQ HNK HIK
          go_wp2_with fail
          go_roundw
          case rel => exact ⟨k + 1, _, by omega, by go_num, rfl, HI2⟩
          case measure => first | (simp [intOf]; done) | (simp [intOf]; omega)
      · have hr := HY.out fun j h1 h2 => HI.out j h1 h2 (by omega)
        subst hr
        go_wp2_with fail
        go_ret
        exact ⟨rfl, _, rfl⟩
  · have hr : decide (ts = us) = false := decide_eq_false fun e => hl (by rw [e])
    rw [hr]
    have hne : ((ts.length : Int) != (us.length : Int)) = true := by simp; omega
    clear hr hp1 hp2
    go_enter Tryz.func69, Tryz.ntmps69
    go_wp2_with fail
    go_ret
    exact ⟨rfl, 0, rfl⟩
end Go.Proofs.YthdcppkohalkmaaGreat
