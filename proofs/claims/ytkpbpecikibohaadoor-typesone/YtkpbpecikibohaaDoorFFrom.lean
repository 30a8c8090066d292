/-
  The call From: for every slice of rows that a machine can hold. No other condition.
-/
import Derived.Test.YtkpbpecikibohaaDoorFCutC
namespace Go.Proofs.YtkpbpecikibohaaDoor
open Go.RowKit Go.Maps
open Fm (Nd)

def IsFrom (w w' : World) (e : Ending) (r : Int × List Nd) : Prop :=
  (r.1 = 0 ∧ ∃ B M v, e = .returned (.tuple #[.pointer (some ⟨B, 0, none⟩), .int .i64 0]) ∧ Tb w' B M v r.2 ∧ ∀ k, Ft B M v k → w.heap.size ≤ k) ∨
  (r.1 ≠ 0 ∧ e = .returned (.tuple #[.pointer none, .int .i64 r.1]))
theorem fr_step (t : List Nd) (n : Nd) (r : List Nd) : Fm.fr t (n :: r) = if (Fm.put t n).2.1 = 0 then (if (Fm.put t n).1 = t.length then Fm.fr (Fm.put t n).2.2 r else (31, [])) else ((Fm.put t n).2.1, []) := by
  rw [Fm.fr]
theorem put_grew {t : List Nd} {n : Nd} (h1 : (Fm.put t n).2.1 = 0) (h2 : (Fm.put t n).1 = t.length) : (Fm.put t n).2.2.length = t.length + 1 := by
  unfold Fm.put at h1 h2 ⊢
  split
  · rename_i hc
    rw [if_pos hc] at h1 h2
    split
    · rename_i hm
      rw [if_pos hm] at h2
      have := List.idxOf_lt_length_iff.2 hm
      simp at h2
      omega
    · rename_i hm
      rw [if_neg hm] at h1 h2
      split
      · rename_i hl; rw [if_pos hl] at h1; simp at h1
      · simp
  · rename_i hc
    rw [if_neg hc] at h1
    exact absurd h1 hc
theorem IsR.at {w : World} {v : Value} {t : List Nd} (h : IsR w v t) : ∃ p c, v = .slice p t.length c ∧ t.length ≤ c ∧ c ≤ 9223372036854775807 ∧ (0 < t.length → ∃ b o, p = some ⟨b, o, none⟩ ∧ ∀ w', Below w.heap.size w w' → ∀ k (hk : k < t.length), At4 w' b (o + k * 4) t[k]) := by
  obtain ⟨p, c, hv, h1, h2, h3⟩ := h
  refine ⟨p, c, hv, h1, h2, fun hp => ?_⟩
  obtain ⟨b, o, hbo, hc⟩ := h3 hp
  refine ⟨b, o, hbo, fun w' hb k hk => ?_⟩
  have h := hc k hk
  have hlt : b < w.heap.size := World.block_lt_of_cell? w _ h.c0
  exact ⟨(hb.cell (p := ⟨b, _, none⟩) hlt).trans h.c0, (hb.cell (p := ⟨b, _, none⟩) hlt).trans h.c1, (hb.cell (p := ⟨b, _, none⟩) hlt).trans h.c2, (hb.cell (p := ⟨b, _, none⟩) hlt).trans h.c3⟩
set_option maxRecDepth 100000 in
set_option maxHeartbeats 2000000 in
theorem from_any (w : World) (rv : Value) (rs : List Nd) (hR : IsR w rv rs) (hg : ∀ n ∈ rs, Fm.good n) (hl : rs.length ≤ 140737488351232) :
    Calls Tryd.prog 12 #[rv] w fun e w' => IsFrom w w' e (Fm.fr [] rs) ∧ Below w.heap.size w w' := by
  have KN := show Hid (Calls Tryd.prog 20 #[] w fun e w' => e = .returned (.pointer (some ⟨w.heap.size + 1, 0, none⟩)) ∧ Tb w' (w.heap.size + 1) w.heap.size (.slice none 0 0) [] ∧ Below w.heap.size w w') from new_any w
  have KP := show Hid (∀ (w1 : World) (b m : Nat) (v : Value) (t : List Nd), Tb w1 b m v t → ∀ n, Fm.good n → Calls Tryd.prog 21 #[.pointer (some ⟨b, 0, none⟩), .agg #[.int .i64 n.k, .string n.s, .int .i64 n.l, .int .i64 n.r]] w1 fun e w' => e = .returned (.tuple #[.int .i64 (Fm.put t n).1, .int .i64 (Fm.put t n).2.1]) ∧ After w1 b m v (Fm.put t n).2.2 w') from fun w1 b m v t h n hn => put_any w1 h n hn
  have HX := show Hid (Fm.fr [] (rs.drop 0) = Fm.fr [] rs) from by rw [List.drop_zero]; rfl
  have HG := show Hid (∀ n ∈ rs, Fm.good n) from hg
  generalize Fm.fr [] rs = ans at *
  obtain ⟨p, c, rfl, hc1, hc2, hat⟩ := hR.at
  have HA := show Hid _ from hat
  clear hR hg hat
  go_enter Tryd.func12, Tryd.ntmps12
  go_wp2_with fail
  refine KN.out.mono ?_
  rintro e w1 ⟨rfl, hT1, hB1⟩
  have HT1 := show Hid (Tb w1 (w.heap.size + 1) w.heap.size (.slice none 0 0) []) from hT1
  have HB1 := show Hid (Below w.heap.size w w1) from hB1
  clear hT1 hB1 KN
  go_wp2_with fail
  go_loopw [6, 12] (fun _ i wr => ∃ (t : List Nd) (v : Value), t.length ≤ rs.length ∧ i = .int .i64 (t.length : Int) ∧ Hid (Fm.fr t (rs.drop t.length) = ans) ∧ Hid (Tb wr (w.heap.size + 1) w.heap.size v t ∧ ∀ k, v.ownBlock = some k → w.heap.size ≤ k) ∧ Hid (Below w.heap.size w wr)) (fun _ i _ => rs.length - (intOf i).toNat)
  case atStart => exact ⟨[], .slice none 0 0, by simp, rfl, HX, ⟨HT1.out, fun k hk => by simp [Value.ownBlock] at hk⟩, HB1⟩
  case round =>
    obtain ⟨t, v, hk, rfl, HF, HT, HB⟩ := hrel
    clear HX HT1 HB1
    by_cases hlt : t.length < rs.length
    · obtain ⟨rb, ro, rfl, hat⟩ := HA.out (by omega)
      have hA := hat wr HB.out t.length hlt
      have HGN := show Hid (Fm.good rs[t.length]) from HG.out _ (List.getElem_mem hlt)
      have hst := HF.out
      rw [List.drop_eq_getElem_cons hlt, fr_step] at hst
      generalize rs[t.length] = nd at *
      have HST := show Hid _ from hst
      have HGW := show Hid (Fm.put t nd |>.2.1 = 0 → (Fm.put t nd).1 = t.length → (Fm.put t nd).2.2.length = t.length + 1) from fun h1 h2 => put_grew h1 h2
      obtain ⟨nk, ns, nl, nr⟩ := nd
      have a0 := hA.c0; have a1 := hA.c1; have a2 := hA.c2; have a3 := hA.c3
      simp only at a0 a1 a2 a3
      have hki : (t.length : Int) < (rs.length : Int) := by omega
      clear hat hA hst HF
      have KP2 := show Hid (Calls Tryd.prog 21 #[.pointer (some ⟨w.heap.size + 1, 0, none⟩), .agg #[.int .i64 nk, .string ns, .int .i64 nl, .int .i64 nr]] (wr.alloc (Obj.cells #[.int .i64 nk, .string ns, .int .i64 nl, .int .i64 nr] 54)) fun e w' => e = .returned (.tuple #[.int .i64 (Fm.put t ⟨nk, ns, nl, nr⟩).1, .int .i64 (Fm.put t ⟨nk, ns, nl, nr⟩).2.1]) ∧ After (wr.alloc (Obj.cells #[.int .i64 nk, .string ns, .int .i64 nl, .int .i64 nr] 54)) (w.heap.size + 1) w.heap.size v (Fm.put t ⟨nk, ns, nl, nr⟩).2.2 w') from KP.out _ _ _ _ _ (HT.out.1.later (below_alloc _ _)) ⟨nk, ns, nl, nr⟩ HGN.out
      generalize Fm.put t ⟨nk, ns, nl, nr⟩ = pr at *
      obtain ⟨p1, p2, p3⟩ := pr
      simp only at KP2 HGW
      go_wp2_with fail
      refine KP2.out.mono ?_
      rintro e w2 ⟨rfl, v2, hT2, hL2, hK2⟩
      have hk2 : Kp (Ft (w.heap.size + 1) w.heap.size v) wr w2 := (Kp.of_below (below_alloc wr _)).trans hK2 (fun i hi => Or.inl hi)
      have HB2 := show Hid (Below w.heap.size w w2) from HB.out.trans (hk2.below HB.out.size (by
        rintro k (e | e | e)
        · omega
        · omega
        · exact HT.out.2 k e))
      have HT2 := show Hid (Tb w2 (w.heap.size + 1) w.heap.size v2 p3 ∧ ∀ k, v2.ownBlock = some k → w.heap.size ≤ k) from ⟨hT2, fun k hk => by
        rcases hL2 k hk with h | h
        · exact HT.out.2 k h
        · have := HB.out.size
          simp at h
          omega⟩
      clear hT2 hL2 hK2 hk2 KP2 HB HT
      by_cases h0 : p2 = 0
      · subst h0
        have hst := HST.out
        rw [if_pos rfl] at hst
        by_cases h1 : p1 = t.length
        · subst h1
          rw [if_pos rfl] at hst
          have hgw := HGW.out rfl rfl
          have HF2 := show Hid (Fm.fr p3 (rs.drop p3.length) = ans) from by rw [hgw]; exact hst
          have HGL := show Hid (p3.length = t.length + 1) from hgw
          clear hst hgw HST HGW
          go_wp2_with fail
          go_roundw
          case rel => exact ⟨p3, v2, by have := HGL.out; omega, by rw [HGL.out]; go_num, HF2, HT2, HB2⟩
          case measure => first | (simp [intOf]; done) | (simp [intOf]; omega)
        · rw [if_neg h1] at hst
          have hne : (p1 != (t.length : Int)) = true := by simp [h1]
          subst hst
          go_wp2_with fail
          go_ret2
          exact ⟨Or.inr ⟨by simp, rfl⟩, HB2.out⟩
      · have hst := HST.out
        rw [if_neg h0] at hst
        have hne : (p2 != 0) = true := by simp [h0]
        subst hst
        go_wp2_with fail
        go_ret2
        exact ⟨Or.inr ⟨h0, rfl⟩, HB2.out⟩
    · have hke : t.length = rs.length := by omega
      have hst := HF.out
      rw [hke, List.drop_length, Fm.fr] at hst
      subst hst
      have hki : ¬ (t.length : Int) < (rs.length : Int) := by omega
      clear hke
      go_wp2_with fail
      go_ret2
      refine ⟨Or.inl ⟨rfl, w.heap.size + 1, w.heap.size, v, rfl, HT.out.1, ?_⟩, HB.out⟩
      rintro k (e | e | e)
      · omega
      · omega
      · exact HT.out.2 k e
end Go.Proofs.YtkpbpecikibohaaDoor
