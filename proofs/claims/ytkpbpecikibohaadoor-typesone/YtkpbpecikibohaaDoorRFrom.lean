/-
  The document's call From: for every slice of rows that a machine can hold. No other condition.
-/
import Derived.Test.YtkpbpecikibohaaDoorRPutP
namespace Go.Proofs.YtkpbpecikibohaaDoor
open Go.RowKit Go.Maps
open Fm (Nd)

def IsFromR (w w' : World) (e : Ending) (r : Int × List Nd) : Prop :=
  (r.1 = 0 ∧ ∃ C u, e = .returned (.tuple #[.pointer (some ⟨C, 0, none⟩), .int .i64 0]) ∧ Tr w' C u r.2 ∧ ∀ k, Fr C u k → w.heap.size ≤ k) ∨
  (r.1 ≠ 0 ∧ e = .returned (.tuple #[.pointer none, .int .i64 r.1]))
set_option maxRecDepth 100000 in
set_option maxHeartbeats 2000000 in
theorem rfrom_any (w : World) (rv : Value) (rs : List Nd) (hR : IsR w rv rs) (hg : ∀ n ∈ rs, Fm.good n) (hl : rs.length ≤ 140737488351232) :
    Calls Tryd.prog 11 #[rv] w fun e w' => IsFromR w w' e (Fm.fr [] rs) ∧ Below w.heap.size w w' := by
  have KP := show Hid (∀ (w1 : World) (c : Nat) (u : Value) (t : List Nd), Tr w1 c u t → ∀ n, Fm.good n → Calls Tryd.prog 19 #[.pointer (some ⟨c, 0, none⟩), .agg #[.int .i64 n.k, .string n.s, .int .i64 n.l, .int .i64 n.r]] w1 fun e w' => e = .returned (.tuple #[.int .i64 (Fm.put t n).1, .int .i64 (Fm.put t n).2.1]) ∧ AfterR w1 c u (Fm.put t n).2.2 w') from fun w1 c u t h n hn => rput_any w1 h n hn
  have HX := show Hid (Fm.fr [] (rs.drop 0) = Fm.fr [] rs) from by rw [List.drop_zero]; rfl
  have HG := show Hid (∀ n ∈ rs, Fm.good n) from hg
  generalize Fm.fr [] rs = ans at *
  obtain ⟨p, c, rfl, hc1, hc2, hat⟩ := hR.at
  have HA := show Hid (0 < rs.length → ∃ b o, p = some ⟨b, o, none⟩ ∧ ∀ w', Below w.heap.size w w' → ∀ k (hk : k < rs.length), At4 w' b (o + k * 4) rs[k]) from hat
  have HT0 := show Hid (Tr (w.alloc (Obj.cells #[.slice none 0 0] 51)) w.heap.size (.slice none 0 0) []) from ⟨heap_alloc_new _ _, rw_nil _, Fm.ok_nil⟩
  clear hR hg hat
  go_enter Tryd.func11, Tryd.ntmps11
  go_wp2_with fail
  go_loopw [5] (fun i wr => ∃ (t : List Nd) (v : Value), t.length ≤ rs.length ∧ i = .int .i64 (t.length : Int) ∧ Hid (Fm.fr t (rs.drop t.length) = ans) ∧ Hid (Tr wr w.heap.size v t ∧ ∀ k, v.ownBlock = some k → w.heap.size ≤ k) ∧ Hid (Below w.heap.size w wr)) (fun i _ => rs.length - (intOf i).toNat)
  case atStart => exact ⟨[], .slice none 0 0, by simp, rfl, HX, ⟨HT0.out, fun k hk => by simp [Value.ownBlock] at hk⟩, below_alloc _ _⟩
  case round =>
    obtain ⟨t, v, hk, rfl, HF, HT, HB⟩ := hrel
    clear HX HT0
    by_cases hlt : t.length < rs.length
    · obtain ⟨rb, ro, rfl, hat⟩ := HA.out (by omega)
      have hA := hat wr HB.out t.length hlt
      have HGN := show Hid (Fm.good rs[t.length]) from HG.out _ (List.getElem_mem hlt)
      have hst := HF.out
      rw [List.drop_eq_getElem_cons hlt, fr_step] at hst
      generalize rs[t.length] = nd at *
      have HST := show Hid _ from hst
      have HGW := show Hid (Fm.put t nd |>.2.1 = 0 → (Fm.put t nd).1 = t.length → (Fm.put t nd).2.2.length = t.length + 1) from fun h1 h2 => put_grew h1 h2
      obtain ⟨nk, ns, nl, nr⟩ := nd
      have a0 := hA.c0; have a1 := hA.c1; have a2 := hA.c2; have a3 := hA.c3
      simp only at a0 a1 a2 a3
      have hki : (t.length : Int) < (rs.length : Int) := by omega
      clear hat hA hst HF
      have KP2 := show Hid (Calls Tryd.prog 19 #[.pointer (some ⟨w.heap.size, 0, none⟩), .agg #[.int .i64 nk, .string ns, .int .i64 nl, .int .i64 nr]] wr fun e w' => e = .returned (.tuple #[.int .i64 (Fm.put t ⟨nk, ns, nl, nr⟩).1, .int .i64 (Fm.put t ⟨nk, ns, nl, nr⟩).2.1]) ∧ AfterR wr w.heap.size v (Fm.put t ⟨nk, ns, nl, nr⟩).2.2 w') from KP.out _ _ _ _ HT.out.1 ⟨nk, ns, nl, nr⟩ HGN.out
      generalize Fm.put t ⟨nk, ns, nl, nr⟩ = pr at *
      obtain ⟨p1, p2, p3⟩ := pr
      simp only at KP2 HGW
      go_wp2_with fail
      refine KP2.out.mono ?_
      rintro e w2 ⟨rfl, v2, hT2, hL2, hK2⟩
      have HB2 := show Hid (Below w.heap.size w w2) from HB.out.trans (hK2.below HB.out.size (by
        rintro k (e | e)
        · omega
        · exact HT.out.2 k e))
      have HT2 := show Hid (Tr w2 w.heap.size v2 p3 ∧ ∀ k, v2.ownBlock = some k → w.heap.size ≤ k) from ⟨hT2, fun k hk => by
        rcases hL2 k hk with h | h
        · exact HT.out.2 k h
        · have := HB.out.size
          omega⟩
      clear hT2 hL2 hK2 KP2 HB HT
      by_cases h0 : p2 = 0
      · subst h0
        have hst := HST.out
        rw [if_pos rfl] at hst
        by_cases h1 : p1 = t.length
        · subst h1
          rw [if_pos rfl] at hst
          have hgw := HGW.out rfl rfl
          have HF2 := show Hid (Fm.fr p3 (rs.drop p3.length) = ans) from by rw [hgw]; exact hst
          have HGL := show Hid (p3.length = t.length + 1) from hgw
          clear hst hgw HST HGW
          go_wp2_with fail
          go_roundw
          case rel => exact ⟨p3, v2, by have := HGL.out; omega, by rw [HGL.out]; go_num, HF2, HT2, HB2⟩
          case measure => first | (simp [intOf]; done) | (simp [intOf]; omega)
        · rw [if_neg h1] at hst
          have hne : (p1 != (t.length : Int)) = true := by simp [h1]
          subst hst
          go_wp2_with fail
          go_ret2
          exact ⟨Or.inr ⟨by simp, rfl⟩, HB2.out⟩
      · have hst := HST.out
        rw [if_neg h0] at hst
        have hne : (p2 != 0) = true := by simp [h0]
        subst hst
        go_wp2_with fail
        go_ret2
        exact ⟨Or.inr ⟨h0, rfl⟩, HB2.out⟩
    · have hke : t.length = rs.length := by omega
      have hst := HF.out
      rw [hke, List.drop_length, Fm.fr] at hst
      subst hst
      have hki : ¬ (t.length : Int) < (rs.length : Int) := by omega
      clear hke
      go_wp2_with fail
      go_ret2
      refine ⟨Or.inl ⟨rfl, w.heap.size, v, rfl, HT.out.1, ?_⟩, HB.out⟩
      rintro k (e | e)
      · omega
      · exact HT.out.2 k e
end Go.Proofs.YtkpbpecikibohaaDoor
