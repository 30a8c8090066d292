/-
  The law's call Both: two tables of the same rows. No other condition than that a machine can hold the rows.
-/
import Derived.Test.YtkpbpecikibohaaDoorLPair
namespace Go.Proofs.YtkpbpecikibohaaDoor
open Go.RowKit Go.Maps
open Fm (Nd)

def IsBoth (w w' : World) (e : Ending) (r : Int × List Nd) : Prop :=
  (r.1 = 0 ∧ ∃ B M v C u, e = .returned (.tuple #[.pointer (some ⟨B, 0, none⟩), .pointer (some ⟨C, 0, none⟩), .bool true]) ∧ Pair w w' B M v C u r.2 r.2) ∨
  (r.1 ≠ 0 ∧ e = .returned (.tuple #[.pointer none, .pointer none, .bool false]) ∧ Below w.heap.size w w')
set_option maxRecDepth 100000 in
set_option maxHeartbeats 4000000 in
theorem both_any (w : World) (rv : Value) (rs : List Nd) (hR : IsR w rv rs) (hg : ∀ n ∈ rs, Fm.good n) (hl : rs.length * 40 ≤ 140737488351232) (hv : rv = .slice none 0 0 ∨ ∃ a n c, rv = .slice (some a) n c) :
    Calls Tryd.prog 5 #[rv] w fun e w' => IsBoth w w' e (Fm.fr [] rs) := by
  have HRR := show Hid (IsR w rv rs) from hR
  have HG := show Hid (∀ n ∈ rs, Fm.good n) from hg
  have KF := show Hid (∀ (w' : World) (x : Value), IsR w' x rs → Calls Tryd.prog 12 #[x] w' fun e w'' => IsFrom w' w'' e (Fm.fr [] rs) ∧ Below w'.heap.size w' w'') from fun w' x hx => from_any w' x rs hx hg (by omega)
  have KG := show Hid (∀ (w' : World) (x : Value), IsR w' x rs → Calls Tryd.prog 11 #[x] w' fun e w'' => IsFromR w' w'' e (Fm.fr [] rs) ∧ Below w'.heap.size w' w'') from fun w' x hx => rfrom_any w' x rs hx hg (by omega)
  generalize Fm.fr [] rs = ans at *
  obtain ⟨i0, hi, hz0, hz1, hz2⟩ := info_parts info_node
  rcases hv with rfl | ⟨a, n, c, rfl⟩
  · have hrs : rs = [] := by
      obtain ⟨p, c, hv, _⟩ := hR
      exact List.eq_nil_of_length_eq_zero (Value.slice.inj hv).2.1.symm
    subst hrs
    clear hR hg
    go_enter Tryd.func5, Tryd.ntmps5
    go_wp2_with fail
    have HB1 := show Hid (Below w.heap.size w (w.alloc (Obj.cells #[] 54))) from below_alloc _ _
    have HV1 := show Hid (IsR (w.alloc (Obj.cells #[] 54)) (.slice (some ⟨w.heap.size, 0, none⟩) 0 0) []) from ⟨_, 0, rfl, by simp, by omega, fun h => by simp at h⟩
    have HR1 := show Hid (IsR (w.alloc (Obj.cells #[] 54)) (.slice none 0 0) []) from HRR.out.later (below_alloc _ _)
    generalize w.alloc (Obj.cells #[] 54) = w1 at *
    clear HRR
    refine (KG.out _ _ HR1.out).mono ?_
    rintro e w2 ⟨hF, hb2⟩
    have HB2 := show Hid (Below w.heap.size w w2) from HB1.out.trans (hb2.mono HB1.out.size)
    have HV2 := show Hid (IsR w2 (.slice (some ⟨w.heap.size, 0, none⟩) 0 0) []) from HV1.out.later hb2
    have HLT := show Hid (w.heap.size ≤ w1.heap.size) from HB1.out.size
    rcases hF with ⟨h0, C, u, rfl, hT, hf⟩ | ⟨h0, rfl⟩
    · obtain ⟨a1, a2⟩ := ans
      simp only at h0 hT
      subst h0
      have HT := show Hid (Tr w2 C u a2 ∧ ∀ k, Fr C u k → w.heap.size ≤ k) from ⟨hT, fun k hk => Nat.le_trans HLT.out (hf k hk)⟩
      clear hT hf hb2 KG HV1 HR1
      go_wp2_with fail
      refine (KF.out _ _ HV2.out).mono ?_
      rintro e w3 ⟨hF, hb3⟩
      rcases hF with ⟨h0, B, M, v, rfl, hT3, hf3⟩ | ⟨h0, rfl⟩
      · have HP := show Hid (Pair w w3 B M v C u a2 a2) from ⟨hT3, HT.out.1.later hb3, fun k hk e => by
          have h1 := hf3 k (Or.inr (Or.inr hk))
          have h2 := (HT.out.1.row.lt k e).1
          omega, fun k hk => Nat.le_trans HB2.out.size (hf3 k hk), HT.out.2, HB2.out.trans (hb3.mono HB2.out.size)⟩
        clear hT3 hf3 hb3 KF
        go_wp2_with fail
        refine bodyPost_ret (v := .tuple #[.pointer (some ⟨B, 0, none⟩), .pointer (some ⟨C, 0, none⟩), .bool true]) (by simp [results, Tryd.results5, go_sem]) rfl ?_
        exact Or.inl ⟨rfl, B, M, v, C, u, rfl, HP.out⟩
      · exact absurd rfl h0
    · have hne : (ans.1 != 0) = true := by simp [h0]
      clear hb2
      go_wp2_with fail
      refine bodyPost_ret (v := .tuple #[.pointer none, .pointer none, .bool false]) (by simp [results, Tryd.results5, go_sem]) rfl ?_
      exact Or.inr ⟨h0, rfl, HB2.out⟩
  · have hn : n = rs.length := by
      obtain ⟨p, c, hv, _⟩ := hR
      exact (Value.slice.inj hv).2.1
    subst hn
    have HSRC := show Hid (∀ j u, (cellsOf rs)[j]? = some u → (w.alloc (Obj.cells #[] 54)).cell? (a.add j) = some u) from src_any (hR.later (below_alloc _ _))
    obtain ⟨xs, hxs⟩ : ∃ xs, xs = cellsOf rs := ⟨_, rfl⟩
    have HXS := show Hid (xs = cellsOf rs) from hxs
    rw [← hxs] at HSRC
    have HXL := show Hid (xs.length = rs.length * 4) from by rw [hxs]; exact cellsOf_len rs
    have HX1 := show Hid (∀ u ∈ xs, u.oneCell' = true) from by rw [hxs]; exact cellsOf_one rs
    clear hxs hR hg
    go_enter Tryd.func5, Tryd.ntmps5
    go_wp2_with (at_builtin; refine wpList_append_own_at _ rfl (.tmp 10) (.tmp 11) 22 rfl w.heap.size 54 i0 _ 4 40 Tryd.underlying22 hi hz0 hz1 hz2 rfl (by decide) (.slice (some ⟨w.heap.size, 0, none⟩) 0 0) 0 [] rfl (World.ownsRow_made w #[] 0 (Nat.le_refl _) (Nat.zero_le _) rfl) a rs.length c xs rfl HXL.out HSRC.out HX1.out (by unfold maxLen; omega) (by omega) (by simp) ?_)
    intro v' w1 hown hgr hnil hat
    have hbel : Below w.heap.size w w1 := (below_alloc _ _).grown hgr (by simp) (fun k hk => by cases hk; exact Nat.le_refl _)
    have hrw : Rw w1 v' rs := (rw_of_own (by rw [← HXS.out]; exact hown)).1
    have HB1 := show Hid (Below w.heap.size w w1) from hbel
    have HV1 := show Hid (IsR w1 v' rs) from hrw.isR
    have HR1 := show Hid (IsR w1 (.slice (some a) rs.length c) rs) from HRR.out.later hbel
    clear hown hgr hnil hat hbel hrw HXS HXL HX1 HSRC HRR
    go_wp2_with fail
    refine (KG.out _ _ HR1.out).mono ?_
    rintro e w2 ⟨hF, hb2⟩
    have HB2 := show Hid (Below w.heap.size w w2) from HB1.out.trans (hb2.mono HB1.out.size)
    have HV2 := show Hid (IsR w2 v' rs) from HV1.out.later hb2
    have HLT := show Hid (w.heap.size ≤ w1.heap.size) from HB1.out.size
    rcases hF with ⟨h0, C, u, rfl, hT, hf⟩ | ⟨h0, rfl⟩
    · obtain ⟨a1, a2⟩ := ans
      simp only at h0 hT
      subst h0
      have HT := show Hid (Tr w2 C u a2 ∧ ∀ k, Fr C u k → w.heap.size ≤ k) from ⟨hT, fun k hk => Nat.le_trans HLT.out (hf k hk)⟩
      clear hT hf hb2 KG HV1 HR1
      go_wp2_with fail
      refine (KF.out _ _ HV2.out).mono ?_
      rintro e w3 ⟨hF, hb3⟩
      rcases hF with ⟨h0, B, M, v, rfl, hT3, hf3⟩ | ⟨h0, rfl⟩
      · have HP := show Hid (Pair w w3 B M v C u a2 a2) from ⟨hT3, HT.out.1.later hb3, fun k hk e => by
          have h1 := hf3 k (Or.inr (Or.inr hk))
          have h2 := (HT.out.1.row.lt k e).1
          omega, fun k hk => Nat.le_trans HB2.out.size (hf3 k hk), HT.out.2, HB2.out.trans (hb3.mono HB2.out.size)⟩
        clear hT3 hf3 hb3 KF
        go_wp2_with fail
        refine bodyPost_ret (v := .tuple #[.pointer (some ⟨B, 0, none⟩), .pointer (some ⟨C, 0, none⟩), .bool true]) (by simp [results, Tryd.results5, go_sem]) rfl ?_
        exact Or.inl ⟨rfl, B, M, v, C, u, rfl, HP.out⟩
      · exact absurd rfl h0
    · have hne : (ans.1 != 0) = true := by simp [h0]
      clear hb2
      go_wp2_with fail
      refine bodyPost_ret (v := .tuple #[.pointer none, .pointer none, .bool false]) (by simp [results, Tryd.results5, go_sem]) rfl ?_
      exact Or.inr ⟨h0, rfl, HB2.out⟩
end Go.Proofs.YtkpbpecikibohaaDoor
