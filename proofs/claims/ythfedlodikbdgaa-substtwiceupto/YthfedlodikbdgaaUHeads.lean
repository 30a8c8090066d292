/-
  The law's call heads: true. No condition.
-/
import Derived.Test.YthfedlodikbdgaaUPatC
import Derived.Test.YthfedlodikbdgaaURep
import Derived.Test.YthfedlodikbdgaaUSim
import Derived.Test.YthfedlodikbdgaaUHyps
namespace Go.Proofs.Ythfedlodikbdgaa
open Go.RowKit Go.Maps
open Fm (Nd)

/-- A table of the call's own, made since the world w. -/
def OwnT (w wi : World) (b m : Nat) (v : Value) (t : List Nd) : Prop := Tb wi b m v t ∧ (∀ k, Ft b m v k → w.heap.size ≤ k) ∧ Below w.heap.size w wi
theorem OwnT.after {w wi w2 : World} {b m : Nat} {v : Value} {t t' : List Nd} (h : OwnT w wi b m v t) (ha : After wi b m v t' w2) : ∃ v', OwnT w w2 b m v' t' := by
  obtain ⟨v', hT, hL, hK⟩ := ha
  refine ⟨v', hT, ?_, h.2.2.trans (hK.below h.2.2.size h.2.1)⟩
  rintro k (e | e | e)
  · exact h.2.1 k (Or.inl e)
  · exact h.2.1 k (Or.inr (Or.inl e))
  · rcases hL k e with h1 | h1
    · exact h.2.1 k (Or.inr (Or.inr h1))
    · exact Nat.le_trans h.2.2.size h1
theorem OwnT.later {w wi w2 : World} {b m : Nat} {v : Value} {t : List Nd} (h : OwnT w wi b m v t) (hb : Below wi.heap.size wi w2) : OwnT w w2 b m v t := ⟨h.1.later hb, h.2.1, h.2.2.trans (hb.mono h.2.2.size)⟩
/-- A row of the caller's own that no table holds. -/
def LK (wi : World) (b m : Nat) (v sv : Value) : Prop := IsH wi sv [(⟨#[112]⟩, 1), (⟨#[113]⟩, 0)] ∧ ∀ k, sv.ownBlock = some k → ¬ Ft b m v k
theorem LK.later {wi w2 : World} {b m : Nat} {v sv : Value} (h : LK wi b m v sv) (hb : Below wi.heap.size wi w2) : LK w2 b m v sv := ⟨h.1.later hb, h.2⟩
theorem isH_keep {w w' : World} {v : Value} {l : Sb.Hs} (h : IsH w v l) (hk : ∀ k, v.ownBlock = some k → k < w.heap.size → w'.heap[k]? = w.heap[k]?) : IsH w' v l := by
  obtain ⟨p, c, rfl, h1, h2⟩ := h
  refine ⟨p, c, rfl, h1, fun k hk' => ?_⟩
  obtain ⟨b, o, rfl, e1, e2⟩ := h2 k hk'
  have hb := hk b rfl (World.block_lt_of_cell? w _ e1)
  exact ⟨b, o, rfl, (World.cell?_of_block (a := ⟨b, _, none⟩) hb).trans e1, (World.cell?_of_block (a := ⟨b, _, none⟩) hb).trans e2⟩
theorem isH_lt {w : World} {v : Value} {l : Sb.Hs} (h : IsH w v l) (hl : l ≠ []) : ∀ k, v.ownBlock = some k → k < w.heap.size := by
  obtain ⟨p, c, rfl, h1, h2⟩ := h
  intro k hk
  cases l with
  | nil => exact absurd rfl hl
  | cons x l =>
    obtain ⟨b, o, rfl, e1, _⟩ := h2 0 (by simp)
    cases hk
    exact World.block_lt_of_cell? w _ e1
theorem own_lk1 {w wi w2 : World} {b m : Nat} {v v' sv : Value} {t t' : List Nd} (hO : OwnT w wi b m v t) (hL : LK wi b m v sv) (hT : Tb w2 b m v' t') (hLi : Lies wi.heap.size v v') (hK : Kp (Ft b m v) wi w2) : OwnT w w2 b m v' t' ∧ LK w2 b m v' sv := by
  obtain ⟨v'', hO2⟩ := hO.after ⟨v', hT, hLi, hK⟩
  refine ⟨⟨hT, ?_, hO2.2.2⟩, isH_keep hL.1 fun k hk hlt => hK.block k hlt (hL.2 k hk), fun k hk hf => ?_⟩
  · rintro k (e | e | e)
    · exact hO.2.1 k (Or.inl e)
    · exact hO.2.1 k (Or.inr (Or.inl e))
    · rcases hLi k e with h1 | h1
      · exact hO.2.1 k (Or.inr (Or.inr h1))
      · exact Nat.le_trans hO.2.2.size h1
  · rcases hf with e | e | e
    · exact hL.2 k hk (Or.inl e)
    · exact hL.2 k hk (Or.inr (Or.inl e))
    · rcases hLi k e with h1 | h1
      · exact hL.2 k hk (Or.inr (Or.inr h1))
      · have := isH_lt hL.1 (by simp) k hk
        omega
theorem own_lk {w wi w2 : World} {b m : Nat} {v sv : Value} {t t' : List Nd} (hO : OwnT w wi b m v t) (hL : LK wi b m v sv) (hA : After wi b m v t' w2) : ∃ v', OwnT w w2 b m v' t' ∧ LK w2 b m v' sv := by
  obtain ⟨v', hT, hLi, hK⟩ := hA
  exact ⟨v', own_lk1 hO hL hT hLi hK⟩
theorem own_n4 {w wi w2 : World} {b m g : Nat} {v sv : Value} {t t' : List Nd} {n : Nd} (hO : OwnT w wi b m v t) (hL : LK wi b m v sv) (hF : ¬ Ft b m v g) (hN : N4 wi g n) (hA : After wi b m v t' w2) : N4 w2 g n ∧ ∃ v', OwnT w w2 b m v' t' ∧ LK w2 b m v' sv ∧ ¬ Ft b m v' g := by
  obtain ⟨v', hT, hLi, hK⟩ := hA
  obtain ⟨h1, h2⟩ := own_lk1 hO hL hT hLi hK
  refine ⟨(hK.block g (lt_of_block hN) hF).trans hN, v', h1, h2, fun hf => ?_⟩
  rcases hf with e | e | e
  · exact hF (Or.inl e)
  · exact hF (Or.inr (Or.inl e))
  · rcases hLi g e with h | h
    · exact hF (Or.inr (Or.inr h))
    · have := lt_of_block hN
      omega
def h1 : List Nd := [atomN ⟨#[112]⟩]
def h2 : List Nd := [atomN ⟨#[112]⟩, atomN ⟨#[113]⟩]
def h3 : List Nd := h2 ++ [joinN 5 0 1]
def h4 : List Nd := h3 ++ [joinN 5 1 0]
def h5 : List Nd := h4 ++ [joinN 5 1 1]
def h7 : List Nd := h5 ++ [Fm.bot, joinN 5 5 5]
def h8 : List Nd := h7 ++ [joinN 5 0 0]
theorem q1 : Fm.put [] (atomN ⟨#[112]⟩) = (0, 0, h1) := by decide +kernel
theorem q2 : Fm.put h1 (atomN ⟨#[113]⟩) = (1, 0, h2) := by decide +kernel
theorem q3 : Fm.put h2 (joinN 5 0 1) = (2, 0, h3) := by decide +kernel
theorem q4 : Sb.putR h3 2 [(⟨#[112]⟩, 1), (⟨#[113]⟩, 0)] = (3, 0, h4) := by decide +kernel
theorem q5 : Fm.put h4 (joinN 5 1 0) = (3, 0, h4) := by decide +kernel
theorem q6 : (Sb.mrun h4 (Fm.below h4 2).reverse 2 3).2 = ([(⟨#[113]⟩, 0), (⟨#[112]⟩, 1)], true) ∧ Sb.refR h4 [2, 3] = 0 := by decide +kernel
theorem srtPQ : srt [(⟨#[113]⟩, 0), (⟨#[112]⟩, 1)] = [(⟨#[112]⟩, 1), (⟨#[113]⟩, 0)] := by
  refine srt_eq (by decide +kernel) (List.Perm.swap _ _ _) ?_
  unfold Srt
  simp only [ByteArray.toList_eq]
  decide +kernel
theorem q6' : matchR h4 2 3 = ([(⟨#[112]⟩, 1), (⟨#[113]⟩, 0)], true, 0) := by
  unfold matchR
  rw [if_pos q6.2, show (2 : Int).toNat = 2 from rfl, q6.1, if_pos rfl, srtPQ]
theorem q7 : Fm.put h4 (joinN 5 1 1) = (4, 0, h5) := by decide +kernel
theorem q8 : Sb.simR h5 4 = (6, 0, h7) := by decide +kernel
theorem q9 : nodeOf h7 6 = joinN 5 5 5 ∧ Fm.has h7 6 = true := by decide +kernel
theorem q10 : Sb.putR h7 2 [(⟨#[112]⟩, 0), (⟨#[112]⟩, 0)] = (0, 70, h7) := by decide +kernel
theorem q11 : Sb.repR h7 2 1 0 = (7, 0, h8) := by decide +kernel
theorem q12 : Fm.put h8 (joinN 5 0 0) = (7, 0, h8) := by decide +kernel
theorem i0 (x : Int) (h : 0 ≤ x) (h' : x ≤ 1024) : Fm.i64 x := Fm.i64_small h h'
set_option maxRecDepth 100000 in
set_option maxHeartbeats 4000000 in
theorem heads_any (w : World) : Calls Try.prog 10 #[] w fun e w' => e = .returned (.bool true) ∧ Below w.heap.size w w' := by
  have KN := show Hid (Calls Try.prog 32 #[] w fun e w' => e = .returned (.pointer (some ⟨w.heap.size + 1, 0, none⟩)) ∧ Tb w' (w.heap.size + 1) w.heap.size (.slice none 0 0) [] ∧ Below w.heap.size w w') from new_any w
  go_enter Try.func10, Try.ntmps10
  go_wp2_with fail
  refine KN.out.mono ?_
  rintro e w0 ⟨rfl, hT0, hB0⟩
  have hft : ∀ k, Ft (w.heap.size + 1) w.heap.size (.slice none 0 0) k → w.heap.size ≤ k := by
    rintro k (e | e | e)
    · omega
    · omega
    · cases e
  have H0 := show Hid (∃ v, OwnT w w0 (w.heap.size + 1) w.heap.size v []) from ⟨_, hT0, hft, hB0⟩
  clear KN hT0 hB0 hft
  obtain ⟨B, hB⟩ : ∃ B, B = w.heap.size + 1 := ⟨_, rfl⟩
  rw [← hB] at H0 ⊢
  clear hB
  obtain ⟨v1, hO1⟩ := H0.out
  have K1 := show Hid (Calls Try.prog 33 #[.pointer (some ⟨B, 0, none⟩), .string ⟨#[112]⟩] w0 fun e w' => e = .returned (.tuple #[.int .i64 0, .int .i64 0]) ∧ ∃ v', OwnT w w' B w.heap.size v' h1) from by
    have h := atom_any w0 hO1.1 ⟨#[112]⟩ (by decide)
    rw [q1] at h
    exact h.mono fun e w' ⟨he, hA⟩ => ⟨he, hO1.after hA⟩
  clear hO1 H0
  go_wp2_with fail
  refine K1.out.mono ?_
  rintro e w1 ⟨rfl, hv1⟩
  have H1 := show Hid (∃ v', OwnT w w1 B w.heap.size v' h1) from hv1
  clear K1 hv1
  obtain ⟨v2, hO2⟩ := H1.out
  have K2 := show Hid (Calls Try.prog 33 #[.pointer (some ⟨B, 0, none⟩), .string ⟨#[113]⟩] w1 fun e w' => e = .returned (.tuple #[.int .i64 1, .int .i64 0]) ∧ ∃ v', OwnT w w' B w.heap.size v' h2) from by
    have h := atom_any w1 hO2.1 ⟨#[113]⟩ (by decide)
    rw [q2] at h
    exact h.mono fun e w' ⟨he, hA⟩ => ⟨he, hO2.after hA⟩
  clear hO2 H1
  go_wp2_with fail
  refine K2.out.mono ?_
  rintro e w2 ⟨rfl, hv2⟩
  have H2 := show Hid (∃ v', OwnT w w2 B w.heap.size v' h2) from hv2
  clear K2 hv2
  obtain ⟨v3, hO3⟩ := H2.out
  have K3 := show Hid (Calls Try.prog 34 #[.pointer (some ⟨B, 0, none⟩), .int .i64 0, .int .i64 1] w2 fun e w' => e = .returned (.tuple #[.int .i64 2, .int .i64 0]) ∧ ∃ v', OwnT w w' B w.heap.size v' h3) from by
    have h := imp_any w2 hO3.1 0 1 (i0 _ (by decide) (by decide)) (i0 _ (by decide) (by decide))
    rw [q3] at h
    exact h.mono fun e w' ⟨he, hA⟩ => ⟨he, hO3.after hA⟩
  clear hO3 H2
  go_wp2_with fail
  refine K3.out.mono ?_
  rintro e w3 ⟨rfl, hv3⟩
  have H3 := show Hid (∃ v', OwnT w w3 B w.heap.size v' h3) from hv3
  clear K3 hv3
  obtain ⟨v4, hO4⟩ := H3.out
  have K4 := show Hid (Calls Try.prog 11 #[.pointer (some ⟨B, 0, none⟩), .int .i64 2, .slice (some ⟨w3.heap.size, 0, none⟩) 2 2] (w3.alloc (Obj.cells #[.string ⟨#[112]⟩, .int .i64 1, .string ⟨#[113]⟩, .int .i64 0] 39)) fun e w' => e = .returned (.tuple #[.int .i64 3, .int .i64 0]) ∧ ∃ v', OwnT w w' B w.heap.size v' h4) from by
    have h := Put_any _ (hO4.later (below_alloc _ _)).1 2 _ [(⟨#[112]⟩, 1), (⟨#[113]⟩, 0)] (isH2 w3 ⟨#[112]⟩ 1 ⟨#[113]⟩ 0) (fun x hx => by simp at hx; rcases hx with rfl | rfl <;> exact ⟨by decide, i0 _ (by decide) (by decide)⟩)
    rw [q4] at h
    exact h.mono fun e w' ⟨he, hA⟩ => ⟨he, (hO4.later (below_alloc _ _)).after hA⟩
  clear hO4 H3
  go_wp2_with fail
  refine K4.out.mono ?_
  rintro e w4 ⟨rfl, hv4⟩
  have H4 := show Hid (∃ v', OwnT w w4 B w.heap.size v' h4) from hv4
  clear K4 hv4
  obtain ⟨v5, hO5⟩ := H4.out
  have K5 := show Hid (Calls Try.prog 34 #[.pointer (some ⟨B, 0, none⟩), .int .i64 1, .int .i64 0] w4 fun e w' => e = .returned (.tuple #[.int .i64 3, .int .i64 0]) ∧ ∃ v', OwnT w w' B w.heap.size v' h4) from by
    have h := imp_any w4 hO5.1 1 0 (i0 _ (by decide) (by decide)) (i0 _ (by decide) (by decide))
    rw [q5] at h
    exact h.mono fun e w' ⟨he, hA⟩ => ⟨he, hO5.after hA⟩
  clear hO5 H4
  go_wp2_with fail
  refine K5.out.mono ?_
  rintro e w5 ⟨rfl, hv5⟩
  have H5 := show Hid (∃ v', OwnT w w5 B w.heap.size v' h4) from hv5
  clear K5 hv5
  obtain ⟨v6, hO6⟩ := H5.out
  have K6 := show Hid (Calls Try.prog 19 #[.pointer (some ⟨B, 0, none⟩), .int .i64 2, .int .i64 3] w5 fun e w' => ∃ pl cl, e = .returned (.tuple #[.slice pl 2 cl, .bool true, .int .i64 0]) ∧ ∃ v', OwnT w w' B w.heap.size v' h4 ∧ LK w' B w.heap.size v' (.slice pl 2 cl)) from by
    have h := Match_any w5 hO6.1 2 3
    rw [q6'] at h
    refine h.mono fun e w' ⟨sv, he, hI, hge, hb⟩ => ?_
    obtain ⟨pl, cl, rfl, h1, h2⟩ := hI
    exact ⟨pl, cl, he, _, hO6.later hb, ⟨pl, cl, rfl, h1, h2⟩, fun k hk hf => by
      have h3 := hge k hk
      have h4 := hO6.1.foot k hf
      omega⟩
  clear hO6 H5
  go_wp2_with fail
  refine K6.out.mono ?_
  rintro e w6 ⟨pl, cl, rfl, hv6⟩
  have H6 := show Hid (∃ v', OwnT w w6 B w.heap.size v' h4 ∧ LK w6 B w.heap.size v' (.slice pl 2 cl)) from hv6
  clear K6 hv6
  obtain ⟨v7, hO7, hL7⟩ := H6.out
  have K7 := show Hid (Calls Try.prog 34 #[.pointer (some ⟨B, 0, none⟩), .int .i64 1, .int .i64 1] w6 fun e w' => e = .returned (.tuple #[.int .i64 4, .int .i64 0]) ∧ ∃ v', OwnT w w' B w.heap.size v' h5 ∧ LK w' B w.heap.size v' (.slice pl 2 cl)) from by
    have h := imp_any w6 hO7.1 1 1 (i0 _ (by decide) (by decide)) (i0 _ (by decide) (by decide))
    rw [q7] at h
    exact h.mono fun e w' ⟨he, hA⟩ => ⟨he, own_lk hO7 hL7 hA⟩
  clear hO7 hL7 H6
  go_wp2_with fail
  refine K7.out.mono ?_
  rintro e w7 ⟨rfl, hv7⟩
  have H7 := show Hid (∃ v', OwnT w w7 B w.heap.size v' h5 ∧ LK w7 B w.heap.size v' (.slice pl 2 cl)) from hv7
  clear K7 hv7
  obtain ⟨v8, hO8, hL8⟩ := H7.out
  have K8 := show Hid (Calls Try.prog 21 #[.pointer (some ⟨B, 0, none⟩), .int .i64 4] w7 fun e w' => e = .returned (.tuple #[.int .i64 6, .int .i64 0]) ∧ ∃ v', OwnT w w' B w.heap.size v' h7 ∧ LK w' B w.heap.size v' (.slice pl 2 cl)) from by
    have h := Simple_any w7 hO8.1 4
    rw [q8] at h
    exact h.mono fun e w' ⟨he, hA⟩ => ⟨he, own_lk hO8 hL8 hA⟩
  clear hO8 hL8 H7
  go_wp2_with fail
  refine K8.out.mono ?_
  rintro e w8 ⟨rfl, hv8⟩
  have H8 := show Hid (∃ v', OwnT w w8 B w.heap.size v' h7 ∧ LK w8 B w.heap.size v' (.slice pl 2 cl)) from hv8
  clear K8 hv8
  obtain ⟨v9, hO9, hL9⟩ := H8.out
  have K9 := show Hid (Calls Try.prog 28 #[.pointer (some ⟨B, 0, none⟩), .int .i64 6] w8 fun e w' => e = .returned (.tuple #[.agg #[.int .i64 5, .string ⟨#[]⟩, .int .i64 5, .int .i64 5], .bool true]) ∧ ∃ v', OwnT w w' B w.heap.size v' h7 ∧ LK w' B w.heap.size v' (.slice pl 2 cl)) from by
    have h := node_any w8 hO9.1 6
    rw [q9.1, q9.2] at h
    exact h.mono fun e w' ⟨he, hb⟩ => ⟨he, _, hO9.later hb, hL9.later hb⟩
  clear hO9 hL9 H8
  go_wp2_with fail
  refine K9.out.mono ?_
  rintro e wn ⟨rfl, hvn⟩
  obtain ⟨w9, hw9⟩ : ∃ w9, w9 = wn.alloc (Obj.cells #[.int .i64 5, .string ⟨#[]⟩, .int .i64 5, .int .i64 5] 59) := ⟨_, rfl⟩
  have HN := show Hid (N4 w9 wn.heap.size ⟨5, ⟨#[]⟩, 5, 5⟩) from by rw [hw9]; exact heap_alloc_new _ _
  have hs9 : w9.heap.size = wn.heap.size + 1 := by rw [hw9]; simp
  have H9 := show Hid (∃ v', OwnT w w9 B w.heap.size v' h7 ∧ LK w9 B w.heap.size v' (.slice pl 2 cl) ∧ ¬ Ft B w.heap.size v' wn.heap.size) from by
    obtain ⟨v', h1, h2⟩ := hvn
    rw [hw9]
    exact ⟨v', h1.later (below_alloc _ _), h2.later (below_alloc _ _), fun hf => by have := h1.1.foot _ hf; omega⟩
  clear K9 hvn
  obtain ⟨v10, hO10, hL10, hF10⟩ := H9.out
  have K10 := show Hid (Calls Try.prog 11 #[.pointer (some ⟨B, 0, none⟩), .int .i64 2, .slice (some ⟨wn.heap.size + 1, 0, none⟩) 2 2] (w9.alloc (Obj.cells #[.string ⟨#[112]⟩, .int .i64 0, .string ⟨#[112]⟩, .int .i64 0] 39)) fun e w' => e = .returned (.tuple #[.int .i64 0, .int .i64 70]) ∧ N4 w' wn.heap.size ⟨5, ⟨#[]⟩, 5, 5⟩ ∧ ∃ v', OwnT w w' B w.heap.size v' h7 ∧ LK w' B w.heap.size v' (.slice pl 2 cl) ∧ ¬ Ft B w.heap.size v' wn.heap.size) from by
    have h := Put_any _ (hO10.later (below_alloc _ _)).1 2 _ [(⟨#[112]⟩, 0), (⟨#[112]⟩, 0)] (show IsH (w9.alloc (Obj.cells #[.string ⟨#[112]⟩, .int .i64 0, .string ⟨#[112]⟩, .int .i64 0] 39)) (.slice (some ⟨wn.heap.size + 1, 0, none⟩) 2 2) [(⟨#[112]⟩, 0), (⟨#[112]⟩, 0)] from by rw [← hs9]; exact isH2 w9 ⟨#[112]⟩ 0 ⟨#[112]⟩ 0) (fun x hx => by simp at hx; subst hx; exact ⟨by decide, i0 _ (by decide) (by decide)⟩)
    rw [q10] at h
    exact h.mono fun e w' ⟨he, hA⟩ => ⟨he, own_n4 (hO10.later (below_alloc _ _)) (hL10.later (below_alloc _ _)) hF10 ((Below.heap_alloc _ _ _ (lt_of_block HN.out)).trans HN.out) hA⟩
  clear hO10 hL10 hF10 H9 HN hs9
  go_wp2_with fail
  rw [← hw9]
  refine K10.out.mono ?_
  clear hw9
  rintro e w10 ⟨rfl, hN10, hv10⟩
  have HN := show Hid (N4 w10 wn.heap.size ⟨5, ⟨#[]⟩, 5, 5⟩) from hN10
  have H10 := show Hid (∃ v', OwnT w w10 B w.heap.size v' h7 ∧ LK w10 B w.heap.size v' (.slice pl 2 cl) ∧ ¬ Ft B w.heap.size v' wn.heap.size) from hv10
  clear K10 hv10 hN10
  obtain ⟨v11, hO11, hL11, hF11⟩ := H10.out
  have K11 := show Hid (Calls Try.prog 15 #[.pointer (some ⟨B, 0, none⟩), .int .i64 2, .int .i64 1, .int .i64 0] w10 fun e w' => e = .returned (.tuple #[.int .i64 7, .int .i64 0]) ∧ N4 w' wn.heap.size ⟨5, ⟨#[]⟩, 5, 5⟩ ∧ ∃ v', OwnT w w' B w.heap.size v' h8 ∧ LK w' B w.heap.size v' (.slice pl 2 cl) ∧ ¬ Ft B w.heap.size v' wn.heap.size) from by
    have h := Replace_any w10 hO11.1 2 1 0
    rw [q11] at h
    exact h.mono fun e w' ⟨he, hA⟩ => ⟨he, own_n4 hO11 hL11 hF11 HN.out hA⟩
  clear hO11 hL11 hF11 H10 HN
  go_wp2_with fail
  refine K11.out.mono ?_
  rintro e w11 ⟨rfl, hN11, hv11⟩
  have HN := show Hid (N4 w11 wn.heap.size ⟨5, ⟨#[]⟩, 5, 5⟩) from hN11
  have H11 := show Hid (∃ v', OwnT w w11 B w.heap.size v' h8 ∧ LK w11 B w.heap.size v' (.slice pl 2 cl) ∧ ¬ Ft B w.heap.size v' wn.heap.size) from hv11
  clear K11 hv11 hN11
  obtain ⟨v12, hO12, hL12, hF12⟩ := H11.out
  have K12 := show Hid (Calls Try.prog 34 #[.pointer (some ⟨B, 0, none⟩), .int .i64 0, .int .i64 0] w11 fun e w' => e = .returned (.tuple #[.int .i64 7, .int .i64 0]) ∧ N4 w' wn.heap.size ⟨5, ⟨#[]⟩, 5, 5⟩ ∧ ∃ v', OwnT w w' B w.heap.size v' h8 ∧ LK w' B w.heap.size v' (.slice pl 2 cl) ∧ ¬ Ft B w.heap.size v' wn.heap.size) from by
    have h := imp_any w11 hO12.1 0 0 (i0 _ (by decide) (by decide)) (i0 _ (by decide) (by decide))
    rw [q12] at h
    exact h.mono fun e w' ⟨he, hA⟩ => ⟨he, own_n4 hO12 hL12 hF12 HN.out hA⟩
  clear hO12 hL12 hF12 H11 HN
  go_wp2_with fail
  refine K12.out.mono ?_
  rintro e w12 ⟨rfl, hN12, hv12⟩
  have HN := show Hid (N4 w12 wn.heap.size ⟨5, ⟨#[]⟩, 5, 5⟩) from hN12
  have H12 := show Hid (∃ v', OwnT w w12 B w.heap.size v' h8 ∧ LK w12 B w.heap.size v' (.slice pl 2 cl) ∧ ¬ Ft B w.heap.size v' wn.heap.size) from hv12
  clear K12 hv12 hN12
  obtain ⟨v13, hO13, hL13, _⟩ := H12.out
  obtain ⟨w13, hw13⟩ : ∃ w13, w13 = w12.alloc (Obj.cells #[.string ⟨#[112]⟩, .int .i64 1, .string ⟨#[113]⟩, .int .i64 0] 39) := ⟨_, rfl⟩
  have KH := show Hid (Calls Try.prog 14 #[.slice pl 2 cl, .slice (some ⟨w12.heap.size, 0, none⟩) 2 2] w13 fun e w' => e = .returned (.bool true) ∧ N4 w' wn.heap.size ⟨5, ⟨#[]⟩, 5, 5⟩ ∧ Below w.heap.size w w') from by
    rw [hw13]
    exact (hyps_eq _ _ _ [(⟨#[112]⟩, 1), (⟨#[113]⟩, 0)] (hL13.1.later (below_alloc _ _)) (isH2 w12 ⟨#[112]⟩ 1 ⟨#[113]⟩ 0)).mono fun e w' ⟨he, hb⟩ => ⟨he, (hb.block _ (lt_of_block ((Below.heap_alloc _ _ _ (lt_of_block HN.out)).trans HN.out))).trans ((Below.heap_alloc _ _ _ (lt_of_block HN.out)).trans HN.out), (hO13.2.2.alloc hO13.2.2.size _).trans (hb.mono (hO13.2.2.alloc hO13.2.2.size _).size)⟩
  clear hO13 hL13 H12 HN
  go_wp2_with fail
  rw [← hw13]
  refine KH.out.mono ?_
  rintro e w14 ⟨rfl, hN14, hb14⟩
  have HB := show Hid (Below w.heap.size w w14) from hb14
  have c0 := hN14.c0
  have c2 := hN14.c2
  have c3 := hN14.c3
  simp only at c0 c2 c3
  clear KH hN14 hb14 hw13
  go_wp2_with fail
  go_ret
  exact ⟨rfl, HB.out⟩
end Go.Proofs.Ythfedlodikbdgaa
