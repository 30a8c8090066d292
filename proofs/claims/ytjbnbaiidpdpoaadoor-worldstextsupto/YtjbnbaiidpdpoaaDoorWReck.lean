/-
  reckoned: of any model and any numbers. No condition.
-/
import Derived.Test.YtjbnbaiidpdpoaaDoorWOrd
namespace Go.Proofs.YtjbnbaiidpdpoaaDoor.Wm
open Go.RowKit Go.Maps
open Wd (Md Mid Rc Ed Sub upd vl allW names)
set_option linter.unusedSimpArgs false

def IsO (u : List (List Int)) (M : Nat → Nat → Bool) : Prop := ∀ a b, M a b = true ↔ Rc u a b
theorem isO_ex (u : List (List Int)) : ∃ M, IsO u M := ⟨fun a b => @decide (Rc u a b) (Classical.propDecidable _), fun _ _ => @decide_eq_true_iff _ (Classical.propDecidable _)⟩
theorem cf_leq : Cf 71 := fun _ _ => by kernel_rfl
set_option maxRecDepth 100000 in
theorem leq1_any (w : World) {L R A S : Nat} {uv vv : Value} {m : Md} {st ws : Nat → Nat} (h : Rk w L R A S uv vv m st ws) (hn : m.up.length ≤ 512) (a b : Nat) (ha : a < m.up.length) (hb : b < m.up.length) :
    Calls Tryd.prog 71 #[.int .i64 (a : Int), .int .i64 (b : Int), .pointer (some ⟨R, 0, none⟩)] w fun e w' => e = .returned (.bool (abW ws a b)) ∧ Below w.heap.size w w' := by
  have K := show Hid _ from has_any w h.abv (a * 8) b (by omega) (by omega)
  have HA := show Hid (bit ws (a * 8) b = abW ws a b) from by
    show bit ws (a * 8) b = abW ws a b
    unfold abW; rw [decide_eq_true (by omega)]; rfl
  have c2 := h.c2
  have hai : (a : Int) < (m.up.length : Int) := by omega
  clear h
  go_enter Tryd.func71, Tryd.ntmps71
  go_wp2_with fail
  refine Calls.mono K.out ?_
  rintro e w2 ⟨rfl, rfl⟩
  clear K
  go_wp2_with fail
  go_ret
  exact ⟨ret_bool HA.out, (Below.refl _ _).drew⟩
def Rek (w' : World) (M : Nat → Nat → Bool) (m : Md) (ls : List Int) (fv : Value) (er : Int) : Prop :=
  (¬ Wd.Good m ∧ fv = .nilFunc ∧ er = 170) ∨ (Wd.Good m ∧ allW m.up.length ls = false ∧ fv = .nilFunc ∧ er = 2) ∨ (Wd.Good m ∧ allW m.up.length ls = true ∧ Ord w' w'.heap.size m.up.length fv M ∧ er = 0)
set_option maxRecDepth 100000 in
set_option maxHeartbeats 2000000 in
theorem reckoned_any (w : World) {M : Nat → Nat → Bool} {L Ls : Nat} {uv vv sv : Value} {m : Md} {ls : List Int} (hO : IsO m.up M) (hm : IsM w L uv vv m) (hf : Fit m) (hL : L ≤ w.heap.size) (hl : IsI w Ls sv ls) (hLs : Ls ≤ w.heap.size) (hlen : ls.length ≤ 140737488351232) (hx : ∀ x ∈ ls, -9223372036854775808 ≤ x ∧ x ≤ 9223372036854775807) :
    Calls Tryd.prog 29 #[.agg #[uv, vv], sv] w fun e w' => ∃ fv er, e = .returned (.tuple #[fv, .int .i64 er]) ∧ Rek w' M m ls fv er ∧ Below w.heap.size w w' := by
  obtain ⟨pu, cu, rfl⟩ := IsS.form hm.up
  obtain ⟨pv, cv, rfl⟩ := IsS.form hm.val
  obtain ⟨ps, c2, rfl⟩ := IsS.form hl
  have KS := show Hid (∀ W, Below w.heap.size w W → Calls Tryd.prog 44 #[.agg #[.slice pu m.up.length cu, .slice pv m.val.length cv]] W fun e w' => e = .returned (.bool (Wd.shaped m)) ∧ Below W.heap.size W w') from fun W hW => shaped_any W (hm.keep fun k hk => hW.block k (by omega)) hf (Nat.le_trans hL hW.size)
  have KO := show Hid (Wd.shaped m = true → ∀ W, Below w.heap.size w W → Calls Tryd.prog 45 #[.agg #[.slice pu m.up.length cu, .slice pv m.val.length cv]] W fun e w' => Below W.heap.size W w' ∧ ((e = .returned (.tuple #[.nilFunc, .bool false]) ∧ ¬ Wd.Good m) ∨
      ∃ R A S st ws, e = .returned (.tuple #[.func (.func 71) #[] #[.pointer (some ⟨R, 0, none⟩)], .bool true]) ∧ Rk w' L R A S (.slice pu m.up.length cu) (.slice pv m.val.length cv) m st ws ∧ Wd.Good m ∧ Wd.Inv m st (abW ws) ∧ (∀ a, a < m.up.length → st a = 2) ∧ W.heap.size ≤ R ∧ W.heap.size ≤ A ∧ W.heap.size ≤ S)) from fun hs W hW => ordered_any W (hm.keep fun k hk => hW.block k (by omega)) hs hf (Nat.le_trans hL hW.size)
  have KA := show Hid (∀ W, Below w.heap.size w W → Calls Tryd.prog 46 #[.slice ps ls.length c2, .int .i64 (m.up.length : Int)] W fun e w' => e = .returned (.bool (allW m.up.length ls)) ∧ Below W.heap.size W w') from fun W hW => areWorlds_any W (IsI.keep hl fun k hk => hW.block k (by omega)) (Nat.le_trans hLs hW.size) hlen hx hf.1
  have HNS := show Hid (Wd.shaped m = false → ¬ Wd.Good m) from fun h g => by rw [g.shape] at h; cases h
  have HN5 := show Hid (Wd.Good m → m.up.length ≤ 512) from fun g => (Wd.shaped_and g.shape).2.1
  have hLw := hL
  clear hm hf hl hx hlen hLs
  go_enter Tryd.func29, Tryd.ntmps29
  go_wp2_with (refine wpList_box 25 _ rfl _ rfl rfl ?_)
  intro w1 b1 hN
  have H1 := show Hid (Below w.heap.size w w1 ∧ Cl w1 b1 #[.slice pu m.up.length cu, .slice pv m.val.length cv] 25) from ⟨hN.bel, hN.blk⟩
  have K1 := show Hid _ from KS.out w1 hN.bel
  clear hN KS
  go_wp2_with (refine wpList_ldw 25 _ rfl b1 rfl _ _ H1.out.2 rfl Tryd.underlying25 sizeM rfl ?_)
  refine Calls.mono K1.out ?_
  rintro e w2 ⟨rfl, hb2⟩
  have H2 := show Hid (Below w.heap.size w w2 ∧ Cl w2 b1 #[.slice pu m.up.length cu, .slice pv m.val.length cv] 25) from ⟨H1.out.1.trans (hb2.mono H1.out.1.size), H1.out.2.later hb2⟩
  clear hb2 K1 H1
  cases hsh : Wd.shaped m
  · have HX := show Hid (¬ Wd.Good m) from HNS.out hsh
    clear hsh KO
    go_wp2_with fail
    go_ret2
    exact ⟨_, _, rfl, Or.inl ⟨HX.out, rfl, rfl⟩, H2.out.1⟩
  · have K2 := show Hid _ from KO.out hsh w2 H2.out.1
    clear hsh KO
    go_wp2_with (refine wpList_ldw 25 _ rfl b1 rfl _ _ H2.out.2 rfl Tryd.underlying25 sizeM rfl ?_)
    refine Calls.mono K2.out ?_
    rintro e w3 ⟨hb3, hc3⟩
    have H3 := show Hid (Below w.heap.size w w3 ∧ Cl w3 b1 #[.slice pu m.up.length cu, .slice pv m.val.length cv] 25 ∧ Below w2.heap.size w2 w3) from ⟨H2.out.1.trans (hb3.mono H2.out.1.size), H2.out.2.later hb3, hb3⟩
    clear hb3 K2
    rcases hc3 with ⟨rfl, hbad⟩ | ⟨R, A, S, st, ws, rfl, hR, hG, hI, h2, hR2, hA2, hS2⟩
    · have HX := show Hid (¬ Wd.Good m) from hbad
      clear hbad
      go_wp2_with fail
      go_ret2
      exact ⟨_, _, rfl, Or.inl ⟨HX.out, rfl, rfl⟩, H3.out.1⟩
    · have HG := show Hid (Wd.Good m) from hG
      have HO := show Hid (∀ W, Below w3.heap.size w3 W → Ord W W.heap.size m.up.length (.func (.func 71) #[] #[.pointer (some ⟨R, 0, none⟩)]) M) from fun W hW => ⟨_, [.pointer (some ⟨R, 0, none⟩)], rfl, cf_leq, fun W' a b hW' ha hb => by
        have h9 : M a b = abW ws a b := by
          rw [Bool.eq_iff_iff, hO a b]
          exact (hI.abv a (h2 a ha) b).symm
        rw [h9]
        have hlt := hR.abv.row.lt
        have hlt2 := hR.stg.lt
        have hlt3 := hR.blk.lt
        have hsz := hW.size
        exact leq1_any W' (hR.keep fun k hk => ((hW'.block k (by have := H3.out.1.size; omega)).trans (hW.block k (by have := H3.out.1.size; omega)))) (HN5.out hG) a b ha hb⟩
      have c0 : w3.cell? ⟨b1, 0, none⟩ = some (.slice pu m.up.length cu) := Cl.cell (T := 25) H3.out.2.1 0
      have K3 := show Hid _ from KA.out w3 H3.out.1
      clear hR hG hI h2 hR2 hA2 hS2 KA
      go_wp2_with fail
      refine Calls.mono K3.out ?_
      rintro e w4 ⟨rfl, hb4⟩
      have H4 := show Hid (Below w.heap.size w w4 ∧ Below w3.heap.size w3 w4) from ⟨H3.out.1.trans (hb4.mono H3.out.1.size), hb4⟩
      clear hb4 K3 c0
      cases hal : allW m.up.length ls
      · have HAL := show Hid (allW m.up.length ls = false) from hal
        clear hal
        go_wp2_with fail
        go_ret2
        exact ⟨_, _, rfl, Or.inr (Or.inl ⟨HG.out, HAL.out, rfl, rfl⟩), H4.out.1⟩
      · have HAL := show Hid (allW m.up.length ls = true) from hal
        have HOW := show Hid _ from HO.out w4 H4.out.2
        clear hal HO
        go_wp2_with fail
        go_ret2
        exact ⟨_, _, rfl, Or.inr (Or.inr ⟨HG.out, HAL.out, HOW.out, rfl⟩), H4.out.1⟩
end Go.Proofs.YtjbnbaiidpdpoaaDoor.Wm
