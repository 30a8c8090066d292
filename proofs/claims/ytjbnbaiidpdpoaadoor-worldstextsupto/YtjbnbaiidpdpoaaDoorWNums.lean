/-
  readNumbers: of any words. No condition.
-/
import Derived.Test.YtjbnbaiidpdpoaaDoorWText
import Derived.Test.YtjbnbaiidpdpoaaDoorWUnd
namespace Go.Proofs.YtjbnbaiidpdpoaaDoor.Wm
open Go.RowKit Go.Maps
set_option linter.unusedSimpArgs false

def rdN : List ByteArray → Option (List Int)
  | [] => some []
  | x :: r => if (undecB x 511).2 = 0 then (rdN r).map ((undecB x 511).1 :: ·) else none
theorem rdN_none {l : List ByteArray} {k : Nat} (hk : k < l.length) (h : (undecB l[k] 511).2 ≠ 0) : rdN l = none := by
  induction l generalizing k with
  | nil => exact absurd hk (by simp)
  | cons x r ih =>
    rw [rdN]
    by_cases e : (undecB x 511).2 = 0
    · rw [if_pos e]
      match k, hk, h with
      | 0, _, h => exact absurd e h
      | k + 1, hk, h => rw [ih (by simpa using hk) (by simpa using h)]; rfl
    · rw [if_neg e]
theorem rdN_some {l : List ByteArray} (h : ∀ (k : Nat) (hk : k < l.length), (undecB l[k] 511).2 = 0) : rdN l = some (l.map fun x => (undecB x 511).1) := by
  induction l with
  | nil => rfl
  | cons x r ih =>
    rw [rdN, if_pos (show (undecB x 511).2 = 0 from h 0 (by simp)), ih fun k hk => h (k + 1) (Nat.succ_lt_succ hk)]
    rfl
def OwnZ (base : Nat) (w : World) (v : Value) (l : List Int) : Prop := w.ownsRow base 3 1 v l.length (l.map (Value.int .i64))
theorem OwnZ.later {base : Nat} {w w' : World} {v : Value} {l : List Int} (h : OwnZ base w v l) (hb : Below w.heap.size w w') : OwnZ base w' v l := own_later h hb
theorem OwnZ.slice {base : Nat} {w : World} {v : Value} {l : List Int} (h : OwnZ base w v l) : ∃ p c, v = .slice p l.length c := own_form h
theorem OwnZ.grow {B : Nat} {w1 w2 : World} {v v' : Value} {l : List Int} {k : Int} {o : Obj} (h : OwnZ B w1 v l) (ho : w2.ownsRow B 3 1 v' (l.length + 1) (l.map (Value.int .i64) ++ [.int .i64 k])) (hg : (w1.alloc o).grownBy w2 v.ownBlock) (hB : B ≤ w1.heap.size) : OwnZ B w2 v' (l ++ [k]) ∧ Below B w1 w2 := by
  have hb1 := below_alloc w1 o
  have hb2 : Below B (w1.alloc o) w2 := (Below.refl _ _).grown hg (Nat.le_trans hB hb1.size) (fun q hq => (World.ownsRow.lt h q hq).1)
  refine ⟨?_, (hb1.mono hB).trans hb2⟩
  unfold OwnZ
  rw [List.length_append, List.length_singleton, List.map_append]
  exact ho
def RdN (w : World) (B : Nat) (ws : List ByteArray) (v : Value) (ok : Bool) : Prop := (rdN ws = none ∧ v = .slice none 0 0 ∧ ok = false) ∨ ∃ l, rdN ws = some l ∧ OwnZ B w v l ∧ ok = true
set_option maxRecDepth 100000 in
set_option maxHeartbeats 4000000 in
theorem readNumbers_any (w : World) {Ls : Nat} {v : Value} {l : List ByteArray} (hl : IsN w Ls v l) (hLs : Ls ≤ w.heap.size) (hlen : l.length ≤ 1000000) (hx : ∀ x ∈ l, x.size ≤ 140737488351232) :
    Calls Tryd.prog 41 #[v] w fun e w' => ∃ rv ok, e = .returned (.tuple #[rv, .bool ok]) ∧ RdN w' w.heap.size l rv ok ∧ Below w.heap.size w w' := by
  obtain ⟨i0, hi, hz0, hz1, hz2⟩ := info_parts infoI
  obtain ⟨q, c, rfl, hat⟩ := hl
  have HA := show Hid (0 < l.length → ∃ b o, b < Ls ∧ q = some ⟨b, o, none⟩ ∧ ∀ (j : Nat) (hj : j < l.length), ∃ x, w.cell? ⟨b, o + j, none⟩ = some x ∧ isT l[j] x) from hat
  have HX := show Hid (∀ (j : Nat) (hj : j < l.length) (W : World), Calls Tryd.prog 63 #[.string l[j], .int .i64 511] W fun e w' => e = .returned (.tuple #[.int .i64 (undecB l[j] 511).1, .int .i64 (undecB l[j] 511).2]) ∧ Below W.heap.size W w') from fun j hj W => undec_all W l[j] 511 (by have := hx _ (List.getElem_mem hj); omega)
  clear hat hx
  go_enter Tryd.func41, Tryd.ntmps41
  go_wp2_with fail
  go_loopw [4, 6, 7, 8, 11] (fun t _ _ _ i wr => ∃ k : Nat, k ≤ l.length ∧ i = .int .i64 (k : Int) ∧ Hid (OwnZ w.heap.size wr t ((l.take k).map fun x => (undecB x 511).1) ∧ (∀ (j : Nat) (hj : j < l.length), j < k → (undecB l[j] 511).2 = 0) ∧ Below w.heap.size w wr)) (fun _ _ _ _ i _ => l.length - (intOf i).toNat)
  case atStart => exact ⟨0, Nat.zero_le _, rfl, World.ownsRow_nil _ _ _ _, fun _ _ h => absurd h (Nat.not_lt_zero _), Below.refl _ _⟩
  case round =>
    obtain ⟨k, hk, rfl, H1⟩ := hrel
    by_cases hlt : k < l.length
    · obtain ⟨b, o, hb, rfl, hat⟩ := HA.out (by omega)
      obtain ⟨x, hx, rfl⟩ := hat k hlt
      have hc : wr.cell? ⟨b, o + k, none⟩ = some (.string l[k]) := (H1.out.2.2.cell (p := ⟨b, o + k, none⟩) (by show b < _; omega)).trans hx
      have KU := show Hid _ from HX.out k hlt wr
      have HNO := show Hid ((undecB l[k] 511).2 ≠ 0 → rdN l = none) from rdN_none hlt
      have HTK := show Hid ((l.take (k + 1)).map (fun x => (undecB x 511).1) = (l.take k).map (fun x => (undecB x 511).1) ++ [(undecB l[k] 511).1]) from by
        show (l.take (k + 1)).map (fun x => (undecB x 511).1) = (l.take k).map (fun x => (undecB x 511).1) ++ [(undecB l[k] 511).1]
        rw [List.take_succ_eq_append_getElem hlt, List.map_append]; rfl
      have HOK := show Hid ((undecB l[k] 511).2 = 0 → ∀ (j : Nat) (hj : j < l.length), j < k + 1 → (undecB l[j] 511).2 = 0) from fun h j hj hjk => by
        by_cases e : j = k
        · subst e; exact h
        · exact H1.out.2.1 j hj (by omega)
      have hki : (k : Int) < (l.length : Int) := by omega
      have HLN := show Hid (((l.take k).map fun x => (undecB x 511).1).length = k) from by
        show ((l.take k).map fun x => (undecB x 511).1).length = k
        rw [List.length_map, List.length_take]; omega
      obtain ⟨pv, cv, rfl⟩ := H1.out.1.slice
      clear hat hx HA HX
      generalize (l.take k).map (fun x => (undecB x 511).1) = lk at *
      generalize undecB l[k] 511 = u at *
      generalize l[k] = x at *
      obtain ⟨u1, u2⟩ := u
      simp only at *
      go_wp2_with fail
      refine Calls.mono KU.out ?_
      rintro e w2 ⟨rfl, hb2⟩
      have H2 := show Hid (OwnZ w.heap.size w2 (.slice pv lk.length cv) lk ∧ Below w.heap.size w w2) from ⟨H1.out.1.later hb2, H1.out.2.2.trans (hb2.mono H1.out.2.2.size)⟩
      clear hb2 KU H1 hc
      by_cases hu : u2 = 0
      · have HOK2 := show Hid _ from HOK.out hu
        have hne : (u2 != 0) = false := by simp [hu]
        have hlk : lk.length ≤ 1000000 := by have := HLN.out; omega
        clear HNO HOK hu
        go_wp2_with (at_builtin; refine wpList_append_own _ rfl (.tmp 22) (.tmp 24) 42 rfl w.heap.size 3 i0 (.int .i64 0) 1 8 Tryd.underlying42 hi hz0 hz1 hz2 rfl (by decide) _ lk.length (lk.map (Value.int .i64)) rfl (H2.out.1.later (below_alloc w2 _)) ⟨w2.heap.size, 0, none⟩ 1 1 [.int .i64 u1] rfl rfl (cell_one_new _ _ _) (by simp [Value.oneCell']) (by unfold maxLen; omega) (by omega) (by have := H2.out.2.size; simp; omega) ?_)
        intro v' w3 ho3 hg3 _
        have H3 := show Hid (OwnZ w.heap.size w3 v' (lk ++ [u1]) ∧ Below w.heap.size w w3) from by
          have h9 := H2.out.1.grow ho3 hg3 H2.out.2.size
          exact ⟨h9.1, H2.out.2.trans h9.2⟩
        clear ho3 hg3 H2 hlk
        go_wp2_with fail
        go_roundw
        case rel => exact ⟨k + 1, by omega, val_int (by omega), by rw [HTK.out]; exact H3.out.1, HOK2.out, H3.out.2⟩
        case measure => (simp only [intOf]; omega)
      · have HNO2 := show Hid (rdN l = none) from HNO.out hu
        have hne : (u2 != 0) = true := by simpa using hu
        clear HNO HOK hu
        go_wp2_with fail
        go_ret2
        exact ⟨_, false, rfl, Or.inl ⟨HNO2.out, rfl, rfl⟩, H2.out.2⟩
    · have HS := show Hid (rdN l = some (l.map fun x => (undecB x 511).1)) from rdN_some fun j hj => H1.out.2.1 j hj (by omega)
      have HT := show Hid (l.take k = l) from List.take_of_length_le (by omega)
      rw [HT.out] at H1
      go_wp2_with fail
      go_ret2
      exact ⟨_, true, rfl, Or.inr ⟨_, HS.out, H1.out.1, rfl⟩, H1.out.2.2⟩
end Go.Proofs.YtjbnbaiidpdpoaaDoor.Wm
