/-
  The document's call Right of a sequent: for every table of the document's that calls made and every sequent. No other condition.
-/
import Derived.Test.YtkmmlimekachbaaGreatDoorQG3
import Derived.Test.YtkmmlimekachbaaGreatDoorRG1
namespace Go.Proofs.YtkmmlimekachbaaGreatDoor
open Go.RowKit Go.Shelf Go.Maps
open Fm (Nd)
open Bt.Bs (Ok wd)

def rightQ (t : List Nd) (r : List Nat) (g : Int) : Bool := ((Bt.Bs.nums r).map fun n : Nat => (n : Int)).all (Fm.has t) && Fm.has t g
theorem chk_right (t : List Nd) (r : List Nat) (g : Int) : chkQ t r g = if rightQ t r g then 0 else 31 := rfl
set_option maxRecDepth 100000 in
set_option maxHeartbeats 2000000 in
theorem rright_any (w : World) {c : Nat} {u : Value} {t : List Nd} (hT : Tr w c u t) {r : List Nat} (hr : Ok r) (g : Int) :
    Calls Tryz.prog 16 #[.pointer (some ⟨c, 0, none⟩), .agg (cellsQ r g)] w fun e w' => e = .returned (.bool (rightQ t r g)) ∧ Below w.heap.size w w' := by
  have hl := hr.1
  have hnl : (Bt.Bs.nums r).length ≤ 1024 := Bt.Bs.nums_len_le r
  have KL := show Hid (∀ w', Calls Tryz.prog 32 #[.agg (Bt.cellsB r)] w' fun e w'' => ∃ p cc, e = .returned (.slice p (Bt.Bs.nums r).length cc) ∧ (∀ k (hk : k < (Bt.Bs.nums r).length), ∃ b o, p = some ⟨b, o, none⟩ ∧ w''.cell? ⟨b, o + k, none⟩ = some (.int .i64 (((Bt.Bs.nums r)[k] : Nat) : Int))) ∧ Below w'.heap.size w' w'') from fun w' => (Bt.rlist_any w' hr).mono fun e w'' ⟨v, he, ho, hb⟩ => by
    obtain ⟨p, cc, hv, _, hcell⟩ := ho.isL hnl
    rw [List.length_map] at hv
    refine ⟨p, cc, by rw [he, hv], fun k hk => ?_, hb⟩
    obtain ⟨b, o, hp, hc⟩ := hcell k (by simpa using hk)
    exact ⟨b, o, hp, by simpa using hc⟩
  have KH := show Hid (∀ w' x, Below w.heap.size w w' → Calls Tryz.prog 31 #[.pointer (some ⟨c, 0, none⟩), .int .i64 x] w' fun e w'' => e = .returned (.bool (Fm.has t x)) ∧ w'' = w') from fun w' x hb => rhas_any w' (hT.later hb) x
  have HA := show Hid (∀ k (hk : k < (Bt.Bs.nums r).length), Fm.has t (((Bt.Bs.nums r)[k] : Nat) : Int) = false → rightQ t r g = false) from fun k hk h => by
    unfold rightQ
    rw [Bool.and_eq_false_iff]
    left
    rw [List.all_eq_false]
    exact ⟨_, List.mem_map.2 ⟨_, List.getElem_mem hk, rfl⟩, by rw [h]; simp⟩
  have HE := show Hid ((∀ k (hk : k < (Bt.Bs.nums r).length), Fm.has t (((Bt.Bs.nums r)[k] : Nat) : Int) = true) → rightQ t r g = Fm.has t g) from fun h => by
    unfold rightQ
    have h2 : ((Bt.Bs.nums r).map fun n : Nat => (n : Int)).all (Fm.has t) = true := by
      rw [List.all_eq_true]
      intro x hx
      obtain ⟨n, hn, rfl⟩ := List.mem_map.1 hx
      obtain ⟨k, hk, rfl⟩ := List.mem_iff_getElem.1 hn
      exact h k hk
    rw [h2, Bool.true_and]
  have HC := show Hid (CK w (w.alloc (.cells (cellsQ r g) 27)) r g) from ⟨seq_new w r g, below_alloc w _⟩
  clear hT hr
  generalize rightQ t r g = rq at *
  generalize Bt.Bs.nums r = l at *
  go_enter Tryz.func16, Tryz.ntmps16
  go_wp2_with (refine wpList_ldQ _ _ rfl _ rfl HC.out.seq hl rfl ?_)
  refine (KL.out _).mono ?_
  rintro e w1 ⟨p, cc, rfl, hcell, hb1⟩
  have H1 := show Hid (CK w w1 r g) from HC.out.later hb1
  have HL := show Hid (∀ k (hk : k < l.length), ∃ b o, p = some ⟨b, o, none⟩ ∧ w1.cell? ⟨b, o + k, none⟩ = some (.int .i64 ((l[k] : Nat) : Int))) from hcell
  clear hcell hb1 HC KL
  go_wp2_with fail
  go_loopw [6] (fun iv wr => ∃ k : Nat, k ≤ l.length ∧ iv = .int .i64 (k : Int) ∧ wr = w1 ∧ Hid (∀ j (hj : j < l.length), j < k → Fm.has t ((l[j] : Nat) : Int) = true)) (fun iv _ => l.length - (intOf iv).toNat)
  case atStart => exact ⟨0, by omega, rfl, rfl, fun j _ h => by omega⟩
  case round =>
    obtain ⟨k, hk, rfl, hwr, HI⟩ := hrel
    subst wr
    by_cases hlt : k < l.length
    · have hki : (k : Int) < (l.length : Int) := by omega
      obtain ⟨b, o, rfl, hc⟩ := HL.out k hlt
      have KX := show Hid _ from KH.out w1 ((l[k] : Nat) : Int) H1.out.bel
      cases hx : Fm.has t ((l[k] : Nat) : Int)
      · have hq := HA.out k hlt hx
        rw [hx] at KX
        generalize ((l[k] : Nat) : Int) = x at *
        subst hq
        clear HA HE HI KH HL
        go_wp2_with fail
        refine Calls.mono KX.out ?_
        rintro e w' ⟨rfl, hw'⟩
        subst w'
        clear KX
        go_wp2_with fail
        go_ret
        exact ⟨rfl, H1.out.bel⟩
      · have HI2 := show Hid (∀ j (hj : j < l.length), j < k + 1 → Fm.has t ((l[j] : Nat) : Int) = true) from fun j hj h => by
          by_cases e : j = k
          · subst e; exact hx
          · exact HI.out j hj (by omega)
        rw [hx] at KX
        generalize ((l[k] : Nat) : Int) = x at *
        clear HA HE HI KH HL
        go_wp2_with fail
        refine Calls.mono KX.out ?_
        rintro e w' ⟨rfl, hw'⟩
        subst w'
        clear KX
        go_wp2_with fail
        go_roundw
        case rel => exact ⟨k + 1, by omega, by go_num, by simp, HI2⟩
        case measure => first | (simp [intOf]; done) | (simp [intOf]; omega)
    · have hki : ¬ (k : Int) < (l.length : Int) := by omega
      have hq := HE.out (fun j hj => HI.out j hj (by omega))
      subst hq
      have c0 := H1.out.seq.goal hl
      have KX := show Hid _ from KH.out w1 g H1.out.bel
      clear HA HE HI KH HL
      go_wp2_with fail
      refine Calls.mono KX.out ?_
      rintro e w' ⟨rfl, hw'⟩
      subst w'
      clear KX
      go_wp2_with fail
      go_ret
      exact ⟨rfl, H1.out.bel⟩
end Go.Proofs.YtkmmlimekachbaaGreatDoor
