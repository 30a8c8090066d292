/-
  The law SyntaxBack, as the program walks it: true for every row that a machine can hold, where the tables stand as the program's text lays them.
-/
import Derived.Test.YtcidldgenogdkaaGreatDoorRPrint
import Derived.Test.YtcidldgenogdkaaGreatDoorSHeads
import Derived.Test.YtcidldgenogdkaaGreatDoorGBb
namespace Go.Proofs.YtcidldgenogdkaaGreatDoor
open Go.RowKit Go.Maps
open Fm (Nd)

theorem Pair.own {w0 w : World} {b m c : Nat} {v u : Value} {t r : List Nd} (h : Pair w0 w b m v c u t r) : OwnT w0 w b m v t := ⟨h.tb, h.bt, h.bel⟩
set_option maxRecDepth 100000 in
set_option maxHeartbeats 4000000 in
theorem syntaxBack_any (w : World) (rv : Value) (rs : List Nd) (hR : IsR w rv rs) (hg : ∀ n ∈ rs, Fm.good n) (hl : rs.length * 40 ≤ 140737488351232) (hv : rv = .slice none 0 0 ∨ ∃ a n c, rv = .slice (some a) n c) (hL : Tw.Laid w) :
    Calls Tryz.prog 6 #[rv] w fun e w' => e = .returned (.bool true) ∧ Below w.heap.size w w' := by
  have KT := show Hid (Calls Tryz.prog 8 #[rv] w fun e w' => ∃ B M v C, e = .returned (.tuple #[.pointer (some ⟨B, 0, none⟩), .pointer (some ⟨C, 0, none⟩)]) ∧ OwnT w w' B M v (tabOf rs)) from (tables_any w rv rs hR hg hl hv).mono fun e w' ⟨B, M, v, C, u, h1, h2⟩ => ⟨B, M, v, C, h1, h2.own⟩
  have KP := show Hid (∀ (w1 : World) (B M : Nat) (v : Value) (k : Nat), OwnT w w1 B M v (tabOf rs) → Calls Tryz.prog 17 #[.pointer (some ⟨B, 0, none⟩), .int .i64 (k : Int)] w1 fun e w' => e = .returned (.tuple #[.string ⟨(printR (tabOf rs) (k : Int)).1.toArray⟩, .int .i64 (printR (tabOf rs) (k : Int)).2]) ∧ OwnT w w' B M v (tabOf rs)) from fun w1 B M v k h => (print_any w1 h.1 (k : Int)).mono fun e w' ⟨h1, h2⟩ => ⟨h1, h.later h2⟩
  have KC := show Hid (∀ (w1 : World) (B M : Nat) (v : Value) (k : Nat), OwnT w w1 B M v (tabOf rs) → Calls Tryz.prog 12 #[.string ⟨(printR (tabOf rs) (k : Int)).1.toArray⟩] w1 fun e w' => e = .returned (.int .i64 (cnt (toks (printR (tabOf rs) (k : Int)).1) : Int)) ∧ OwnT w w' B M v (tabOf rs)) from fun w1 B M v k h => (count_any w1 ⟨(printR (tabOf rs) (k : Int)).1.toArray⟩ (by
    show (printR (tabOf rs) (k : Int)).1.toArray.size ≤ _
    rw [List.size_toArray]
    unfold printR
    split
    · split
      · simp only; omega
      · simp
    · simp) (hL.later h.2.2)).mono fun e w' ⟨h1, h2⟩ => ⟨h1, h.later h2⟩
  have KQ := show Hid (∀ (w1 : World) (B M : Nat) (v : Value) (k : Nat), OwnT w w1 B M v (tabOf rs) → k < (tabOf rs).length → (printR (tabOf rs) (k : Int)).2 = 0 → cnt (toks (printR (tabOf rs) (k : Int)).1) ≤ 512 → Calls Tryz.prog 9 #[.pointer (some ⟨B, 0, none⟩), .string ⟨(printR (tabOf rs) (k : Int)).1.toArray⟩] w1 fun e w' => e = .returned (.tuple #[.int .i64 (k : Int), .agg #[.int .i64 0, .int .i64 0, .int .i64 0, .int .i64 0]]) ∧ ∃ v', OwnT w w' B M v' (tabOf rs)) from fun w1 B M v k h hk h0 hc => by
    have hi : Fm.has (tabOf rs) (k : Int) = true := Fm.has_iff.2 ⟨by omega, by omega⟩
    have hpr : printR (tabOf rs) (k : Int) = (Pr.text (tabOf rs) (k : Int), 0) ∧ (Pr.text (tabOf rs) (k : Int)).length ≤ 65536 := by
      unfold printR at h0 ⊢
      rw [if_pos hi] at h0 ⊢
      by_cases hle : (Pr.text (tabOf rs) (k : Int)).length ≤ 65536
      · rw [if_pos hle]; exact ⟨rfl, hle⟩
      · rw [if_neg hle] at h0; exact absurd h0 (by decide)
    rw [hpr.1] at hc ⊢
    refine (parse_any w1 h.1 ⟨(Pr.text (tabOf rs) (k : Int)).toArray⟩ (by show (Pr.text (tabOf rs) (k : Int)).toArray.size ≤ _; rw [List.size_toArray]; omega) (hL.later h.2.2)).mono ?_
    rintro e w' ⟨rfl, ha⟩
    rw [show (⟨(Pr.text (tabOf rs) (k : Int)).toArray⟩ : ByteArray).data.toList = Pr.text (tabOf rs) (k : Int) from by simp, Bk.parse_text h.1.ok hi hc] at ha ⊢
    exact ⟨rfl, h.after ha⟩
  have KM := show Hid (∀ (w1 : World) (x : Int), Calls Tryz.prog 19 #[.int .i64 x] w1 fun e w' => e = .returned (.int .i64 x) ∧ w' = w1) from fun w1 x => num_any w1 x
  have KL := show Hid (∀ (w1 : World) (B M : Nat) (v : Value), OwnT w w1 B M v (tabOf rs) → Calls Tryz.prog 20 #[.pointer (some ⟨B, 0, none⟩)] w1 fun e w' => e = .returned (.int .i64 ((tabOf rs).length : Int)) ∧ w' = w1) from fun w1 B M v h => len_any w1 h.1
  have KH := show Hid (∀ w' : World, Below w.heap.size w w' → Calls Tryz.prog 14 #[] w' fun e w'' => e = .returned (.bool true) ∧ Below w'.heap.size w' w'') from fun w' hb => heads_any w' (hL.later hb)
  have HE := show Hid (∀ k : Nat, (printR (tabOf rs) (k : Int)).2 = 0 ∨ (printR (tabOf rs) (k : Int)).2 = 11 ∨ (printR (tabOf rs) (k : Int)).2 = 31) from fun k => by
    unfold printR
    repeat' split
    all_goals simp
  generalize printR (tabOf rs) = pr at *
  generalize tabOf rs = tt at *
  clear hR hg hl hL
  have hsl : ∃ p n cc, rv = .slice p n cc := by
    rcases hv with rfl | ⟨a, n, cc, rfl⟩
    · exact ⟨_, _, _, rfl⟩
    · exact ⟨_, _, _, rfl⟩
  obtain ⟨p, n, cc, rfl⟩ := hsl
  clear hv
  go_enter Tryz.func6, Tryz.ntmps6
  go_wp2_with fail
  refine KT.out.mono ?_
  rintro e w1 ⟨B, M, v, C, rfl, hp⟩
  have P1 := show Hid (∃ v, OwnT w w1 B M v tt) from ⟨v, hp⟩
  have hlen : tt.length ≤ 1024 := hp.1.ok.len
  have hL1 := KL.out _ _ _ _ hp
  clear hp KT
  go_wp2_with fail
  refine hL1.mono ?_
  rintro e w2 ⟨rfl, hw2⟩
  subst w2
  clear hL1
  go_wp2_with fail
  go_loopw [6] (fun i wr => ∃ k : Nat, k ≤ tt.length ∧ i = .int .i64 k ∧ Hid (∃ v, OwnT w wr B M v tt)) (fun i _ => tt.length - (intOf i).toNat)
  case atStart => exact ⟨0, by omega, rfl, P1⟩
  case round =>
    obtain ⟨k, hk, rfl, Y⟩ := hrel
    clear P1
    by_cases hlt : k < tt.length
    · have hki : (k : Int) < (tt.length : Int) := by omega
      by_cases h40 : (k : Int) < 40
      · go_wp2_with fail
        obtain ⟨v1, hv1⟩ := Y.out
        refine (KP.out _ _ _ _ k hv1).mono ?_
        rintro e w3 ⟨rfl, hO3⟩
        have O3 := show Hid (OwnT w w3 B M v1 tt) from hO3
        clear hO3 hv1 Y
        have HEk := show Hid _ from HE.out k
        have KCk := show Hid (Calls Tryz.prog 12 #[.string ⟨(pr (k : Int)).1.toArray⟩] w3 fun e w' => e = .returned (.int .i64 (cnt (toks (pr (k : Int)).1) : Int)) ∧ OwnT w w' B M v1 tt) from KC.out w3 B M v1 k O3.out
        have KQk := show Hid (∀ (w1 : World) (v : Value), OwnT w w1 B M v tt → (pr (k : Int)).2 = 0 → cnt (toks (pr (k : Int)).1) ≤ 512 → Calls Tryz.prog 9 #[.pointer (some ⟨B, 0, none⟩), .string ⟨(pr (k : Int)).1.toArray⟩] w1 fun e w' => e = .returned (.tuple #[.int .i64 (k : Int), .agg #[.int .i64 0, .int .i64 0, .int .i64 0, .int .i64 0]]) ∧ ∃ v', OwnT w w' B M v' tt) from fun w1 v h h1 h2 => KQ.out w1 B M v k h hlt h1 h2
        generalize pr (k : Int) = q at *
        obtain ⟨tx, ec⟩ := q
        simp only at HEk KCk KQk
        generalize hcn : cnt (toks tx) = cn at *
        clear hcn
        generalize hst : (⟨tx.toArray⟩ : ByteArray) = st at *
        clear hst
        go_wp2_with fail
        refine (KM.out _ _).mono ?_
        rintro e w4 ⟨rfl, hw4⟩
        subst w4
        by_cases hec : ec = 0
        · subst hec
          go_wp2_with fail
          refine KCk.out.mono ?_
          rintro e w5 ⟨rfl, hO5⟩
          have O5 := show Hid (OwnT w w5 B M v1 tt) from hO5
          clear hO5
          by_cases hcl : 512 < (cn : Int)
          · go_wp2_with fail
            go_roundw
            case rel => exact ⟨k + 1, by omega, by go_num, ⟨v1, O5.out⟩⟩
            case measure => first | (simp [intOf]; done) | (simp [intOf]; omega)
          · go_wp2_with fail
            refine (KQk.out _ _ O5.out (by first | trivial | rfl) (by omega)).mono ?_
            rintro e w6 ⟨rfl, v6, hO6⟩
            have hbf : Below w6.heap.size w6 (w6.alloc (Obj.cells #[.int .i64 0, .int .i64 0, .int .i64 0, .int .i64 0] 31)) := below_alloc _ _
            have O6 := show Hid (OwnT w (w6.alloc (Obj.cells #[.int .i64 0, .int .i64 0, .int .i64 0, .int .i64 0] 31)) B M v6 tt) from hO6.later hbf
            clear hbf hO6
            go_wp2_with fail
            refine (KL.out _ _ _ _ O6.out).mono ?_
            rintro e w7 ⟨rfl, hw7⟩
            subst w7
            go_wp2_with fail
            go_roundw
            case rel => exact ⟨k + 1, by omega, by go_num, ⟨v6, O6.out⟩⟩
            case measure => first | (simp [intOf]; done) | (simp [intOf]; omega)
        · go_wp2_with fail
          go_roundw
          case rel => exact ⟨k + 1, by omega, by go_num, ⟨v1, O3.out⟩⟩
          case measure => first | (simp [intOf]; done) | (simp [intOf]; omega)
      · go_wp2_with fail
        obtain ⟨v1, hv1⟩ := Y.out
        refine (KH.out _ hv1.2.2).mono ?_
        rintro e w6 ⟨rfl, hb6⟩
        have HB6 := show Hid (Below w.heap.size w w6) from hv1.2.2.trans (hb6.mono hv1.2.2.size)
        clear hb6 hv1
        go_wp2_with fail
        go_ret
        exact ⟨rfl, HB6.out⟩
    · have hki : ¬ (k : Int) < (tt.length : Int) := by omega
      go_wp2_with fail
      obtain ⟨v1, hv1⟩ := Y.out
      refine (KH.out _ hv1.2.2).mono ?_
      rintro e w6 ⟨rfl, hb6⟩
      have HB6 := show Hid (Below w.heap.size w w6) from hv1.2.2.trans (hb6.mono hv1.2.2.size)
      clear hb6 hv1
      go_wp2_with fail
      go_ret
      exact ⟨rfl, HB6.out⟩
end Go.Proofs.YtcidldgenogdkaaGreatDoor
