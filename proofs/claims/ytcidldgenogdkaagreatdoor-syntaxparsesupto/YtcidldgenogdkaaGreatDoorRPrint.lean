/-
  The document's call Print; and the law's call Tables. For every table and number, every row that a machine can hold. No other condition.
-/
import Derived.Test.YtcidldgenogdkaaGreatDoorGRd
import Derived.Test.YtcidldgenogdkaaGreatDoorSPrintC
import Derived.Test.YtcidldgenogdkaaGreatDoorGRb
namespace Go.Proofs.YtcidldgenogdkaaGreatDoor
open Go.RowKit Go.Maps
open Fm (Nd)

set_option maxRecDepth 100000 in
set_option maxHeartbeats 2000000 in
theorem rprint_any (w : World) {c : Nat} {u : Value} {t : List Nd} (h : Tr w c u t) (i : Int) :
    Calls Tryz.prog 18 #[.pointer (some ⟨c, 0, none⟩), .int .i64 i] w fun e w' => e = .returned (.tuple #[.string ⟨(printR t i).1.toArray⟩, .int .i64 (printR t i).2]) ∧ Below w.heap.size w w' := by
  have KH := show Hid (Calls Tryz.prog 45 #[.pointer (some ⟨c, 0, none⟩), .int .i64 i] w fun e w' => e = .returned (.bool (Fm.has t i)) ∧ w' = w) from rhas_any w h i
  by_cases hi : Fm.has t i = true
  · have h0 := Fm.has_iff.1 hi
    obtain ⟨k, rfl⟩ : ∃ k : Nat, i = k := ⟨i.toNat, by omega⟩
    have hk : k < t.length := by omega
    have hki : (k : Int) < (t.length : Int) := by omega
    have h1024 : t.length ≤ 1024 := h.ok.len
    have HPR := show Hid (printR t (k : Int) = if (Pr.text t (k : Int)).length ≤ 65536 then (Pr.text t (k : Int), 0) else ([], 11)) from by show printR t (k : Int) = _; unfold printR; rw [if_pos hi]
    have HWD := show Hid (Pr.wd t (k : Int) = min (Pr.text t (k : Int)).length 65537) from rfl
    have KW := show Hid (Calls Tryz.prog 46 #[.pointer (some ⟨c, 0, none⟩)] w fun e w' => ∃ f : Nat → Nat, e = .returned (.slice (some ⟨w.heap.size, 0, none⟩) t.length t.length) ∧ f k = Pr.wd t (k : Int) ∧ Wz w w' c t.length u t f) from (rwidths_any w h (by omega)).mono fun e w' ⟨f, h1, h2, h3⟩ => ⟨f, h1, h2 k hk, h3⟩
    have KT := show Hid (∀ w', Tr w' c u t → (Pr.text t (k : Int)).length ≤ 65536 → Calls Tryz.prog 47 #[.pointer (some ⟨c, 0, none⟩), .int .i64 (k : Int)] w' fun e w'' => e = .returned (.string ⟨(Pr.text t (k : Int)).toArray⟩) ∧ Below w'.heap.size w' w'') from fun w' hT hl => rtext_any (k + 1) w' hT k hi (by simp) hl
    rw [hi] at KH
    generalize printR t (k : Int) = pr at *
    generalize Pr.wd t (k : Int) = wn at *
    generalize Pr.text t (k : Int) = tx at *
    clear h h0 hi
    go_enter Tryz.func18, Tryz.ntmps18
    go_wp2_with fail
    refine KH.out.mono ?_
    rintro e w1 ⟨rfl, hw⟩
    subst w1
    go_wp2_with fail
    refine KW.out.mono ?_
    rintro e w2 ⟨f, rfl, hf, hz⟩
    have Z := show Hid (Wz w w2 c t.length u t f) from hz
    have cg := hz.a.cell hk
    rw [hf] at cg
    clear hz hf KW KH
    by_cases hl : tx.length ≤ 65536
    · have hpr := HPR.out
      rw [if_pos hl] at hpr
      subst hpr
      have hwn : ¬ 65536 < (wn : Int) := by have := HWD.out; omega
      go_wp2_with fail
      refine (KT.out _ Z.out.tr hl).mono ?_
      rintro e w3 ⟨rfl, hb3⟩
      have HB3 := show Hid (Below w.heap.size w w3) from Z.out.be.trans (hb3.mono Z.out.be.size)
      clear hb3 KT Z cg
      go_wp2_with fail
      go_ret2
      exact ⟨rfl, HB3.out⟩
    · have hpr := HPR.out
      rw [if_neg hl] at hpr
      subst hpr
      have hwn : 65536 < (wn : Int) := by have := HWD.out; omega
      go_wp2_with fail
      go_ret2
      exact ⟨rfl, Z.out.be⟩
  · have hpr : printR t i = ([], 31) := by unfold printR; rw [if_neg hi]
    rw [hpr]
    rw [show Fm.has t i = false from by simpa using hi] at KH
    clear h hi hpr
    go_enter Tryz.func18, Tryz.ntmps18
    go_wp2_with fail
    refine KH.out.mono ?_
    rintro e w1 ⟨rfl, hw⟩
    subst w1
    go_wp2_with fail
    go_ret2
    exact ⟨rfl, Below.refl _ _⟩
/-- The rows of the two tables that Tables makes. -/
def tabOf (rs : List Nd) : List Nd := if (Fm.fr [] rs).1 = 0 then (Fm.fr [] rs).2 else []
set_option maxRecDepth 100000 in
set_option maxHeartbeats 2000000 in
theorem tables_any (w : World) (rv : Value) (rs : List Nd) (hR : IsR w rv rs) (hg : ∀ n ∈ rs, Fm.good n) (hl : rs.length * 40 ≤ 140737488351232) (hv : rv = .slice none 0 0 ∨ ∃ a n c, rv = .slice (some a) n c) :
    Calls Tryz.prog 8 #[rv] w fun e w' => ∃ B M v C u, e = .returned (.tuple #[.pointer (some ⟨B, 0, none⟩), .pointer (some ⟨C, 0, none⟩)]) ∧ Pair w w' B M v C u (tabOf rs) (tabOf rs) := by
  have KB := show Hid (Calls Tryz.prog 23 #[rv] w fun e w' => IsBoth w w' e (Fm.fr [] rs)) from both_any w rv rs hR hg hl hv
  have KN := show Hid (∀ w1 : World, Calls Tryz.prog 24 #[] w1 fun e w' => e = .returned (.pointer (some ⟨w1.heap.size + 1, 0, none⟩)) ∧ Tb w' (w1.heap.size + 1) w1.heap.size (.slice none 0 0) [] ∧ Below w1.heap.size w1 w') from fun w1 => new_any w1
  have HT := show Hid (tabOf rs = if (Fm.fr [] rs).1 = 0 then (Fm.fr [] rs).2 else []) from rfl
  generalize tabOf rs = tt at *
  generalize Fm.fr [] rs = ans at *
  clear hR hg hl
  have hsl : ∃ p n cc, rv = .slice p n cc := by
    rcases hv with rfl | ⟨a, n, cc, rfl⟩
    · exact ⟨_, _, _, rfl⟩
    · exact ⟨_, _, _, rfl⟩
  obtain ⟨p, n, cc, rfl⟩ := hsl
  clear hv
  go_enter Tryz.func8, Tryz.ntmps8
  go_wp2_with fail
  refine KB.out.mono ?_
  rintro e w1 hI
  rcases hI with ⟨h0, B, M, v, C, u, rfl, hp⟩ | ⟨h0, rfl, hb⟩
  · have ht := HT.out
    rw [if_pos h0] at ht
    subst ht
    have HP := show Hid _ from hp
    clear hp KB KN HT
    go_wp2_with fail
    go_ret2
    exact ⟨B, M, v, C, u, rfl, HP.out⟩
  · have ht := HT.out
    rw [if_neg h0] at ht
    subst ht
    have HB := show Hid (Below w.heap.size w w1) from hb
    clear hb KB HT h0
    go_wp2_with fail
    refine (KN.out _).mono ?_
    rintro e w2 ⟨rfl, hT, hb2⟩
    have HP := show Hid (Pair w (w2.alloc (Obj.cells #[.slice none 0 0] 61)) (w1.heap.size + 1) w1.heap.size (.slice none 0 0) w2.heap.size (.slice none 0 0) [] []) from by
      have hb3 : Below w.heap.size w w2 := HB.out.trans (hb2.mono HB.out.size)
      have hs := HB.out.size
      have hs2 := hb3.size
      refine ⟨hT.later (below_alloc _ _), ⟨heap_alloc_new _ _, rw_nil _, Fm.ok_nil⟩, fun k hk => by simp [Value.ownBlock] at hk, ?_, ?_, hb3.alloc hb3.size _⟩
      · rintro k (e | e | e)
        · omega
        · omega
        · simp [Value.ownBlock] at e
      · rintro k (e | e)
        · omega
        · simp [Value.ownBlock] at e
    clear hT hb2 KN HB
    go_wp2_with fail
    go_ret2
    exact ⟨_, _, _, _, _, rfl, HP.out⟩
end Go.Proofs.YtcidldgenogdkaaGreatDoor
