/-
  The two tables that the laws begin with. No condition.
-/
import Derived.Test.YthdcppkohalkmaaGreatLLike
namespace Go.Proofs.YthdcppkohalkmaaGreat
open Go.RowKit Go.Maps
open Fm (Nd)

/-- The rows of the two tables that Tables makes. -/
def tabOf (rs : List Nd) : List Nd := if (Fm.fr [] rs).1 = 0 then (Fm.fr [] rs).2 else []
set_option maxRecDepth 100000 in
set_option maxHeartbeats 2000000 in
theorem tables_any (w : World) (rv : Value) (rs : List Nd) (hR : IsR w rv rs) (hg : ∀ n ∈ rs, Fm.good n) (hl : rs.length * 40 ≤ 140737488351232) (hv : rv = .slice none 0 0 ∨ ∃ a n c, rv = .slice (some a) n c) :
    Calls Tryz.prog 7 #[rv] w fun e w' => ∃ B M v C u, e = .returned (.tuple #[.pointer (some ⟨B, 0, none⟩), .pointer (some ⟨C, 0, none⟩)]) ∧ Pair w w' B M v C u (tabOf rs) (tabOf rs) := by
  have KB := show Hid (Calls Tryz.prog 34 #[rv] w fun e w' => IsBoth w w' e (Fm.fr [] rs)) from both_any w rv rs hR hg hl hv
  have KN := show Hid (∀ w1 : World, Calls Tryz.prog 35 #[] w1 fun e w' => e = .returned (.pointer (some ⟨w1.heap.size + 1, 0, none⟩)) ∧ Tb w' (w1.heap.size + 1) w1.heap.size (.slice none 0 0) [] ∧ Below w1.heap.size w1 w') from fun w1 => new_any w1
  have HT := show Hid (tabOf rs = if (Fm.fr [] rs).1 = 0 then (Fm.fr [] rs).2 else []) from rfl
  generalize tabOf rs = tt at *
  generalize Fm.fr [] rs = ans at *
  clear hR hg hl
  have hsl : ∃ p n cc, rv = .slice p n cc := by
    rcases hv with rfl | ⟨a, n, cc, rfl⟩
    · exact ⟨_, _, _, rfl⟩
    · exact ⟨_, _, _, rfl⟩
  obtain ⟨p, n, cc, rfl⟩ := hsl
  clear hv
  go_enter Tryz.func7, Tryz.ntmps7
  go_wp2_with fail
  refine KB.out.mono ?_
  rintro e w1 hI
  rcases hI with ⟨h0, B, M, v, C, u, rfl, hp⟩ | ⟨h0, rfl, hb⟩
  · have ht := HT.out
    rw [if_pos h0] at ht
    subst ht
    have HP := show Hid _ from hp
    clear hp KB KN HT
    go_wp2_with fail
    go_ret2
    exact ⟨B, M, v, C, u, rfl, HP.out⟩
  · have ht := HT.out
    rw [if_neg h0] at ht
    subst ht
    have HB := show Hid (Below w.heap.size w w1) from hb
    clear hb KB HT h0
    go_wp2_with fail
    refine (KN.out _).mono ?_
    rintro e w2 ⟨rfl, hT, hb2⟩
    have HP := show Hid (Pair w (w2.alloc (Obj.cells #[.slice none 0 0] 63)) (w1.heap.size + 1) w1.heap.size (.slice none 0 0) w2.heap.size (.slice none 0 0) [] []) from by
      have hb3 : Below w.heap.size w w2 := HB.out.trans (hb2.mono HB.out.size)
      have hs := HB.out.size
      have hs2 := hb3.size
      refine ⟨hT.later (below_alloc _ _), ⟨heap_alloc_new _ _, rw_nil _, Fm.ok_nil⟩, fun k hk => by simp [Value.ownBlock] at hk, ?_, ?_, hb3.alloc hb3.size _⟩
      · rintro k (e | e | e)
        · omega
        · omega
        · simp [Value.ownBlock] at e
      · rintro k (e | e)
        · omega
        · simp [Value.ownBlock] at e
    clear hT hb2 KN HB
    go_wp2_with fail
    go_ret2
    exact ⟨_, _, _, _, _, rfl, HP.out⟩
end Go.Proofs.YthdcppkohalkmaaGreat
