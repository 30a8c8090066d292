/-
  The document's call Frame: for every table that calls made, every number and name. No other condition.
-/
import Derived.Test.YthfedlodikbdgaaRPutC
import Derived.Test.YthfedlodikbdgaaURep
namespace Go.Proofs.Ythfedlodikbdgaa
open Go.RowKit Go.Maps
open Fm (Nd)
section
variable {c : Nat} {u : Value} {t : List Nd}
set_option maxHeartbeats 1000000 in
theorem rframe_any (w : World) (h : Tr w c u t) (id : Int) (s : ByteArray) (fill : Int) (hs : s.size ≤ 140737488351232) (hfi : Fm.i64 fill) :
    Calls Try.prog 18 #[.pointer (some ⟨c, 0, none⟩), .int .i64 id, .string s, .int .i64 fill] w fun e w' => e = .returned (.tuple #[.int .i64 (Sb.putR t id [(s, fill)]).1, .int .i64 (Sb.putR t id [(s, fill)]).2.1]) ∧ AfterR w c u (Sb.putR t id [(s, fill)]).2.2 w' := by
  have K := show Hid (Calls Try.prog 12 #[.pointer (some ⟨c, 0, none⟩), .int .i64 id, .slice (some ⟨w.heap.size, 0, none⟩) 1 1] (w.alloc (Obj.cells #[.string s, .int .i64 fill] 39)) fun e w' => e = .returned (.tuple #[.int .i64 (Sb.putR t id [(s, fill)]).1, .int .i64 (Sb.putR t id [(s, fill)]).2.1]) ∧ AfterR w c u (Sb.putR t id [(s, fill)]).2.2 w') from
    (rput_hyps_any (w.alloc (Obj.cells #[.string s, .int .i64 fill] 39)) (h.later (below_alloc _ _)) id _ [(s, fill)] (isH1 w s fill) (fun x hx => by simp at hx; subst hx; exact ⟨hs, hfi⟩) (fun _ k hk hf => by
      cases hk
      exact Nat.lt_irrefl _ (h.foot _ hf))).mono fun e w' ⟨he, hA⟩ => ⟨he, hA.from_below (below_alloc _ _)⟩
  generalize Sb.putR t id [(s, fill)] = r at *
  clear h
  go_enter Try.func18, Try.ntmps18
  go_wp2_with fail
  refine K.out.mono ?_
  rintro e w1 ⟨rfl, hA⟩
  have HA := show Hid (AfterR w c u r.2.2 w1) from hA
  clear K hA
  go_wp2_with fail
  go_ret2
  exact ⟨rfl, HA.out⟩
end
end Go.Proofs.Ythfedlodikbdgaa
