/-
  How arguments are opened: what is asked of the program, and how great numbers are at most. No condition.
-/
import Derived.Test.YthdcppkohalkmaaChecked
import Derived.Test.YthdcppkohalkmaaRows
import Derived.Test.YthdcppkohalkmaaMHeads
import Derived.Deep.Slices
import Derived.OpenShut
import Derived.SizedLaws
namespace Go.Proofs.Ythdcppkohalkmaa
open Go.ChangeShapes Go.WideShapes Go.ChangeAt Go.RowKit
open Fm (Nd)

theorem own : ownKnob Try.prog.godebug = none := by kernel_rfl
theorem bounds64 {x : Int} (h : (Lit.int .i64 x).wf = true) : Fm.i64 x := by
  have hb := bounds_i64 h
  exact ⟨by omega, by omega⟩
theorem sized_all {H : Type} {ts : List TypeId} {ds : List (DataW H)} (h : (DataW.weightsEach Try.prog ts ds).all (· ≤ reachBytes) = true) {j : Nat} {t : TypeId} {d : DataW H} (ht : ts[j]? = some t) (hd : ds[j]? = some d) :
    ∀ n ∈ d.weights Try.prog t, n ≤ 140737488351232 := fun n hn => by
  have h1 := List.all_eq_true.1 h _ (DataW.weights_mem_each ht hd n hn)
  have h2 : n ≤ reachBytes := by simpa using h1
  unfold reachBytes at h2
  omega
end Go.Proofs.Ythdcppkohalkmaa
