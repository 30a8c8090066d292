/-
  What the listed tables give to the walks; and a world that holds them, for a row's witness. No condition.
-/
import Derived.Test.YtkmmlimekachbabGreatDoorCards
import Derived.Test.YtkmmlimekachbabGreatDoorTie
import Derived.Test.YtkmmlimekachbabGreatDoorTG3
import Derived.Lib.LaidIn
import Derived.Lib.LaidU8T
import Derived.Deep.DeepHandedRow
import Derived.Deep.DeepWitnessRowRef
import Derived.ProofKit
import Derived.OpenShut
import Derived.SizedLaws
import Derived.Test.YtkmmlimekachbabGreatDoorFG3
import Derived.Test.YtkmmlimekachbabGreatDoorFG2
import Derived.Deep.Slices
namespace Go.Proofs.YtkmmlimekachbabGreatDoor.Tw
open Go.RowKit

theorem own : ownKnob Tryz.prog.godebug = none := by kernel_rfl
theorem laidOut : laidOutB Tryz.prog = true := by kernel_rfl
theorem e_first : Rows.laid_unicode_utf8_first = Lib.firstData := by kernel_rfl
theorem e_accept : Rows.laid_unicode_utf8_acceptRanges (H := Unit) = Lib.acceptData := by kernel_rfl
theorem tabs_of {W : World} {l : List (String × DataW Unit)} (h : laidMet Tryz.prog l W) (h3 : ("unicode/utf8.first", Rows.laid_unicode_utf8_first) ∈ l) (h4 : ("unicode/utf8.acceptRanges", Rows.laid_unicode_utf8_acceptRanges) ∈ l) : Tabs W := by
  rw [e_first] at h3
  rw [e_accept] at h4
  exact utf8Tabs_of_readsT (show U8Types Tryz.prog Tryz.lays197_ren from { Tryz.lays197 with }) ⟨by kernel_rfl, by kernel_rfl, by kernel_rfl, by kernel_rfl, by kernel_rfl, by kernel_rfl, by kernel_rfl⟩ (Lib.laidMet.reads h h3) (Lib.laidMet.reads h h4)
def strData {H : Type} (zs : List (List UInt8)) : DataW H := .agg (zs.map fun z => .lit (.string z))
theorem e_signs : Rows.laid_dictum_token_signs (H := Unit) = strData Tk.signs := by kernel_rfl
theorem cells_of_strs {H : Type} {enc : TypeId × Value → H} {P : Program} {w : World} {base : Nat} {sp : Nat → Bool} {held : Bool} {fuel : Nat} {t e : TypeId} {n : Nat} {cs : List Value} {zs : List (List UInt8)} {p : List MemPlace}
    (ht : P.underlying t = some (.array n e)) (he : P.underlying e = some .string) (hce : P.cellsOf e = 1) (hct : P.cellsOf t = n)
    (h : DataW.trod enc P w base sp held fuel t cs = some (strData zs, p)) : cs = zs.map fun z => Value.string ⟨z.toArray⟩ := by
  cases fuel with
  | zero => simp [DataW.trod] at h
  | succ fuel =>
    simp only [DataW.trod, ht, hce, hct, Nat.mul_one] at h
    split at h
    · rename_i hl
      obtain ⟨xs, hm, hx⟩ := Option.map_eq_some_iff.1 h
      have hxs : xs.map (·.1) = zs.map fun z => (DataW.lit (.string z) : DataW H) := by
        have := congrArg Prod.fst hx
        simpa [strData] using this
      have hxl : xs.length = n := by simpa using Lib.mapM_length hm
      have hzl : zs.length = n := by
        have := congrArg List.length hxs
        simp at this
        omega
      apply List.ext_getElem?
      intro i
      by_cases hi : i < n
      · obtain ⟨b, hb, hf⟩ := Lib.mapM_at hm i i (by simp [hi])
        obtain ⟨s, hc, hs2, _⟩ := DataW.trod_string he hf
        have h1 : cs[i]? = some (.string s) := by
          have := congrArg (·[0]?) hc
          simpa [List.getElem?_take, List.getElem?_drop] using this
        have h2 : (xs.map (·.1))[i]? = some (DataW.lit (.string s.data.toList) : DataW H) := by simp [hb, hs2]
        rw [hxs] at h2
        simp only [List.getElem?_map, Option.map_eq_some_iff, DataW.lit.injEq, Lit.string.injEq] at h2
        obtain ⟨z', hz', hz2⟩ := h2
        simp [h1, hz', hz2]
      · rw [List.getElem?_eq_none (by omega), List.getElem?_eq_none (by simp; omega)]
    · cases h
theorem sig_global : Tryz.prog.globalNamed "dictum/token.signs" = some 1 := by kernel_rfl
theorem sigs_of {W : World} {l : List (String × DataW Unit)} (h : laidMet Tryz.prog l W) (h3 : ("dictum/token.signs", Rows.laid_dictum_token_signs) ∈ l) : Sigs W := by
  rw [e_signs] at h3
  obtain ⟨g, t, cs, fuel, p, hg, hty, hvar, hd⟩ := Lib.laidMet.reads h h3
  obtain rfl := Option.some.inj (sig_global.symm.trans hg)
  obtain rfl := Option.some.inj ((show (Tryz.prog.globals[1]?).map (·.type) = some 182 by kernel_rfl).symm.trans hty)
  have hc := cells_of_strs Tryz.underlying182 Tryz.underlying9 (by kernel_rfl) (by kernel_rfl) hd
  unfold World.var? at hvar
  rw [sig_global] at hvar
  simp only [Option.bind_some] at hvar
  split at hvar
  · rename_i cs' t' fr' heq
    refine ⟨t', fr', ?_⟩
    rw [heq]
    have h1 : cs' = cs := Option.some.inj hvar
    have h2 : cs = sigV := Array.ext' (by rw [hc]; simp [sigV])
    rw [h1, h2]
  · cases hvar

end Go.Proofs.YtkmmlimekachbabGreatDoor.Tw
/-
  How arguments of the types Node and []Node are opened: what they hold, where it lies, and how great it is at most. No condition.
-/
namespace Go.Proofs.YtkmmlimekachbabGreatDoor
open Go.ChangeShapes Go.WideShapes Go.ChangeAt Go.RowKit
open Fm (Nd)

theorem bounds64 {x : Int} (h : (Lit.int .i64 x).wf = true) : Fm.i64 x := by
  have hb := bounds_i64 h
  exact ⟨by omega, by omega⟩
theorem agg_of {v : Value} {cs : List Value} (h : v.cells.toList = cs) (hl : cs.length ≠ 1) : v = .agg cs.toArray := by
  have e : v.cells = cs.toArray := Array.ext' (by rw [h])
  have one : ∀ u : Value, v.cells = #[u] → False := fun u hu => by
    rw [hu] at h
    subst h
    simp at hl
  cases v with
  | agg ds => exact congrArg Value.agg e
  | _ => exact (one _ rfl).elim
end Go.Proofs.YtkmmlimekachbabGreatDoor
