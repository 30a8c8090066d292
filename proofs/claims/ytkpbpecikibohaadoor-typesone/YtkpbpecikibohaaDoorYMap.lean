/-
  Maps from names to formulas in memory. For names that a machine can hold.
-/
import Derived.Test.YtkpbpecikibohaaDoorYArm
import Derived.StringKeys
import Derived.Maps.OwnSet
namespace Go.Proofs.YtkpbpecikibohaaDoor.Ya
open Go.RowKit Go.Maps
open Fm (Nd)
set_option linter.unusedSimpArgs false

def heldR : Value → Option (DataW Value × List MemPlace) := fun v => some (.held v, [])
theorem zero_intw (w : World) : (zeroValue 3).run Tryd.prog w = .ok (.int .i64 0) w := by kernel_rfl
def kS (s : ByteArray) : Lit := .string s.data.toList
theorem kS_key {s : ByteArray} (h : s.size ≤ 140737488351232) : keyOf Tryd.prog 9 (.string s) = some (kS s) := Go.WideMaps.keyOf_string_mk Tryd.underlying9 (by unfold maxLen; omega)
theorem kS_lit {s : ByteArray} (h : s.size ≤ 140737488351232) : WideAt.IsKeyLit (kS s) := (string_keyed Tryd.underlying9).key (kS_key h)
theorem kS_inj {s s' : ByteArray} (h : kS s = kS s') : s = s' := by
  unfold kS at h
  have h1 : s.data.toList = s'.data.toList := by injection h
  obtain ⟨⟨a⟩⟩ := s
  obtain ⟨⟨b⟩⟩ := s'
  simp at h1
  rw [h1]
def Mz (w : World) (m n : Nat) (g : ByteArray → Option Int) : Prop :=
  ∃ D : DataW Value, w.ownsMap Tryd.prog 9 heldR m n D ∧ ∀ s, s.size ≤ 140737488351232 → Maps.has D (kS s) = (g s).isSome ∧ ∀ z, D.atKey (kS s) z = ((g s).map fun x => DataW.held (Value.int .i64 x)).getD z
section
variable {w w' : World} {m n : Nat} {g : ByteArray → Option Int}
theorem mz_made (w : World) : Mz (w.alloc (.map #[] 0)) w.heap.size 0 (fun _ => none) :=
  ⟨.map [], World.ownsMap_made w _ _ _, fun i _ => ⟨by simp [Maps.has], fun z => rfl⟩⟩
theorem Mz.lt (h : Mz w m n g) : m < w.heap.size := by obtain ⟨D, hD, _⟩ := h; exact hD.lt
theorem Mz.keep (h : Mz w m n g) (hk : w'.heap[m]? = w.heap[m]?) : Mz w' m n g := by
  obtain ⟨D, ⟨es, cl, hb, r⟩, hg⟩ := h
  exact ⟨D, ⟨es, cl, hk.trans hb, r⟩, hg⟩
theorem Mz.later (h : Mz w m n g) (hb : Below w.heap.size w w') : Mz w' m n g := h.keep (hb.block m h.lt)
theorem Mz.look (h : Mz w m n g) {s : ByteArray} (hs : s.size ≤ 140737488351232) :
    (Instr.lookup 73 (.map (some m)) (.string s) true).run Tryd.prog w = .ok (.tuple #[.int .i64 ((g s).getD 0), .bool (g s).isSome]) w := by
  obtain ⟨D, hD, hg⟩ := h
  obtain ⟨v, ps, hr, hv⟩ := hD.look_ok (string_keyed Tryd.underlying9) Tryd.underlying73 (zero_intw w) (zd := .held (.int .i64 0)) (zp := []) rfl (kS_key hs)
  rw [hr, (hg s hs).1]
  have e1 : (DataW.held v : DataW Value) = D.atKey (kS s) (.held (.int .i64 0)) := by
    unfold heldR at hv
    exact congrArg Prod.fst (Option.some.inj hv)
  rw [(hg s hs).2] at e1
  cases hx : g s with
  | none => rw [hx] at e1; cases e1; rfl
  | some x => rw [hx] at e1; cases e1; rfl
end
def updZ (g : ByteArray → Option Int) (s : ByteArray) (x : Int) : ByteArray → Option Int := fun r => if r = s then some x else g r
theorem Mz.put {w : World} {m n : Nat} {g : ByteArray → Option Int} (h : Mz w m n g) (hn : n < maxLen) {s : ByteArray} (hs : s.size ≤ 140737488351232) (x : Int) :
    ∃ w', (Instr.mapUpdate 73 (.map (some m)) (.string s) (.int .i64 x)).run Tryd.prog w = .ok () w' ∧ Mz w' m (n + 1) (updZ g s x) ∧ Kp (fun k => k = m) w w' := by
  obtain ⟨D, hD, hg⟩ := h
  obtain ⟨w', hr, ho, hgr⟩ := hD.update (string_keyed Tryd.underlying9) Tryd.underlying73 hn (kS_key hs) (val := .int .i64 x) (d := .held (.int .i64 x)) (ps := []) rfl
  refine ⟨w', hr, ⟨_, ho, fun j hj => ?_⟩, ⟨hgr.os, hgr.tape, hgr.output, hgr.size, fun k hk hne => hgr.block k hk (fun e => hne (Option.some.inj e))⟩⟩
  unfold updZ
  by_cases e : j = s
  · subst e
    rw [if_pos rfl]
    exact ⟨has_put_same hD.isMap (kS_lit hs) _, fun z => atKey_put_same hD.isMap (kS_lit hs) _ _⟩
  · rw [if_neg e]
    have hne : kS j ≠ kS s := fun h => e (kS_inj h)
    exact ⟨(has_put_other hne _).trans (hg j hj).1, fun z => (atKey_put_other hne _ _).trans ((hg j hj).2 z)⟩
def delZ (g : ByteArray → Option Int) (s : ByteArray) : ByteArray → Option Int := fun r => if r = s then none else g r
theorem Mz.del {w : World} {m n : Nat} {g : ByteArray → Option Int} (h : Mz w m n g) {s : ByteArray} (hs : s.size ≤ 140737488351232) (ty : TypeId) :
    ∃ w', (Builtin.delete_ #[73, 9] ty #[.map (some m), .string s]).run Tryd.prog w = .ok (.tuple #[]) w' ∧ Mz w' m n (delZ g s) ∧ Kp (fun k => k = m) w w' := by
  obtain ⟨D, hD, hg⟩ := h
  obtain ⟨w', hr, ho, hgr⟩ := hD.drop (string_keyed Tryd.underlying9) Tryd.underlying73 (kS_key hs) ty
  refine ⟨w', hr, ⟨_, ho, fun j hj => ?_⟩, ?_⟩
  · unfold delZ
    by_cases e : j = s
    · subst e
      rw [if_pos rfl]
      exact ⟨has_del_same, fun z => atKey_del_same z⟩
    · rw [if_neg e]
      have hne : kS j ≠ kS s := fun h => e (kS_inj h)
      exact ⟨(has_del_other hne).trans (hg j hj).1, fun z => (atKey_del_other hne z).trans ((hg j hj).2 z)⟩
  · have hgr := hgr.grown
    exact ⟨hgr.os, hgr.tape, hgr.output, hgr.size, fun k hk hne => hgr.block k hk (fun e => hne (Option.some.inj e))⟩
theorem Mz.same {w : World} {m n : Nat} {g g' : ByteArray → Option Int} (h : Mz w m n g) (e : ∀ s, s.size ≤ 140737488351232 → g s = g' s) : Mz w m n g' := by
  obtain ⟨D, hD, hg⟩ := h
  exact ⟨D, hD, fun s hs => by rw [← e s hs]; exact hg s hs⟩
theorem Mz.mono {w : World} {m n n' : Nat} {g : ByteArray → Option Int} (h : Mz w m n g) (hn : n ≤ n') : Mz w m n' g := by
  obtain ⟨D, hD, hg⟩ := h
  exact ⟨D, hD.mono hn, hg⟩
end Go.Proofs.YtkpbpecikibohaaDoor.Ya
