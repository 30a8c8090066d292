/-
  How a row of bytes lies in memory, and small laws of it that the walks lean on. No condition.
-/
import Derived.Test.YthmfgoclkioncaaDoorChecked
import Derived.Test.YthmfgoclkioncaaDoorBurst
import Derived.WalkKit
import Derived.WalkLawsBesides
import Derived.WalkSpells
import Derived.ProofKit
import Derived.Shelf.Bytes.SlSmallAll
import Derived.Laws.BitsAllLaws
namespace Go.Proofs.YthmfgoclkioncaaDoor
open Go.RowKit

def ints (l : List UInt8) : List Int := l.map fun b => (b.toNat : Int)
def vals (l : List UInt8) : List Value := l.map fun b => .int .u8 (b.toNat : Int)
/-- The value v is a slice of just the bytes l, wherever they lie. -/
def IsB (w : World) (v : Value) (l : List UInt8) : Prop :=
  ∃ p c, v = .slice p l.length c ∧ l.length ≤ c ∧ c ≤ 9223372036854775807 ∧ (p = none → c = 0) ∧ Lib.BytesIn w p l.length (ints l)

theorem ints_length (l : List UInt8) : (ints l).length = l.length := by simp [ints]
theorem vals_length (l : List UInt8) : (vals l).length = l.length := by simp [vals]
theorem vals_eq (l : List UInt8) : vals l = (ints l).map (Value.int .u8) := by simp [vals, ints]
theorem ints_getD (l : List UInt8) (k : Nat) (h : k < l.length) : (ints l).getD k 0 = ((l[k]).toNat : Int) := by
  simp [ints, List.getD, h]
theorem bytes_cell {w : World} {p : Option Addr} {l : List UInt8} (h : Lib.BytesIn w p l.length (ints l)) (hn : 0 < l.length) :
    ∃ b o, p = some ⟨b, o, none⟩ ∧ ∀ k (hk : k < l.length), w.cell? ⟨b, o + k, none⟩ = some (.int .u8 ((l[k]).toNat : Int)) := by
  obtain ⟨b, o, hp, hc⟩ := h.at hn
  exact ⟨b, o, hp, fun k hk => by rw [hc k hk, ints_getD l k hk]⟩
theorem bytes_of_cell {w : World} {b o : Nat} {l : List UInt8} (hc : ∀ k (hk : k < l.length), w.cell? ⟨b, o + k, none⟩ = some (.int .u8 ((l[k]).toNat : Int))) :
    Lib.BytesIn w (some ⟨b, o, none⟩) l.length (ints l) :=
  fun _ => ⟨b, o, rfl, fun k hk => by rw [hc k hk, ints_getD l k hk]⟩
theorem toNat_lt (c : UInt8) : c.toNat < 256 := c.toNat_lt
theorem bytes_later {w w' : World} {p : Option Addr} {n : Nat} {xs : List Int} (hb : Below w.heap.size w w') (h : Lib.BytesIn w p n xs) : Lib.BytesIn w' p n xs := fun hn => by
  obtain ⟨b, o, hp, hc⟩ := h hn
  exact ⟨b, o, hp, fun i hi => cell_later hb (hc i hi)⟩
theorem below_alloc (w : World) (o : Obj) : Below w.heap.size w (w.alloc o) := (Below.refl _ _).alloc (Nat.le_refl _) _
theorem IsB.later {w w' : World} {v : Value} {l : List UInt8} (h : IsB w v l) (hb : Below w.heap.size w w') : IsB w' v l := by
  obtain ⟨p, c, hv, h1, h2, h3, h4⟩ := h
  exact ⟨p, c, hv, h1, h2, h3, bytes_later hb h4⟩
theorem IsB.alloc {w : World} {v : Value} {l : List UInt8} (h : IsB w v l) (o : Obj) : IsB (w.alloc o) v l := h.later (below_alloc w o)
theorem IsB.nil (w : World) : IsB w (.slice none 0 0) [] := ⟨none, 0, rfl, by simp, by omega, fun _ => rfl, Lib.BytesIn.nil _ _ _⟩
theorem IsB.of_owns {w : World} {base n : Nat} {v : Value} {l : List UInt8} (h : w.ownsRow base 5 1 v n (vals l)) : IsB w v l := by
  have hn : l.length = n := by have := h.1; simpa [vals] using this
  subst hn
  rcases h.2 with ⟨rfl, h0⟩ | ⟨g, cap, cur, rfl, hg, hh, h1, h2, h3, h4⟩
  · obtain rfl : l = [] := List.eq_nil_of_length_eq_zero h0
    exact IsB.nil w
  · refine ⟨_, cap, rfl, h1, h2, fun e => (nomatch e), bytes_of_cell fun k hk => ?_⟩
    have := h.cellAt k (by omega)
    rw [Nat.zero_add, this]
    simp [vals, hk]
/-- The cells that an append reads. -/
theorem news_of {w : World} {p : Option Addr} {l : List UInt8} (h : Lib.BytesIn w p l.length (ints l)) : ∀ ad, p = some ad → ∀ j u, (vals l)[j]? = some u → w.cell? (ad.add j) = some u := by
  intro ad hp j u hu
  have hj : j < l.length := by
    have := (List.getElem?_eq_some_iff.1 hu).1
    simpa [vals] using this
  obtain ⟨b, o, hp', hc⟩ := bytes_cell h (by omega)
  rw [hp] at hp'
  obtain rfl := Option.some.inj hp'
  rw [Addr.add_lit, hc j hj]
  simpa [vals, hj] using hu
/-- The cells of a row that has just been laid. -/
theorem lit_news (w : World) (cs : Array Value) (t : TypeId) (l : List UInt8) (h : cs.toList = vals l) : ∀ j u, (vals l)[j]? = some u → (w.alloc (.cells cs t)).cell? ((⟨w.heap.size, 0, none⟩ : Addr).add j) = some u := by
  intro j u hu
  rw [Addr.add_lit, Nat.zero_add, World.cell?_alloc_new, ← Array.getElem?_toList, h]
  exact hu
theorem lit_bytes (w : World) (cs : Array Value) (t : TypeId) (l : List UInt8) (h : cs.toList = vals l) : Lib.BytesIn (w.alloc (.cells cs t)) (some ⟨w.heap.size, 0, none⟩) l.length (ints l) :=
  bytes_of_cell fun k hk => by
    have := lit_news w cs t l h k (.int .u8 (l[k].toNat : Int)) (by simp [vals, hk])
    rwa [Addr.add_lit] at this
theorem vals_append (l r : List UInt8) : vals (l ++ r) = vals l ++ vals r := by simp [vals]
theorem vals_one (l : List UInt8) : ∀ u ∈ vals l, u.oneCell' = true := by
  intro u hu
  obtain ⟨_, _, rfl⟩ := List.mem_map.1 hu
  rfl
end Go.Proofs.YthmfgoclkioncaaDoor
