/-
  The call Hex: two digits a byte: for every row of at most 2^47 - 4096 bytes.
-/
import Derived.Test.YthmfgoclkioncaaDoorOpen
import Derived.Deep.RegionLaw
namespace Go.Proofs.YthmfgoclkioncaaDoor
open Go.RowKit

def hexd (n : Nat) : UInt8 := if n < 10 then UInt8.ofNat (48 + n) else UInt8.ofNat (87 + n)
def hexOf (l : List UInt8) : List UInt8 := l.flatMap fun c => [hexd (c.toNat / 16), hexd (c.toNat % 16)]
theorem hex_snoc (l : List UInt8) (k : Nat) (h : k < l.length) : hexOf (l.take (k + 1)) = hexOf (l.take k) ++ [hexd ((l[k]).toNat / 16), hexd ((l[k]).toNat % 16)] := by
  rw [Oct.take_snoc l k h]; simp only [hexOf, List.flatMap_append]; rfl
theorem hexOf_length (l : List UInt8) : (hexOf l).length = 2 * l.length := by
  induction l with
  | nil => rfl
  | cons c r ih => simp only [hexOf, List.flatMap_cons, List.length_append] at ih ⊢; rw [ih]; simp; omega
theorem strOfNums_ints (l : List UInt8) : strOfNums (ints l) = ⟨l.toArray⟩ := by
  have := bytesOf_ints l
  rw [Lib.bytesOf] at this
  rw [strOfNums, this]
theorem step_append_fits {P : Program} {ops : Array Oper} {o : Oper} {a : Act} {w : World} {K : Act → World → Prop} {Q : Exit → Act → World → Prop} {E : Prop}
    (hg : o.guard = none) (s x : Operand) (t : TypeId) (hop : o.op = Op.call { callee := Callee.builtin Builtin.append, args := #[s, x], argTypes := #[t, t] })
    (base : Nat) (e : TypeId) (i : TypeInfo) (size : Nat) (h1 : P.underlying t = some (.slice e)) (h2 : P.info? e = some i) (h4 : i.size = size)
    (g k cap : Nat) (xs : List Value) (hs : a.eval s = .slice (some ⟨g, 0, none⟩) k cap) (hown : w.ownsRow base e size (.slice (some ⟨g, 0, none⟩) k cap) k xs) (ad : Addr) (m c : Nat) (news : List Value) (hx : a.eval x = .slice (some ad) m c) (hn : news.length = m * size)
    (hc : ∀ j u, news[j]? = some u → w.cell? (ad.add j) = some u) (h1c : ∀ u ∈ news, u.oneCell' = true) (b1 : k + m ≤ cap)
    (hK : ∀ w', w'.ownsRow base e size (.slice (some ⟨g, 0, none⟩) (k + m) cap) (k + m) (xs ++ news) → w.grownBy w' (some g) → K (a.put o.dst (.slice (some ⟨g, 0, none⟩) (k + m) cap)) w') :
    if Region.wanted o (yielded ops a.tmps) = true then Oper.wp P o a w K Q else E := by
  have hw : Region.wanted o (yielded ops a.tmps) = true := by simp [Region.wanted, hg]
  rw [if_pos hw]
  obtain ⟨w', hrun, r1, r2⟩ := run_append_fits (P := P) w base t o.type e i size h1 h2 h4 g k cap xs hown ad m c news hn hc h1c b1
  unfold Oper.wp
  simp [execOp, hop, resolve, invoke, builtin, hs, hx, hrun, Result.andThen]
  exact hK w' r1 r2
def digits16 : ByteArray := ⟨#[48, 49, 50, 51, 52, 53, 54, 55, 56, 57, 97, 98, 99, 100, 101, 102]⟩
theorem idx_hex (W : World) (j : Nat) (hj : j < 16) : (Instr.index 9 (.string ⟨#[48, 49, 50, 51, 52, 53, 54, 55, 56, 57, 97, 98, 99, 100, 101, 102]⟩) (.int .u8 (j : Int))).run Tryd.prog W = .ok (.int .u8 ((hexd j).toNat : Int)) W := by
  obtain rfl | rfl | rfl | rfl | rfl | rfl | rfl | rfl | rfl | rfl | rfl | rfl | rfl | rfl | rfl | rfl : j = 0 ∨ j = 1 ∨ j = 2 ∨ j = 3 ∨ j = 4 ∨ j = 5 ∨ j = 6 ∨ j = 7 ∨ j = 8 ∨ j = 9 ∨ j = 10 ∨ j = 11 ∨ j = 12 ∨ j = 13 ∨ j = 14 ∨ j = 15 := by omega
  all_goals kernel_rfl
set_option maxHeartbeats 1000000 in
theorem hex_any (w : World) (v : Value) (l : List UInt8) (hv : IsB w v l) (hm : l.length ≤ 140737488351232) :
    Calls Tryd.prog 26 #[v] w fun e w' => e = .returned (.string ⟨(hexOf l).toArray⟩) ∧ Below w.heap.size w w' := by
  obtain ⟨p, c, rfl, hc1, hc2, hpn, hb⟩ := hv
  obtain ⟨i0, hi, hz0, hz1, hz2⟩ := info_parts info_u8
  go_enter Tryd.func26, Tryd.ntmps26
  go_wp2_with (at_make; refine wpList_make_own _ rfl _ _ 24 rfl (w.heap.size) 5 i0 (.int .u8 0) 1 Tryd.underlying24 hi hz0 hz1 _ _ _ (2 * l.length) rfl rfl (by omega) (by rw [hz2]; omega) (by unfold maxLen; omega) (by omega) ?_)
  intro w1 hown1 hg1
  go_wp2
  go_loopw [3, 12] (fun s i wr => ∃ k : Nat, k ≤ l.length ∧ i = .int .i64 k ∧ s = .slice (some ⟨w.heap.size, 0, none⟩) (2 * k) (2 * l.length) ∧ wr.ownsRow w.heap.size 5 1 (.slice (some ⟨w.heap.size, 0, none⟩) (2 * k) (2 * l.length)) (2 * k) (vals (hexOf (l.take k))) ∧ Below w.heap.size w wr ∧ w.heap.size + 1 ≤ wr.heap.size) (fun _ i _ => l.length - (intOf i).toNat)
  case atStart => exact ⟨0, by omega, rfl, rfl, hown1, (Below.refl _ _).grown hg1 (Nat.le_refl _) (fun k e => (nomatch e)), (hown1.lt _ rfl).2⟩
  case round =>
    obtain ⟨k, hk, rfl, rfl, hown, hbel, hsz⟩ := hrel
    by_cases hlt : k < l.length
    · obtain ⟨b, o, rfl, hcell⟩ := bytes_cell (bytes_later hbel hb) (by omega)
      have hck := hcell k hlt
      have hm1 := toNat_lt l[k]
      have hsn := hex_snoc l k hlt
      generalize (l[k]).toNat = m at *
      have hx1 : ∀ W, (Instr.index 9 (.string ⟨#[48, 49, 50, 51, 52, 53, 54, 55, 56, 57, 97, 98, 99, 100, 101, 102]⟩) (.int .u8 ((m : Int) / 16))).run Tryd.prog W = .ok (.int .u8 ((hexd (m / 16)).toNat : Int)) W := fun W => by
        have := idx_hex W (m / 16) (by omega)
        simpa using this
      have hx2 : ∀ W, (Instr.index 9 (.string ⟨#[48, 49, 50, 51, 52, 53, 54, 55, 56, 57, 97, 98, 99, 100, 101, 102]⟩) (.int .u8 ((m : Int) % 16))).run Tryd.prog W = .ok (.int .u8 ((hexd (m % 16)).toNat : Int)) W := fun W => by
        have := idx_hex W (m % 16) (by omega)
        simpa using this
      have hx3 : ∀ W, (Instr.index 9 (.string ⟨#[48, 49, 50, 51, 52, 53, 54, 55, 56, 57, 97, 98, 99, 100, 101, 102]⟩) (.int .u8 (bits .and .u8 (m : Int) 15))).run Tryd.prog W = .ok (.int .u8 ((hexd (m % 16)).toNat : Int)) W := fun W => by
        have h := u8_and_nat m 15 hm1 (by omega)
        rw [show (15 : Nat) = 2 ^ 4 - 1 from rfl, Nat.and_two_pow_sub_one_eq_mod] at h
        have e : bits .and .u8 (m : Int) 15 = ((m % 16 : Nat) : Int) := h
        rw [e]
        exact idx_hex W (m % 16) (by omega)
      have HS := show Hid (hexOf (l.take (k + 1)) = hexOf (l.take k) ++ [hexd (m / 16), hexd (m % 16)]) from hsn
      generalize hexd (m / 16) = d1 at *
      generalize hexd (m % 16) = d2 at *
      clear hcell hb hpn hown1 hg1 hsn
      go_wp2
      go_region_law (refine step_append_fits rfl (.tmp 16) (.tmp 23) 24 rfl w.heap.size 5 i0 1 Tryd.underlying24 hi hz1 w.heap.size (2 * k) (2 * l.length) (vals (hexOf (l.take k))) rfl (hown.alloc _) ⟨wr.heap.size, 0, none⟩ 2 2 (vals [d1, d2]) rfl rfl (lit_news wr _ _ _ rfl) (vals_one _) (by omega) ?_; intro w2 hown2 hg2)
      all_goals go_wp2
      all_goals
        go_roundw
        case rel =>
          refine ⟨k + 1, by omega, by go_num, rfl, ?_, ((hbel.alloc (by omega) _).drew).grown hg2 (by simp; omega) (fun j e => by have := Option.some.inj e; omega), by have := hg2.size; simp at this; omega⟩
          rw [HS.out, vals_append]
          exact hown2
        case measure => simp [intOf]; omega
    · have hkl : k = l.length := by omega
      subst hkl
      have hcv : (convert 24 9 (.slice (some ⟨w.heap.size, 0, none⟩) (2 * l.length) (2 * l.length))).run Tryd.prog wr = .ok (.string ⟨(hexOf l).toArray⟩) wr := by
        obtain ⟨p', c', hv', _, _, _, hb'⟩ := IsB.of_owns hown
        obtain ⟨rfl, hl', rfl⟩ := Value.slice.inj hv'
        rw [List.take_length] at hb' hl'
        rw [hl']
        have := hb'.convert (P := Tryd.prog) (ints_length _) (hexOf l).length 24 5 9 Tryd.underlying24 Tryd.underlying5 Tryd.underlying9
        rw [this]
        simp only [strOfNums_ints]
      clear hown hb hpn hown1 hg1
      go_wp2
      go_ret
      exact ⟨rfl, hbel⟩
end Go.Proofs.YthmfgoclkioncaaDoor
