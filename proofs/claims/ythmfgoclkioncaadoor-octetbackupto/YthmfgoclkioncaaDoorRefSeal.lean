/-
  The document's calls Seal and Open answer as the program's do: for every bytes of at most 2^47 - 4096 (Open: and four more).
-/
import Derived.Test.YthmfgoclkioncaaDoorRefSums
import Derived.Test.YthmfgoclkioncaaDoorSame
import Derived.Test.YthmfgoclkioncaaDoorTurn
import Derived.BigQuiet
namespace Go.Proofs.YthmfgoclkioncaaDoor
open Go.RowKit

theorem below_drewN' (w : World) (q : Nat) : Below w.heap.size w (w.drewN q) := ⟨rfl, rfl, rfl, Nat.le_refl _, fun _ _ => rfl⟩
theorem slice_of {w : World} {B n : Nat} {v : Value} {xs : List Value} (h : w.ownsRow B 5 1 v n xs) : ∃ p m c, v = .slice p m c := by
  rcases h.2 with ⟨h, _⟩ | ⟨g, cap, cur, h, _⟩
  · exact ⟨_, _, _, h⟩
  · exact ⟨_, _, _, h⟩
/-- append([]byte{}, b...): a copy of the bytes in a row of the call's own. -/
theorem copied {ops : Array Oper} {rest : List Oper} {o : Oper} {a : Act} {Q : Exit → Act → World → Prop} (w : World) (B : Nat) (hB : B ≤ w.heap.size) (hgd : o.guard = none) (s x : Operand) (ho : o.op = .call { callee := .builtin .append, args := #[s, x], argTypes := #[24, 24] })
    (l : List UInt8) (p : Option Addr) (c : Nat) (hm : l.length ≤ 140737488355328) (hpn : p = none → c = 0) (hc : l.length ≤ c) (hb : Lib.BytesIn w p l.length (ints l))
    (hs : a.eval s = .slice (some ⟨w.heap.size, 0, none⟩) 0 0) (hx : a.eval x = .slice p l.length c)
    (h : ∀ g cap w', w'.ownsRow B 5 1 (.slice (some ⟨g, 0, none⟩) l.length cap) l.length (vals l) → Below w.heap.size w w' → wpList Tryd.prog ops Q rest (a.put o.dst (.slice (some ⟨g, 0, none⟩) l.length cap)) w') : wpList Tryd.prog ops Q (o :: rest) a (w.alloc (.cells #[] 5)) := by
  obtain ⟨i0, hi, hz0, hz1, hz2⟩ := info_parts info_u8
  have hown : (w.alloc (.cells #[] 5)).ownsRow B 5 1 (.slice (some ⟨w.heap.size, 0, none⟩) 0 0) 0 (vals []) := World.ownsRow_lit w #[] 0 hB (by decide) rfl
  cases p with
  | none =>
    have hc0 := hpn rfl
    have hl0 : l = [] := List.eq_nil_of_length_eq_zero (by omega)
    subst hl0
    subst hc0
    exact wpList_append_own_none hgd s x 24 ho B 5 i0 1 Tryd.underlying24 hi _ 0 _ hs hown hx (h _ _ _ hown (below_alloc _ _))
  | some ad =>
    refine wpList_append_own _ hgd s x 24 ho B 5 i0 (.int .u8 0) 1 1 Tryd.underlying24 hi hz0 hz1 hz2 rfl (by decide) _ 0 _ hs hown ad l.length c (vals l) hx (by simp [vals_length]) (news_of (bytes_later (below_alloc _ _) hb) ad rfl) (vals_one l) (by unfold maxLen; omega) (by omega) (by simp; omega) ?_
    intro v' w' hown' hg hnil
    rw [Nat.zero_add] at hown'
    obtain ⟨g, cap, rfl⟩ : ∃ g cap, v' = .slice (some ⟨g, 0, none⟩) l.length cap := by
      rcases hown'.2 with ⟨h', _⟩ | ⟨g, cap, cur, h', _⟩
      · exact absurd (hnil.1 h').1 (by simp)
      · exact ⟨g, cap, h'⟩
    exact h g cap w' hown' ((below_alloc _ _).grown hg (by simp) (fun k e => by have h2 : w.heap.size = k := Option.some.inj e; omega))
set_option maxRecDepth 100000 in
set_option maxHeartbeats 2000000 in
theorem rseal_any (w : World) (v : Value) (l : List UInt8) (hv : IsB w v l) (hm : l.length ≤ 140737488355324) :
    Calls Tryd.prog 21 #[v] w fun e w' => ∃ p n c, e = .returned (.slice p n c) ∧ w'.ownsRow w.heap.size 5 1 (.slice p n c) (l.length + 4) (vals (Oct.sealed l)) ∧ Below w.heap.size w w' := by
  have CS := show Hid (Calls Tryd.prog 23 #[v] w fun e w' => e = .returned (.int .u32 (Oct.sum l : Nat)) ∧ w' = w) from rsum_any w v l hv
  obtain ⟨p, c, rfl, hc1, hc2, hpn, hb⟩ := hv
  obtain ⟨i0, hi, hz0, hz1, hz2⟩ := info_parts info_u8
  have hs := Oct.sum_lt l
  have HPN := show Hid (p = none → c = 0) from hpn
  have HBB := show Hid (Lib.BytesIn w p l.length (ints l)) from hb
  clear hpn hb
  generalize hsum : Oct.sum l = t at *
  have HT := show Hid (Oct.sum l = t) from hsum
  clear hsum
  go_enter Tryd.func21, Tryd.ntmps21
  go_wp2_with fail
  refine CS.out.mono ?_
  rintro e w1 ⟨rfl, hw1⟩
  subst hw1
  clear CS
  go_wp2_with (at_builtin; refine copied w1 w1.heap.size (Nat.le_refl _) rfl (.tmp 7) (.tmp 8) rfl l p c (by omega) HPN.out hc1 HBB.out rfl rfl ?_)
  intro g2 cap2 w2 hown2 hb2
  have hs2 := hb2.size
  clear HPN HBB
  go_wp2_with (at_builtin; refine wpList_append_own _ rfl (.tmp 10) (.tmp 22) 24 rfl w1.heap.size 5 i0 (.int .u8 0) 1 1 Tryd.underlying24 hi hz0 hz1 hz2 rfl (by decide) _ l.length (vals l) rfl (hown2.alloc _) ⟨w2.heap.size, 0, none⟩ 4 4 (vals (Oct.le4 t)) rfl rfl (lit_news _ _ _ _ (le4_vals t hs)) (vals_one _) (by unfold maxLen; omega) (by omega) (by simp; omega) ?_)
  intro v3 w3 hown3 hg3 _
  obtain ⟨p3, m3, c3, rfl⟩ := slice_of hown3
  have HB3 := show Hid (Below w1.heap.size w1 w3) from (hb2.alloc (by omega) _).grown hg3 (by simp; omega) (fun k e => (hown2.lt k e).1)
  have HO3 := show Hid (w3.ownsRow w1.heap.size 5 1 (.slice p3 m3 c3) (l.length + 4) (vals (Oct.sealed l))) from by
    show w3.ownsRow w1.heap.size 5 1 (.slice p3 m3 c3) (l.length + 4) (vals (Oct.sealed l))
    rw [Oct.sealed, vals_append, HT.out]
    exact hown3
  clear hown3 hg3 hown2
  go_wp2
  go_ret
  exact ⟨p3, m3, c3, rfl, HO3.out, HB3.out⟩
set_option maxRecDepth 100000 in
set_option maxHeartbeats 400000 in
theorem ropen_short (w : World) (v : Value) (l : List UInt8) (hv : IsB w v l) (h4 : l.length < 4) :
    Calls Tryd.prog 25 #[v] w fun e w' => e = .returned (.tuple #[.slice none 0 0, .int .i64 10]) ∧ w' = w := by
  obtain ⟨p, c, rfl, hc1, hc2, hpn, hb⟩ := hv
  clear hb hpn
  go_enter Tryd.func25, Tryd.ntmps25
  go_wp2
  go_ret2
  exact ⟨rfl, rfl⟩
/-- The last four bytes decide. -/
theorem tail_eq (l W : List UInt8) (n : Nat) (hl : l.length = n + 4) (hW : W.length = n + 4) (h0 : W.take n = l.take n) (h : ∀ i (h1 : i < W.length) (h2 : i < l.length), n ≤ i → W[i] = l[i]) : W = l := by
  apply List.ext_getElem (by omega)
  intro i h1 h2
  by_cases hi : n ≤ i
  · exact h i h1 h2 hi
  · have e1 : W[i] = (W.take n)[i]'(by simp; omega) := by simp
    have e2 : l[i] = (l.take n)[i]'(by simp; omega) := by simp
    rw [e1, e2]
    simp only [h0]
theorem own_cell {w : World} {B n : Nat} {p : Option Addr} {m c : Nat} {l : List UInt8} (h : w.ownsRow B 5 1 (.slice p m c) n (vals l)) (hn : 0 < n) : ∃ g, p = some ⟨g, 0, none⟩ ∧ m = n ∧ n ≤ c ∧ B ≤ g ∧ ∀ k (hk : k < l.length), w.cell? ⟨g, k, none⟩ = some (.int .u8 ((l[k]).toNat : Int)) := by
  have hl : l.length = n := by have := h.1; simpa [vals] using this
  rcases h.2 with ⟨h', h0⟩ | ⟨g, cap, cur, hv, hg, hh, h1, h2, h3, h4⟩
  · omega
  · obtain ⟨rfl, rfl, rfl⟩ := Value.slice.inj hv
    refine ⟨g, rfl, rfl, h1, hg, fun k hk => ?_⟩
    rw [h.cellAt k (by omega)]
    simp [vals, hk]
set_option maxRecDepth 100000 in
set_option maxHeartbeats 2000000 in
theorem ropen_any (w : World) (v : Value) (l : List UInt8) (hv : IsB w v l) (hm : l.length ≤ 140737488355328) (h4 : 4 ≤ l.length) :
    Calls Tryd.prog 25 #[v] w fun e w' => Below w.heap.size w w' ∧ ((Oct.sealed (l.take (l.length - 4)) = l ∧
        ∃ v', e = .returned (.tuple #[v', .int .i64 0]) ∧ IsB w' v' (l.take (l.length - 4))) ∨
      (Oct.sealed (l.take (l.length - 4)) ≠ l ∧ e = .returned (.tuple #[.slice none 0 0, .int .i64 13]))) := by
  obtain ⟨p, c, rfl, hc1, hc2, hpn, hb⟩ := hv
  obtain ⟨b, o, rfl, hc⟩ := bytes_cell hb (by omega)
  clear hpn
  obtain ⟨n, hn⟩ : ∃ n, l.length = n + 4 := ⟨l.length - 4, by omega⟩
  have e4 : l.length - 4 = n := by omega
  have ht := IsB.take hc1 hc2 hc n (by omega)
  have htl := take_ints l n (by omega)
  rw [e4]
  rw [hn] at hb hc1 hm ⊢
  have HL := show Hid (l.length = n + 4) from hn
  have cS := rseal_any w _ (l.take n) ht (by omega)
  rw [htl] at cS
  have CS := show Hid (Calls Tryd.prog 21 #[.slice (some ⟨b, o, none⟩) n c] w fun e w' => ∃ p n_1 c, e = .returned (.slice p n_1 c) ∧ w'.ownsRow w.heap.size 5 1 (.slice p n_1 c) (n + 4) (vals (Oct.sealed (l.take n))) ∧ Below w.heap.size w w') from cS
  have hWl : (Oct.sealed (l.take n)).length = n + 4 := by rw [Oct.sealed_length, htl]
  have HWL := show Hid ((Oct.sealed (l.take n)).length = n + 4) from hWl
  have HW0 := show Hid ((Oct.sealed (l.take n)).take n = l.take n) from by
    show (Oct.sealed (l.take n)).take n = l.take n
    have := Oct.sealed_take (l.take n)
    rwa [htl] at this
  have HC := show Hid (∀ k (hk : k < l.length), w.cell? ⟨b, o + k, none⟩ = some (.int .u8 ((l[k]).toNat : Int))) from hc
  clear hn e4 htl h4 hc ht cS hWl hb
  go_enter Tryd.func25, Tryd.ntmps25
  go_wp2_with fail
  refine CS.out.mono ?_
  rintro e w1 ⟨p1, n1, c1, rfl, hown, hbel⟩
  obtain ⟨g, rfl, hn1, hcap, hgB, hcg⟩ := own_cell hown (by omega)
  subst hn1
  have HB1 := show Hid (Below w.heap.size w w1) from hbel
  have HCG := show Hid (∀ k (hk : k < (Oct.sealed (l.take n)).length), w1.cell? ⟨g, k, none⟩ = some (.int .u8 (((Oct.sealed (l.take n))[k]).toNat : Int))) from hcg
  have HC1 := show Hid (∀ k (hk : k < l.length), w1.cell? ⟨b, o + k, none⟩ = some (.int .u8 ((l[k]).toNat : Int))) from fun k hk => cell_later hbel (HC.out k hk)
  have hcap2 := hown.lt g rfl
  clear hcg hbel hown CS HC
  go_wp2
  go_loopw [6] (fun i wr => ∃ k : Nat, n ≤ k ∧ k ≤ n + 4 ∧ i = .int .i64 (k : Int) ∧ Hid (∀ i (h1 : i < (Oct.sealed (l.take n)).length) (h2 : i < l.length), n ≤ i → i < k → (Oct.sealed (l.take n))[i] = l[i]) ∧ ∃ q, wr = w1.drewN q) (fun i _ => n + 4 - (intOf i).toNat)
  case atStart => exact ⟨n, by omega, by omega, rfl, fun i _ _ a b => by omega, 0, rfl⟩
  case round =>
    obtain ⟨k, hk0, hk, rfl, HE, q0, rfl⟩ := hrel
    by_cases hlt : k < n + 4
    · have hk1 : k < (Oct.sealed (l.take n)).length := by rw [HWL.out]; exact hlt
      have hk2 : k < l.length := by rw [HL.out]; exact hlt
      have hck := HC1.out k hk2
      have hck2 := HCG.out k hk1
      by_cases he : (Oct.sealed (l.take n))[k] = l[k]
      · have hne : (((l[k]).toNat : Int) != (((Oct.sealed (l.take n))[k]).toNat : Int)) = false := by rw [he]; simp
        have HS := show Hid (∀ i (h1 : i < (Oct.sealed (l.take n)).length) (h2 : i < l.length), n ≤ i → i < k + 1 → (Oct.sealed (l.take n))[i] = l[i]) from fun i h1 h2 ha hb => by
          by_cases e : i = k
          · subst e; exact he
          · exact HE.out i h1 h2 ha (by omega)
        clear he HE
        generalize (l[k]).toNat = x at *
        generalize ((Oct.sealed (l.take n))[k]).toNat = y at *
        clear hk1 hk2
        go_wp2
        go_quiet (fail)
        go_wp2
        go_roundw
        case rel => exact ⟨k + 1, by omega, by omega, by go_num, HS, _, rfl⟩
        case measure => simp [intOf]; omega
      · have hne : (((l[k]).toNat : Int) != (((Oct.sealed (l.take n))[k]).toNat : Int)) = true := by
          rw [bne_iff_ne]
          intro h
          exact he (UInt8.toNat_inj.1 (Int.ofNat_inj.1 h)).symm
        have HNE := show Hid (Oct.sealed (l.take n) ≠ l) from fun e => he (by simp only [e])
        clear he HE
        generalize (l[k]).toNat = x at *
        generalize ((Oct.sealed (l.take n))[k]).toNat = y at *
        clear hk1 hk2
        go_wp2
        go_quiet (fail)
        go_wp2
        go_ret2
        refine ⟨?_, Or.inr ⟨HNE.out, rfl⟩⟩
        rw [World.drewN_drewN]
        exact HB1.out.trans ((below_drewN' _ _).mono HB1.out.size)
    · have HEQ := show Hid (Oct.sealed (l.take n) = l) from tail_eq l _ n HL.out HWL.out HW0.out (fun i h1 h2 ha => HE.out i h1 h2 ha (by have := HWL.out; omega))
      have HIB := show Hid (IsB (w1.drewN q0) (.slice (some ⟨g, 0, none⟩) n n) (l.take n)) from by
        have hW := HW0.out
        have h1 := IsB.take (w := w1.drewN q0) (b := g) (o := 0) (c := n) (l := l.take n) (by simp; omega) (by omega) (fun k hk => by
          have hk' : k < n := by simpa [HL.out] using hk
          have := HCG.out k (by rw [HWL.out]; omega)
          rw [Nat.zero_add]
          show w1.cell? ⟨g, k, none⟩ = _
          rw [this]
          have e1 : (Oct.sealed (l.take n))[k]'(by rw [HWL.out]; omega) = (l.take n)[k] := by
            have e2 : (Oct.sealed (l.take n))[k]'(by rw [HWL.out]; omega) = ((Oct.sealed (l.take n)).take n)[k]'(by rw [List.length_take, HWL.out]; omega) := by simp
            rw [e2]
            simp only [hW]
          rw [e1]) n (by simp [HL.out])
        rwa [List.take_take, Nat.min_self] at h1
      clear HE
      go_wp2
      go_ret2
      exact ⟨HB1.out.trans ((below_drewN' _ _).mono HB1.out.size), Or.inl ⟨HEQ.out, _, rfl, HIB.out⟩⟩
end Go.Proofs.YthmfgoclkioncaaDoor
