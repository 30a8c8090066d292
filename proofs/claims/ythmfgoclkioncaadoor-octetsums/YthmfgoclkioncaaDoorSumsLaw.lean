/-
  OctetSums, as a walk: for every bytes, cut and other bytes it answers true and changes nothing that was there, where the library's tables stand as the program's text lays them, and the bytes are at most 2^47 - 4096 each.
-/
import Derived.Test.YthmfgoclkioncaaDoorRefSeal
import Derived.Test.YthmfgoclkioncaaDoorHeads
import Derived.Test.YthmfgoclkioncaaDoorReadNum
import Derived.Deep.RegionWith
import Derived.Deep.CutRange
import Derived.Deep.RegionHeld3
namespace Go.Proofs.YthmfgoclkioncaaDoor
open Go.RowKit

theorem cut_at (a : Int) (n : Nat) (hn : n ≤ 140737488351232) : ∃ K : Nat, wrap64 ((IntKind.u64.wrap a).tmod ((n : Int) + 1)) = (K : Int) ∧ K ≤ n := by
  have h0 : 0 ≤ IntKind.u64.wrap a := by rw [IntKind.wrap_u64]; omega
  rw [Int.tmod_eq_emod_of_nonneg h0]
  have h1 := Int.emod_nonneg (IntKind.u64.wrap a) (show ((n : Int) + 1) ≠ 0 by omega)
  have h2 := Int.emod_lt_of_pos (IntKind.u64.wrap a) (show 0 < ((n : Int) + 1) by omega)
  obtain ⟨K, hK⟩ := Int.eq_ofNat_of_zero_le h1
  refine ⟨K, ?_, by omega⟩
  rw [IntWalk.wrap64_in _ ⟨by omega, by omega⟩, hK]
theorem good_alloc {w W : World} (h : Below w.heap.size w W) (o : Obj) : Below w.heap.size w (W.alloc o) := h.alloc h.size o
theorem sealed_take' (l : List UInt8) : (Oct.sealed l).take l.length = l := by simp [Oct.sealed]
theorem owns_later2 {w w' : World} {B n : Nat} {v : Value} {xs : List Value} (h : w.ownsRow B 5 1 v n xs) (hb : Below w.heap.size w w') : w'.ownsRow B 5 1 v n xs := by
  refine ⟨h.1, ?_⟩
  rcases h.2 with h | ⟨g, cap, cur, h1, h2, h3, h4⟩
  · exact Or.inl h
  · exact Or.inr ⟨g, cap, cur, h1, h2, by rw [hb.block g (lt_of_block h3)]; exact h3, h4⟩
theorem xor_vals2 (m : List UInt8) (k x : Nat) (hk : k < m.length) (hx : x < 256) : (vals m).set k (.int .u8 (bits .xor .u8 ((m[k]).toNat : Int) (x : Int))) = vals (m.set k (UInt8.ofNat ((m[k]).toNat ^^^ x))) := by
  have hlt : (m[k]).toNat ^^^ x < 256 := Nat.xor_lt_two_pow (n := 8) (toNat_lt _) hx
  rw [u8_xor_nat _ _ (toNat_lt _) hx]
  unfold vals
  rw [List.map_set, Oct.ofNat_toNat, Nat.mod_eq_of_lt hlt]
/-- What Open gave: the copy without its last four bytes. -/
theorem opened {w : World} {B g : Nat} {l : List UInt8} (h : w.ownsRow B 5 1 (.slice (some ⟨g, 0, none⟩) (l.length + 4) (l.length + 4)) (l.length + 4) (vals (Oct.sealed l))) : IsB w (.slice (some ⟨g, 0, none⟩) l.length l.length) l := by
  have hsl : (Oct.sealed l).length = l.length + 4 := Oct.sealed_length l
  have hlt := h.lt g rfl
  have hm : l.length ≤ 9223372036854775807 := by
    obtain ⟨p', c', hv', h1', h2', _, _⟩ := IsB.of_owns h
    obtain ⟨_, _, rfl⟩ := Value.slice.inj hv'
    omega
  refine ⟨_, _, rfl, Nat.le_refl _, hm, fun e => by simp at e, bytes_of_cell (fun k hk => ?_)⟩
  rw [Nat.zero_add, h.cellAt k (by omega)]
  have e : (Oct.sealed l)[k]'(by omega) = l[k] := by
    have h2 := sealed_take' l
    have e1 : ((Oct.sealed l).take l.length)[k]'(by simp; omega) = (Oct.sealed l)[k]'(by omega) := by simp
    rw [← e1]
    simp only [h2]
  simp [vals, show k < (Oct.sealed l).length by omega, e]
/-- Both Opens answer alike: the same bytes, the same error. -/
theorem opens (w : World) (pm : Option Addr) (cm : Nat) (lm : List UInt8) (hv : IsB w (.slice pm lm.length cm) lm) (hm : lm.length ≤ 140737488351232) : ∃ (code : Int) (r : List UInt8), (0 ≤ code ∧ code ≤ 13) ∧
    Hid (∀ W, Below w.heap.size w W → Calls Tryd.prog 24 #[.slice pm lm.length cm] W fun e w' => ∃ p' c', e = .returned (.tuple #[.slice p' r.length c', .int .i64 code]) ∧ IsB w' (.slice p' r.length c') r ∧ Below W.heap.size W w') ∧
    Hid (∀ W, Below w.heap.size w W → Calls Tryd.prog 25 #[.slice pm lm.length cm] W fun e w' => ∃ p' c', e = .returned (.tuple #[.slice p' r.length c', .int .i64 code]) ∧ IsB w' (.slice p' r.length c') r ∧ Below W.heap.size W w') := by
  by_cases h4 : lm.length < 4
  · refine ⟨10, [], by omega, fun W hW => (open_short W _ lm (hv.later hW) h4).mono ?_, fun W hW => (ropen_short W _ lm (hv.later hW) h4).mono ?_⟩
    all_goals
      rintro e w' ⟨rfl, rfl⟩
      exact ⟨none, 0, rfl, IsB.nil _, Below.refl _ _⟩
  · by_cases hs : Oct.sealed (lm.take (lm.length - 4)) = lm
    · have htl : (lm.take (lm.length - 4)).length = lm.length - 4 := by simp
      refine ⟨0, lm.take (lm.length - 4), by omega, fun W hW => (open_any W _ lm (hv.later hW) (by omega) (by omega)).mono ?_, fun W hW => (ropen_any W _ lm (hv.later hW) (by omega) (by omega)).mono ?_⟩
      · rintro e w' ⟨hb, ⟨_, g, rfl, ho⟩ | ⟨hne, _⟩⟩
        · refine ⟨some ⟨g, 0, none⟩, lm.length - 4, by rw [htl], ?_, hb⟩
          have e4 : (lm.take (lm.length - 4)).length + 4 = lm.length := by omega
          have ho2 : w'.ownsRow W.heap.size 5 1 (.slice (some ⟨g, 0, none⟩) ((lm.take (lm.length - 4)).length + 4) ((lm.take (lm.length - 4)).length + 4)) ((lm.take (lm.length - 4)).length + 4) (vals (Oct.sealed (lm.take (lm.length - 4)))) := by
            rw [hs, e4]; exact ho
          have := opened ho2
          rwa [htl] at this ⊢
        · exact absurd hs hne
      · rintro e w' ⟨hb, ⟨_, v', rfl, ho⟩ | ⟨hne, _⟩⟩
        · obtain ⟨p', c', rfl, h1, h2, h3, h4⟩ := ho
          exact ⟨p', c', rfl, ⟨p', c', rfl, h1, h2, h3, h4⟩, hb⟩
        · exact absurd hs hne
    · refine ⟨13, [], by omega, fun W hW => (open_any W _ lm (hv.later hW) (by omega) (by omega)).mono ?_, fun W hW => (ropen_any W _ lm (hv.later hW) (by omega) (by omega)).mono ?_⟩
      · rintro e w' ⟨hb, ⟨hh, _⟩ | ⟨_, rfl⟩⟩
        · exact absurd hh hs
        · exact ⟨none, 0, rfl, IsB.nil _, hb⟩
      · rintro e w' ⟨hb, ⟨hh, _⟩ | ⟨_, rfl⟩⟩
        · exact absurd hh hs
        · exact ⟨none, 0, rfl, IsB.nil _, hb⟩
set_option maxRecDepth 100000 in
set_option maxHeartbeats 4000000 in
theorem sums_any (w : World) (v vm : Value) (l lm : List UInt8) (cut : Int) (hv : IsB w v l) (hvm : IsB w vm lm) (hm : l.length ≤ 140737488351232) (hmm : lm.length ≤ 140737488351232) (hT : Tabs w) (hP : Pows w) :
    Calls Tryd.prog 6 #[v, .int .i64 cut, vm] w fun e w' => e = .returned (.bool true) ∧ Below w.heap.size w w' := by
  have HT := show Hid (Tabs w) from hT
  have HP := show Hid (Pows w) from hP
  have HV := show Hid (IsB w v l) from hv
  have HVM := show Hid (IsB w vm lm) from hvm
  obtain ⟨p, c, rfl, hc1, hc2, hpn, hb⟩ := hv
  obtain ⟨pm, cm, rfl, _, _, _, _⟩ := hvm
  have HPN := show Hid (p = none → c = 0) from hpn
  have HBB := show Hid (Lib.BytesIn w p l.length (ints l)) from hb
  clear hpn hb hT hP
  go_enter Tryd.func6, Tryd.ntmps6
  go_wp2_with (at_builtin; refine copied w w.heap.size (Nat.le_refl _) rfl (.tmp 25) (.tmp 26) rfl l p c (by omega) HPN.out hc1 HBB.out rfl rfl ?_)
  intro gx cap w1 hown1 hb1
  obtain ⟨K, hK, hKn⟩ := cut_at cut l.length hm
  rw [hK]
  have hx1 := IsB.of_owns hown1
  have hcap : l.length ≤ cap ∧ cap ≤ 9223372036854775807 := by
    obtain ⟨p', c', hv', h1', h2', _, _⟩ := hx1
    obtain ⟨_, _, rfl⟩ := Value.slice.inj hv'
    exact ⟨h1', h2'⟩
  have HX1 := show Hid (IsB w1 (.slice (some ⟨gx, 0, none⟩) l.length cap) l) from hx1
  have HB1 := show Hid (Below w.heap.size w w1) from hb1
  have hgx := (hown1.lt gx rfl).1
  have CS := show Hid (Calls Tryd.prog 20 #[.slice (some ⟨gx, 0, none⟩) l.length cap] w1 fun e w' => ∃ g, e = .returned (.slice (some ⟨g, 0, none⟩) (l.length + 4) (l.length + 4)) ∧
      w'.ownsRow w1.heap.size 5 1 (.slice (some ⟨g, 0, none⟩) (l.length + 4) (l.length + 4)) (l.length + 4) (vals (Oct.sealed l)) ∧ Below w1.heap.size w1 w') from seal_any w1 _ l hx1 (by omega)
  obtain ⟨hcap1, hcap2⟩ := hcap
  clear hK hx1 hown1 hb1 HPN HBB
  go_wp2_with fail
  refine CS.out.mono ?_
  rintro e w2 ⟨gs, rfl, hown2, hb2⟩
  have HB2 := show Hid (Below w.heap.size w w2) from HB1.out.trans (hb2.mono HB1.out.size)
  have HX2 := show Hid (IsB w2 (.slice (some ⟨gx, 0, none⟩) l.length cap) l) from HX1.out.later hb2
  have HS2 := show Hid (w2.ownsRow w1.heap.size 5 1 (.slice (some ⟨gs, 0, none⟩) (l.length + 4) (l.length + 4)) (l.length + 4) (vals (Oct.sealed l))) from hown2
  clear CS hb2 hown2 HX1
  have HSB := show Hid (IsB w2 (.slice (some ⟨gs, 0, none⟩) (l.length + 4) (l.length + 4)) (Oct.sealed l)) from IsB.of_owns HS2.out
  have K21 := show Hid (∀ W, Below w2.heap.size w2 W → Calls Tryd.prog 21 #[.slice p l.length c] W fun e w' => ∃ p' n' c', e = .returned (.slice p' n' c') ∧ IsB w' (.slice p' n' c') (Oct.sealed l) ∧ Below w2.heap.size w2 w') from fun W hW => by
    have hg := HB2.out.trans (hW.mono HB2.out.size)
    refine (rseal_any W _ l (HV.out.later hg) (by omega)).mono ?_
    rintro e w' ⟨p', n', c', rfl, ho, hb⟩
    exact ⟨p', n', c', rfl, IsB.of_owns ho, hW.trans (hb.mono hW.size)⟩
  have K10 := show Hid (∀ W p' n' c', Below w2.heap.size w2 W → IsB W (.slice p' n' c') (Oct.sealed l) → Calls Tryd.prog 10 #[.slice (some ⟨gs, 0, none⟩) (l.length + 4) (l.length + 4), .slice p' n' c'] W fun e w' => e = .returned (.bool true) ∧ Below w2.heap.size w2 w') from fun W p' n' c' hW hi => by
    refine (same_any W _ _ (Oct.sealed l) (Oct.sealed l) (HSB.out.later hW) hi).mono ?_
    rintro e w' ⟨rfl, q, rfl⟩
    exact ⟨ret_bool (by simp), hW.trans ((below_drewN _ _).mono hW.size)⟩
  have K23 := show Hid (∀ W, Below w2.heap.size w2 W → Calls Tryd.prog 23 #[.slice p l.length c] W fun e w' => e = .returned (.int .u32 (Oct.sum l : Nat)) ∧ w' = W) from fun W hW => by
    have hg := HB2.out.trans (hW.mono HB2.out.size)
    exact rsum_any W _ l (HV.out.later hg)
  have KS1 := show Hid (∀ W b, Below w2.heap.size w2 W → W.cell? ⟨b, 0, none⟩ = some (.slice (some ⟨gx, 0, none⟩) l.length cap) → Calls Tryd.prog 22 #[.slice (some ⟨b, 0, none⟩) 1 1] W fun e w' => e = .returned (.int .u32 (Oct.sum l : Nat)) ∧ w' = W) from fun W b hW h0 =>
    sum_one W b 0 1 _ l h0 (HX2.out.later hW)
  have KS0 := show Hid (∀ W, Calls Tryd.prog 22 #[.slice none 0 0] W fun e w' => e = .returned (.int .u32 0) ∧ w' = W) from fun W => sum_none W none 0
  have KS2 := show Hid (∀ W b ao, Below w2.heap.size w2 W → (¬ cap = K → ao = (⟨gx, K, none⟩ : Addr)) → W.cell? ⟨b, 0, none⟩ = some (.slice (some ⟨gx, 0, none⟩) K cap) → W.cell? ⟨b, 1, none⟩ = some (.slice (some ao) (l.length - K) (cap - K)) → Calls Tryd.prog 22 #[.slice (some ⟨b, 0, none⟩) 2 2] W fun e w' => e = .returned (.int .u32 (Oct.sum l : Nat)) ∧ w' = W) from fun W b ao hW hao h0 h1 => by
    obtain ⟨p', c', hv', h1', h2', h3', hb'⟩ := HX2.out.later hW
    obtain ⟨rfl, _, rfl⟩ := Value.slice.inj hv'
    have hcells : ∀ k (hk : k < l.length), W.cell? ⟨gx, 0 + k, none⟩ = some (.int .u8 ((l[k]).toNat : Int)) := by
      by_cases h0 : 0 < l.length
      · obtain ⟨b, o, hp, hc⟩ := bytes_cell hb' h0
        obtain ⟨rfl, rfl⟩ : gx = b ∧ 0 = o := by simpa using hp
        exact hc
      · intro k hk; omega
    have hA := IsB.take h1' h2' hcells K hKn
    have hB := IsB.drop h1' h2' hcells K (l.length - K) (cap - K) hKn rfl rfl ao (fun h => by rw [hao h, Nat.zero_add])
    refine (sum_two W b 0 2 _ _ (l.take K) (l.drop K) h0 h1 hA hB).mono ?_
    rintro e w' ⟨rfl, rfl⟩
    rw [List.take_append_drop]
    exact ⟨rfl, rfl⟩
  have hKi : (K : Int) ≤ (l.length : Int) := by omega
  have hKc : (K : Int) ≤ (cap : Int) := by omega
  have hK0 : (0 : Int) ≤ (K : Int) := by omega
  have hlc : (l.length : Int) ≤ (cap : Int) := by omega
  have hKN : K ≤ cap := by omega
  generalize Oct.sum l = t at *
  obtain ⟨ao, hao, HAO⟩ : ∃ ao : Addr, (if cap = K then some (⟨gx, 0, none⟩ : Addr) else some ⟨gx, K, none⟩) = some ao ∧ Hid (¬ cap = K → ao = ⟨gx, K, none⟩) := by
    by_cases h : cap = K
    · exact ⟨⟨gx, 0, none⟩, if_pos h, fun h' => absurd h h'⟩
    · exact ⟨⟨gx, K, none⟩, if_neg h, fun _ => rfl⟩
  go_upto_region 4 with fail
  go_cut [59] from 30 to 59 (fun s wx => s = .bool false ∧ Hid (Below w2.heap.size w2 wx))
  case first =>
    · go_region_held3 (fun _ => True) (go_keep) (first | (go_at_call 21; refine (K21.out _ ?_).mono ?_; (first | exact (Below.refl _ _).drew | exact Below.refl _ _); rintro e w3 ⟨p3, n3, c3, rfl, hi3, hb3⟩) | (go_at_call 10; refine (K10.out _ _ _ _ ?_ ?_).mono ?_; exact hb3; exact hi3; rintro e w4 ⟨rfl, hb4⟩; clear K21 K10 hi3 hb3) | (go_at_call 22; refine (KS2.out _ _ ao ?_ HAO.out ?_ ?_).mono ?_; exact good_alloc hb4 _; simp; simp; rintro e w5 ⟨rfl, rfl⟩; clear KS2) | (go_at_call 23; refine (K23.out _ ?_).mono ?_; (first | exact good_alloc (good_alloc hb4 _) _ | exact good_alloc hb4 _); rintro e w6 ⟨rfl, rfl⟩) | (go_at_call 22; refine (KS1.out _ _ ?_ ?_).mono ?_; exact good_alloc (good_alloc hb4 _) _; simp; rintro e w7 ⟨rfl, rfl⟩; clear KS1) | (go_at_call 22; refine (KS0.out _).mono ?_; rintro e w8 ⟨rfl, rfl⟩))
      all_goals (go_wp2_with fail; go_meet; exact ⟨rfl, good_alloc (good_alloc hb4 _) _⟩)
  case rest =>
    obtain ⟨rfl, HBC⟩ := hcut
    have hsl : (Oct.sealed l).length = l.length + 4 := Oct.sealed_length l
    have CO := show Hid (Calls Tryd.prog 24 #[.slice (some ⟨gs, 0, none⟩) (l.length + 4) (l.length + 4)] wc fun e w' => ∃ g, e = .returned (.tuple #[.slice (some ⟨g, 0, none⟩) l.length l.length, .int .i64 0]) ∧
        w'.ownsRow wc.heap.size 5 1 (.slice (some ⟨g, 0, none⟩) (l.length + 4) (l.length + 4)) (l.length + 4) (vals (Oct.sealed l)) ∧ Below wc.heap.size wc w') from by
      have h := open_any wc _ (Oct.sealed l) (HSB.out.later HBC.out) (by omega) (by omega)
      rw [hsl, show l.length + 4 - 4 = l.length by omega, sealed_take'] at h
      refine h.mono ?_
      rintro e w' ⟨hb, ⟨_, g, rfl, ho⟩ | ⟨hne, _⟩⟩
      · exact ⟨g, rfl, ho, hb⟩
      · exact absurd rfl hne
    have HSL := show Hid ((Oct.sealed l).length = l.length + 4) from hsl
    clear hsl K23 KS0 KS1 KS2 HS2
    go_wp2_with fail
    refine CO.out.mono ?_
    rintro e w5 ⟨go, rfl, hown5, hb5⟩
    have hgl := hown5.lt go rfl
    have HB5 := show Hid (Below w.heap.size w w5) from (HB2.out.trans (HBC.out.mono HB2.out.size)).trans (hb5.mono (Nat.le_trans HB2.out.size HBC.out.size))
    have HC5 := show Hid (Below wc.heap.size wc w5) from hb5
    have CS := show Hid (Calls Tryd.prog 10 #[.slice (some ⟨go, 0, none⟩) l.length l.length, .slice p l.length c] w5 fun e w' => e = .returned (.bool true) ∧ ∃ n, w' = w5.drewN n) from by
      refine (same_any w5 _ _ l l (opened hown5) (HV.out.later HB5.out)).mono ?_
      rintro e w' ⟨rfl, h⟩
      exact ⟨ret_bool (by simp), h⟩
    have HO5 := show Hid (w5.ownsRow wc.heap.size 5 1 (.slice (some ⟨go, 0, none⟩) (l.length + 4) (l.length + 4)) (l.length + 4) (vals (Oct.sealed l))) from hown5
    clear CO hown5 hb5
    go_wp2_with fail
    refine CS.out.mono ?_
    rintro e w6 ⟨rfl, nq, rfl⟩
    clear CS
    go_wp2
    go_loopw [12] (fun i wr => ∃ (k : Nat) (m : List UInt8), k ≤ l.length ∧ m.length = l.length + 4 ∧ i = .int .i64 k ∧ wr.ownsRow wc.heap.size 5 1 (.slice (some ⟨go, 0, none⟩) (l.length + 4) (l.length + 4)) (l.length + 4) (vals m) ∧ Hid (Below wc.heap.size wc wr)) (fun i _ => l.length - (intOf i).toNat)
    case atStart => exact ⟨0, Oct.sealed l, by omega, HSL.out, rfl, owns_later2 HO5.out (below_drewN' _ _), HC5.out.trans ((below_drewN' _ _).mono HC5.out.size)⟩
    case round =>
      obtain ⟨k, m, hk, hml, rfl, hown, HB⟩ := hrel
      clear HO5 HC5 HB5
      by_cases hlt : k < l.length
      · have hcell : wr.cell? ⟨go, k, none⟩ = some (.int .u8 ((m[k]'(by omega)).toNat : Int)) := by
          rw [hown.cellAt _ (by omega)]
          simp [vals, show k < m.length by omega]
        have hfz := hown.frozenAt k
        have HST := show Hid (∀ u, (wr.setCell ⟨go, k, none⟩ u).ownsRow wc.heap.size 5 1 (.slice (some ⟨go, 0, none⟩) (l.length + 4) (l.length + 4)) (l.length + 4) ((vals m).set k u)) from fun u => (hown.stored k u).1
        have HXV := show Hid ((vals m).set k (.int .u8 (bits .xor .u8 ((m[k]'(by omega)).toNat : Int) 255)) = vals (m.set k (UInt8.ofNat ((m[k]'(by omega)).toNat ^^^ 255)))) from xor_vals2 m k 255 (by omega) (by omega)
        have hmk := toNat_lt (m[k]'(by omega))
        generalize UInt8.ofNat ((m[k]'(by omega)).toNat ^^^ 255) = y at *
        generalize (m[k]'(by omega)).toNat = x at *
        clear hown
        go_wp2
        go_roundw
        case rel => exact ⟨k + 1, m.set k y, by omega, by simp [hml], by go_num, by rw [← HXV.out]; exact HST.out _, HB.out.setCell (by exact hgl.1) _⟩
        case measure => simp [intOf]; omega
      · have HWR := show Hid (Below w2.heap.size w2 wr) from HBC.out.trans (HB.out.mono HBC.out.size)
        have HWW := show Hid (Below w.heap.size w wr) from HB2.out.trans (HWR.out.mono HB2.out.size)
        clear hown hml hgl HB HBC
        obtain ⟨code, r, hcode, CO1, CO2⟩ := opens w pm cm lm HVM.out hmm
        go_wp2_with fail
        refine (CO1.out _ HWW.out).mono ?_
        rintro e w7 ⟨p7, c7, rfl, hI7, hb7⟩
        have HW7 := show Hid (Below w.heap.size w w7) from HWW.out.trans (hb7.mono HWW.out.size)
        have HX7 := show Hid (Below w2.heap.size w2 w7) from HWR.out.trans (hb7.mono HWR.out.size)
        have HI7 := show Hid (IsB w7 (.slice p7 r.length c7) r) from hI7
        clear hI7 hb7
        go_wp2_with fail
        refine (CO2.out _ HW7.out).mono ?_
        rintro e w8 ⟨p8, c8, rfl, hI8, hb8⟩
        have HW8 := show Hid (Below w.heap.size w w8) from HW7.out.trans (hb8.mono HW7.out.size)
        have HX8 := show Hid (Below w2.heap.size w2 w8) from HX7.out.trans (hb8.mono HX7.out.size)
        have HI8 := show Hid (IsB w8 (.slice p8 r.length c8) r) from hI8
        have HI9 := show Hid (IsB w8 (.slice p7 r.length c7) r) from HI7.out.later hb8
        have KX := show Hid (∀ W, Below w8.heap.size w8 W → Calls Tryd.prog 10 #[.slice (some ⟨gx, 0, none⟩) l.length cap, .slice p l.length c] W fun e w' => e = .returned (.bool true) ∧ Below w8.heap.size w8 w') from fun W hW => by
          refine (same_any W _ _ l l ((HX2.out.later HX8.out).later hW) ((HV.out.later HW8.out).later hW)).mono ?_
          rintro e w' ⟨rfl, q, rfl⟩
          exact ⟨ret_bool (by simp), hW.trans ((below_drewN _ _).mono hW.size)⟩
        have KR := show Hid (∀ W, Below w8.heap.size w8 W → Calls Tryd.prog 10 #[.slice p7 r.length c7, .slice p8 r.length c8] W fun e w' => e = .returned (.bool true) ∧ Below w8.heap.size w8 w') from fun W hW => by
          refine (same_any W _ _ r r (HI9.out.later hW) (HI8.out.later hW)).mono ?_
          rintro e w' ⟨rfl, q, rfl⟩
          exact ⟨ret_bool (by simp), hW.trans ((below_drewN _ _).mono hW.size)⟩
        have KH := show Hid (∀ W, Below w8.heap.size w8 W → Calls Tryd.prog 11 #[] W fun e w' => e = .returned (.bool true) ∧ Below w.heap.size w w') from fun W hW => by
          have hg := HW8.out.trans (hW.mono HW8.out.size)
          refine (heads_any W (HT.out.later hg) (HP.out.later hg)).mono ?_
          rintro e w' ⟨rfl, hb⟩
          exact ⟨rfl, hg.trans (hb.mono hg.size)⟩
        have KS := show Hid (∀ W, Below w8.heap.size w8 W → Calls Tryd.prog 21 #[.slice p l.length c] W fun e w' => ∃ p' n' c', e = .returned (.slice p' n' c') ∧ IsB w' (.slice p' n' c') (Oct.sealed l) ∧ Below w8.heap.size w8 w') from fun W hW => by
          refine (rseal_any W _ l ((HV.out.later HW8.out).later hW) (by omega)).mono ?_
          rintro e w' ⟨p', n', c', rfl, ho, hb⟩
          exact ⟨p', n', c', rfl, IsB.of_owns ho, hW.trans (hb.mono hW.size)⟩
        have KA := show Hid (∀ W p' n' c', Below w8.heap.size w8 W → IsB W (.slice p' n' c') (Oct.sealed l) → Calls Tryd.prog 10 #[.slice (some ⟨gs, 0, none⟩) (l.length + 4) (l.length + 4), .slice p' n' c'] W fun e w' => e = .returned (.bool true) ∧ Below w8.heap.size w8 w') from fun W p' n' c' hW hi => by
          refine (same_any W _ _ (Oct.sealed l) (Oct.sealed l) ((HSB.out.later HX8.out).later hW) hi).mono ?_
          rintro e w' ⟨rfl, q, rfl⟩
          exact ⟨ret_bool (by simp), hW.trans ((below_drewN _ _).mono hW.size)⟩
        clear K10 K21 CO1 CO2 hI8 hb8 HI7 HW7 HX7 HI8 HI9 HWR HWW
        go_wp2_with fail
        refine (KS.out _ (Below.refl _ _)).mono ?_
        rintro e w9 ⟨p9, n9, c9, rfl, hi9, hb9⟩
        have KB := show Hid (Calls Tryd.prog 10 #[.slice (some ⟨gs, 0, none⟩) (l.length + 4) (l.length + 4), .slice p9 n9 c9] w9 fun e w' => e = .returned (.bool true) ∧ Below w8.heap.size w8 w') from KA.out _ _ _ _ hb9 hi9
        clear KS KA hb9 hi9
        go_wp2_with fail
        refine KB.out.mono ?_
        rintro e wa ⟨rfl, hba⟩
        have HBA := show Hid (Below w8.heap.size w8 wa) from hba
        clear KB hba
        go_wp2_with fail
        refine (KX.out _ HBA.out).mono ?_
        rintro e wb ⟨rfl, hbb⟩
        have HBB := show Hid (Below w8.heap.size w8 wb) from hbb
        clear KX HBA hbb
        go_wp2_with fail
        refine (KR.out _ HBB.out).mono ?_
        rintro e wd ⟨rfl, hbd⟩
        have HBD := show Hid (Below w8.heap.size w8 wd) from hbd
        clear KR HBB hbd
        go_wp2_with fail
        refine (KH.out _ HBD.out).mono ?_
        rintro e wf ⟨rfl, hbf⟩
        have HBF := show Hid (Below w.heap.size w wf) from hbf
        clear KH HBD hbf
        go_wp2
        go_ret
        exact ⟨rfl, HBF.out⟩
end Go.Proofs.YthmfgoclkioncaaDoor
