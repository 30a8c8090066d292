/-
  The law TokenSilent, as the program walks it: true for every text of at most 2^20 bytes and every row of bytes.
-/
import Derived.Test.YtgcoalcfhflfiaaDoorSilentP
import Derived.Test.YtgcoalcfhflfiaaDoorTPlain
import Derived.Test.YtgcoalcfhflfiaaDoorTAlive
namespace Go.Proofs.YtgcoalcfhflfiaaDoor
open Go.RowKit Go.Sort

theorem scanF_len' : ∀ (f : Nat) (s : List UInt8) (o : Nat) (a : List (Tk.Tok × Nat)), o ≤ s.length → s.length < o + f → a.length ≤ o → (Tk.scanF f s o a).1.length ≤ s.length + 1
  | 0, s, o, a, ho, hf, ha => absurd hf (by omega)
  | f + 1, s, o, a, ho, hf, ha => by
    have hsk := Tk.skip_le _ (s.drop o) (Nat.le_refl _)
    rw [List.length_drop] at hsk
    rw [Tk.scanF_step]
    by_cases h1 : (Tk.cut (s.drop (o + Tk.skip (s.drop o)))).2.2 ≠ 0
    · rw [if_pos h1]; simp
    · rw [if_neg h1]
      by_cases h2 : (Tk.cut (s.drop (o + Tk.skip (s.drop o)))).1.1 = 0
      · rw [if_pos h2]; simp; omega
      · rw [if_neg h2]
        have hl : s.drop (o + Tk.skip (s.drop o)) ≠ [] := fun e => h2 (by rw [e]; rfl)
        have hg := Tk.cut_good _ hl (Decidable.not_not.1 h1)
        have hle := hg.2.1.le
        rw [List.length_drop] at hle
        have hlt : o + Tk.skip (s.drop o) < s.length := by
          rcases Nat.lt_or_ge (o + Tk.skip (s.drop o)) s.length with h3 | h3
          · exact h3
          · exact absurd (List.drop_eq_nil_of_le h3) hl
        exact scanF_len' f s _ _ (by omega) (by omega) (by simp; omega)
theorem scan_len' (s : List UInt8) : (Tk.scan s).1.length ≤ s.length + 1 := scanF_len' _ s 0 [] (by omega) (by omega) (by simp)
/-- The value v is a row of just the bytes l. -/
def IsM (w : World) (v : Value) (l : List UInt8) : Prop :=
  ∃ p c, v = .slice p l.length c ∧ l.length ≤ c ∧ c ≤ 9223372036854775807 ∧ (0 < l.length → ∃ b o, p = some ⟨b, o, none⟩ ∧ ∀ k (hk : k < l.length), w.cell? ⟨b, o + k, none⟩ = some (.int .u8 ((l[k]).toNat : Int)))
theorem IsM.later {w w' : World} {v : Value} {l : List UInt8} (h : IsM w v l) (hb : Below w.heap.size w w') : IsM w' v l := by
  obtain ⟨p, c, hv, h1, h2, h3⟩ := h
  refine ⟨p, c, hv, h1, h2, fun hp => ?_⟩
  obtain ⟨b, o, e, hc⟩ := h3 hp
  exact ⟨b, o, e, fun k hk => cell_later hb (hc k hk)⟩
def gapV : Array Value := (gaps.map fun g => Value.string ⟨g.toArray⟩).toArray
theorem gap_cells (k : Nat) (h : k < 5) : gapV[k]? = some (Value.string ⟨(gaps[k]'h).toArray⟩) := by
  simp only [gapV, List.getElem?_toArray, List.getElem?_map]
  rw [List.getElem?_eq_getElem (by exact h)]
  rfl
theorem flat_snoc (ps : List (List UInt8 × List UInt8)) (p : List UInt8 × List UInt8) : flat (ps ++ [p]) = flat ps ++ (p.1 ++ p.2) := by simp [flat]
theorem pairs_snoc (ts : List Tk.Tok) (k : Nat) (ps : List (List UInt8 × List UInt8)) (h : Pairs (ts.take k) ps) (hk : k < ts.length) (x g : List UInt8) (hx : x = (wrt ts[k]).1) (hg : Gap g) : Pairs (ts.take (k + 1)) (ps ++ [(x, g)]) := by
  have hl : (ts.take k).length = k := by rw [List.length_take]; omega
  have hp : ps.length = k := by rw [← h.1]; exact hl
  refine ⟨by rw [List.length_take, List.length_append, List.length_singleton, hp]; omega, fun j t p ht hq => ?_⟩
  rcases Nat.lt_or_ge j k with hj | hj
  · rw [List.getElem?_take, if_pos (by omega)] at ht
    rw [List.getElem?_append_left (by omega)] at hq
    exact h.2 j t p (by rw [List.getElem?_take, if_pos hj]; exact ht) hq
  · rw [List.getElem?_take] at ht
    split at ht
    · obtain rfl : j = k := by omega
      rw [List.getElem?_append_right (by omega), hp, Nat.sub_self] at hq
      have hq' : p = (x, g) := by simpa using hq.symm
      rw [List.getElem?_eq_getElem hk] at ht
      rw [← Option.some.inj ht, hq']
      exact ⟨hx, hg⟩
    · cases ht
theorem scan_bare (s : List UInt8) (a : List (Tk.Tok × Nat)) (all : List Tk.Tok) (h : a.map (·.1) = all) : (a.map (rtOf s)).map bare = all.map mk := by
  rw [← h, List.map_map, List.map_map]
  exact List.map_congr_left fun t _ => rfl
theorem rem5 (m : Nat) (h : m < 256) : IntKind.i64.wrap ((m : Int).tmod 5) = ((m % 5 : Nat) : Int) := by
  have e : (m : Int).tmod 5 = ((m % 5 : Nat) : Int) := by
    rw [Int.tmod_eq_emod_of_nonneg (by omega)]
    omega
  rw [e, wrap_small _ (by omega) (by omega)]
set_option maxRecDepth 100000 in
set_option maxHeartbeats 8000000 in
theorem silent_any (w : World) (s : ByteArray) (v : Value) (ms : List UInt8) (hs : s.size ≤ 1048576) (hM : IsM w v ms) (hL : Laid w) (hP : Pows w) :
    Calls Tryd.prog 7 #[.string s, v] w fun e w' => e = .returned (.bool true) ∧ Below w.heap.size w w' := by
  have HL := show Hid (Laid w) from hL
  have HP := show Hid (Pows w) from hP
  obtain ⟨pm, cm, rfl, hm1, hm2, hm3⟩ := hM
  have HM := show Hid (0 < ms.length → ∃ b o, pm = some ⟨b, o, none⟩ ∧ ∀ k (hk : k < ms.length), w.cell? ⟨b, o + k, none⟩ = some (.int .u8 ((ms[k]).toNat : Int))) from hm3
  have KA := show Hid (∀ w1 : World, Below w.heap.size w w1 → Calls Tryd.prog 13 #[] w1 fun e w' => e = .returned (.bool true) ∧ Below w1.heap.size w1 w') from fun w1 hb => alive_any w1 (HL.out.later hb) (HP.out.later hb)
  have KU := show Hid (∀ (w : World) (x : Int), Calls Tryd.prog 21 #[.int .i64 x] w fun e w' => e = .returned (.int .i64 x) ∧ w' = w) from num_any
  have K1 := show Hid (Calls Tryd.prog 14 #[.string s] w fun e w' => IsScan s.data.toList (Tk.scan s.data.toList) w' w.heap.size e ∧ Below w.heap.size w w') from scan_any w s (by omega) hL
  have hsh := scan_shape (s.data.toList.length + 1) s.data.toList 0 [] (by omega) (by omega)
  have HC := show Hid ((Tk.scan s.data.toList).2.1 ≠ 0 → 20 ≤ (Tk.scan s.data.toList).2.1 ∧ (Tk.scan s.data.toList).2.1 ≤ 22) from hsh.1
  have HT := show Hid ((Tk.scan s.data.toList).2.1 = 0 → ∃ (ts : List Tk.Tok), (Tk.scan s.data.toList).1.map (·.1) = ts ++ [(0, [], 0)] ∧ ∀ t ∈ ts, (t.1 ≠ 0 ∧ (wrt t).2 = 0) ∧ TokOk s.size t) from fun h => by
    obtain ⟨res, ts, e1, e2, e3⟩ := hsh.2 h
    refine ⟨ts, ?_, e3⟩
    have e4 : (Tk.scan s.data.toList).1 = [] ++ res := e1
    rw [e4, List.nil_append]
    exact e2
  have HLn := show Hid ((Tk.scan s.data.toList).1.length ≤ s.size + 1) from scan_len' s.data.toList
  generalize Tk.scan s.data.toList = res at *
  obtain ⟨ra, re, ro⟩ := res
  simp only at HC HT HLn
  clear hL hP hm3 hsh
  go_enter Tryd.func7, Tryd.ntmps7
  go_wp2_with fail
  refine K1.out.mono ?_
  rintro e w1 ⟨⟨v1, rfl, hown1⟩, hb1⟩
  have HB1 := show Hid (Below w.heap.size w w1) from hb1
  have HT1 := show Hid (IsT w1 v1 (ra.map (rtOf s.data.toList))) from (own_isT (by rw [← toksC_eq]; exact hown1)).1
  clear hown1 hb1 K1
  by_cases hre : re = 0
  · subst hre
    obtain ⟨ts, hts, htok⟩ := HT.out rfl
    obtain ⟨all, hall⟩ : ∃ all, all = ts ++ [(0, [], 0)] := ⟨_, rfl⟩
    rw [← hall] at hts
    have hnl : ra.length = all.length := by rw [← hts, List.length_map]
    have HTOK := show Hid (∀ t ∈ all, (wrt t).2 = 0 ∧ TokOk s.size t) from fun t ht => by
      rw [hall] at ht
      rcases List.mem_append.1 ht with h | h
      · exact ⟨(htok t h).1.2, (htok t h).2⟩
      · rw [List.mem_singleton.1 h]
        exact ⟨by decide +kernel, by show (0 : Int) ≤ 0; decide, by show (0 : Int) ≤ 999999999; decide, Or.inr (by show (0 : Nat) ≤ 5; omega)⟩
    have HSC := show Hid (∀ ps, Pairs all ps → (Tk.scan (10 :: flat ps)).2.1 = 0 ∧ (Tk.scan (10 :: flat ps)).1.map (·.1) = all) from fun ps hp => by
      rw [hall] at hp ⊢
      exact silent_scan ts ps (fun t ht => (htok t ht).1) hp
    have HAL := show Hid (ra.map (·.1) = all) from hts
    have hn1 : all.length ≤ 1048577 := by rw [← hnl]; have := HLn.out; omega
    have e0 : fltV s.data.toList 0 ro = .agg #[.int .i64 0, .int .i64 0, .int .i64 0, .int .i64 0] := rfl
    rw [e0]
    obtain ⟨p1, c1, hv1, hc1, hc2, hp1⟩ := HT1.out
    rw [List.length_map, hnl] at hv1 hc1
    have HV1 := show Hid (v1 = .slice p1 all.length c1) from hv1
    have HPT := show Hid (0 < all.length → ∃ b o, p1 = some ⟨b, o, none⟩ ∧ ∀ k (hk : k < (ra.map (rtOf s.data.toList)).length), At6 w1 b (o + k * 6) (ra.map (rtOf s.data.toList))[k]) from fun h => hp1 (by rw [List.length_map, hnl]; exact h)
    clear hp1 htok hall hts HC HT e0 HLn
    rw [HV1.out]
    go_wp2_with fail
    have HB2 := show Hid (Below w1.heap.size w1 ((w1.alloc flt0).alloc (.cells gapV 9))) from below_alloc2 _ _ _
    have HG2 : Hid (((w1.alloc flt0).alloc (.cells gapV 9)).heap[w1.heap.size + 1]? = some (.cells gapV 9 (0, 0))) := heap_alloc2_new _ _ _
    have HS2 := show Hid (w1.heap.size + 1 < ((w1.alloc flt0).alloc (.cells gapV 9)).heap.size) from lt_of_block HG2.out
    generalize hwG : (w1.alloc flt0).alloc (.cells gapV 9) = wG at HB2 HG2 HS2
    have hwG2 : (w1.alloc (Obj.cells #[.int .i64 0, .int .i64 0, .int .i64 0, .int .i64 0] 31)).alloc (Obj.cells #[.string ⟨#[32]⟩, .string ⟨#[10]⟩, .string ⟨#[32, 35, 32, 45, 62, 32, 59, 10]⟩, .string ⟨#[9, 13, 32]⟩, .string ⟨#[35, 10, 35, 255, 10]⟩] 9) = wG := hwG
    rw [hwG2]
    clear hwG hwG2
    go_loopw [8, 9] (fun v8 v9 wr => ∃ (k : Nat) (ps : List (List UInt8 × List UInt8)) (out : ByteArray), k ≤ all.length ∧ v9 = .int .i64 k ∧ v8 = .string out ∧ Hid (out = ⟨(10 :: flat ps).toArray⟩) ∧ Hid (out.size ≤ 1 + k * 40) ∧ Hid (Pairs (all.take k) ps) ∧ Hid (Below wG.heap.size wG wr)) (fun _ v9 _ => all.length - (intOf v9).toNat)
    case atStart => exact ⟨0, [], ⟨#[10]⟩, by omega, rfl, rfl, rfl, show (1 : Nat) ≤ 1 + 0 * 40 by omega, ⟨rfl, fun k t p ht hp => by cases hp⟩, Below.refl _ _⟩
    case round =>
      obtain ⟨k, ps, out, hk, rfl, rfl, HOUT, HOS, HPR, HB⟩ := hrel
      by_cases hlt : k < all.length
      · obtain ⟨b, o, rfl, hcell⟩ := HPT.out (by omega)
        have hck := ((hcell k (by rw [List.length_map]; omega)).later HB2.out).later HB.out
        rw [List.getElem_map] at hck
        have htk : (ra[k]'(by omega)).1 = all[k] := by
          have : (ra.map (·.1))[k]'(by rw [List.length_map]; omega) = all[k] := by simp only [HAL.out]
          rw [List.getElem_map] at this
          exact this
        have htt := HTOK.out all[k] (List.getElem_mem hlt)
        have hpr := fun x g hx hg => pairs_snoc all k ps HPR.out hlt x g hx hg
        unfold rtOf at hck
        rw [htk] at hck
        generalize all[k] = t at *
        obtain ⟨tk, tt, ti⟩ := t
        generalize (Tk.spot s.data.toList (ra[k]'(by omega)).2).1 = sl at *
        generalize (Tk.spot s.data.toList (ra[k]'(by omega)).2).2 = sc at *
        generalize (((ra[k]'(by omega)).2 : Nat) : Int) = so at *
        obtain ⟨hd0, hd1, hd2, hd3, hd4, hd5⟩ := hck
        simp only at hd0 hd1 hd2 hd3 hd4 hd5
        have hto := htt.2
        have hrt : (⟨tk, ⟨tt.toArray⟩, ti, 0, 0, 0⟩ : Rt).ok := ⟨by show tt.toArray.size ≤ _; rcases hto.2.2 with h | h <;> simp at h ⊢ <;> omega, by have := hto.1; simp only at this ⊢; omega, by have := hto.2.1; simp only at this ⊢; omega⟩
        have hsh := wrt_short ⟨tk, ⟨tt.toArray⟩, ti, 0, 0, 0⟩ hrt (by show (wrt (tk, (⟨tt.toArray⟩ : ByteArray).data.toList, ti)).2 = 0; simpa using htt.1)
        have CW := show Hid (∀ w1, Below w.heap.size w w1 → Calls Tryd.prog 17 #[.agg #[.int .i64 tk, .string ⟨tt.toArray⟩, .int .i64 ti, .int .i64 sl, .int .i64 sc, .int .i64 so]] w1 fun e w' => e = .returned (.tuple #[.string ⟨(wrt (tk, tt, ti)).1.toArray⟩, .int .i64 0]) ∧ Below w1.heap.size w1 w') from fun w1 hb => by
          have h := write_any w1 tk ⟨tt.toArray⟩ ti sl sc so (Nat.le_trans hrt.1 (by omega)) hrt.2.1 hrt.2.2 (HL.out.later hb) (HP.out.later hb)
          have e : (⟨tt.toArray⟩ : ByteArray).data.toList = tt := by simp
          rw [e, htt.1] at h
          exact h
        have hxl : (wrt (tk, tt, ti)).1.length ≤ 31 := by
          have e : (⟨tt.toArray⟩ : ByteArray).data.toList = tt := by simp
          have h2 : (wrt (tk, (⟨tt.toArray⟩ : ByteArray).data.toList, ti)).1.length ≤ 31 := hsh
          rw [e] at h2
          exact h2
        have HPS := show Hid (∀ g, Gap g → Pairs (all.take (k + 1)) (ps ++ [((wrt (tk, tt, ti)).1, g)])) from fun g hg => hpr _ g rfl hg
        generalize (wrt (tk, tt, ti)).1 = x at *
        have HXL := show Hid (x.length ≤ 31) from hxl
        have HBw := show Hid (Below w.heap.size w wr) from (HB1.out.trans (HB2.out.mono HB1.out.size)).trans (HB.out.mono (Nat.le_trans HB1.out.size HB2.out.size))
        clear htt hto hrt hsh hxl hpr hcell htk HPR
        go_wp2_with fail
        refine (CW.out _ HBw.out).mono ?_
        rintro e w2 ⟨rfl, hb2⟩
        have HB3 := show Hid (Below wG.heap.size wG w2) from HB.out.trans (hb2.mono HB.out.size)
        have HBw2 := show Hid (Below w.heap.size w w2) from HBw.out.trans (hb2.mono HBw.out.size)
        clear hb2 CW hd0 hd1 hd2 hd3 hd4 hd5 HB HBw
        go_wp2_with fail
        refine (KU.out _ _).mono ?_
        rintro e w3 ⟨rfl, rfl⟩
        have HBw3 := HBw2
        have HGC := show Hid (∀ j (h : j < 5), w3.cell? ⟨w1.heap.size + 1, j, none⟩ = some (.string ⟨(gaps[j]'h).toArray⟩)) from fun j h => cell_later HB3.out (by rw [cell_of_row wG (w1.heap.size + 1) j _ _ _ HG2.out]; exact gap_cells j h)
        have HNX := show Hid (∀ g : List UInt8, g ∈ gaps → (out ++ (⟨x.toArray⟩ : ByteArray)) ++ (⟨g.toArray⟩ : ByteArray) = ⟨(10 :: flat (ps ++ [(x, g)])).toArray⟩ ∧ ((out ++ (⟨x.toArray⟩ : ByteArray)) ++ (⟨g.toArray⟩ : ByteArray)).size ≤ 1 + (k + 1) * 40 ∧ g.length ≤ 8) from fun g hg => by
          have ho := HOUT.out
          have h1 := HOS.out
          have h2 := HXL.out
          have h3 := (gap_ok g hg).2.1
          have e1 : (⟨x.toArray⟩ : ByteArray).size = x.length := by show x.toArray.size = _; simp
          have e2 : (⟨g.toArray⟩ : ByteArray).size = g.length := by show g.toArray.size = _; simp
          refine ⟨?_, ?_, h3⟩
          · rw [ho, flat_snoc]
            exact ByteArray.ext (by simp [ByteArray.data_append])
          · rw [ByteArray.size_append, ByteArray.size_append, e1, e2]
            omega
        have hos := HOS.out
        have hxs := HXL.out
        have hbA : ¬ 9223372036854775807 < out.size + x.length := by omega
        have hbO : ∀ g : List UInt8, g.length ≤ 8 → ¬ 9223372036854775807 < out.size + x.length + g.length := fun g h => by omega
        clear hos hxs HBw2 HXL
        by_cases hkm : k < ms.length
        · obtain ⟨bm, om, rfl, hmc⟩ := HM.out (by omega)
          have hm0 := cell_later HBw3.out (hmc k hkm)
          have hmlt := toNat_lt ms[k]
          generalize (ms[k]).toNat = mm at *
          have hj : mm % 5 < 5 := by omega
          have hg0 := HGC.out (mm % 5) hj
          have hn := HNX.out _ (List.getElem_mem (l := gaps) hj)
          have hps := HPS.out _ (gap_ok _ (List.getElem_mem (l := gaps) hj))
          generalize gaps[mm % 5]'hj = g at *
          have hbB := hbO g hn.2.2
          have HN1 := show Hid _ from hn.1
          have HN2 := show Hid _ from hn.2.1
          clear hmc hn hbO HGC HNX HPS
          go_wp2_with fail
          go_roundw
          case rel => exact ⟨k + 1, ps ++ [(x, g)], _, by omega, by go_num, rfl, HN1, HN2, hps, HB3⟩
          case measure => simp [intOf]; omega
        · have hg0 := HGC.out 0 (by omega)
          have hn := HNX.out _ (List.getElem_mem (l := gaps) (n := 0) (by decide))
          have hps := HPS.out _ (gap_ok _ (List.getElem_mem (l := gaps) (n := 0) (by decide)))
          generalize gaps[0]'(by decide) = g at *
          have hbB := hbO g hn.2.2
          have HN1 := show Hid _ from hn.1
          have HN2 := show Hid _ from hn.2.1
          clear hn hbO HGC HNX HPS
          go_wp2_with fail
          go_roundw
          case rel => exact ⟨k + 1, ps ++ [(x, g)], _, by omega, by go_num, rfl, HN1, HN2, hps, HB3⟩
          case measure => simp [intOf]; omega
      · have hpr := HPR.out
        rw [List.take_of_length_le (by omega)] at hpr
        have hsc := HSC.out ps hpr
        have ho := HOUT.out
        have hos := HOS.out
        have HBw := show Hid (Below w.heap.size w wr) from (HB1.out.trans (HB2.out.mono HB1.out.size)).trans (HB.out.mono (Nat.le_trans HB1.out.size HB2.out.size))
        have HT2 := show Hid (∀ w2, Below wr.heap.size wr w2 → IsT w2 (.slice p1 all.length c1) (ra.map (rtOf s.data.toList))) from fun w2 h => HV1.out ▸ (((HT1.out.later HB2.out).later HB.out).later h)
        have HBR := show Hid ((ra.map (rtOf s.data.toList)).map bare = all.map mk) from scan_bare _ _ _ HAL.out
        have hrl : (ra.map (rtOf s.data.toList)).length = all.length := by rw [List.length_map]; exact hnl
        clear HPR HSC HOUT HOS HB HG2 HS2 HTOK HPT HT1 HV1 HAL hnl hpr
        generalize ra.map (rtOf s.data.toList) = rs at *
        generalize 10 :: flat ps = txt at *
        subst ho
        have hxl : (⟨txt.toArray⟩ : ByteArray).data.toList = txt := by simp
        have hxs : (⟨txt.toArray⟩ : ByteArray).size = txt.length := by show txt.toArray.size = _; simp
        have K2 := show Hid (∀ w1 : World, Below w.heap.size w w1 → Calls Tryd.prog 14 #[.string ⟨txt.toArray⟩] w1 fun e w' => (∃ (vm : Value) (a : List (Tk.Tok × Nat)), e = .returned (.tuple #[vm, .agg #[.int .i64 0, .int .i64 0, .int .i64 0, .int .i64 0]]) ∧ IsT w' vm (a.map (rtOf txt)) ∧ (a.map (rtOf txt)).length = all.length ∧ (a.map (rtOf txt)).map bare = all.map mk) ∧ Below w1.heap.size w1 w') from fun w1 hb => by
          refine (scan_any w1 ⟨txt.toArray⟩ (by rw [hxs] at hos ⊢; omega) (HL.out.later hb)).mono ?_
          rintro e w' ⟨⟨vm, rfl, hown⟩, hb'⟩
          rw [hxl] at hown ⊢
          refine ⟨⟨vm, (Tk.scan txt).1, ?_, (own_isT (by rw [← toksC_eq]; exact hown)).1, ?_, scan_bare _ _ _ hsc.2⟩, hb'⟩
          · rw [hsc.1]; rfl
          · have h1 := congrArg List.length hsc.2
            rw [List.length_map] at h1 ⊢
            exact h1
        clear hsc hos hxl hxs
        go_wp2_with fail
        refine (K2.out _ HBw.out).mono ?_
        rintro e w2 ⟨⟨vm, am, rfl, hTm, hal, hwm⟩, hb2⟩
        have HTM := show Hid (IsT w2 vm (am.map (rtOf txt))) from hTm
        have HAL := show Hid ((am.map (rtOf txt)).length = all.length) from hal
        have HWM := show Hid ((am.map (rtOf txt)).map bare = all.map mk) from hwm
        clear hTm hal hwm K2
        generalize am.map (rtOf txt) = rm at *
        have HB2' := show Hid (Below w.heap.size w w2) from HBw.out.trans (hb2.mono HBw.out.size)
        have HB3 := show Hid (Below w.heap.size w (w2.alloc flt0)) from HB2'.out.trans ((below_alloc w2 flt0).mono HB2'.out.size)
        have HTM3 := show Hid (IsT (w2.alloc flt0) vm rm) from HTM.out.later (below_alloc _ _)
        have HTL3 := show Hid (IsT (w2.alloc flt0) (.slice p1 all.length c1) rs) from (HT2.out w2 hb2).later (below_alloc _ _)
        clear hb2 HT2 HTM HBw
        go_wp2_with fail
        have KP := show Hid (∀ (w3 : World) (v : Value) (ts : List Rt), IsT w3 v ts → ts.length = all.length → Calls Tryd.prog 22 #[v] w3 fun e w' => (∃ v', e = .returned v' ∧ w'.ownsRow w3.heap.size 37 6 v' ts.length ((ts.map bare).flatMap rtC)) ∧ Below w3.heap.size w3 w') from fun w3 v ts h hl => plain_any w3 v ts h (by omega)
        show Calls Tryd.prog 22 #[.slice p1 all.length c1] (w2.alloc flt0) _
        generalize w2.alloc flt0 = w3 at *
        refine (KP.out w3 _ rs HTL3.out hrl).mono ?_
        rintro e w4 ⟨⟨vl, rfl, hown4⟩, hb4⟩
        rw [HBR.out] at hown4
        have HL4 := show Hid (IsT w4 vl (all.map mk)) from (own_isT hown4).1
        have HB4 := show Hid (Below w.heap.size w w4) from HB3.out.trans (hb4.mono HB3.out.size)
        have HTM4 := show Hid (IsT w4 vm rm) from HTM3.out.later hb4
        clear hown4 hb4 HTM3 HTL3 HB3
        go_wp2_with fail
        refine (KP.out w4 _ rm HTM4.out HAL.out).mono ?_
        rintro e w8 ⟨⟨v8, rfl, hown8⟩, hb8⟩
        rw [HWM.out] at hown8
        have K6 := show Hid (Calls Tryd.prog 16 #[vl, v8] w8 fun e w' => e = .returned (.bool true) ∧ ∃ n, w' = w8.drewN n) from same_eq w8 vl v8 (all.map mk) (HL4.out.later hb8) (own_isT hown8).1 (by rw [List.length_map]; omega)
        have HB8 := show Hid (Below w.heap.size w w8) from HB4.out.trans (hb8.mono HB4.out.size)
        clear hown8 hb8 KP HB4 HTM4 HL4
        go_wp2_with fail
        refine K6.out.mono ?_
        rintro e w9 ⟨rfl, n9, rfl⟩
        have HB9 := show Hid (∀ n, Below w.heap.size w (w8.drewN n)) from fun n => ⟨HB8.out.os, HB8.out.tape, HB8.out.output, HB8.out.size, HB8.out.block⟩
        clear K6
        go_wp2_with fail
        refine (KA.out _ (HB9.out _)).mono ?_
        rintro e w10 ⟨rfl, hb10⟩
        have HB10 := show Hid (Below w.heap.size w w10) from (HB9.out n9).trans (hb10.mono (HB9.out n9).size)
        clear hb10 KA
        go_wp2_with fail
        go_ret
        exact ⟨rfl, HB10.out⟩
  · have hcd := HC.out hre
    have e0 : fltV s.data.toList re ro = .agg #[.int .i64 re, .int .i64 (Tk.spot s.data.toList ro).1, .int .i64 (Tk.spot s.data.toList ro).2, .int .i64 (ro : Int)] := if_neg hre
    rw [e0]
    generalize (Tk.spot s.data.toList ro).1 = sl at *
    generalize (Tk.spot s.data.toList ro).2 = sc at *
    have hre0 : (re == 0) = false := beq_eq_false_iff_ne.2 hre
    have q1 : decide (20 ≤ re) = true := decide_eq_true hcd.1
    have q2 : decide (re ≤ 22) = true := decide_eq_true hcd.2
    have HB2 := show Hid (Below w.heap.size w (w1.alloc (Obj.cells #[.int .i64 re, .int .i64 sl, .int .i64 sc, .int .i64 (ro : Int)] 31))) from HB1.out.trans ((below_alloc w1 _).mono HB1.out.size)
    clear e0 hre hcd HC HT
    go_wp2_with fail
    refine (KU.out _ _).mono ?_
    rintro e w2 ⟨rfl, rfl⟩
    go_wp2_with fail
    refine (KU.out _ _).mono ?_
    rintro e w3 ⟨rfl, rfl⟩
    go_wp2_with fail
    refine (KA.out _ HB2.out).mono ?_
    rintro e w4 ⟨rfl, hb4⟩
    have HB4 := show Hid (Below w.heap.size w w4) from HB2.out.trans (hb4.mono HB2.out.size)
    clear hb4 KA
    go_wp2_with fail
    go_ret
    exact ⟨rfl, HB4.out⟩
end Go.Proofs.YtgcoalcfhflfiaaDoor
