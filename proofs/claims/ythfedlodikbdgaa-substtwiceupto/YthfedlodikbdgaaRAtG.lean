/-
  The law's calls atoms and has: for every table of the document's that calls made, and every row of names. No other condition.
-/
import Derived.Test.YthfedlodikbdgaaRNam
import Derived.Test.YthfedlodikbdgaaRVs
import Derived.Test.YthfedlodikbdgaaUPatC
import Derived.Deep.AppendLies
import Derived.Test.YthfedlodikbdgaaUMput
namespace Go.Proofs.Ythfedlodikbdgaa
open Go.RowKit Go.Maps
open Fm (Nd)

/-- The names of some numbers' atoms. -/
def nms (t : List Nd) (l : List Nat) : List ByteArray := (l.filter fun i => decide ((Ms.row t i).k = 1)).map fun i => (Ms.row t i).s
theorem nms_take {t : List Nd} {l : List Nat} {k : Nat} (hk : k < l.length) : nms t (l.take (k + 1)) = nms t (l.take k) ++ (if (Ms.row t l[k]).k = 1 then [(Ms.row t l[k]).s] else []) := by
  rw [List.take_succ_eq_append_getElem hk]
  unfold nms
  rw [List.filter_append, List.map_append]
  by_cases h1 : (Ms.row t l[k]).k = 1
  · rw [if_pos h1, List.filter_cons_of_pos (p := fun i => decide ((Ms.row t i).k = 1)) (a := l[k]) (by exact decide_eq_true h1)]; rfl
  · rw [if_neg h1, List.filter_cons_of_neg (p := fun i => decide ((Ms.row t i).k = 1)) (a := l[k]) (by rw [decide_eq_false h1]; simp)]; rfl
theorem nms_len (t : List Nd) (l : List Nat) : (nms t l).length ≤ l.length := by
  unfold nms
  rw [List.length_map]
  exact List.length_filter_le _ _
/-- Is a name among some? -/
def hasB (l : List ByteArray) (s : ByteArray) : Bool := l.any fun x => decide (x = s)
theorem hasB_iff {l : List ByteArray} {s : ByteArray} : hasB l s = true ↔ s ∈ l := by
  unfold hasB
  rw [List.any_eq_true]
  constructor
  · rintro ⟨x, hx, e⟩
    rw [← of_decide_eq_true e]
    exact hx
  · exact fun h => ⟨s, h, decide_eq_true rfl⟩
/-- A row of texts of the call's own. -/
def Osr (w : World) (ov : Value) (l : List ByteArray) (wr : World) : Prop := wr.ownsRow w.heap.size 9 1 ov l.length (l.map Value.string) ∧ Below w.heap.size w wr
theorem info_str : (Try.prog.info? 9).map (fun i => (i.zero, i.size, i.bytes)) = some (some (.string ⟨#[]⟩), 1, 16) := by kernel_rfl
set_option maxRecDepth 100000 in
set_option maxHeartbeats 4000000 in
theorem ratoms_any (w : World) {c : Nat} {u : Value} {t : List Nd} (hT : Tr w c u t) (id : Nat) (hid : id < t.length) :
    Calls Try.prog 25 #[.pointer (some ⟨c, 0, none⟩), .int .i64 (id : Int)] w fun e w' => ∃ ov, e = .returned ov ∧ Osr w ov (nms t (Fm.below t id)) w' := by
  have hok := hT.ok
  have hlen := hok.len
  have hh : Fm.has t (id : Int) = true := Fm.has_iff.2 ⟨by omega, by omega⟩
  have hbr : belowR t (id : Int) = (Fm.below t id, 0) := by
    unfold belowR
    rw [if_pos hh]
    simp
  have hbl : (Fm.below t id).length ≤ 1024 := by have := belowR_len hok (id : Int); rw [hbr] at this; exact this
  have HLT := show Hid (∀ k (hk : k < (Fm.below t id).length), (Fm.below t id)[k] < t.length) from fun k hk => by have := Ms.below_lt t id _ (List.getElem_mem hk); omega
  have KB := show Hid (Calls Try.prog 41 #[.pointer (some ⟨c, 0, none⟩), .int .i64 (id : Int)] w fun e w' => ∃ p c, e = .returned (.tuple #[.slice p (Fm.below t id).length c, .int .i64 0]) ∧ IsI w' w.heap.size (.slice p (Fm.below t id).length c) (Fm.below t id) ∧ Below w.heap.size w w') from (rbelow_any w hT (id : Int)).mono fun e w' ⟨v', he, hi, hb⟩ => by
    rw [hbr] at he hi
    obtain ⟨p, c, rfl⟩ := isI_slice hi
    exact ⟨p, c, he, hi, hb⟩
  have HTB := show Hid (∀ w', Below w.heap.size w w' → ∃ rg ro cp, w'.cell? ⟨c, 0, none⟩ = some (.slice (some ⟨rg, ro, none⟩) t.length cp) ∧ ∀ i, i < t.length → At4 w' rg (ro + i * 4) (Ms.row t i)) from fun w' hb => by
    have h := hT.later hb
    obtain ⟨pr, cpr, hv1, _, _, hat⟩ := h.row.isR
    obtain ⟨rg, ro, hpr, hrr⟩ := hat (by omega)
    refine ⟨rg, ro, cpr, by rw [h.c0, hv1, hpr], fun i hi => ?_⟩
    rw [Ms.row_at hi]
    exact hrr i hi
  obtain ⟨i0, hi', hz0, hz1, hz2⟩ := info_parts info_str
  clear hT hbr
  generalize Fm.below t id = l at *
  have HNT := show Hid (∀ k (hk : k < l.length), nms t (l.take (k + 1)) = nms t (l.take k) ++ (if (Ms.row t l[k]).k = 1 then [(Ms.row t l[k]).s] else [])) from fun k hk => nms_take hk
  go_enter Try.func25, Try.ntmps25
  go_wp2_with fail
  refine KB.out.mono ?_
  rintro e w1 ⟨p, cl, rfl, hI, hb1⟩
  have HB1 := show Hid (Below w.heap.size w w1) from hb1
  have HI1 := show Hid (∀ k (hk : k < l.length), ∃ gb, p = some ⟨gb, 0, none⟩ ∧ w1.cell? ⟨gb, k, none⟩ = some (.int .i64 ((l[k] : Nat) : Int)) ∧ gb < w1.heap.size) from fun k hk => by
    obtain ⟨p', c', hv, _, _, hcell⟩ := ints_cell hI
    obtain ⟨rfl, _, rfl⟩ := Value.slice.inj hv
    obtain ⟨gb, hp, hc⟩ := hcell (by omega)
    subst hp
    exact ⟨gb, rfl, hc k hk, (IsI.own_lt hI gb rfl).2.1⟩
  clear KB hI hb1
  go_wp2_with fail
  go_loopw [7, 8] (fun ov i wr => ∃ k : Nat, k ≤ l.length ∧ i = .int .i64 (k : Int) ∧ Hid (Osr w1 ov (nms t (l.take k)) wr)) (fun _ i _ => l.length - (intOf i).toNat)
  case atStart => exact ⟨0, by omega, rfl, World.ownsRow_nil _ _ _ _, Below.refl _ _⟩
  case round =>
    obtain ⟨k, hk, rfl, HI⟩ := hrel
    by_cases hlt : k < l.length
    · obtain ⟨gb, rfl, hc, hgl⟩ := HI1.out k hlt
      have hki : (k : Int) < (l.length : Int) := by omega
      have hc2 : wr.cell? ⟨gb, k, none⟩ = some (.int .i64 ((l[k] : Nat) : Int)) := (HI.out.2.cell (p := ⟨gb, k, none⟩) hgl).trans hc
      have hil := HLT.out k hlt
      obtain ⟨rg, ro, cp, d0, hrow⟩ := HTB.out wr (HB1.out.trans (HI.out.2.mono HB1.out.size))
      have hA := hrow l[k] hil
      have a0 := hA.c0; have a1 := hA.c1
      have hig : ((l[k] : Nat) : Int) < (t.length : Int) := by omega
      have HNK := show Hid _ from HNT.out k hlt
      have hnl := nms_len t (l.take k)
      rw [List.length_take, Nat.min_eq_left hk] at hnl
      clear hA hrow hc
      generalize l[k] = i at *
      generalize Ms.row t i = nd at *
      obtain ⟨nk, ns, nl, nr⟩ := nd
      simp only at a0 a1 HNK
      by_cases h1 : nk = 1
      · subst h1
        have hn := HNK.out
        rw [if_pos rfl] at hn
        have HNK2 := show Hid _ from hn
        obtain ⟨xs, hxs⟩ : ∃ xs, xs = (nms t (l.take k)).map Value.string := ⟨_, rfl⟩
        obtain ⟨n, hn2⟩ : ∃ n, n = (nms t (l.take k)).length := ⟨_, rfl⟩
        rw [← hn2] at hnl
        have hws : w1.heap.size ≤ wr.heap.size := HI.out.2.size
        have HOW := show Hid (∀ W : World, W.heap = (wr.alloc (Obj.cells #[.string ns] 9)).heap → W.ownsRow w1.heap.size 9 1 u7 n xs ∧ (∀ j u, [Value.string ns][j]? = some u → W.cell? (Addr.add ⟨wr.heap.size, 0, none⟩ j) = some u) ∧ w1.heap.size ≤ W.heap.size) from fun W hW => by
          refine ⟨?_, World.news_of_block (cs := #[.string ns]) (t := 9) (fr := (0, 0)) (by rw [hW]; exact heap_alloc_new _ _), by rw [hW]; simp; omega⟩
          rw [hxs, hn2]
          exact own_keep (World.ownsRow.alloc HI.out.1 (Obj.cells #[.string ns] 9)) fun j _ _ => by rw [hW]
        have HXN := show Hid (xs = (nms t (l.take k)).map Value.string ∧ n = (nms t (l.take k)).length ∧ (wr.ownsRow w1.heap.size 9 1 u7 n xs)) from ⟨hxs, hn2, by rw [hxs, hn2]; exact HI.out.1⟩
        have HBW := show Hid (Below w1.heap.size w1 wr) from HI.out.2
        clear hn HNK hxs hn2 HI
        go_wp2_with fail
        go_region
        go_wp2_with fail
        go_region_law (refine step_append_lies _ rfl (.tmp 33) (.tmp 45) 53 rfl w1.heap.size 9 i0 _ 1 16 Try.underlying53 hi' hz0 hz1 hz2 rfl (by decide) u7 n xs rfl (HOW.out _ rfl).1 ⟨wr.heap.size, 0, none⟩ 1 1 [.string ns] rfl rfl (HOW.out _ rfl).2.1 (by intro u hu; simp at hu; subst hu; rfl) (by omega) (by unfold maxLen; omega) (by omega) (HOW.out _ rfl).2.2 _ rfl ?_; intro g2 cap2 w2 hown hgr hli hlt2)
        all_goals
          have HO2 := show Hid (Osr w1 (.slice (some ⟨g2, 0, none⟩) (n + 1) cap2) (nms t (l.take (k + 1))) w2) from by
            refine ⟨?_, ((HBW.out.alloc HBW.out.size _).drew.drew).grown hgr (HBW.out.alloc HBW.out.size _).size (fun j e => (own_ge HXN.out.2.2 j e).1)⟩
            rw [HNK2.out, List.length_append, List.length_singleton, List.map_append, ← HXN.out.1, ← HXN.out.2.1]
            exact hown
          clear hown hgr hli hlt2 HBW HXN HNK2 HOW
          go_wp2_with fail
          go_roundw
          case rel => exact ⟨k + 1, by omega, by go_num, HO2⟩
          case measure => first | (simp [intOf]; done) | (simp [intOf]; omega)
      · have h1b : (nk == 1) = false := by simpa using h1
        have hn := HNK.out
        rw [if_neg h1, List.append_nil] at hn
        have HO2 := show Hid (Osr w1 u7 (nms t (l.take (k + 1))) wr.drew) from by rw [hn]; exact ⟨own_keep HI.out.1 fun _ _ _ => rfl, HI.out.2.drew⟩
        clear hn HNK HI
        go_wp2_with fail
        go_region
        go_wp2_with fail
        go_roundw
        case rel => exact ⟨k + 1, by omega, by go_num, HO2⟩
        case measure => first | (simp [intOf]; done) | (simp [intOf]; omega)
    · have hke : k = l.length := by omega
      subst hke
      have HF := show Hid (Osr w u7 (nms t l) wr) from by
        have h := HI.out
        rw [List.take_length] at h
        refine ⟨?_, HB1.out.trans (h.2.mono HB1.out.size)⟩
        rcases h.1 with ⟨hl, ⟨e1, hn⟩ | ⟨g, cap, cur, e1, hg1, hh, r⟩⟩
        · exact ⟨hl, Or.inl ⟨e1, hn⟩⟩
        · exact ⟨hl, Or.inr ⟨g, cap, cur, e1, Nat.le_trans HB1.out.size hg1, hh, r⟩⟩
      clear HI
      go_wp2_with fail
      go_ret
      exact ⟨_, rfl, HF.out⟩
set_option maxRecDepth 100000 in
set_option maxHeartbeats 2000000 in
theorem lhas_any (w : World) (p : Option Addr) (cp : Nat) (l : List ByteArray) (hc : ∀ k (hk : k < l.length), ∃ b o, p = some ⟨b, o, none⟩ ∧ w.cell? ⟨b, o + k, none⟩ = some (.string l[k])) (hl : l.length ≤ 1024) (s : ByteArray) :
    Calls Try.prog 27 #[.slice p l.length cp, .string s] w fun e w' => e = .returned (.bool (hasB l s)) ∧ w' = w := by
  have HC := show Hid (∀ k (hk : k < l.length), ∃ b o, p = some ⟨b, o, none⟩ ∧ w.cell? ⟨b, o + k, none⟩ = some (.string l[k])) from hc
  have HM := show Hid (∀ k (hk : k < l.length), l[k] ∈ l) from fun k hk => List.getElem_mem hk
  have HN := show Hid ((∀ j (hj : j < l.length), l[j] ≠ s) → s ∉ l) from fun h hm => by
    obtain ⟨j, hj, e⟩ := List.mem_iff_getElem.1 hm
    exact h j hj e
  clear hc
  generalize hd : hasB l s = ans
  have HD := show Hid (hasB l s = ans) from hd
  clear hd
  go_enter Try.func27, Try.ntmps27
  go_wp2_with fail
  go_loopw [5] (fun i wr => ∃ k : Nat, k ≤ l.length ∧ i = .int .i64 (k : Int) ∧ Hid (∀ j (hj : j < l.length), j < k → l[j] ≠ s) ∧ wr = w) (fun i _ => l.length - (intOf i).toNat)
  case atStart => exact ⟨0, by omega, rfl, (fun j hj h => by omega), rfl⟩
  case round =>
    obtain ⟨k, hk, rfl, HI, hwr⟩ := hrel
    subst wr
    by_cases hlt : k < l.length
    · obtain ⟨gb, go, rfl, c0⟩ := HC.out k hlt
      have hki : (k : Int) < (l.length : Int) := by omega
      have hb := bytes_eq l[k] s
      by_cases e : l[k] = s
      · rw [decide_eq_true e] at hb
        have ha : ans = true := by rw [← HD.out]; exact hasB_iff.2 (by rw [← e]; exact HM.out k hlt)
        subst ha
        clear HC HI HM HN HD e
        generalize l[k] = x at *
        go_wp2_with fail
        go_ret
        exact ⟨rfl, rfl⟩
      · rw [decide_eq_false e] at hb
        have HI2 := show Hid (∀ j (hj : j < l.length), j < k + 1 → l[j] ≠ s) from fun j hj h2 => by
          by_cases e2 : j = k
          · subst e2; exact e
          · exact HI.out j hj (by omega)
        obtain ⟨x, hx⟩ : ∃ x, x = l[k] := ⟨_, rfl⟩
        rw [← hx] at c0 hb
        clear HC HI HM HN HD e hx
        go_wp2_with fail
        go_roundw
        case rel => exact ⟨k + 1, by omega, by go_num, HI2, by first | rfl | trivial⟩
        case measure => first | (simp [intOf]; done) | (simp [intOf]; omega)
    · have hke : k = l.length := by omega
      subst hke
      have ha : ans = false := by
        rw [← HD.out]
        cases hq : hasB l s with
        | false => rfl
        | true => exact absurd (hasB_iff.1 hq) (HN.out fun j hj => HI.out j hj hj)
      subst ha
      clear HC HI HM HN HD
      go_wp2_with fail
      go_ret
      exact ⟨rfl, rfl⟩
end Go.Proofs.Ythfedlodikbdgaa
/-
  What was put in is matched; atoms by themselves, and names that do not stand there, change nothing. No condition.
-/
namespace Go.Proofs.Ythfedlodikbdgaa.Sb
open Fm (Nd)
open Ms (row row_at)

/-- Every image that Put makes, as a tree. -/
theorem run_tree {t : List Nd} (h : Fm.Ok t) {id : Nat} (hid : id < t.length) {l : Hs} (hW : Words l) (hl : ∀ h ∈ l, Fm.has t h.2 = true) (hok : (anew (putF l) t id).2.1 = 0) :
    anew (putF l) t id = ((run (putF l) (Fm.below t id) t).1 id, 0, (run (putF l) (Fm.below t id) t).2.2) ∧ Fm.Ok (run (putF l) (Fm.below t id) t).2.2 ∧ (∃ u, (run (putF l) (Fm.below t id) t).2.2 = t ++ u) ∧
    ∀ i ∈ Fm.below t id, Fm.has (run (putF l) (Fm.below t id) t).2.2 ((run (putF l) (Fm.below t id) t).1 i) = true ∧ T (run (putF l) (Fm.below t id) t).2.2 ((run (putF l) (Fm.below t id) t).1 i).toNat = sub (fun s => (look l s).map fun f => T t f.toNat) (T t i) := by
  have hF := putF_fair (by_ := l) hl
  have hlt : ∀ i ∈ Fm.below t id, i < t.length := fun i hi => by have := Ms.below_lt t id i hi; omega
  have hR := runs_run h (by omega) hF (Fm.below t id) hlt
  have hok' : (run (putF l) (Fm.below t id) t).2.1 = 0 := by
    unfold anew at hok
    by_cases e : (run (putF l) (Fm.below t id) t).2.1 = 0
    · exact e
    · rw [if_neg e] at hok; exact hok
  have hP := run_ind h hid hF (fun t1 i x => Fm.Ok t1 → Fm.has t1 x = true ∧ T t1 x.toNat = sub (fun s => (look l s).map fun f => T t f.toNat) (T t i)) (by
    intro t1 u i x hp ho
    obtain ⟨h1, h2⟩ := hp (ok_ext ho)
    refine ⟨has_ext h1, ?_⟩
    rw [T_ext ho (x.toNat + 1) _ (by omega) (by have := Fm.has_iff.1 h1; omega)]
    exact h2) (by
    intro t1 im i hR1 hi hib hparts he ho
    obtain ⟨u, hu⟩ := hR1.ext
    have hu' : t1 = t ++ u := hu
    have hok1 : Fm.Ok t1 := hR1.ok
    have hi1 : i < t1.length := by rw [hu', List.length_append]; omega
    have hrow : row t1 i = row t i := by rw [hu']; exact row_ext hi
    rw [T_eq h hi]
    rcases row_kind h hi with a | a | a
    · have hri : rowI t1 im i = row t i := by unfold rowI; rw [hrow, if_neg (by rw [a.2.1]; simp)]
      rw [hri] at he ho ⊢
      rw [if_neg (by rw [a.2.1]; simp), if_pos a.1]
      unfold putF at he ho ⊢
      cases hlk : look l (row t i).s with
      | none =>
        rw [← hrow, put_self hok1 hi1]
        simp only
        refine ⟨Fm.has_iff.2 ⟨by omega, by omega⟩, ?_⟩
        rw [Int.toNat_natCast, T_eq hok1 hi1, hrow, if_neg (by rw [a.2.1]; simp), if_pos a.1]
        unfold sub
        rw [hlk]
        rfl
      | some f =>
        have hf := hl _ (look_mem hlk)
        simp only
        refine ⟨by rw [hu']; exact has_ext hf, ?_⟩
        unfold sub
        rw [hlk]
        show T t1 f.toNat = T t f.toNat
        rw [hu'] at hok1 ⊢
        exact T_ext hok1 (f.toNat + 1) _ (by omega) (by have := Fm.has_iff.1 hf; simp only at this; omega)
    · have hri : rowI t1 im i = row t i := by unfold rowI; rw [hrow, if_neg (by rw [a.2.1]; simp)]
      rw [hri] at he ho ⊢
      rw [if_neg (by rw [a.2.1]; simp), if_neg (by rw [a.1]; decide)]
      unfold putF at he ho ⊢
      have hlk : look l (row t i).s = none := by rw [a.2.2.1]; exact look_empty hW
      rw [hlk]
      simp only
      rw [← hrow, put_self hok1 hi1]
      simp only
      refine ⟨Fm.has_iff.2 ⟨by omega, by omega⟩, ?_⟩
      rw [Int.toNat_natCast, T_eq hok1 hi1, hrow, if_neg (by rw [a.2.1]; simp), if_neg (by rw [a.1]; decide)]
      rfl
    · have hri : rowI t1 im i = ⟨(row t i).k, ⟨#[]⟩, im (row t i).l.toNat, im (row t i).r.toNat⟩ := by rw [rowI_at hok1 hi1 im (by rw [hrow]; exact a.1), hrow]
      rw [hri] at he ho ⊢
      rw [if_pos a.1]
      obtain ⟨hp1, hp2⟩ := hparts a.1
      unfold putF at he ho ⊢
      rw [show look l (Nd.mk (row t i).k ⟨#[]⟩ (im (row t i).l.toNat) (im (row t i).r.toNat)).s = none from look_empty hW] at he ho ⊢
      simp only at he ho ⊢
      have hh := put_has he
      have hr := put_row he
      obtain ⟨v, hv⟩ := (Fm.put_len t1 ⟨(row t i).k, ⟨#[]⟩, im (row t i).l.toNat, im (row t i).r.toNat⟩).2
      refine ⟨hh, ?_⟩
      rw [T_eq ho (by have := Fm.has_iff.1 hh; omega), hr]
      simp only
      rw [if_pos a.1]
      have g1 := hp1 hok1
      have g2 := hp2 hok1
      have b1 := Fm.has_iff.1 g1.1
      have b2 := Fm.has_iff.1 g2.1
      rw [hv] at ho ⊢
      rw [T_ext ho _ _ (Nat.lt_succ_self _) (by omega), T_ext ho _ _ (Nat.lt_succ_self _) (by omega), g1.2, g2.2]
      rfl) hok'
  refine ⟨by unfold anew; rw [if_pos hok'], hR.ok, hR.ext, fun i hi => hP i hi hR.ok⟩
theorem mark_ext (t u : List Nd) : ∀ (k : Nat) (f : Nat → Bool), k ≤ t.length → Fm.mark (t ++ u) k f = Fm.mark t k f
  | 0, f, _ => rfl
  | k + 1, f, hk => by
    have e : (t ++ u).getD k Fm.z = t.getD k Fm.z := by
      rw [List.getD_eq_getElem?_getD, List.getD_eq_getElem?_getD, List.getElem?_append_left (by omega)]
    unfold Fm.mark
    rw [e]
    exact mark_ext t u k _ (by omega)
theorem below_ext {t u : List Nd} {id : Nat} (h : id < t.length) : Fm.below (t ++ u) id = Fm.below t id := by
  unfold Fm.below
  rw [mark_ext t u _ _ (by omega)]
end Go.Proofs.Ythfedlodikbdgaa.Sb
namespace Go.Proofs.Ythfedlodikbdgaa
open Fm (Nd)

/-- Atoms by themselves. -/
def selfs (t : List Nd) (l : List Nat) : Sb.Hs := (l.filter fun i => decide ((Ms.row t i).k = 1)).map fun i => ((Ms.row t i).s, (i : Int))
theorem atoms_dist {t : List Nd} (h : Fm.Ok t) {y : Nat → Int} {l : List Nat} (hl : ∀ i ∈ l, i < t.length) (hn : l.Nodup) : Sb.Dist ((l.filter fun i => decide ((Ms.row t i).k = 1)).map fun i => ((Ms.row t i).s, y i)) := by
  unfold Sb.Dist
  rw [List.map_map]
  refine List.pairwise_map.2 ((hn.filter _).imp_of_mem fun {a b} ha hb hab e => hab ?_)
  have ha' := List.mem_filter.1 ha
  have hb' := List.mem_filter.1 hb
  exact atom_inj h (hl a ha'.1) (hl b hb'.1) (of_decide_eq_true ha'.2) (of_decide_eq_true hb'.2) e
theorem below_nodup (t : List Nd) (id : Nat) : (Fm.below t id).Nodup := (Ms.below_sorted t id).imp fun h => Nat.ne_of_lt h
theorem self_put {t : List Nd} (h : Fm.Ok t) {id : Nat} (hid : id < t.length) : Sb.putR t (id : Int) (selfs t (Fm.below t id)) = ((id : Int), 0, t) := by
  have hlt : ∀ i ∈ Fm.below t id, i < t.length := fun i hi => by have := Ms.below_lt t id i hi; omega
  have hmem : ∀ z ∈ selfs t (Fm.below t id), ∃ i ∈ Fm.below t id, (Ms.row t i).k = 1 ∧ z = ((Ms.row t i).s, (i : Int)) := fun z hz => by
    unfold selfs at hz
    obtain ⟨i, hi, e⟩ := List.mem_map.1 hz
    obtain ⟨hi1, hi2⟩ := List.mem_filter.1 hi
    exact ⟨i, hi1, of_decide_eq_true hi2, e.symm⟩
  have hw : Sb.Words (selfs t (Fm.below t id)) := fun z hz => by
    obtain ⟨i, hi, hk, rfl⟩ := hmem z hz
    rcases Sb.row_kind h (hlt i hi) with r | r | r
    · exact r.2.2.2.2
    · rw [r.1] at hk; cases hk
    · exact absurd hk r.2.1
  have hd : Sb.Dist (selfs t (Fm.below t id)) := atoms_dist h hlt (below_nodup t id)
  rw [(putR_ways t _ _).1 ⟨Fm.has_iff.2 ⟨by omega, by omega⟩, fun z hz => by
    obtain ⟨i, hi, _, rfl⟩ := hmem z hz
    have := hlt i hi
    exact Fm.has_iff.2 ⟨by simp, by simpa using this⟩, hd, hw⟩, Int.toNat_natCast]
  refine fits_put h hid (y := fun i => (i : Int)) (fun i hi _ => ?_) (fun j hj => Fm.has_iff.2 ⟨by simp, by simpa using hlt j hj⟩) hw (fun i hi hk => look_dist hd ?_)
  · rw [Sb.nd_self (hlt i hi)]
    refine ⟨rfl, fun hj => ?_⟩
    have hp := Ms.parts_lt h (hlt i hi) hj
    exact ⟨by simp only; omega, by simp only; omega⟩
  · unfold selfs
    exact List.mem_map.2 ⟨i, List.mem_filter.2 ⟨hi, decide_eq_true hk⟩, rfl⟩
/-- What Put answers: an error beside the table as it was, or what is made. -/
theorem putR_cases (t : List Nd) (id : Int) (l : Sb.Hs) : (Fm.has t id = true ∧ (∀ x ∈ l, Fm.has t x.2 = true) ∧ Sb.Dist l ∧ Sb.Words l ∧ Sb.putR t id l = Sb.anew (Sb.putF l) t id.toNat) ∨ ∃ e, e ≠ 0 ∧ Sb.putR t id l = (0, e, t) := by
  obtain ⟨h1, h2, h3, h4, h5⟩ := putR_ways t id l
  cases hh : Fm.has t id with
  | false => exact Or.inr ⟨31, by decide, h2 hh⟩
  | true =>
    by_cases ha : ∀ x ∈ l, Fm.has t x.2 = true
    · by_cases hd : Sb.Dist l
      · by_cases hw : Sb.Words l
        · exact Or.inl ⟨rfl, ha, hd, hw, h1 ⟨hh, ha, hd, hw⟩⟩
        · unfold Sb.Words at hw
          obtain ⟨x, hx⟩ := Classical.not_forall.1 hw
          obtain ⟨hx1, hx2⟩ := Classical.not_imp.1 hx
          exact Or.inr ⟨32, by decide, h5 ⟨hh, ha, hd⟩ x hx1 (by simpa using hx2)⟩
      · exact Or.inr ⟨70, by decide, h4 ⟨hh, ha⟩ hd⟩
    · obtain ⟨x, hx⟩ := Classical.not_forall.1 ha
      obtain ⟨hx1, hx2⟩ := Classical.not_imp.1 hx
      exact Or.inr ⟨31, by decide, h3 x hx1 (by simpa using hx2)⟩
theorem other_put {t : List Nd} (h : Fm.Ok t) {id : Nat} (hid : id < t.length) {l : Sb.Hs} (hl : ∀ x ∈ l, x.1 ∉ nms t (Fm.below t id)) : (Sb.putR t (id : Int) l).2.2 = t ∧ ((Sb.putR t (id : Int) l).2.1 = 0 → (Sb.putR t (id : Int) l).1 = (id : Int)) := by
  have hlt : ∀ i ∈ Fm.below t id, i < t.length := fun i hi => by have := Ms.below_lt t id i hi; omega
  rcases putR_cases t (id : Int) l with ⟨_, _, _, hw, e⟩ | ⟨e0, h0, e⟩
  · rw [e, Int.toNat_natCast, Sb.anew_self h hid fun i hi => by
      unfold Sb.putF
      have hlk : Sb.look l (Ms.row t i).s = none := by
        rcases Sb.row_kind h (hlt i hi) with r | r | r
        · cases hq : Sb.look l (Ms.row t i).s with
          | none => rfl
          | some f => exact absurd (by
              unfold nms
              exact List.mem_map.2 ⟨i, List.mem_filter.2 ⟨hi, decide_eq_true r.1⟩, rfl⟩) (hl _ (Sb.look_mem hq))
        · rw [r.2.2.1]; exact Sb.look_empty hw
        · rw [r.2.2.2]; exact Sb.look_empty hw
      rw [hlk]
      exact Sb.put_self h (hlt i hi)]
    exact ⟨rfl, fun _ => rfl⟩
  · rw [e]
    exact ⟨rfl, fun h1 => absurd h1 h0⟩
/-- What was put in is matched. -/
theorem back_match {t : List Nd} (h : Fm.Ok t) {id : Nat} (hid : id < t.length) {l : Sb.Hs} (h0 : (Sb.putR t (id : Int) l).2.1 = 0) :
    Sb.Dist l ∧ (∀ x ∈ l, 0 ≤ x.2) ∧ Fm.Ok (Sb.putR t (id : Int) l).2.2 ∧ ∃ hs : Sb.Hs, matchR (Sb.putR t (id : Int) l).2.2 (id : Int) (Sb.putR t (id : Int) l).1 = (hs, true, 0) ∧ hs.length = (nms t (Fm.below t id)).length ∧
      ∀ x ∈ hs, ∃ i, i < (Sb.putR t (id : Int) l).2.2.length ∧ (Ms.row (Sb.putR t (id : Int) l).2.2 i).k = 1 ∧ (Ms.row (Sb.putR t (id : Int) l).2.2 i).s = x.1 ∧ x.2 = (Sb.look l x.1).getD (i : Int) := by
  have hlt : ∀ i ∈ Fm.below t id, i < t.length := fun i hi => by have := Ms.below_lt t id i hi; omega
  rcases putR_cases t (id : Int) l with ⟨_, ha, hd, hw, e⟩ | ⟨e0, hne, e⟩
  · rw [Int.toNat_natCast] at e
    rw [e] at h0 ⊢
    obtain ⟨e1, hok1, ⟨u, hu⟩, htree⟩ := Sb.run_tree h hid hw ha h0
    rw [e1]
    simp only
    generalize hy : (Sb.run (Sb.putF l) (Fm.below t id) t).1 = y at *
    generalize (Sb.run (Sb.putF l) (Fm.below t id) t).2.2 = t1 at *
    subst hu
    have hid1 : id < (t ++ u).length := by rw [List.length_append]; omega
    have hbe : Fm.below (t ++ u) id = Fm.below t id := Sb.below_ext hid
    have hrow : ∀ i ∈ Fm.below t id, Ms.row (t ++ u) i = Ms.row t i := fun i hi => Sb.row_ext (hlt i hi)
    have hyl : ∀ i ∈ Fm.below t id, (y i).toNat < (t ++ u).length ∧ 0 ≤ y i := fun i hi => by have := Fm.has_iff.1 (htree i hi).1; omega
    have hat : ∀ i ∈ Fm.below t id, (Ms.row t i).k = 1 → y i = (Sb.look l (Ms.row t i).s).getD (i : Int) := fun i hi hk => by
      have ht := (htree i hi).2
      rw [Sb.T_eq h (hlt i hi), if_neg (by rw [hk]; simp [Fm.jn]), if_pos hk] at ht
      unfold Sb.sub at ht
      cases hq : Sb.look l (Ms.row t i).s with
      | some f =>
        rw [hq] at ht
        have hf := Fm.has_iff.1 (ha _ (Sb.look_mem hq))
        have ht2 : Sb.T (t ++ u) (y i).toNat = Sb.T (t ++ u) f.toNat := by
          rw [Sb.T_ext hok1 (f.toNat + 1) f.toNat (by omega) (by simp only at hf; omega)]
          exact ht
        have := Sb.T_inj hok1 _ _ _ (Nat.lt_succ_self _) (hyl i hi).1 (by rw [List.length_append]; omega) ht2
        have := (hyl i hi).2
        show y i = f
        omega
      | none =>
        rw [hq] at ht
        have ht2 : Sb.T (t ++ u) (y i).toNat = Sb.T (t ++ u) i := by
          rw [Sb.T_eq hok1 (i := i) (by rw [List.length_append]; have := hlt i hi; omega), hrow i hi, if_neg (by rw [hk]; simp [Fm.jn]), if_pos hk]
          exact ht
        have := Sb.T_inj hok1 _ _ _ (Nat.lt_succ_self _) (hyl i hi).1 (by rw [List.length_append]; have := hlt i hi; omega) ht2
        have := (hyl i hi).2
        show y i = (i : Int)
        omega
    have hfits : Sb.Fits (t ++ u) id y := fun i hi hk1 => by
      rw [hbe] at hi
      rw [hrow i hi] at hk1 ⊢
      rw [Sb.nd_in (htree i hi).1]
      have ht := (htree i hi).2
      rcases Sb.row_kind h (hlt i hi) with r | r | r
      · exact absurd r.1 hk1
      · rw [Sb.T_eq h (hlt i hi), if_neg (by rw [r.2.1]; simp), if_neg (by rw [r.1]; decide)] at ht
        rw [show Sb.sub (fun s => Option.map (fun f => Sb.T t f.toNat) (Sb.look l s)) Sb.Tree.b = Sb.Tree.b from rfl, Sb.T_eq hok1 (hyl i hi).1] at ht
        rcases Sb.row_kind hok1 (hyl i hi).1 with z | z | z
        · rw [if_neg (by rw [z.2.1]; simp), if_pos z.1] at ht; cases ht
        · exact ⟨by rw [r.1, z.1], fun hj => by rw [r.2.1] at hj; cases hj⟩
        · rw [if_pos z.1] at ht; cases ht
      · rw [Sb.T_eq h (hlt i hi), if_pos r.1] at ht
        rw [show ∀ k a c, Sb.sub (fun s => Option.map (fun f => Sb.T t f.toNat) (Sb.look l s)) (Sb.Tree.j k a c) = Sb.Tree.j k (Sb.sub (fun s => Option.map (fun f => Sb.T t f.toNat) (Sb.look l s)) a) (Sb.sub (fun s => Option.map (fun f => Sb.T t f.toNat) (Sb.look l s)) c) from fun _ _ _ => rfl, Sb.T_eq hok1 (hyl i hi).1] at ht
        rcases Sb.row_kind hok1 (hyl i hi).1 with z | z | z
        · rw [if_neg (by rw [z.2.1]; simp), if_pos z.1] at ht; cases ht
        · rw [if_neg (by rw [z.2.1]; simp), if_neg (by rw [z.1]; decide)] at ht; cases ht
        · rw [if_pos z.1] at ht
          injection ht with e3 e4 e5
          refine ⟨e3.symm, fun _ => ?_⟩
          have hc := Sb.below_closed h hid hi r.1
          have hp := Ms.parts_lt hok1 (hyl i hi).1 z.1
          rw [← (htree _ hc.1).2] at e4
          rw [← (htree _ hc.2).2] at e5
          have q1 := Sb.T_inj hok1 _ _ _ (Nat.lt_succ_self _) (by have := (hyl i hi).1; omega) (hyl _ hc.1).1 e4
          have q2 := Sb.T_inj hok1 _ _ _ (Nat.lt_succ_self _) (by have := (hyl i hi).1; omega) (hyl _ hc.2).1 e5
          have := (hyl _ hc.1).2
          have := (hyl _ hc.2).2
          exact ⟨by omega, by omega⟩
    have hm := Sb.match_is hok1 hid1 hfits (id := y id) rfl
    rw [hbe] at hm
    refine ⟨hd, fun x hx => (Fm.has_iff.1 (ha x hx)).1, hok1, srt (Sb.atomsOf (t ++ u) y (Fm.below t id).reverse), ?_, ?_, fun x hx => ?_⟩
    · unfold matchR
      rw [if_pos (by
        unfold Sb.refR
        rw [if_pos]
        rw [List.all_eq_true]
        intro x hx
        simp only [List.mem_cons, List.not_mem_nil, or_false] at hx
        rcases hx with rfl | rfl
        · exact Fm.has_iff.2 ⟨by omega, by omega⟩
        · exact (htree id Sb.below_self).1), Int.toNat_natCast, hbe, hm]
      rfl
    · rw [(srt_perm _).length_eq]
      unfold Sb.atomsOf nms
      rw [List.length_map, List.length_map, List.filter_reverse, List.length_reverse]
      congr 1
      refine List.filter_congr fun i hi => ?_
      rw [hrow i hi]
    · have hx2 := (srt_perm _).mem_iff.1 hx
      unfold Sb.atomsOf at hx2
      obtain ⟨i, hi, e2⟩ := List.mem_map.1 hx2
      obtain ⟨hi1, hi2⟩ := List.mem_filter.1 hi
      have hi3 : i ∈ Fm.below t id := by simpa using hi1
      have hk : (Ms.row (t ++ u) i).k = 1 := of_decide_eq_true hi2
      subst e2
      refine ⟨i, by rw [List.length_append]; have := hlt i hi3; omega, hk, rfl, ?_⟩
      simp only
      rw [hrow i hi3] at hk ⊢
      exact hat i hi3 hk
  · rw [e] at h0
    exact absurd h0 hne
end Go.Proofs.Ythfedlodikbdgaa
