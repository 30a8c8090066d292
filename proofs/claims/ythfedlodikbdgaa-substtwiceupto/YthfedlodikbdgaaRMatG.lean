/-
  The document's call bind: for every row of names and formulas that holds no such name. No other condition.
-/
import Derived.Test.YthfedlodikbdgaaUMref
import Derived.Test.YthfedlodikbdgaaRNam
import Derived.Test.YthfedlodikbdgaaRVs
namespace Go.Proofs.Ythfedlodikbdgaa
open Go.RowKit Go.Maps
open Fm (Nd)

theorem cellsH_snoc (l : Sb.Hs) (x : Hp) : cellsH (l ++ [x]) = cellsH l ++ encH x := by simp [cellsH]
theorem less_bytes (a b : ByteArray) : Op.bytesLess a.toList b.toList = decide (a.toList < b.toList) := by
  rw [bytesLess_eq]
/-- A row of the call's own, and what lies below it. -/
def Ob (w : World) (ov : Value) (l : Sb.Hs) (wr : World) : Prop := wr.ownsRow w.heap.size 39 2 ov l.length (cellsH l) ∧ Below w.heap.size w wr
theorem cell_two (w : World) (s : ByteArray) (x : Int) : ∀ j u, ([Value.string s, .int .i64 x])[j]? = some u → (w.alloc (Obj.cells #[.string s, .int .i64 x] 39)).cell? (Addr.add ⟨w.heap.size, 0, none⟩ j) = some u := by
  intro j u hu
  have hadd : (Addr.add ⟨w.heap.size, 0, none⟩ j) = ⟨w.heap.size, j, none⟩ := by
    by_cases hj0 : j = 0
    · subst hj0; simp [Addr.add]
    · simp [Addr.add, hj0]
  rw [hadd, cell_of_row _ _ _ _ _ _ (heap_alloc_new _ _), ← hu]
  simp
set_option maxRecDepth 100000 in
set_option maxHeartbeats 4000000 in
theorem rbind_any (w : World) (hv : Value) (l : Sb.Hs) (hH : IsH w hv l) (hl : l.length ≤ 1024) (s : ByteArray) (id : Int) (hn : Sb.look l s = none) :
    Calls Try.prog 55 #[hv, .string s, .int .i64 id] w fun e w' => ∃ ov, e = .returned (.tuple #[ov, .bool true]) ∧ Ob w ov (insH (s, id) l) w' := by
  have KN := show Hid (Calls Try.prog 42 #[hv, .string s] w fun e w' => e = .returned (.tuple #[.int .i64 ((Sb.look l s).getD 0), .bool (Sb.look l s).isSome]) ∧ w' = w) from rnamed_any w hv l hH s
  rw [hn] at KN
  have HH := show Hid (IsH w hv l) from hH
  obtain ⟨p, cp, rfl, hl24, hc⟩ := hH
  have HC := show Hid (∀ w', Below w.heap.size w w' → ∀ k (hk : k < l.length), ∃ b o, p = some ⟨b, o, none⟩ ∧ w'.cell? ⟨b, o + k * 2, none⟩ = some (.string l[k].1) ∧ w'.cell? ⟨b, o + k * 2 + 1, none⟩ = some (.int .i64 l[k].2)) from fun w' hb k hk => by
    obtain ⟨b, o, hp, e1, e2⟩ := hc k hk
    exact ⟨b, o, hp, (hb.cell (p := ⟨b, _, none⟩) (World.block_lt_of_cell? w _ e1)).trans e1, (hb.cell (p := ⟨b, _, none⟩) (World.block_lt_of_cell? w _ e2)).trans e2⟩
  have HD := show Hid (∀ k (hk : k < l.length), l.drop k = l[k] :: l.drop (k + 1) ∧ l.take (k + 1) = l.take k ++ [l[k]]) from fun k hk => ⟨List.drop_eq_getElem_cons hk, List.take_succ_eq_append_getElem hk⟩
  have HI0 := show Hid (insH (s, id) l = l.take 0 ++ insH (s, id) (l.drop 0)) from (by simp : insH (s, id) l = l.take 0 ++ insH (s, id) (l.drop 0))
  have HIL := show Hid ((insH (s, id) l).length = l.length + 1) from (by rw [(insH_perm (s, id) l).length_eq]; simp : (insH (s, id) l).length = l.length + 1)
  generalize hres : insH (s, id) l = res at *
  have HB0 := show Hid (Below w.heap.size w w) from Below.refl _ _
  obtain ⟨i0, hi', hz0, hz1, hz2⟩ := info_parts info_hyp
  clear hc hn hres
  go_enter Try.func55, Try.ntmps55
  go_wp2_with fail
  refine KN.out.mono ?_
  rintro e wx ⟨rfl, hwx⟩
  subst wx
  clear KN
  go_wp2_with fail
  go_loopw [10, 11, 12] (fun ov pv i wr => ∃ (k : Nat) (q : Bool) (out : Sb.Hs), k ≤ l.length ∧ i = .int .i64 (k : Int) ∧ pv = .bool q ∧ out.length ≤ k + 1 ∧ Hid (Ob w ov out wr ∧ (q = false → out = l.take k ∧ res = l.take k ++ insH (s, id) (l.drop k)) ∧ (q = true → res = out ++ l.drop k))) (fun _ _ i _ => l.length - (intOf i).toNat)
  case atStart => exact ⟨0, false, [], by omega, rfl, rfl, by simp, ⟨World.ownsRow_nil _ _ _ _, HB0.out⟩, fun _ => ⟨rfl, HI0.out⟩, fun h => by cases h⟩
  case round =>
    obtain ⟨k, q, out, hk, rfl, rfl, hol, HI⟩ := hrel
    by_cases hlt : k < l.length
    · obtain ⟨gb, go, rfl, c0, c1⟩ := HC.out wr HI.out.1.2 k hlt
      have hki : (k : Int) < (l.length : Int) := by omega
      have HCK := show Hid (∀ w', Below w.heap.size w w' → w'.cell? ⟨gb, go + k * 2, none⟩ = some (.string l[k].1) ∧ w'.cell? ⟨gb, go + k * 2 + 1, none⟩ = some (.int .i64 l[k].2)) from fun w' hb => by
        obtain ⟨b, o, hp, h1, h2⟩ := HC.out w' hb k hlt
        cases hp
        exact ⟨h1, h2⟩
      have HCK := show Hid (∀ w', Below w.heap.size w w' → w'.cell? ⟨gb, go + k * 2, none⟩ = some (.string l[k].1) ∧ w'.cell? ⟨gb, go + k * 2 + 1, none⟩ = some (.int .i64 l[k].2)) from fun w' hb => by
        obtain ⟨b, o, hp, h1, h2⟩ := HC.out w' hb k hlt
        cases hp
        exact ⟨h1, h2⟩
      have HCK := show Hid (∀ w', Below w.heap.size w w' → w'.cell? ⟨gb, go + k * 2, none⟩ = some (.string l[k].1) ∧ w'.cell? ⟨gb, go + k * 2 + 1, none⟩ = some (.int .i64 l[k].2)) from fun w' hb => by
        obtain ⟨b, o, hp, h1, h2⟩ := HC.out w' hb k hlt
        cases hp
        exact ⟨h1, h2⟩
      have HDK := show Hid _ from HD.out k hlt
      have HOB := show Hid (Ob w u10 out wr) from HI.out.1
      have HQ := show Hid _ from HI.out.2
      have hlb := less_bytes s l[k].1
      clear HC HD HI0 HIL HI HH
      generalize l[k] = y at *
      obtain ⟨ys, yi⟩ := y
      simp only at c0 c1 HDK hlb HCK
      cases q with
      | true =>
        have HR := show Hid (res = (out ++ [(ys, yi)]) ++ l.drop (k + 1)) from (by have h := HQ.out.2 rfl; rw [HDK.out.1] at h; rw [h]; simp : res = (out ++ [(ys, yi)]) ++ l.drop (k + 1))
        clear HQ HDK hlb
        obtain ⟨xsw2, hxs⟩ : ∃ xs, xs = cellsH out := ⟨_, rfl⟩
        obtain ⟨nw2, hn⟩ : ∃ n, n = (out).length := ⟨_, rfl⟩
        have hn1 : nw2 ≤ 1026 := by rw [hn]; (try simp only [List.length_append, List.length_singleton]); omega
        have HOW := show Hid (wr.ownsRow w.heap.size 39 2 u10 nw2 xsw2) from by rw [hxs, hn]; exact HOB.out.1
        have HXN := show Hid (xsw2 = cellsH out ∧ nw2 = (out).length) from ⟨hxs, hn⟩
        have hwsw2 : w.heap.size ≤ wr.heap.size := HOB.out.2.size
        clear hxs hn
        go_wp2_with (at_builtin; refine wpList_append_own_at _ rfl (.tmp 47) (.tmp 52) 23 rfl w.heap.size 39 i0 _ 2 24 Try.underlying23 hi' hz0 hz1 hz2 rfl (by decide) u10 nw2 xsw2 rfl (HOW.out.alloc _) ⟨wr.heap.size, 0, none⟩ 1 1 [.string ys, .int .i64 yi] rfl rfl (cell_two _ _ _) (by simp [Value.oneCell']) (by unfold maxLen; omega) (by omega) (by simp; omega) ?_)
        intro v2 w2 hown hgr hnil hat
        have HOB2 := show Hid (Ob w v2 (out ++ [(ys, yi)]) w2) from by
          refine ⟨?_, (HOB.out.2.alloc HOB.out.2.size _).grown hgr (HOB.out.2.alloc HOB.out.2.size _).size (fun j e => ?_)⟩
          · rw [cellsH_snoc, List.length_append, List.length_singleton, ← HXN.out.1, ← HXN.out.2]
            exact hown
          · exact (own_ge HOW.out j e).1
        clear HOB
        have HOB := HOB2
        clear HOB2 hown hgr hnil hat HOW HXN
        go_wp2_with fail
        go_roundw
        case rel => exact ⟨k + 1, true, out ++ [(ys, yi)], by omega, by go_num, rfl, by simp; omega, HOB.out, (fun h => by cases h), fun _ => HR.out⟩
        case measure => first | (simp [intOf]; done) | (simp [intOf]; omega)
      | false =>
        obtain ⟨hout, hres⟩ := HQ.out.1 rfl
        rw [HDK.out.1] at hres
        by_cases hl2 : s.toList < ys.toList
        · rw [decide_eq_true hl2] at hlb
          have HR := show Hid (res = ((out ++ [(s, id)]) ++ [(ys, yi)]) ++ l.drop (k + 1)) from (by rw [hres, hout]; unfold insH; rw [if_pos hl2]; simp : res = ((out ++ [(s, id)]) ++ [(ys, yi)]) ++ l.drop (k + 1))
          have hol2 : out.length ≤ k := by rw [hout]; simp; omega
          clear HQ HDK hout hres hl2
          obtain ⟨xsw2, hxs⟩ : ∃ xs, xs = cellsH out := ⟨_, rfl⟩
          obtain ⟨nw2, hn⟩ : ∃ n, n = (out).length := ⟨_, rfl⟩
          have hn1 : nw2 ≤ 1026 := by rw [hn]; (try simp only [List.length_append, List.length_singleton]); omega
          have HOW := show Hid (wr.ownsRow w.heap.size 39 2 u10 nw2 xsw2) from by rw [hxs, hn]; exact HOB.out.1
          have HXN := show Hid (xsw2 = cellsH out ∧ nw2 = (out).length) from ⟨hxs, hn⟩
          have hwsw2 : w.heap.size ≤ wr.heap.size := HOB.out.2.size
          clear hxs hn
          go_wp2_with (at_builtin; refine wpList_append_own_at _ rfl (.tmp 41) (.tmp 45) 23 rfl w.heap.size 39 i0 _ 2 24 Try.underlying23 hi' hz0 hz1 hz2 rfl (by decide) u10 nw2 xsw2 rfl (HOW.out.alloc _) ⟨wr.heap.size, 0, none⟩ 1 1 [.string s, .int .i64 id] rfl rfl (cell_two _ _ _) (by simp [Value.oneCell']) (by unfold maxLen; omega) (by omega) (by simp; omega) ?_)
          intro v2 w2 hown hgr hnil hat
          have HOB2 := show Hid (Ob w v2 (out ++ [(s, id)]) w2) from by
            refine ⟨?_, (HOB.out.2.alloc HOB.out.2.size _).grown hgr (HOB.out.2.alloc HOB.out.2.size _).size (fun j e => ?_)⟩
            · rw [cellsH_snoc, List.length_append, List.length_singleton, ← HXN.out.1, ← HXN.out.2]
              exact hown
            · exact (own_ge HOW.out j e).1
          clear HOB
          have HOB := HOB2
          clear HOB2 hown hgr hnil hat HOW HXN
          have d0 : w2.cell? ⟨gb, go + k * 2, none⟩ = some (.string ys) ∧ w2.cell? ⟨gb, go + k * 2 + 1, none⟩ = some (.int .i64 yi) := HCK.out w2 HOB.out.2
          obtain ⟨d0, d1⟩ := d0
          clear c0 c1
          obtain ⟨xsw3, hxs⟩ : ∃ xs, xs = cellsH (out ++ [(s, id)]) := ⟨_, rfl⟩
          obtain ⟨nw3, hn⟩ : ∃ n, n = ((out ++ [(s, id)])).length := ⟨_, rfl⟩
          have hn1 : nw3 ≤ 1026 := by rw [hn]; (try simp only [List.length_append, List.length_singleton]); omega
          have HOW := show Hid (w2.ownsRow w.heap.size 39 2 v2 nw3 xsw3) from by rw [hxs, hn]; exact HOB.out.1
          have HXN := show Hid (xsw3 = cellsH (out ++ [(s, id)]) ∧ nw3 = ((out ++ [(s, id)])).length) from ⟨hxs, hn⟩
          have hwsw3 : w.heap.size ≤ w2.heap.size := HOB.out.2.size
          clear hxs hn
          go_wp2_with (at_builtin; refine wpList_append_own_at _ rfl (.tmp 47) (.tmp 52) 23 rfl w.heap.size 39 i0 _ 2 24 Try.underlying23 hi' hz0 hz1 hz2 rfl (by decide) v2 nw3 xsw3 rfl (HOW.out.alloc _) ⟨w2.heap.size, 0, none⟩ 1 1 [.string ys, .int .i64 yi] rfl rfl (cell_two _ _ _) (by simp [Value.oneCell']) (by unfold maxLen; omega) (by omega) (by simp; omega) ?_)
          intro v3 w3 hown hgr hnil hat
          have HOB2 := show Hid (Ob w v3 ((out ++ [(s, id)]) ++ [(ys, yi)]) w3) from by
            refine ⟨?_, (HOB.out.2.alloc HOB.out.2.size _).grown hgr (HOB.out.2.alloc HOB.out.2.size _).size (fun j e => ?_)⟩
            · rw [cellsH_snoc, List.length_append, List.length_singleton, ← HXN.out.1, ← HXN.out.2]
              exact hown
            · exact (own_ge HOW.out j e).1
          clear HOB
          have HOB := HOB2
          clear HOB2 hown hgr hnil hat HOW HXN
          go_wp2_with fail
          go_roundw
          case rel => exact ⟨k + 1, true, (out ++ [(s, id)]) ++ [(ys, yi)], by omega, by go_num, rfl, by simp; omega, HOB.out, (fun h => by cases h), fun _ => HR.out⟩
          case measure => first | (simp [intOf]; done) | (simp [intOf]; omega)
        · rw [decide_eq_false hl2] at hlb
          have HR := show Hid (out ++ [(ys, yi)] = l.take (k + 1) ∧ res = l.take (k + 1) ++ insH (s, id) (l.drop (k + 1))) from by
            refine ⟨by rw [HDK.out.2, hout], ?_⟩
            rw [hres, HDK.out.2]
            unfold insH
            rw [if_neg hl2]
            cases l.drop (k + 1) <;> simp [insH]
          have hol2 : out.length ≤ k := by rw [hout]; simp; omega
          clear HQ HDK hout hres hl2
          obtain ⟨xsw2, hxs⟩ : ∃ xs, xs = cellsH out := ⟨_, rfl⟩
          obtain ⟨nw2, hn⟩ : ∃ n, n = (out).length := ⟨_, rfl⟩
          have hn1 : nw2 ≤ 1026 := by rw [hn]; (try simp only [List.length_append, List.length_singleton]); omega
          have HOW := show Hid (wr.ownsRow w.heap.size 39 2 u10 nw2 xsw2) from by rw [hxs, hn]; exact HOB.out.1
          have HXN := show Hid (xsw2 = cellsH out ∧ nw2 = (out).length) from ⟨hxs, hn⟩
          have hwsw2 : w.heap.size ≤ wr.heap.size := HOB.out.2.size
          clear hxs hn
          go_wp2_with (at_builtin; refine wpList_append_own_at _ rfl (.tmp 47) (.tmp 52) 23 rfl w.heap.size 39 i0 _ 2 24 Try.underlying23 hi' hz0 hz1 hz2 rfl (by decide) u10 nw2 xsw2 rfl (HOW.out.alloc _) ⟨wr.heap.size, 0, none⟩ 1 1 [.string ys, .int .i64 yi] rfl rfl (cell_two _ _ _) (by simp [Value.oneCell']) (by unfold maxLen; omega) (by omega) (by simp; omega) ?_)
          intro v2 w2 hown hgr hnil hat
          have HOB2 := show Hid (Ob w v2 (out ++ [(ys, yi)]) w2) from by
            refine ⟨?_, (HOB.out.2.alloc HOB.out.2.size _).grown hgr (HOB.out.2.alloc HOB.out.2.size _).size (fun j e => ?_)⟩
            · rw [cellsH_snoc, List.length_append, List.length_singleton, ← HXN.out.1, ← HXN.out.2]
              exact hown
            · exact (own_ge HOW.out j e).1
          clear HOB
          have HOB := HOB2
          clear HOB2 hown hgr hnil hat HOW HXN
          go_wp2_with fail
          go_roundw
          case rel => exact ⟨k + 1, false, out ++ [(ys, yi)], by omega, by go_num, rfl, by simp; omega, HOB.out, fun _ => HR.out, fun h => by cases h⟩
          case measure => first | (simp [intOf]; done) | (simp [intOf]; omega)
    · have hke : k = l.length := by omega
      subst hke
      have HOB := show Hid (Ob w u10 out wr) from HI.out.1
      cases q with
      | true =>
        have hr := HI.out.2.2 rfl
        rw [List.drop_length, List.append_nil] at hr
        subst hr
        clear HC HD HI0 HIL HI HH
        go_wp2_with fail
        go_ret2
        exact ⟨_, rfl, HOB.out⟩
      | false =>
        obtain ⟨hout, hres⟩ := HI.out.2.1 rfl
        rw [List.drop_length, List.take_length] at hres
        rw [List.take_length] at hout
        subst hout
        have HR := show Hid (res = out ++ [(s, id)]) from (by rw [hres]; rfl : res = out ++ [(s, id)])
        clear HC HD HI0 HIL HI HH hres
        obtain ⟨xsw2, hxs⟩ : ∃ xs, xs = cellsH out := ⟨_, rfl⟩
        obtain ⟨nw2, hn⟩ : ∃ n, n = (out).length := ⟨_, rfl⟩
        have hn1 : nw2 ≤ 1026 := by rw [hn]; (try simp only [List.length_append, List.length_singleton]); omega
        have HOW := show Hid (wr.ownsRow w.heap.size 39 2 u10 nw2 xsw2) from by rw [hxs, hn]; exact HOB.out.1
        have HXN := show Hid (xsw2 = cellsH out ∧ nw2 = (out).length) from ⟨hxs, hn⟩
        have hwsw2 : w.heap.size ≤ wr.heap.size := HOB.out.2.size
        clear hxs hn
        go_wp2_with (at_builtin; refine wpList_append_own_at _ rfl (.tmp 56) (.tmp 60) 23 rfl w.heap.size 39 i0 _ 2 24 Try.underlying23 hi' hz0 hz1 hz2 rfl (by decide) u10 nw2 xsw2 rfl (HOW.out.alloc _) ⟨wr.heap.size, 0, none⟩ 1 1 [.string s, .int .i64 id] rfl rfl (cell_two _ _ _) (by simp [Value.oneCell']) (by unfold maxLen; omega) (by omega) (by simp; omega) ?_)
        intro v2 w2 hown hgr hnil hat
        have HOB2 := show Hid (Ob w v2 (out ++ [(s, id)]) w2) from by
          refine ⟨?_, (HOB.out.2.alloc HOB.out.2.size _).grown hgr (HOB.out.2.alloc HOB.out.2.size _).size (fun j e => ?_)⟩
          · rw [cellsH_snoc, List.length_append, List.length_singleton, ← HXN.out.1, ← HXN.out.2]
            exact hown
          · exact (own_ge HOW.out j e).1
        clear HOB
        have HOB := HOB2
        clear HOB2 hown hgr hnil hat HOW HXN
        go_wp2_with fail
        go_ret2
        exact ⟨_, rfl, by rw [HR.out]; exact HOB.out⟩
end Go.Proofs.Ythfedlodikbdgaa
/-
  The document's call Match: for every table that calls made, and every two numbers. No other condition.
-/
namespace Go.Proofs.Ythfedlodikbdgaa
open Go.RowKit Go.Maps
open Fm (Nd)

/-- What holds between two steps: what must be which, and the row of names. -/
structure Mq (w : World) (g n : Nat) (f : Nat → Int) (ov : Value) (out : Sb.Hs) (wr : World) : Prop where
  vs : Vs wr g n f
  ow : wr.ownsRow w.heap.size 39 2 ov out.length (cellsH out)
  be : Below w.heap.size w wr
section
variable {w wr w2 : World} {g n : Nat} {f : Nat → Int} {ov : Value} {out : Sb.Hs}
theorem Mq.ng (h : Mq w g n f ov out wr) : ∀ j, ov.ownBlock = some j → j ≠ g := by
  intro j hj e
  subst e
  obtain ⟨_, cur, hc⟩ := own_ge h.ow j hj
  have h2 := h.vs
  unfold Vs at h2
  rw [h2] at hc
  simp at hc
theorem Mq.set (h : Mq w g n f ov out wr) (hg : w.heap.size ≤ g) (i : Nat) (x : Int) : Mq w g n (Sb.updI f i x) ov out (wr.setCell ⟨g, i, none⟩ (.int .i64 x)) :=
  ⟨h.vs.set i x, own_keep h.ow fun j hj hlt => (kp_setR wr g i (.int .i64 x)).block j hlt (h.ng j hj), h.be.setCell hg _⟩
theorem Mq.later (h : Mq w g n f ov out wr) (hb : Below wr.heap.size wr w2) : Mq w g n f ov out w2 :=
  ⟨(hb.block g h.vs.lt).trans h.vs, own_keep h.ow fun j _ hlt => hb.block j hlt, h.be.trans (hb.mono h.be.size)⟩
theorem Mq.drew (h : Mq w g n f ov out wr) : Mq w g n f ov out wr.drew := ⟨h.vs, own_keep h.ow fun _ _ _ => rfl, h.be.drew⟩
theorem Mq.drewN (h : Mq w g n f ov out wr) (k : Nat) : Mq w g n f ov out (wr.drewN k) := ⟨h.vs, own_keep h.ow fun _ _ _ => rfl, below_drewN h.be k⟩
end
theorem look_perm {a b : Sb.Hs} {s : ByteArray} (hp : a.Perm b) (h : Sb.look b s = none) : Sb.look a s = none := by
  cases hq : Sb.look a s with
  | none => rfl
  | some f =>
    have h1 := (look_isSome a s).1 (by rw [hq]; rfl)
    have h2 := (look_isSome b s).2 ((hp.map _).mem_iff.1 h1)
    rw [h] at h2
    cases h2
theorem own_base {W : World} {B B' : Nat} {ty : TypeId} {k : Nat} {sv : Value} {n : Nat} {xs : List Value} (h : W.ownsRow B ty k sv n xs) (hb : B' ≤ B) : W.ownsRow B' ty k sv n xs := by
  rcases h with ⟨hl, ⟨rfl, hn⟩ | ⟨g, cap, cur, rfl, hg1, hh, r⟩⟩
  · exact ⟨hl, Or.inl ⟨rfl, hn⟩⟩
  · exact ⟨hl, Or.inr ⟨g, cap, cur, rfl, by omega, hh, r⟩⟩
/-- What must be which, in memory. -/
def mustV (a : Sb.Ag) (j : Nat) : Int := (a j).getD (-1)
theorem must_upd (a : Sb.Ag) (i : Nat) (x : Int) : Sb.updI (mustV a) i x = mustV (Sb.updA a i x) := by
  funext j
  unfold Sb.updI mustV Sb.updA
  split <;> rfl
/-- The ways of a round. -/
theorem mstep_ways {t : List Nd} {s : Sb.Mst} {i : Nat} {x : Int} (hg : s.2.2 = true) (hx : s.1 i = some x) :
    ((Ms.row t i).k = 1 → Sb.mstep t s i = (s.1, s.2.1 ++ [((Ms.row t i).s, x)], true)) ∧
    ((Ms.row t i).k ≠ 1 → (Ms.row t i).k ≠ (Sb.nd t x).k → (Sb.mstep t s i).2.2 = false) ∧
    ((Ms.row t i).k ≠ 1 → (Ms.row t i).k = (Sb.nd t x).k → Fm.jn (Ms.row t i).k = false → Sb.mstep t s i = s) ∧
    ((Ms.row t i).k ≠ 1 → (Ms.row t i).k = (Sb.nd t x).k → Fm.jn (Ms.row t i).k = true → Sb.fits s.1 (Ms.row t i).l.toNat (Sb.nd t x).l = false → (Sb.mstep t s i).2.2 = false) ∧
    ((Ms.row t i).k ≠ 1 → (Ms.row t i).k = (Sb.nd t x).k → Fm.jn (Ms.row t i).k = true → Sb.fits s.1 (Ms.row t i).l.toNat (Sb.nd t x).l = true → Sb.mstep t s i = (Sb.updA (Sb.updA s.1 (Ms.row t i).l.toNat (Sb.nd t x).l) (Ms.row t i).r.toNat (Sb.nd t x).r, s.2.1, Sb.fits (Sb.updA s.1 (Ms.row t i).l.toNat (Sb.nd t x).l) (Ms.row t i).r.toNat (Sb.nd t x).r)) := by
  have e : ((s.1 i).getD 0) = x := by rw [hx]; rfl
  unfold Sb.mstep
  rw [if_pos hg, e]
  refine ⟨fun h1 => by rw [if_pos h1], fun h1 h2 => by rw [if_neg h1, if_pos h2], fun h1 h2 h3 => by rw [if_neg h1, if_neg (fun h => h h2), if_neg (by rw [h3]; simp)], fun h1 h2 h3 h4 => ?_, fun h1 h2 h3 h4 => ?_⟩
  · rw [if_neg h1, if_neg (fun h => h h2), if_pos h3, if_neg (by rw [h4]; simp)]
  · rw [if_neg h1, if_neg (fun h => h h2), if_pos h3, if_pos h4]
theorem fits_ways (a : Sb.Ag) (j : Nat) (x : Int) (hnn : ∀ z, a j = some z → 0 ≤ z) :
    (Sb.fits a j x = true ∧ (mustV a j < 0 ∨ (0 ≤ mustV a j ∧ mustV a j = x))) ∨ (Sb.fits a j x = false ∧ 0 ≤ mustV a j ∧ mustV a j ≠ x) := by
  unfold Sb.fits mustV
  cases h : a j with
  | none => exact Or.inl ⟨rfl, Or.inl (by show (-1 : Int) < 0; omega)⟩
  | some z =>
    have := hnn z h
    by_cases e : z = x
    · exact Or.inl ⟨by simp [e], Or.inr ⟨this, e⟩⟩
    · exact Or.inr ⟨by simp [e], this, e⟩
set_option maxRecDepth 100000 in
set_option maxHeartbeats 16000000 in
theorem rmatch_any (w : World) {c : Nat} {u : Value} {t : List Nd} (hT : Tr w c u t) (pat id : Int) :
    Calls Try.prog 20 #[.pointer (some ⟨c, 0, none⟩), .int .i64 pat, .int .i64 id] w (MtP w (matchR t pat id)) := by
  have hok := hT.ok
  have hlen := hok.len
  have KH := show Hid (∀ x : Int, Calls Try.prog 24 #[.pointer (some ⟨c, 0, none⟩), .int .i64 x] w fun e w'' => e = .returned (.bool (Fm.has t x)) ∧ w'' = w) from fun x => rhas_any w hT x
  have KH1 := show Hid _ from KH.out pat
  have KH2 := show Hid _ from KH.out id
  have HB0 := show Hid (Below w.heap.size w w) from Below.refl _ _
  cases hh : Fm.has t pat with
  | false =>
    have e : matchR t pat id = ([], false, 31) := by unfold matchR Sb.refR; simp [hh]
    rw [e]
    rw [hh] at KH1
    clear hT e KH KH2
    go_enter Try.func20, Try.ntmps20
    go_wp2_with fail
    refine Calls.mono KH1.out ?_
    rintro e w1 ⟨rfl, hw1⟩
    subst w1
    go_wp2_with fail
    refine bodyPost_ret (v := .tuple #[.slice none 0 0, .bool false, .int .i64 31]) (by simp [results, Try.results20, go_sem]) rfl ?_
    exact ⟨_, rfl, isH_nil _, (fun k hk => by cases hk), HB0.out⟩
  | true =>
  cases hh2 : Fm.has t id with
  | false =>
    have e : matchR t pat id = ([], false, 31) := by unfold matchR Sb.refR; simp [hh2]
    rw [e]
    rw [hh] at KH1
    rw [hh2] at KH2
    clear hT e KH
    go_enter Try.func20, Try.ntmps20
    go_wp2_with fail
    refine Calls.mono KH1.out ?_
    rintro e w1 ⟨rfl, hw1⟩
    subst w1
    go_wp2_with fail
    refine Calls.mono KH2.out ?_
    rintro e w1 ⟨rfl, hw1⟩
    subst w1
    go_wp2_with fail
    refine bodyPost_ret (v := .tuple #[.slice none 0 0, .bool false, .int .i64 31]) (by simp [results, Try.results20, go_sem]) rfl ?_
    exact ⟨_, rfl, isH_nil _, (fun k hk => by cases hk), HB0.out⟩
  | true =>
    obtain ⟨hx0, hx1⟩ := Fm.has_iff.1 hh
    obtain ⟨hy0, hy1⟩ := Fm.has_iff.1 hh2
    obtain ⟨pt, rfl⟩ : ∃ j : Nat, pat = j := ⟨pat.toNat, by omega⟩
    have hpt : pt < t.length := by omega
    have e : matchR t (pt : Int) id = if (Sb.mrun t (Fm.below t pt).reverse pt id).2.2 then (srt (Sb.mrun t (Fm.below t pt).reverse pt id).2.1, true, 0) else ([], false, 0) := by
      unfold matchR Sb.refR
      simp [hh, hh2]
    rw [e]
    rw [hh] at KH1
    rw [hh2] at KH2
    have HRS := show Hid (((Sb.mrun t (Fm.below t pt).reverse pt id).2.2 = false → (if (Sb.mrun t (Fm.below t pt).reverse pt id).2.2 then (srt (Sb.mrun t (Fm.below t pt).reverse pt id).2.1, true, (0 : Int)) else ([], false, 0)) = ([], false, 0)) ∧ ∀ out, Srt out → out.Perm (Sb.mrun t (pre t pt 0) pt id).2.1 → (Sb.mrun t (pre t pt 0) pt id).2.2 = true → (if (Sb.mrun t (Fm.below t pt).reverse pt id).2.2 then (srt (Sb.mrun t (Fm.below t pt).reverse pt id).2.1, true, (0 : Int)) else ([], false, 0)) = (out, true, 0)) from by
      refine ⟨fun h => by rw [h]; simp, fun out h1 h2 h3 => ?_⟩
      rw [pre_zero] at h2 h3
      rw [if_pos h3, srt_eq (match_dist hok hpt hh2 h3) h2 h1]
    have HIN := show Hid (∀ i, i ∈ Fm.below t pt → Sb.Told t pt id (pre t pt (i + 1)) (Sb.mrun t (pre t pt (i + 1)) pt id) → _) from fun i hi hT => mref_in hok hpt hi hT
    have HNW := show Hid (∀ i, i ∈ Fm.below t pt → (Ms.row t i).k = 1 → (Sb.mrun t (pre t pt (i + 1)) pt id).2.2 = true → Sb.look (Sb.mrun t (pre t pt (i + 1)) pt id).2.1 (Ms.row t i).s = none) from fun i hi h1 hg => told_new hok hpt hi h1 hg
    have HOU := show Hid (∀ i, i ∉ Fm.below t pt → Sb.Told t pt id (pre t pt (i + 1)) (Sb.mrun t (pre t pt (i + 1)) pt id) → (Sb.mrun t (pre t pt (i + 1)) pt id).1 i = none ∧ pre t pt i = pre t pt (i + 1)) from fun i hi hT => mref_out hi hT
    have HNM := show Hid (∀ k, (Sb.mrun t (pre t pt k) pt id).2.2 = true → (Sb.mrun t (pre t pt k) pt id).2.1.length ≤ 1024) from fun k hg => by
      have h1 := mrun_names _ _ rfl hg
      have h2 := congrArg List.length h1
      rw [List.length_map, List.length_map] at h2
      have h3 : (pre t pt k).length ≤ (Fm.below t pt).reverse.length := List.length_filter_le _ _
      have h4 := List.length_filter_le (fun i => decide ((Ms.row t i).k = 1)) (pre t pt k)
      have h5 := belowR_len hok (pt : Int)
      unfold belowR at h5
      rw [if_pos hh] at h5
      simp at h5 h3
      omega
    have HST := show Hid (Sb.Told t pt id (pre t pt (pt + 1)) (Sb.mrun t (pre t pt (pt + 1)) pt id)) from by rw [pre_top]; exact Sb.told_start hh2
    have HS0 := show Hid ((Sb.mrun t (pre t pt (pt + 1)) pt id).1 = Sb.updA (fun _ => none) pt id ∧ (Sb.mrun t (pre t pt (pt + 1)) pt id).2.1 = []) from by rw [pre_top]; exact ⟨rfl, rfl⟩
    generalize (if (Sb.mrun t (Fm.below t pt).reverse pt id).2.2 then (srt (Sb.mrun t (Fm.below t pt).reverse pt id).2.1, true, (0 : Int)) else ([], false, 0)) = ans at *
    have KBI := show Hid (∀ (w : World) (hv : Value) (l : Sb.Hs), IsH w hv l → l.length ≤ 1024 → ∀ (s : ByteArray) (id : Int), Sb.look l s = none → Calls Try.prog 55 #[hv, .string s, .int .i64 id] w fun e w' => ∃ ov, e = .returned (.tuple #[ov, .bool true]) ∧ Ob w ov (insH (s, id) l) w') from fun w hv l h1 h2 s id h3 => rbind_any w hv l h1 h2 s id h3
    obtain ⟨rp, rcp, hu⟩ := hT.row.form
    have c0 := hT.c0
    rw [hu] at c0
    have hmk : ∀ w : World, (Instr.makeSlice 77 (.int .i64 (t.length : Int)) (.int .i64 (t.length : Int))).run Try.prog w = .ok (.slice (some ⟨w.heap.size, 0, none⟩) t.length t.length) (w.alloc (.cells (madeCells #[.int .i64 0] t.length) 3)) := fun w => by
      have h := run_make_row' (P := Try.prog) 77 3 (.int .i64 0) 8 Try.underlying77 info_int rfl .i64 .i64 t.length (by omega) (by omega) w
      exact h
    have hmk1 := hmk w
    have HV0 := show Hid (Vs (w.alloc (.cells (madeCells #[.int .i64 0] t.length) 3)) w.heap.size t.length (fun _ => 0) ∧ Below w.heap.size w (w.alloc (.cells (madeCells #[.int .i64 0] t.length) 3))) from ⟨vs_made w t.length, below_alloc _ _⟩
    have HTB := show Hid (∀ w', Below w.heap.size w w' → ∃ rg ro cp, w'.cell? ⟨c, 0, none⟩ = some (.slice (some ⟨rg, ro, none⟩) t.length cp) ∧ ∀ i, i < t.length → At4 w' rg (ro + i * 4) (Ms.row t i)) from fun w' hb => by
      have h := hT.later hb
      obtain ⟨pr, cpr, hv1, _, _, hat⟩ := h.row.isR
      obtain ⟨rg, ro, hpr, hrr⟩ := hat (by omega)
      refine ⟨rg, ro, cpr, by rw [h.c0, hv1, hpr], fun i hi => ?_⟩
      rw [Ms.row_at hi]
      exact hrr i hi
    have HKD := show Hid (∀ i, i < t.length → (Ms.row t i).k = 1 ∨ (Ms.row t i).k = 2 ∨ Fm.jn (Ms.row t i).k = true) from fun i hi => by rw [Ms.row_at hi]; exact Fm.ok_kind hok hi
    have HPL := show Hid (∀ i, i < t.length → Fm.jn (Ms.row t i).k = true → (Ms.row t i).l.toNat < i ∧ (Ms.row t i).r.toNat < i ∧ 0 ≤ (Ms.row t i).l ∧ 0 ≤ (Ms.row t i).r) from fun i hi hj => Ms.parts_lt hok hi hj
    clear hT e KH hu hmk
    go_enter Try.func20, Try.ntmps20
    go_wp2_with fail
    refine Calls.mono KH1.out ?_
    rintro e w1 ⟨rfl, hw1⟩
    subst w1
    go_wp2_with fail
    refine Calls.mono KH2.out ?_
    rintro e w1 ⟨rfl, hw1⟩
    subst w1
    clear KH1 KH2
    go_wp2_with fail
    generalize w.alloc (.cells (madeCells #[.int .i64 0] t.length) 3) = wm at *
    go_loopw [10] (fun i wr => ∃ k : Nat, k ≤ t.length ∧ i = .int .i64 (k : Int) ∧ Hid (∃ f, Vs wr w.heap.size t.length f ∧ (∀ j, j < k → f j = -1) ∧ Below w.heap.size w wr)) (fun i _ => t.length - (intOf i).toNat)
    case atStart => exact ⟨0, by omega, rfl, _, HV0.out.1, (fun j h => by omega), HV0.out.2⟩
    case round =>
      obtain ⟨k, hk, rfl, HI⟩ := hrel
      by_cases hlt : k < t.length
      · obtain ⟨f, hv, hf, hb⟩ := HI.out
        have hki : (k : Int) < (t.length : Int) := by omega
        have b0 := hv.cell (j := k) hlt
        have bf := hv.fr
        have HN := show Hid (∃ f, Vs (wr.setCell ⟨w.heap.size, k, none⟩ (.int .i64 (-1))) w.heap.size t.length f ∧ (∀ j, j < k + 1 → f j = -1) ∧ Below w.heap.size w (wr.setCell ⟨w.heap.size, k, none⟩ (.int .i64 (-1)))) from ⟨_, hv.set k (-1), (fun j hj => by unfold Sb.updI; split; rfl; exact hf j (by omega)), hb.setCell (Nat.le_refl _) _⟩
        clear hv hf hb HI HRS HIN HNW HOU HNM HST HS0 KBI HTB HKD HPL
        go_wp2_with fail
        go_roundw
        case rel => exact ⟨k + 1, by omega, by go_num, HN⟩
        case measure => first | (simp [intOf]; done) | (simp [intOf]; omega)
      · have hke : k = t.length := by omega
        subst hke
        obtain ⟨f, hv, hf, hb⟩ := HI.out
        have b0 := hv.cell (j := pt) hpt
        have bf := hv.fr
        have HM0 := show Hid (Mq w w.heap.size t.length (mustV (Sb.mrun t (pre t pt (pt + 1)) pt id).1) (.slice none 0 0) [] (wr.setCell ⟨w.heap.size, pt, none⟩ (.int .i64 id))) from by
          refine ⟨?_, World.ownsRow_nil _ _ _ _, hb.setCell (Nat.le_refl _) _⟩
          have h := hv.set pt id
          rw [HS0.out.1]
          unfold Vs at h ⊢
          rw [h]
          congr 2
          apply Array.ext'
          simp only [List.map_inj_left]
          intro j hj
          have hj' : j < t.length := by simpa using hj
          unfold Sb.updI mustV Sb.updA
          split
          · rfl
          · rw [hf j hj']; rfl
        clear hv hf hb HI HV0
        go_wp2_with fail
        generalize wr.setCell ⟨w.heap.size, pt, none⟩ (.int .i64 id) = wb at *
        go_loopw [11, 12] (fun ov i wr => ∃ (k : Nat) (out : Sb.Hs), k ≤ pt + 1 ∧ i = .int .i64 ((k : Int) - 1) ∧ Hid (Mq w w.heap.size t.length (mustV (Sb.mrun t (pre t pt k) pt id).1) ov out wr ∧ Srt out ∧ out.Perm (Sb.mrun t (pre t pt k) pt id).2.1 ∧ Sb.Told t pt id (pre t pt k) (Sb.mrun t (pre t pt k) pt id))) (fun _ i _ => (intOf i + 1).toNat)
        case atStart => exact ⟨pt + 1, [], by omega, by go_num, HM0.out, (by unfold Srt; simp), (by rw [HS0.out.2]), HST.out⟩
        case round =>
          obtain ⟨k, out, hk, rfl, HI⟩ := hrel
          clear HM0 HST HS0
          by_cases hk0 : k = 0
          · subst hk0
            have hs := HI.out.1
            have ha := HRS.out.2 out HI.out.2.1 HI.out.2.2.1 HI.out.2.2.2.ok
            subst ha
            rw [show ((0 : Nat) : Int) - 1 = -1 from rfl]
            have HF := show Hid (MtP w (out, true, 0) (.returned (.tuple #[u11, .bool true, .int .i64 0])) wr) from ⟨_, rfl, isH_own (l := out) hs.ow (by have := HNM.out 0 HI.out.2.2.2.ok; have := HI.out.2.2.1.length_eq; omega), (fun j hj => (own_ge hs.ow j hj).1), hs.be⟩
            clear hs HI HIN HNW HOU HNM KBI HTB HKD HPL HRS
            go_wp2_with fail
            refine bodyPost_ret (v := .tuple #[u11, .bool true, .int .i64 0]) (by simp [results, Try.results20, go_sem]) rfl ?_
            exact HF.out
          · obtain ⟨i, rfl⟩ : ∃ i, k = i + 1 := ⟨k - 1, by omega⟩
            rw [show ((i + 1 : Nat) : Int) - 1 = (i : Int) from by omega]
            have hit : i < t.length := by omega
            have hii : (i : Int) < (t.length : Int) := by omega
            have hi0 : 0 ≤ (i : Int) := by omega
            clear hk0
            obtain ⟨hM, hSr, hPe, hTo⟩ := HI.out
            have b0 := hM.vs.cell (j := i) hit
            by_cases hib : i ∈ Fm.below t pt
            · obtain ⟨⟨x, hx, hhx⟩, e3, hgood, hbad⟩ := HIN.out i hib hTo
              obtain ⟨hq0, hq1⟩ := Fm.has_iff.1 hhx
              obtain ⟨xn, rfl⟩ : ∃ j : Nat, x = j := ⟨x.toNat, by omega⟩
              have hxn : xn < t.length := by omega
              have HWY := show Hid _ from mstep_ways (t := t) hTo.ok hx
              have HFW := show Hid (∀ j y, _) from fun j (y : Int) => fits_ways (Sb.mrun t (pre t pt (i + 1)) pt id).1 j y (fun z hz => (Fm.has_iff.1 (hTo.in_ j z hz).1).1)
              have HNN := show Hid (∀ j z, (Sb.mrun t (pre t pt (i + 1)) pt id).1 j = some z → 0 ≤ z) from fun j z hz => (Fm.has_iff.1 (hTo.in_ j z hz).1).1
              have HWB := show Hid ((Sb.mstep t (Sb.mrun t (pre t pt (i + 1)) pt id) i).2.2 = false → ans = ([], false, 0)) from fun h => HRS.out.1 (hbad h)
              have HWG := show Hid (Sb.mrun t (pre t pt i) pt id = Sb.mstep t (Sb.mrun t (pre t pt (i + 1)) pt id) i ∧ ((Sb.mstep t (Sb.mrun t (pre t pt (i + 1)) pt id) i).2.2 = true → Sb.Told t pt id (pre t pt i) (Sb.mrun t (pre t pt i) pt id))) from ⟨e3, hgood⟩
              have HNA := show Hid ((Ms.row t i).k = 1 → Sb.look (Sb.mrun t (pre t pt (i + 1)) pt id).2.1 (Ms.row t i).s = none) from fun h1 => HNW.out i hib h1 hTo.ok
              have HSP := show Hid (Srt out ∧ out.Perm (Sb.mrun t (pre t pt (i + 1)) pt id).2.1 ∧ out.length ≤ 1024) from ⟨hSr, hPe, by rw [hPe.length_eq]; exact HNM.out _ hTo.ok⟩
              have hms : mustV (Sb.mrun t (pre t pt (i + 1)) pt id).1 i = (xn : Int) := by unfold mustV; rw [hx]; rfl
              rw [hms] at b0
              obtain ⟨rg, ro, cp, d0, hrow⟩ := HTB.out wr hM.be
              have hA := hrow i hit
              have hA2 := hrow xn hxn
              have HKI := show Hid _ from HKD.out i hit
              have HPI := show Hid _ from HPL.out i hit
              have HPX := show Hid (Fm.jn (Ms.row t xn).k = true → (Ms.row t xn).l.toNat < xn ∧ (Ms.row t xn).r.toNat < xn ∧ 0 ≤ (Ms.row t xn).l ∧ 0 ≤ (Ms.row t xn).r) from HPL.out xn hxn
              have hnd : Sb.nd t ((xn : Nat) : Int) = Ms.row t xn := Sb.nd_self hxn
              rw [hnd] at HWY
              have HMQ := show Hid (Mq w w.heap.size t.length (mustV (Sb.mrun t (pre t pt (i + 1)) pt id).1) u11 out wr) from hM
              have HOK := show Hid ((Sb.mrun t (pre t pt (i + 1)) pt id).2.2 = true) from hTo.ok
              have hmsi := hms
              have HXW := show Hid (wr.heap.size ≠ w.heap.size) from fun e => by have := hM.vs.lt; omega
              clear HI HRS HIN HNW HOU HNM HTB HKD HPL hM hSr hPe hTo hrow hgood hbad e3 hms hnd hib hhx hx
              generalize Sb.mrun t (pre t pt (i + 1)) pt id = s at *
              have a0 := hA.c0; have a1 := hA.c1; have a2 := hA.c2; have a3 := hA.c3
              have g0 := hA2.c0; have g1 := hA2.c1; have g2 := hA2.c2; have g3 := hA2.c3
              clear hA hA2
              generalize Ms.row t i = nd at *
              obtain ⟨nk, ns, nl, nr⟩ := nd
              generalize Ms.row t xn = md at *
              obtain ⟨mk, ms, ml, mr⟩ := md
              simp only at a0 a1 a2 a3 g0 g1 g2 g3 HWY HKI HPI HPX HNA
              have hxi : (xn : Int) < (t.length : Int) := by omega
              have hx0 : ¬ (xn : Int) < 0 := by omega
              have CA : ∀ {b o : Nat} {x : Value}, wr.cell? ⟨b, o, none⟩ = some x → (wr.alloc (Obj.cells #[.int .i64 nk, .string ns, .int .i64 nl, .int .i64 nr] 59)).cell? ⟨b, o, none⟩ = some x ∧ ((wr.alloc (Obj.cells #[.int .i64 nk, .string ns, .int .i64 nl, .int .i64 nr] 59)).alloc (Obj.cells #[.int .i64 0, .string ⟨#[]⟩, .int .i64 0, .int .i64 0] 59)).cell? ⟨b, o, none⟩ = some x := fun h => ⟨(Kp.of_below (S := fun _ => False) (below_alloc wr _)).cell h (fun h => h), (Kp.of_below (S := fun _ => False) ((below_alloc wr _).alloc (below_alloc wr _).size _)).cell h (fun h => h)⟩
              obtain ⟨y0, z0⟩ := CA b0; obtain ⟨y1, z1⟩ := CA d0; obtain ⟨y2, z2⟩ := CA g0; obtain ⟨y3, z3⟩ := CA g1; obtain ⟨y4, z4⟩ := CA g2; obtain ⟨y5, z5⟩ := CA g3
              clear CA
              have HYW := show Hid (wr.heap.size + 1 ≠ w.heap.size) from fun e => by have h1 := HMQ.out.vs.lt; omega
              obtain ⟨wc, hwc⟩ : ∃ wc, wc = ((wr.alloc (Obj.cells #[.int .i64 nk, .string ns, .int .i64 nl, .int .i64 nr] 59)).alloc (Obj.cells #[.int .i64 mk, .string ms, .int .i64 ml, .int .i64 mr] 59)).drew := ⟨_, rfl⟩
              have hMc : Mq w w.heap.size t.length (mustV s.1) u11 out wc := by rw [hwc]; exact ((HMQ.out.later (below_alloc _ _)).later (below_alloc _ _)).drew
              have hNx : N4 wc wr.heap.size ⟨nk, ns, nl, nr⟩ := by rw [hwc]; exact (Below.heap_alloc _ _ _ (by simp)).trans (heap_alloc_new _ _)
              have hNy : N4 wc (wr.heap.size + 1) ⟨mk, ms, ml, mr⟩ := by rw [hwc]; have h := heap_alloc_new (wr.alloc (Obj.cells #[.int .i64 nk, .string ns, .int .i64 nl, .int .i64 nr] 59)) (Obj.cells #[.int .i64 mk, .string ms, .int .i64 ml, .int .i64 mr] 59); rw [show (wr.alloc (Obj.cells #[.int .i64 nk, .string ns, .int .i64 nl, .int .i64 nr] 59)).heap.size = wr.heap.size + 1 from by simp] at h; exact h
              go_wp2_with fail
              clear a0 a1 a2 a3 g0 g1 g2 g3 b0 d0
              go_region
              rw [← hwc]
              clear hwc z0 z1 z2 z3 z4 z5 y0 y1 y2 y3 y4 y5 HMQ
              have hxy : wr.heap.size ≠ w.heap.size := HXW.out
              have hyy : wr.heap.size + 1 ≠ w.heap.size := HYW.out
              generalize wr.heap.size = xb at *
              have x0 := hNx.c0; have x1 := hNx.c1; have x2 := hNx.c2; have x3 := hNx.c3
              have v0 := hNy.c0; have v2 := hNy.c2; have v3 := hNy.c3
              simp only at x0 x1 x2 x3 v0 v2 v3
              have HMC := show Hid _ from hMc
              have HNX := show Hid _ from hNx
              have HNY := show Hid _ from hNy
              have m0 := hMc.vs.cell (j := i) hit
              rw [hmsi] at m0
              clear hMc hNx hNy
              by_cases hk1 : nk = 1
              · subst hk1
                have HE := show Hid _ from HWY.out.1 rfl
                have KB := show Hid (∀ wx, wx = wc.drew ∨ wx = wc → Calls Try.prog 55 #[u11, .string ns, .int .i64 (xn : Int)] wx fun e w' => ∃ ov, e = .returned (.tuple #[ov, .bool true]) ∧ Mq w w.heap.size t.length (mustV s.1) ov (insH (ns, (xn : Int)) out) w' ∧ w'.cell? ⟨xb, 1, none⟩ = some (.string ns) ∧ w'.cell? ⟨w.heap.size, i, none⟩ = some (.int .i64 (xn : Int))) from fun wx hwx => by
                  have hMx : Mq w w.heap.size t.length (mustV s.1) u11 out wx ∧ wx.cell? ⟨xb, 1, none⟩ = some (.string ns) ∧ wx.cell? ⟨w.heap.size, i, none⟩ = some (.int .i64 (xn : Int)) := by
                    rcases hwx with e | e <;> rw [e]
                    · exact ⟨HMC.out.drew, x1, m0⟩
                    · exact ⟨HMC.out, x1, m0⟩
                  obtain ⟨hMx, hc1, hc2⟩ := hMx
                  refine (KBI.out wx u11 out (isH_own hMx.ow (by have := HSP.out.2.2; omega)) HSP.out.2.2 ns (xn : Int) (look_perm HSP.out.2.1 (HNA.out rfl))).mono ?_
                  rintro e w' ⟨ov, he, ho, hb⟩
                  refine ⟨ov, he, ⟨(hb.block _ hMx.vs.lt).trans hMx.vs, own_base ho hMx.be.size, hMx.be.trans (hb.mono hMx.be.size)⟩, (Kp.of_below (S := fun _ => False) hb).cell hc1 (fun h => h), (Kp.of_below (S := fun _ => False) hb).cell hc2 (fun h => h)⟩
                have HSR := show Hid (Srt (insH (ns, (xn : Int)) out) ∧ (insH (ns, (xn : Int)) out).Perm (s.2.1 ++ [(ns, (xn : Int))])) from ⟨insH_srt _ _ HSP.out.1 (fun y hy e => by
                  have h1 := (look_isSome s.2.1 ns).2 (by have e2 : y.1 = ns := e; rw [← e2]; exact List.mem_map_of_mem (HSP.out.2.1.mem_iff.1 hy))
                  rw [HNA.out rfl] at h1
                  cases h1), (insH_perm _ _).trans (HSP.out.2.1.append_right _)⟩
                clear HWY HFW HNN HWB HKI HPI HPX HNA KBI HMC HNX HNY HSP
                generalize insH (ns, (xn : Int)) out = out2 at *
                go_wp2_with fail
                go_region_held3 (fun wx => wx.cell? ⟨xb, 1, none⟩ = some (.string ns) ∧ wx.cell? ⟨w.heap.size, i, none⟩ = some (.int .i64 (xn : Int))) (first | go_keep | exact ⟨by assumption, by assumption⟩) (first | (go_at_call 55; refine (KB.out _ ?_).mono ?_; (first | exact Or.inl rfl | exact Or.inr rfl); rintro e w5 ⟨ov5, rfl, hM5, q0, q1⟩))
                have HM5 := show Hid _ from hM5
                clear KB hM5 q0 q1 x0 x1 x2 x3 v0 v2 v3 m0
                go_wp2_with fail
                go_roundw
                case rel => exact ⟨i, out2, by omega, by go_num, (by rw [HWG.out.1, HE.out]; exact ⟨HM5.out, HSR.out.1, HSR.out.2, by rw [← HE.out, ← HWG.out.1]; exact HWG.out.2 (by rw [HE.out])⟩)⟩
                case measure => first | (simp [intOf]; done) | (simp [intOf]; omega)
              · have hk1b : (nk == 1) = false := by simpa using hk1
                by_cases hke : nk = mk
                · subst hke
                  rcases HKI.out with h2 | h2 | hjn
                  · exact absurd h2 hk1
                  · subst h2
                    have HE := show Hid _ from HWY.out.2.2.1 hk1 rfl rfl
                    clear HWY HFW HNN HWB HKI HPI HPX HNA KBI HNX HNY
                    go_wp2_with fail
                    go_roundw
                    case rel => exact ⟨i, out, by omega, by go_num, (by rw [HWG.out.1, HE.out]; exact ⟨HMC.out, HSP.out.1, HSP.out.2.1, by rw [← HE.out, ← HWG.out.1]; exact HWG.out.2 (by rw [HE.out]; exact HOK.out)⟩)⟩
                    case measure => first | (simp [intOf]; done) | (simp [intOf]; omega)
                  · have hn2 : (nk == 2) = false := by
                      have : nk ≠ 2 := fun e => by rw [e] at hjn; cases hjn
                      simpa using this
                    obtain ⟨hpl, hpr, hl0, hr0⟩ := HPI.out hjn
                    obtain ⟨_, _, hml0, hmr0⟩ := HPX.out hjn
                    obtain ⟨jl, rfl⟩ : ∃ jl : Nat, nl = jl := ⟨nl.toNat, by omega⟩
                    obtain ⟨jr, rfl⟩ : ∃ jr : Nat, nr = jr := ⟨nr.toNat, by omega⟩
                    simp only [Int.toNat_natCast] at hpl hpr
                    have hjl : jl < t.length := by omega
                    have hjr : jr < t.length := by omega
                    have hjli : (jl : Int) < (t.length : Int) := by omega
                    have hjri : (jr : Int) < (t.length : Int) := by omega
                    have HW4 := show Hid _ from HWY.out.2.2.2.1 hk1 rfl hjn
                    have HW5 := show Hid _ from HWY.out.2.2.2.2 hk1 rfl hjn
                    simp only [Int.toNat_natCast] at HW4 HW5
                    have f0 := HMC.out.vs.cell (j := jl) hjl
                    have bf := HMC.out.vs.fr
                    have HFL := show Hid _ from HFW.out jl ml
                    have HFR := show Hid ((Sb.fits (Sb.updA s.1 jl ml) jr mr = true ∧ (mustV (Sb.updA s.1 jl ml) jr < 0 ∨ (0 ≤ mustV (Sb.updA s.1 jl ml) jr ∧ mustV (Sb.updA s.1 jl ml) jr = mr))) ∨ (Sb.fits (Sb.updA s.1 jl ml) jr mr = false ∧ 0 ≤ mustV (Sb.updA s.1 jl ml) jr ∧ mustV (Sb.updA s.1 jl ml) jr ≠ mr)) from fits_ways (Sb.updA s.1 jl ml) jr mr (fun z hz => by
                      unfold Sb.updA at hz
                      split at hz
                      · cases hz; exact hml0
                      · exact HNN.out _ z hz)
                    have HM2 := show Hid (Mq w w.heap.size t.length (mustV (Sb.updA s.1 jl ml)) u11 out ((wc.setCell ⟨w.heap.size, jl, none⟩ (.int .i64 ml)).drew) ∧ N4 ((wc.setCell ⟨w.heap.size, jl, none⟩ (.int .i64 ml)).drew) xb ⟨nk, ns, jl, jr⟩ ∧ N4 ((wc.setCell ⟨w.heap.size, jl, none⟩ (.int .i64 ml)).drew) (xb + 1) ⟨nk, ms, ml, mr⟩) from by
                      have h := (HMC.out.set (Nat.le_refl _) jl ml).drew
                      rw [must_upd] at h
                      exact ⟨h, ((kp_setR wc w.heap.size jl _).block xb (lt_of_block HNX.out) hxy).trans HNX.out, ((kp_setR wc w.heap.size jl _).block (xb + 1) (lt_of_block HNY.out) hyy).trans HNY.out⟩
                    clear HWY HFW HNN HKI HPI HPX HNA KBI
                    rcases HFL.out with ⟨hf1, hfl | ⟨hfl, hfe⟩⟩ | ⟨hf1, hfl, hfe⟩
                    · generalize hmm0 : mustV s.1 jl = mm0 at *
                      clear hmm0
                      have hd0 : decide (0 ≤ mm0) = false := decide_eq_false (by omega)
                      clear hfl
                      have HE := show Hid _ from HW5.out hf1
                      clear HW4 HW5 HFL m0 hf1
                      go_wp2_with fail
                      go_region
                      have fx := HMC.out.drew.vs.cell (j := jl) hjl
                      clear f0
                      obtain ⟨hM2, hN2, hN3⟩ := HM2.out
                      clear HM2
                      go_wp2_with fail
                      obtain ⟨wd, hwd⟩ : ∃ wd, wd = (wc.setCell ⟨w.heap.size, jl, none⟩ (.int .i64 ml)).drew := ⟨_, rfl⟩
                      rw [← hwd] at hM2 hN2 hN3 ⊢
                      clear hwd
                      have f1 := hM2.vs.cell (j := jr) hjr
                      have bf := hM2.vs.fr
                      have x2 := hN2.c2; have x3 := hN2.c3; have v2 := hN3.c2; have v3 := hN3.c3
                      simp only at x2 x3 v2 v3
                      have HM4 := show Hid _ from hM2
                      clear hM2 hN2 hN3
                      rcases HFR.out with ⟨hf2, hfr | ⟨hfr, hfq⟩⟩ | ⟨hf2, hfr, hfq⟩
                      · have HE2 := show Hid (Sb.mrun t (pre t pt i) pt id = (Sb.updA (Sb.updA s.1 jl ml) jr mr, s.2.1, true)) from (by rw [HWG.out.1, HE.out, hf2] : Sb.mrun t (pre t pt i) pt id = (Sb.updA (Sb.updA s.1 jl ml) jr mr, s.2.1, true))
                        have HTD := show Hid (Sb.Told t pt id (pre t pt i) (Sb.mrun t (pre t pt i) pt id)) from HWG.out.2 (by rw [HE.out]; exact hf2)
                        clear HE HFR HWG HWB HOK
                        generalize hmm : mustV (Sb.updA s.1 jl ml) jr = mm at *
                        clear hmm
                        have hdm : decide (0 ≤ mm) = false := decide_eq_false (by omega)
                        clear hfr
                        go_wp2_with fail
                        go_region
                        have f2 := HM4.out.drew.vs.cell (j := jr) hjr
                        have HM5 := show Hid (Mq w w.heap.size t.length (mustV (Sb.updA (Sb.updA s.1 jl ml) jr mr)) u11 out ((wd.setCell ⟨w.heap.size, jr, none⟩ (.int .i64 mr)).drew)) from by
                          have h := (HM4.out.set (Nat.le_refl _) jr mr).drew
                          rw [must_upd] at h
                          exact h
                        clear HM4
                        go_wp2_with fail
                        go_roundw
                        case rel => exact ⟨i, out, by omega, by go_num, (by have h := HTD.out; rw [HE2.out] at h ⊢; exact ⟨HM5.out, HSP.out.1, HSP.out.2.1, h⟩)⟩
                        case measure => first | (simp [intOf]; done) | (simp [intOf]; omega)
                      · have HE2 := show Hid (Sb.mrun t (pre t pt i) pt id = (Sb.updA (Sb.updA s.1 jl ml) jr mr, s.2.1, true)) from (by rw [HWG.out.1, HE.out, hf2] : Sb.mrun t (pre t pt i) pt id = (Sb.updA (Sb.updA s.1 jl ml) jr mr, s.2.1, true))
                        have HTD := show Hid (Sb.Told t pt id (pre t pt i) (Sb.mrun t (pre t pt i) pt id)) from HWG.out.2 (by rw [HE.out]; exact hf2)
                        clear HE HFR HWG HWB HOK
                        generalize hmm : mustV (Sb.updA s.1 jl ml) jr = mm at *
                        clear hmm
                        subst mm
                        go_wp2_with fail
                        go_region
                        have f2 := HM4.out.drew.vs.cell (j := jr) hjr
                        have HM5 := show Hid (Mq w w.heap.size t.length (mustV (Sb.updA (Sb.updA s.1 jl ml) jr mr)) u11 out ((wd.setCell ⟨w.heap.size, jr, none⟩ (.int .i64 mr)).drew)) from by
                          have h := (HM4.out.set (Nat.le_refl _) jr mr).drew
                          rw [must_upd] at h
                          exact h
                        clear HM4
                        go_wp2_with fail
                        go_roundw
                        case rel => exact ⟨i, out, by omega, by go_num, (by have h := HTD.out; rw [HE2.out] at h ⊢; exact ⟨HM5.out, HSP.out.1, HSP.out.2.1, h⟩)⟩
                        case measure => first | (simp [intOf]; done) | (simp [intOf]; omega)
                      · have hfz : (mustV (Sb.updA s.1 jl ml) jr != mr) = true := by simpa using hfq
                        have ha := HWB.out (by rw [HE.out]; exact hf2)
                        subst ha
                        clear HE HFR HWG HWB HOK hfq
                        generalize hmm : mustV (Sb.updA s.1 jl ml) jr = mm at *
                        clear hmm
                        go_wp2_with fail
                        go_region
                        go_wp2_with fail
                        refine bodyPost_ret (v := .tuple #[.slice none 0 0, .bool false, .int .i64 0]) (by simp [results, Try.results20, go_sem]) rfl ?_
                        exact ⟨_, rfl, isH_nil _, (fun k hk => by cases hk), HM4.out.drew.be⟩
                    · generalize hmm0 : mustV s.1 jl = mm0 at *
                      clear hmm0
                      subst mm0
                      have HE := show Hid _ from HW5.out hf1
                      clear HW4 HW5 HFL m0 hf1
                      go_wp2_with fail
                      go_region
                      have fx := HMC.out.drew.vs.cell (j := jl) hjl
                      clear f0
                      obtain ⟨hM2, hN2, hN3⟩ := HM2.out
                      clear HM2
                      go_wp2_with fail
                      obtain ⟨wd, hwd⟩ : ∃ wd, wd = (wc.setCell ⟨w.heap.size, jl, none⟩ (.int .i64 ml)).drew := ⟨_, rfl⟩
                      rw [← hwd] at hM2 hN2 hN3 ⊢
                      clear hwd
                      have f1 := hM2.vs.cell (j := jr) hjr
                      have bf := hM2.vs.fr
                      have x2 := hN2.c2; have x3 := hN2.c3; have v2 := hN3.c2; have v3 := hN3.c3
                      simp only at x2 x3 v2 v3
                      have HM4 := show Hid _ from hM2
                      clear hM2 hN2 hN3
                      rcases HFR.out with ⟨hf2, hfr | ⟨hfr, hfq⟩⟩ | ⟨hf2, hfr, hfq⟩
                      · have HE2 := show Hid (Sb.mrun t (pre t pt i) pt id = (Sb.updA (Sb.updA s.1 jl ml) jr mr, s.2.1, true)) from (by rw [HWG.out.1, HE.out, hf2] : Sb.mrun t (pre t pt i) pt id = (Sb.updA (Sb.updA s.1 jl ml) jr mr, s.2.1, true))
                        have HTD := show Hid (Sb.Told t pt id (pre t pt i) (Sb.mrun t (pre t pt i) pt id)) from HWG.out.2 (by rw [HE.out]; exact hf2)
                        clear HE HFR HWG HWB HOK
                        generalize hmm : mustV (Sb.updA s.1 jl ml) jr = mm at *
                        clear hmm
                        have hdm : decide (0 ≤ mm) = false := decide_eq_false (by omega)
                        clear hfr
                        go_wp2_with fail
                        go_region
                        have f2 := HM4.out.drew.vs.cell (j := jr) hjr
                        have HM5 := show Hid (Mq w w.heap.size t.length (mustV (Sb.updA (Sb.updA s.1 jl ml) jr mr)) u11 out ((wd.setCell ⟨w.heap.size, jr, none⟩ (.int .i64 mr)).drew)) from by
                          have h := (HM4.out.set (Nat.le_refl _) jr mr).drew
                          rw [must_upd] at h
                          exact h
                        clear HM4
                        go_wp2_with fail
                        go_roundw
                        case rel => exact ⟨i, out, by omega, by go_num, (by have h := HTD.out; rw [HE2.out] at h ⊢; exact ⟨HM5.out, HSP.out.1, HSP.out.2.1, h⟩)⟩
                        case measure => first | (simp [intOf]; done) | (simp [intOf]; omega)
                      · have HE2 := show Hid (Sb.mrun t (pre t pt i) pt id = (Sb.updA (Sb.updA s.1 jl ml) jr mr, s.2.1, true)) from (by rw [HWG.out.1, HE.out, hf2] : Sb.mrun t (pre t pt i) pt id = (Sb.updA (Sb.updA s.1 jl ml) jr mr, s.2.1, true))
                        have HTD := show Hid (Sb.Told t pt id (pre t pt i) (Sb.mrun t (pre t pt i) pt id)) from HWG.out.2 (by rw [HE.out]; exact hf2)
                        clear HE HFR HWG HWB HOK
                        generalize hmm : mustV (Sb.updA s.1 jl ml) jr = mm at *
                        clear hmm
                        subst mm
                        go_wp2_with fail
                        go_region
                        have f2 := HM4.out.drew.vs.cell (j := jr) hjr
                        have HM5 := show Hid (Mq w w.heap.size t.length (mustV (Sb.updA (Sb.updA s.1 jl ml) jr mr)) u11 out ((wd.setCell ⟨w.heap.size, jr, none⟩ (.int .i64 mr)).drew)) from by
                          have h := (HM4.out.set (Nat.le_refl _) jr mr).drew
                          rw [must_upd] at h
                          exact h
                        clear HM4
                        go_wp2_with fail
                        go_roundw
                        case rel => exact ⟨i, out, by omega, by go_num, (by have h := HTD.out; rw [HE2.out] at h ⊢; exact ⟨HM5.out, HSP.out.1, HSP.out.2.1, h⟩)⟩
                        case measure => first | (simp [intOf]; done) | (simp [intOf]; omega)
                      · have hfz : (mustV (Sb.updA s.1 jl ml) jr != mr) = true := by simpa using hfq
                        have ha := HWB.out (by rw [HE.out]; exact hf2)
                        subst ha
                        clear HE HFR HWG HWB HOK hfq
                        generalize hmm : mustV (Sb.updA s.1 jl ml) jr = mm at *
                        clear hmm
                        go_wp2_with fail
                        go_region
                        go_wp2_with fail
                        refine bodyPost_ret (v := .tuple #[.slice none 0 0, .bool false, .int .i64 0]) (by simp [results, Try.results20, go_sem]) rfl ?_
                        exact ⟨_, rfl, isH_nil _, (fun k hk => by cases hk), HM4.out.drew.be⟩
                    · have hfz0 : (mustV s.1 jl != ml) = true := by simpa using hfe
                      have ha := HWB.out (HW4.out hf1)
                      subst ha
                      clear HWG HWB HOK HW4 HW5 HFL HFR HM2 hfe
                      generalize hmm0 : mustV s.1 jl = mm0 at *
                      clear hmm0
                      go_wp2_with fail
                      go_region
                      go_wp2_with fail
                      refine bodyPost_ret (v := .tuple #[.slice none 0 0, .bool false, .int .i64 0]) (by simp [results, Try.results20, go_sem]) rfl ?_
                      exact ⟨_, rfl, isH_nil _, (fun k hk => by cases hk), HMC.out.drew.be⟩
                · have hkne : (nk != mk) = true := by simpa using hke
                  have ha := HWB.out (HWY.out.2.1 hk1 hke)
                  subst ha
                  clear HWY HFW HNN HWB HKI HPI HPX HNA KBI HWG HOK HSP HNX HNY
                  go_wp2_with fail
                  refine bodyPost_ret (v := .tuple #[.slice none 0 0, .bool false, .int .i64 0]) (by simp [results, Try.results20, go_sem]) rfl ?_
                  exact ⟨_, rfl, isH_nil _, (fun k hk => by cases hk), HMC.out.be⟩
            · obtain ⟨hn, hpe⟩ := HOU.out i hib hTo
              have hms : mustV (Sb.mrun t (pre t pt (i + 1)) pt id).1 i = -1 := by unfold mustV; rw [hn]; rfl
              rw [hms] at b0
              have HN := show Hid (Mq w w.heap.size t.length (mustV (Sb.mrun t (pre t pt i) pt id).1) u11 out wr ∧ Srt out ∧ out.Perm (Sb.mrun t (pre t pt i) pt id).2.1 ∧ Sb.Told t pt id (pre t pt i) (Sb.mrun t (pre t pt i) pt id)) from by rw [hpe]; exact HI.out
              clear HI HRS HIN HNW HOU HNM KBI HTB HKD HPL hM hSr hPe hTo hn hpe hms hib
              go_wp2_with fail
              go_roundw
              case rel => exact ⟨i, out, by omega, by go_num, HN⟩
              case measure => first | (simp [intOf]; done) | (simp [intOf]; omega)
end Go.Proofs.Ythfedlodikbdgaa
