/-
  The calls refused, counting, measured, and by them Size, Depth, Weight and Grade. For every table that calls made, every number.
-/
import Derived.Test.YthdcppkohalkmaaGreatMAsk
import Derived.Laws.EntriesVeiled
namespace Go.Proofs.YthdcppkohalkmaaGreat
open Go.RowKit Go.Maps
open Fm (Nd)

section
variable {b m : Nat} {v : Value} {t : List Nd}
/-- What refused answers. -/
def refs (t : List Nd) (ids : List Int) : Int := if ids.all (Fm.has t) then 0 else 31
set_option maxRecDepth 100000 in
set_option maxHeartbeats 1000000 in
theorem refused_any (w : World) (hT : Tb w b m v t) (iv : Value) (ids : List Int) (hv : IsL w iv ids) :
    Calls Tryz.prog 47 #[.pointer (some ⟨b, 0, none⟩), iv] w fun e w' => e = .returned (.int .i64 (refs t ids)) ∧ Below w.heap.size w w' := by
  have KB := show Hid (Calls Tryz.prog 33 #[.pointer (some ⟨b, 0, none⟩), .int .i64 (-1)] w fun e w' => ∃ p n c, e = .returned (.tuple #[.slice p n c, .int .i64 31]) ∧ Below w.heap.size w w') from (below_any w hT (-1)).mono fun e w' ⟨v', he, hi, hb⟩ => by
    have h0 : belowR t (-1) = ([], 31) := by
      unfold belowR
      rw [if_neg (by simp [Fm.has])]
    rw [h0] at he hi
    obtain ⟨p, c, hv', _⟩ : ∃ p c, v' = .slice p 0 c ∧ True := by
      rcases hi.2 with ⟨rfl, _⟩ | ⟨g, cap, cur, rfl, _⟩
      · exact ⟨_, _, rfl, trivial⟩
      · exact ⟨_, _, rfl, trivial⟩
    subst hv'
    exact ⟨p, 0, c, he, hb⟩
  have KN := show Hid (∀ w' (i : Int), Below w.heap.size w w' → Calls Tryz.prog 71 #[.pointer (some ⟨b, 0, none⟩), .int .i64 i] w' fun e w'' => (∃ k s l r, e = .returned (.tuple #[.agg #[.int .i64 k, .string s, .int .i64 l, .int .i64 r], .bool (Fm.has t i)])) ∧ Below w.heap.size w w'') from fun w' i hb => (node_any w' (hT.later hb) i).mono fun e w'' ⟨he, hb'⟩ => ⟨⟨_, _, _, _, he⟩, hb.trans (hb'.mono hb.size)⟩
  obtain ⟨p, c, rfl, hlen, hcell⟩ := hv
  have HC := show Hid (∀ w', Below w.heap.size w w' → ∀ k (hk : k < ids.length), ∃ b o, p = some ⟨b, o, none⟩ ∧ w'.cell? ⟨b, o + k, none⟩ = some (.int .i64 ids[k])) from fun w' hb k hk => by
    obtain ⟨g, o, hp, hc⟩ := hcell k hk
    exact ⟨g, o, hp, (hb.cell (p := ⟨g, _, none⟩) (World.block_lt_of_cell? w _ hc)).trans hc⟩
  have HY := show Hid ((∀ k (hk : k < ids.length), Fm.has t ids[k] = true) → refs t ids = 0) from fun h => by
    unfold refs
    rw [if_pos]
    rw [List.all_eq_true]
    intro x hx
    obtain ⟨k, hk, rfl⟩ := List.mem_iff_getElem.1 hx
    exact h k hk
  have HN := show Hid (∀ k (hk : k < ids.length), Fm.has t ids[k] = false → refs t ids = 31) from fun k hk h => by
    unfold refs
    rw [if_neg]
    intro ha
    rw [List.all_eq_true] at ha
    rw [ha _ (List.getElem_mem hk)] at h
    cases h
  generalize refs t ids = ans at *
  clear hcell hT
  go_enter Tryz.func47, Tryz.ntmps47
  go_wp2_with fail
  refine KB.out.mono ?_
  rintro e w1 ⟨p1, n1, c1, rfl, hb1⟩
  have HB1 := show Hid (Below w.heap.size w w1) from hb1
  clear hb1 KB
  go_wp2_with fail
  go_loopw [20] (fun i wr => ∃ k : Nat, k ≤ ids.length ∧ i = .int .i64 (k : Int) ∧ Hid (Below w.heap.size w wr) ∧ Hid (∀ j (hj : j < ids.length), j < k → Fm.has t ids[j] = true)) (fun i _ => ids.length - (intOf i).toNat)
  case atStart => exact ⟨0, by omega, rfl, HB1, fun j _ h => by omega⟩
  case round =>
    obtain ⟨k, hk, rfl, HBr, HA⟩ := hrel
    clear HB1
    by_cases hlt : k < ids.length
    · obtain ⟨g, o, rfl, hc⟩ := HC.out wr HBr.out k hlt
      have hki : (k : Int) < (ids.length : Int) := by omega
      have HNK := show Hid (Fm.has t ids[k] = false → ans = 31) from HN.out k hlt
      have HYK := show Hid (Fm.has t ids[k] = true → ∀ j (hj : j < ids.length), j < k + 1 → Fm.has t ids[j] = true) from fun h j hj hjk => by
        by_cases e : j = k
        · subst e; exact h
        · exact HA.out j hj (by omega)
      have KNK := show Hid (Calls Tryz.prog 71 #[.pointer (some ⟨b, 0, none⟩), .int .i64 ids[k]] wr fun e w'' => (∃ k' s l r, e = .returned (.tuple #[.agg #[.int .i64 k', .string s, .int .i64 l, .int .i64 r], .bool (Fm.has t ids[k])])) ∧ Below w.heap.size w w'') from KN.out wr ids[k] HBr.out
      clear HN HY HC HA KN
      generalize ids[k] = x at *
      go_wp2_with fail
      refine KNK.out.mono ?_
      rintro e w2 ⟨⟨nk, ns, nl, nr, rfl⟩, hb2⟩
      have HB2 := show Hid (Below w.heap.size w w2) from hb2
      clear hb2 KNK HBr
      generalize Fm.has t x = hx at *
      cases hx
      · have hr := HNK.out rfl
        subst hr
        clear HYK HNK hc
        go_wp2_with fail
        go_ret
        exact ⟨rfl, HB2.out.alloc HB2.out.size _⟩
      · have HA2 := show Hid _ from HYK.out rfl
        clear HYK HNK hc
        go_wp2_with fail
        go_roundw
        case rel => exact ⟨k + 1, by omega, by go_num, HB2.out.alloc HB2.out.size _, HA2⟩
        case measure => first | (simp [intOf]; done) | (simp [intOf]; omega)
    · have hr := HY.out fun j hj => HA.out j hj (by omega)
      subst hr
      clear HN HY HC KN
      go_wp2_with fail
      go_ret
      exact ⟨rfl, HBr.out⟩

variable {H : Nat} {z : Int} {f : Int → Int → Int → Int} {gj : Nat} {vl : Nat → Int}
theorem ask_any (hok : Fm.Ok t) (hJ : Joins gj f) (hcj : ∀ vs w, (callFunc gj vs).run Tryz.prog w = .ok (.enter gj vs) w) (hvl : vl = Ms.val z f t) (hin : ∀ j, j < t.length → 0 ≤ vl j ∧ vl j ≤ 1099511627776) (hFt : ∀ k, Ft b m v k → k < H) (i : Nat) :
    i < t.length → ∀ w, Tb w b m v t → Bx w H b z gj → Memo w H t.length vl → Calls Tryz.prog 85 (askA H (i : Int)) w (Asked w H t.length vl i) := by
  induction i using Nat.strongRecOn with
  | _ i ih => exact fun hi w hT hB hM => ask_step hok hJ hcj hvl hin hFt i hi (fun j hj w hT hB hM => ih j hj (by omega) w hT hB hM) w hT hB hM
theorem cell_newE (w : World) (k : Nat) (hk : k = w.heap.size) (x : Value) (ty : TypeId) : (w.alloc (.cells #[x] ty)).cell? ⟨k, 0, none⟩ = some x := by
  subst hk
  rw [cell_of_row _ _ 0 _ _ _ (heap_alloc_new _ _)]
  rfl
theorem cell_alloc {w : World} {k o : Nat} {x : Value} (h : w.cell? ⟨k, o, none⟩ = some x) (ob : Obj) : (w.alloc ob).cell? ⟨k, o, none⟩ = some x := (Kp.of_below (S := fun _ => False) (below_alloc w ob)).cell h (fun h => h)
theorem mp_madeE (w : World) (k : Nat) (hk : k = w.heap.size) : Mp (w.alloc (.map #[] 0)) k 0 (fun _ => none) := by subst hk; exact mp_made w
theorem Mp.alloc {w : World} {m n : Nat} {g : Int → Option Value} (h : Mp w m n g) (o : Obj) : Mp (w.alloc o) m n g := h.later (below_alloc w o)
/-- What counting leaves: the function with its variables, its map without an entry. -/
def Ctd (w : World) (b : Nat) (z : Int) (gj : Nat) (e : Ending) (w' : World) : Prop := e = .returned (askV w.heap.size) ∧ Bx w' w.heap.size b z gj ∧ (∀ N vl, Memo w' w.heap.size N vl) ∧ Below w.heap.size w w'
set_option maxRecDepth 100000 in
set_option maxHeartbeats 1000000 in
theorem counting_any (w : World) (b : Nat) (z : Int) (gj : Nat) :
    Calls Tryz.prog 62 #[.pointer (some ⟨b, 0, none⟩), .int .i64 z, .func (.func gj) #[] #[]] w (Ctd w b z gj) := by
  have hmm := @run_makeMap Tryz.prog
  unfold Ctd askV askC
  go_enter Tryz.func62, Tryz.ntmps62
  go_wp2
  go_ret
  have hb : ∀ {w' : World} (o : Obj), Below w.heap.size w w' → Below w.heap.size w (w'.alloc o) := fun o h => h.alloc h.size o
  refine ⟨rfl, ⟨?_, ?_, ?_, ?_, ?_⟩, fun N vl => ⟨fun _ => none, 0, ?_, Nat.zero_le _, fun _ _ h => by cases h⟩, hb _ (hb _ (hb _ (hb _ (hb _ (hb _ (Below.refl _ _))))))⟩
  · exact cell_alloc (cell_alloc (cell_alloc (cell_alloc (cell_alloc (cell_newE _ _ rfl _ _) _) _) _) _) _
  · exact cell_alloc (cell_alloc (cell_alloc (cell_alloc (cell_newE _ _ (by simp) _ _) _) _) _) _
  · exact cell_alloc (cell_alloc (cell_alloc (cell_newE _ _ (by simp) _ _) _) _) _
  · exact cell_alloc (cell_newE _ _ (by simp) _ _) _
  · exact cell_newE _ _ (by simp) _ _
  · exact ((mp_madeE _ _ (by simp)).alloc _).alloc _
/-- A function that answers a counting function. -/
def Counts (gc : Nat) (z : Int) (gj : Nat) : Prop := ∀ (w : World) (b : Nat), Calls Tryz.prog gc #[.pointer (some ⟨b, 0, none⟩)] w (Ctd w b z gj)
set_option maxHeartbeats 1000000 in
theorem sizes_any : Counts 37 1 63 := by
  intro w b
  have K := show Hid (Calls Tryz.prog 62 #[.pointer (some ⟨b, 0, none⟩), .int .i64 1, .func (.func 63) #[] #[]] w (Ctd w b 1 63)) from counting_any w b 1 _
  go_enter Tryz.func37, Tryz.ntmps37
  go_wp2_with fail
  refine K.out.mono ?_
  rintro e w' ⟨rfl, h⟩
  have HH := show Hid _ from h
  clear h K
  unfold Ctd askV askC
  go_wp2_with fail
  go_ret
  exact ⟨rfl, HH.out⟩
set_option maxHeartbeats 1000000 in
theorem depths_any : Counts 38 0 65 := by
  intro w b
  have K := show Hid (Calls Tryz.prog 62 #[.pointer (some ⟨b, 0, none⟩), .int .i64 0, .func (.func 65) #[] #[]] w (Ctd w b 0 65)) from counting_any w b 0 _
  go_enter Tryz.func38, Tryz.ntmps38
  go_wp2_with fail
  refine K.out.mono ?_
  rintro e w' ⟨rfl, h⟩
  have HH := show Hid _ from h
  clear h K
  unfold Ctd askV askC
  go_wp2_with fail
  go_ret
  exact ⟨rfl, HH.out⟩
set_option maxHeartbeats 1000000 in
theorem weights_any : Counts 39 1 66 := by
  intro w b
  have K := show Hid (Calls Tryz.prog 62 #[.pointer (some ⟨b, 0, none⟩), .int .i64 1, .func (.func 66) #[] #[]] w (Ctd w b 1 66)) from counting_any w b 1 _
  go_enter Tryz.func39, Tryz.ntmps39
  go_wp2_with fail
  refine K.out.mono ?_
  rintro e w' ⟨rfl, h⟩
  have HH := show Hid _ from h
  clear h K
  unfold Ctd askV askC
  go_wp2_with fail
  go_ret
  exact ⟨rfl, HH.out⟩
set_option maxHeartbeats 1000000 in
theorem grades_any : Counts 40 0 67 := by
  intro w b
  have K := show Hid (Calls Tryz.prog 62 #[.pointer (some ⟨b, 0, none⟩), .int .i64 0, .func (.func 67) #[] #[]] w (Ctd w b 0 67)) from counting_any w b 0 _
  go_enter Tryz.func40, Tryz.ntmps40
  go_wp2_with fail
  refine K.out.mono ?_
  rintro e w' ⟨rfl, h⟩
  have HH := show Hid _ from h
  clear h K
  unfold Ctd askV askC
  go_wp2_with fail
  go_ret
  exact ⟨rfl, HH.out⟩
theorem isL1 (w : World) (x : Int) : IsL (w.alloc (Obj.cells #[.int .i64 x] 3)) (.slice (some ⟨w.heap.size, 0, none⟩) 1 1) [x] := by
  refine ⟨_, _, rfl, by simp, fun k hk => ⟨_, _, rfl, ?_⟩⟩
  rw [cell_of_row _ _ _ _ _ _ (heap_alloc_new _ _)]
  have : k = 0 := by simp at hk; omega
  subst this
  rfl
/-- What a count answers. -/
def cntR (t : List Nd) (vl : Nat → Int) (i : Int) : Int × Int := if Fm.has t i then (vl i.toNat, 0) else (0, 31)
set_option maxRecDepth 100000 in
set_option maxHeartbeats 2000000 in
theorem measured_any (w : World) (hT : Tb w b m v t) (i : Int) {gc : Nat} (hC : Counts gc z gj) (hcc : ∀ vs w, (callFunc gc vs).run Tryz.prog w = .ok (.enter gc vs) w) (hJ : Joins gj f) (hcj : ∀ vs w, (callFunc gj vs).run Tryz.prog w = .ok (.enter gj vs) w) (hvl : vl = Ms.val z f t) (hin : ∀ j, j < t.length → 0 ≤ vl j ∧ vl j ≤ 1099511627776) :
    Calls Tryz.prog 36 #[.pointer (some ⟨b, 0, none⟩), .int .i64 i, .func (.func gc) #[] #[]] w fun e w' => e = .returned (.tuple #[.int .i64 (cntR t vl i).1, .int .i64 (cntR t vl i).2]) ∧ Below w.heap.size w w' := by
  have KR := show Hid (Calls Tryz.prog 47 #[.pointer (some ⟨b, 0, none⟩), .slice (some ⟨w.heap.size, 0, none⟩) 1 1] (w.alloc (Obj.cells #[.int .i64 i] 3)) fun e w' => e = .returned (.int .i64 (refs t [i])) ∧ Below w.heap.size w w') from (refused_any _ (hT.later (below_alloc _ _)) _ _ (isL1 w i)).mono fun e w' ⟨he, hb⟩ => ⟨he, (below_alloc w _).trans (hb.mono (below_alloc w _).size)⟩
  have HR := show Hid (refs t [i] = if Fm.has t i then 0 else 31) from by show refs t [i] = if Fm.has t i then 0 else 31; unfold refs; simp
  have HA := show Hid (cntR t vl i = if Fm.has t i then (vl i.toNat, 0) else (0, 31)) from rfl
  have HT := show Hid (Tb w b m v t) from hT
  have HC := show Hid (Counts gc z gj) from hC
  have HK := show Hid (∀ (H : Nat), (∀ k, Ft b m v k → k < H) → ∀ j : Nat, j < t.length → ∀ w, Tb w b m v t → Bx w H b z gj → Memo w H t.length vl → Calls Tryz.prog 85 (askA H (j : Int)) w (Asked w H t.length vl j)) from fun H hF j hj w hT hB hM => ask_any hT.ok hJ hcj hvl hin hF j hj w hT hB hM
  generalize refs t [i] = rf at *
  generalize cntR t vl i = ans at *
  clear hJ hvl hin hC hT
  cases hh : Fm.has t i
  · have ha := HA.out
    have hr := HR.out
    rw [hh] at ha hr
    simp only [Bool.false_eq_true, if_false] at ha hr
    subst ha
    subst hr
    go_enter Tryz.func36, Tryz.ntmps36
    go_wp2_with fail
    refine KR.out.mono ?_
    rintro e w1 ⟨rfl, hb1⟩
    have HB1 := show Hid (Below w.heap.size w w1) from hb1
    clear hb1 KR
    go_wp2_with fail
    go_ret2
    exact ⟨rfl, HB1.out⟩
  · have ha := HA.out
    have hr := HR.out
    rw [hh] at ha hr
    simp only [if_true] at ha hr
    obtain ⟨h0, h1⟩ := Fm.has_iff.1 hh
    obtain ⟨j, rfl⟩ : ∃ j : Nat, i = j := ⟨i.toNat, by omega⟩
    simp only [Int.toNat_natCast] at ha
    have hj : j < t.length := by omega
    have HKJ := show Hid (∀ (H : Nat), (∀ k, Ft b m v k → k < H) → ∀ w, Tb w b m v t → Bx w H b z gj → Memo w H t.length vl → Calls Tryz.prog 85 (askA H (j : Int)) w (Asked w H t.length vl j)) from fun H hF => HK.out H hF j hj
    subst ha
    subst hr
    clear HK hh h0 h1 HA HR hcj
    unfold askA at HKJ
    go_enter Tryz.func36, Tryz.ntmps36
    go_wp2_with fail
    refine KR.out.mono ?_
    rintro e w1 ⟨rfl, hb1⟩
    have HB1 := show Hid (Below w.heap.size w w1) from hb1
    clear hb1 KR
    go_wp2_with fail
    refine (HC.out _ _).mono ?_
    rintro e w2 ⟨rfl, hB2, hM2, hb2⟩
    have HS2 := show Hid (Bx w2 w1.heap.size b z gj ∧ Memo w2 w1.heap.size t.length vl ∧ Below w1.heap.size w1 w2 ∧ Tb w2 b m v t ∧ ∀ k, Ft b m v k → k < w1.heap.size) from ⟨hB2, hM2 _ _, hb2, (HT.out.later HB1.out).later hb2, fun k hk => (HT.out.later HB1.out).foot k hk⟩
    clear hB2 hM2 hb2 hcc HC
    unfold askV askC
    go_wp2_with fail
    refine (HKJ.out _ HS2.out.2.2.2.2 _ HS2.out.2.2.2.1 HS2.out.1 HS2.out.2.1).mono ?_
    rintro e w3 ⟨rfl, hM3, hK3⟩
    have HB3 := show Hid (Below w.heap.size w w3) from by
      have hb : Below w1.heap.size w2 w3 := hK3.below HS2.out.2.2.1.size (fun k hk => by unfold At3 at hk; omega)
      exact HB1.out.trans ((HS2.out.2.2.1.trans hb).mono HB1.out.size)
    clear hM3 hK3 HS2 HKJ
    go_wp2_with fail
    go_ret2
    exact ⟨rfl, HB3.out⟩
end
set_option maxHeartbeats 1000000 in
theorem Size_any (w : World) {b m : Nat} {v : Value} {t : List Nd} (hT : Tb w b m v t) (i : Int) :
    Calls Tryz.prog 8 #[.pointer (some ⟨b, 0, none⟩), .int .i64 i] w fun e w' => e = .returned (.tuple #[.int .i64 (cntR t (Ms.sizeV t) i).1, .int .i64 (cntR t (Ms.sizeV t) i).2]) ∧ Below w.heap.size w w' := by
  have K := show Hid (Calls Tryz.prog 36 #[.pointer (some ⟨b, 0, none⟩), .int .i64 i, .func (.func 37) #[] #[]] w fun e w' => e = .returned (.tuple #[.int .i64 (cntR t (Ms.sizeV t) i).1, .int .i64 (cntR t (Ms.sizeV t) i).2]) ∧ Below w.heap.size w w') from measured_any w hT i sizes_any (fun _ _ => Tryz.call37 _ _) joins_size (fun _ _ => Tryz.call63 _ _) rfl (fun j hj => (Ms.size_ref hT.ok hj).2 |>.imp (fun h => by omega) (fun h => h))
  generalize cntR t (Ms.sizeV t) i = r at *
  clear hT
  go_enter Tryz.func8, Tryz.ntmps8
  go_wp2_with fail
  refine K.out.mono ?_
  rintro e w' ⟨rfl, h⟩
  have HH := show Hid (Below w.heap.size w w') from h
  clear h K
  go_wp2_with fail
  go_ret2
  exact ⟨rfl, HH.out⟩
set_option maxHeartbeats 1000000 in
theorem Depth_any (w : World) {b m : Nat} {v : Value} {t : List Nd} (hT : Tb w b m v t) (i : Int) :
    Calls Tryz.prog 9 #[.pointer (some ⟨b, 0, none⟩), .int .i64 i] w fun e w' => e = .returned (.tuple #[.int .i64 (cntR t (Ms.depthV t) i).1, .int .i64 (cntR t (Ms.depthV t) i).2]) ∧ Below w.heap.size w w' := by
  have K := show Hid (Calls Tryz.prog 36 #[.pointer (some ⟨b, 0, none⟩), .int .i64 i, .func (.func 38) #[] #[]] w fun e w' => e = .returned (.tuple #[.int .i64 (cntR t (Ms.depthV t) i).1, .int .i64 (cntR t (Ms.depthV t) i).2]) ∧ Below w.heap.size w w') from measured_any w hT i depths_any (fun _ _ => Tryz.call38 _ _) joins_depth (fun _ _ => Tryz.call65 _ _) rfl (fun j hj => by have := Ms.depth_le hT.ok hj; have := hT.ok.len; omega)
  generalize cntR t (Ms.depthV t) i = r at *
  clear hT
  go_enter Tryz.func9, Tryz.ntmps9
  go_wp2_with fail
  refine K.out.mono ?_
  rintro e w' ⟨rfl, h⟩
  have HH := show Hid (Below w.heap.size w w') from h
  clear h K
  go_wp2_with fail
  go_ret2
  exact ⟨rfl, HH.out⟩
set_option maxHeartbeats 1000000 in
theorem Weight_any (w : World) {b m : Nat} {v : Value} {t : List Nd} (hT : Tb w b m v t) (i : Int) :
    Calls Tryz.prog 10 #[.pointer (some ⟨b, 0, none⟩), .int .i64 i] w fun e w' => e = .returned (.tuple #[.int .i64 (cntR t (Ms.weightV t) i).1, .int .i64 (cntR t (Ms.weightV t) i).2]) ∧ Below w.heap.size w w' := by
  have K := show Hid (Calls Tryz.prog 36 #[.pointer (some ⟨b, 0, none⟩), .int .i64 i, .func (.func 39) #[] #[]] w fun e w' => e = .returned (.tuple #[.int .i64 (cntR t (Ms.weightV t) i).1, .int .i64 (cntR t (Ms.weightV t) i).2]) ∧ Below w.heap.size w w') from measured_any w hT i weights_any (fun _ _ => Tryz.call39 _ _) joins_weight (fun _ _ => Tryz.call66 _ _) rfl (fun j hj => (Ms.weight_ref hT.ok hj).2 |>.imp (fun h => by omega) (fun h => h))
  generalize cntR t (Ms.weightV t) i = r at *
  clear hT
  go_enter Tryz.func10, Tryz.ntmps10
  go_wp2_with fail
  refine K.out.mono ?_
  rintro e w' ⟨rfl, h⟩
  have HH := show Hid (Below w.heap.size w w') from h
  clear h K
  go_wp2_with fail
  go_ret2
  exact ⟨rfl, HH.out⟩
set_option maxHeartbeats 1000000 in
theorem Grade_any (w : World) {b m : Nat} {v : Value} {t : List Nd} (hT : Tb w b m v t) (i : Int) :
    Calls Tryz.prog 11 #[.pointer (some ⟨b, 0, none⟩), .int .i64 i] w fun e w' => e = .returned (.tuple #[.int .i64 (cntR t (Ms.gradeV t) i).1, .int .i64 (cntR t (Ms.gradeV t) i).2]) ∧ Below w.heap.size w w' := by
  have K := show Hid (Calls Tryz.prog 36 #[.pointer (some ⟨b, 0, none⟩), .int .i64 i, .func (.func 40) #[] #[]] w fun e w' => e = .returned (.tuple #[.int .i64 (cntR t (Ms.gradeV t) i).1, .int .i64 (cntR t (Ms.gradeV t) i).2]) ∧ Below w.heap.size w w') from measured_any w hT i grades_any (fun _ _ => Tryz.call40 _ _) joins_grade (fun _ _ => Tryz.call67 _ _) rfl (fun j hj => by have := (Ms.grade_le hT.ok hj).2; have := hT.ok.len; omega)
  generalize cntR t (Ms.gradeV t) i = r at *
  clear hT
  go_enter Tryz.func11, Tryz.ntmps11
  go_wp2_with fail
  refine K.out.mono ?_
  rintro e w' ⟨rfl, h⟩
  have HH := show Hid (Below w.heap.size w w') from h
  clear h K
  go_wp2_with fail
  go_ret2
  exact ⟨rfl, HH.out⟩
end Go.Proofs.YthdcppkohalkmaaGreat
