/-
  The call names: the names of the atoms in a formula that are asked for, by bytes. For every table that calls made.
-/
import Derived.Test.YthdcppkohalkmaaGreatMOcc
namespace Go.Proofs.YthdcppkohalkmaaGreat
open Go.RowKit Go.Maps Go.Sort Go.Lib
open Fm (Nd)

/-- The atoms that are asked for, and their names. -/
def isA (t : List Nd) (p : Nat → Bool) (j : Nat) : Bool := (Ms.row t j).k == 1 && p j
def namesU (t : List Nd) (p : Nat → Bool) (l : List Nat) : List (List UInt8) := (l.filter (isA t p)).map fun j => (Ms.row t j).s.data.toList
def namesS (t : List Nd) (p : Nat → Bool) (l : List Nat) : List (List UInt8) := (namesU t p l).mergeSort fun x y => decide (x ≤ y)
theorem namesU_snoc (t : List Nd) (p : Nat → Bool) (l : List Nat) (j : Nat) : namesU t p (l ++ [j]) = if isA t p j then namesU t p l ++ [(Ms.row t j).s.data.toList] else namesU t p l := by
  unfold namesU
  rw [List.filter_append, List.map_append]
  cases h : isA t p j <;> simp [h]
theorem namesU_len (t : List Nd) (p : Nat → Bool) (l : List Nat) : (namesU t p l).length ≤ l.length := by
  unfold namesU
  rw [List.length_map]
  exact List.length_filter_le _ _
theorem encStr_of (s : ByteArray) : encStr s.data.toList = .string s := by simp [encStr]
theorem own_base {w : World} {B B' n : Nat} {e : TypeId} {v : Value} {xs : List Value} (h : w.ownsRow B e 1 v n xs) (hb : B' ≤ B) : w.ownsRow B' e 1 v n xs := by
  refine ⟨h.1, ?_⟩
  rcases h.2 with h2 | ⟨g, cap, cur, rfl, hg, r⟩
  · exact Or.inl h2
  · exact Or.inr ⟨g, cap, cur, rfl, Nat.le_trans hb hg, r⟩
theorem own_later {w w' : World} {B n : Nat} {e : TypeId} {v : Value} {xs : List Value} (h : w.ownsRow B e 1 v n xs) (hb : Below w.heap.size w w') : w'.ownsRow B e 1 v n xs := by
  refine ⟨h.1, ?_⟩
  rcases h.2 with h2 | ⟨g, cap, cur, rfl, hg, hh, r⟩
  · exact Or.inl h2
  · exact Or.inr ⟨g, cap, cur, rfl, hg, (hb.block g (lt_of_block hh)).trans hh, r⟩
theorem own_slice {w : World} {B n : Nat} {e : TypeId} {v : Value} {xs : List Value} (h : w.ownsRow B e 1 v n xs) : ∃ q c, v = .slice q n c := by
  rcases h.2 with ⟨rfl, h0⟩ | ⟨g, cap, cur, rfl, _⟩
  · exact ⟨_, _, by rw [h0]⟩
  · exact ⟨_, _, rfl⟩
/-- A function value that tells of rows whether they are asked for. -/
def Wants (w : World) (g : Nat) (ca : Array Value) (N : Nat) (p : Nat → Bool) : Prop :=
  ∀ w', Below w.heap.size w w' → ∀ j : Nat, j < N → Calls Tryz.prog g (#[.int .i64 (j : Int)] ++ ca) w' fun e w'' => e = .returned (.bool (p j)) ∧ Below w'.heap.size w' w''
/-- What names leaves. -/
def Nmd (w : World) (ss : List (List UInt8)) (e : Ending) (w' : World) : Prop := ∃ q c, e = .returned (.slice q ss.length c) ∧ w'.ownsRow w.heap.size 9 1 (.slice q ss.length c) ss.length (ss.map encStr) ∧ Below w.heap.size w w'
theorem info_str : (Tryz.prog.info? 9).map (fun i => (i.zero, i.size, i.bytes)) = some (some (.string ⟨#[]⟩), 1, 16) := by kernel_rfl
section
variable {b m : Nat} {v : Value} {t : List Nd}
theorem sort_names (w w1 : World) (sv : Value) (ss : List (List UInt8)) (ho : w1.ownsRow w.heap.size 9 1 sv ss.length (ss.map encStr)) (hb : Below w.heap.size w w1) (hl : ss.length ≤ 1024) :
    ∃ q c, sv = .slice q ss.length c ∧ Calls Tryz.prog 72 #[.slice q ss.length c] w1 fun e w' => e = .returned (.tuple #[]) ∧ w'.ownsRow w.heap.size 9 1 (.slice q ss.length c) ss.length ((ss.mergeSort fun x y => decide (x ≤ y)).map encStr) ∧ Below w.heap.size w w' := by
  by_cases h0 : ss = []
  · subst h0
    have ho2 := ho
    rcases ho.2 with ⟨rfl, _⟩ | ⟨g, cap, cur, rfl, _⟩
    · exact ⟨_, _, rfl, (Tryz.slices_Sort_string_none none 0 w1).mono fun e w' ⟨he, hw⟩ => ⟨he, by rw [hw]; simpa using ho2, by rw [hw]; exact hb⟩⟩
    · exact ⟨_, _, rfl, (Tryz.slices_Sort_string_none _ cap w1).mono fun e w' ⟨he, hw⟩ => ⟨he, by rw [hw]; simpa using ho2, by rw [hw]; exact hb⟩⟩
  · rcases ho.2 with ⟨_, h1⟩ | ⟨g, cap, cur, rfl, hbase, hg, h1, h2, h3, h4⟩
    · exact absurd (List.eq_nil_of_length_eq_zero h1) h0
    · refine ⟨_, _, rfl, ?_⟩
      have hH := holds_of_block hg (by simpa using h4)
      refine (Tryz.slices_Sort_string g 0 cap ss w1 hH (lt_of_block hg) (by omega)).mono fun e w' ⟨he, n, os, hw⟩ => ⟨he, ?_, ?_⟩
      · rw [hw]
        exact ownsRow_sorted (by simp) hbase hg h1 h2 (by simpa using h3)
      · rw [hw]
        exact hb.grown (grownBy_sorted _) hb.size (fun j e => by simp at e; omega)
set_option maxRecDepth 100000 in
set_option maxHeartbeats 4000000 in
theorem names_any (w : World) (hT : Tb w b m v t) (id : Nat) (hid : id < t.length) (g : Nat) (ca : Array Value) (p : Nat → Bool) (hcg : ∀ vs w, (callFunc g vs).run Tryz.prog w = .ok (.enter g vs) w) (hW : Wants w g ca t.length p) :
    Calls Tryz.prog 48 #[.pointer (some ⟨b, 0, none⟩), .int .i64 (id : Int), .func (.func g) #[] ca] w (Nmd w (namesS t p (Fm.below t id))) := by
  have hlen := hT.ok.len
  have hbr : (belowR t (id : Int)).1 = Fm.below t id := by
    unfold belowR
    rw [if_pos (Fm.has_iff.2 ⟨by omega, by omega⟩)]
    simp
  have hbl : (Fm.below t id).length ≤ 1024 := by rw [← hbr]; exact belowR_len hT.ok _
  obtain ⟨i0, hi', hz0, hz1, hz2⟩ := info_parts info_str
  have K := show Hid (Calls Tryz.prog 54 #[.pointer (some ⟨b, 0, none⟩), .int .i64 (id : Int)] w fun e w' => ∃ p c, e = .returned (.slice p (Fm.below t id).length c) ∧ IsI w' w.heap.size (.slice p (Fm.below t id).length c) (Fm.below t id) ∧ Below w.heap.size w w') from by
    have := belowM_any w hT (id : Int)
    rw [hbr] at this
    exact this
  have HLT := show Hid (∀ k (hk : k < (Fm.below t id).length), (Fm.below t id)[k] < t.length) from fun k hk => by have := Ms.below_lt t id _ (List.getElem_mem hk); omega
  have KN := show Hid (∀ w' (j : Nat), Below w.heap.size w w' → j < t.length → Calls Tryz.prog 71 #[.pointer (some ⟨b, 0, none⟩), .int .i64 (j : Int)] w' fun e w'' => e = .returned (.tuple #[ndV (Ms.row t j), .bool true]) ∧ Below w'.heap.size w' w'') from fun w' j hb hj => by
    have := node_any w' (hT.later hb) (j : Int)
    rw [(nodeOf_in hj).1, (nodeOf_in hj).2] at this
    exact this
  have HW := show Hid (Wants w g ca t.length p) from hW
  have HST := show Hid (∀ k (hk : k < (Fm.below t id).length), namesU t p ((Fm.below t id).take (k + 1)) = if isA t p (Fm.below t id)[k] then namesU t p ((Fm.below t id).take k) ++ [(Ms.row t (Fm.below t id)[k]).s.data.toList] else namesU t p ((Fm.below t id).take k)) from fun k hk => by
    show namesU t p _ = _
    rw [List.take_succ_eq_append_getElem hk, namesU_snoc]
  have HUL := show Hid (∀ k, (namesU t p ((Fm.below t id).take k)).length ≤ 1024) from fun k => Nat.le_trans (namesU_len _ _ _) (by rw [List.length_take]; omega)
  have HEND := show Hid (namesU t p ((Fm.below t id).take (Fm.below t id).length) = namesU t p (Fm.below t id)) from by show namesU _ _ _ = _; rw [List.take_length]
  have HNS := show Hid (namesS t p (Fm.below t id) = (namesU t p (Fm.below t id)).mergeSort fun x y => decide (x ≤ y)) from rfl
  clear hbr hT hW
  generalize namesS t p (Fm.below t id) = ans at *
  generalize Fm.below t id = l at *
  unfold Nmd
  go_enter Tryz.func48, Tryz.ntmps48
  go_wp2_with fail
  refine K.out.mono ?_
  rintro e w1 ⟨p1, c1, rfl, hI1, hb1⟩
  have HC := show Hid (∀ w', Below w1.heap.size w1 w' → ∀ k (hk : k < l.length), ∃ b o, p1 = some ⟨b, o, none⟩ ∧ w'.cell? ⟨b, o + k, none⟩ = some (.int .i64 ((l[k] : Nat) : Int))) from fun w' hb k hk => by
    obtain ⟨p2, c2, hv, _, hcell⟩ := isI_isL hI1 (by omega)
    obtain ⟨rfl, _, rfl⟩ := Value.slice.inj hv
    obtain ⟨g, o, hp, hc⟩ := hcell k (by simpa using hk)
    refine ⟨g, o, hp, ?_⟩
    have := (Kp.of_below (S := fun _ => False) hb).cell hc (fun h => h)
    simpa using this
  have HB1 := show Hid (Below w.heap.size w w1) from hb1
  clear K hI1 hb1
  go_wp2_with fail
  go_loopw [7, 16] (fun sv iv wr => ∃ (k : Nat) (q : Option Addr) (c : Nat), k ≤ l.length ∧ iv = .int .i64 (k : Int) ∧ sv = .slice q (namesU t p (l.take k)).length c ∧ Hid (wr.ownsRow w1.heap.size 9 1 (.slice q (namesU t p (l.take k)).length c) (namesU t p (l.take k)).length ((namesU t p (l.take k)).map encStr) ∧ Below w1.heap.size w1 wr)) (fun _ iv _ => l.length - (intOf iv).toNat)
  case atStart => exact ⟨0, none, 0, by omega, rfl, rfl, World.ownsRow_nil _ _ _ _, Below.refl _ _⟩
  case round =>
    obtain ⟨k, q, c, hk, rfl, rfl, HO⟩ := hrel
    by_cases hlt : k < l.length
    · obtain ⟨gb, ob, rfl, hcl⟩ := HC.out wr HO.out.2 k hlt
      have hjt := HLT.out k hlt
      have hst := HST.out k hlt
      have HBW := show Hid (Below w.heap.size w wr) from HB1.out.trans (HO.out.2.mono HB1.out.size)
      have hul := HUL.out k
      have hki : (k : Int) < (l.length : Int) := by omega
      generalize l[k] = j at *
      have KNJ := show Hid (Calls Tryz.prog 71 #[.pointer (some ⟨b, 0, none⟩), .int .i64 (j : Int)] wr fun e w'' => e = .returned (.tuple #[ndV (Ms.row t j), .bool true]) ∧ Below wr.heap.size wr w'') from KN.out wr j HBW.out hjt
      have HIA := show Hid (isA t p j = ((Ms.row t j).k == 1 && p j)) from rfl
      generalize Ms.row t j = nd at *
      obtain ⟨nk, ns, nl, nr⟩ := nd
      have HSTK := show Hid (namesU t p (l.take (k + 1)) = if isA t p j then namesU t p (l.take k) ++ [ns.data.toList] else namesU t p (l.take k)) from hst
      unfold ndV at KNJ
      simp only at KNJ HIA
      clear HST HUL HEND HC HLT KN hst
      generalize isA t p j = ia at *
      generalize namesU t p (l.take k) = us at *
      obtain ⟨us', hus'⟩ : ∃ us', namesU t p (l.take (k + 1)) = us' := ⟨_, rfl⟩
      have HU := show Hid (namesU t p (l.take (k + 1)) = us') from hus'
      rw [hus'] at HSTK
      clear hus'
      by_cases hk1 : nk = 1
      · subst hk1
        go_wp2_with fail
        refine KNJ.out.mono ?_
        rintro e w2 ⟨rfl, hb2⟩
        have HB2 := show Hid (Below w1.heap.size w1 (w2.alloc (Obj.cells #[.int .i64 1, .string ns, .int .i64 nl, .int .i64 nr] 72)) ∧ Below wr.heap.size wr (w2.alloc (Obj.cells #[.int .i64 1, .string ns, .int .i64 nl, .int .i64 nr] 72))) from by
          have h := hb2.alloc hb2.size (Obj.cells #[.int .i64 1, .string ns, .int .i64 nl, .int .i64 nr] 72)
          exact ⟨HO.out.2.trans (h.mono HO.out.2.size), h⟩
        have KW := show Hid (Calls Tryz.prog g (#[.int .i64 (j : Int)] ++ ca) (w2.alloc (Obj.cells #[.int .i64 1, .string ns, .int .i64 nl, .int .i64 nr] 72)) fun e w'' => e = .returned (.bool (p j)) ∧ N4 w'' w2.heap.size ⟨1, ns, nl, nr⟩ ∧ Below wr.heap.size wr w'') from
          (HW.out _ (HBW.out.trans (HB2.out.2.mono HBW.out.size)) j hjt).mono fun e w'' ⟨he, hb⟩ => ⟨he, (hb.block _ (by simp)).trans (heap_alloc_new _ _), HB2.out.2.trans (hb.mono HB2.out.2.size)⟩
        clear KNJ hb2 hcl HB2
        go_wp2_with fail
        refine KW.out.mono ?_
        rintro e w3 ⟨rfl, hN3, hb3⟩
        have d0 := hN3.c0; have d1 := hN3.c1
        have hpj := HIA.out
        simp only [BEq.rfl, Bool.true_and] at hpj
        generalize p j = pj at *
        subst hpj
        have HB3 := show Hid (Below wr.heap.size wr w3) from hb3
        clear KW hN3 hb3
        cases ia
        · have hus := HSTK.out
          simp only [Bool.false_eq_true, if_false] at hus
          subst hus
          have HR := show Hid (w3.ownsRow w1.heap.size 9 1 (.slice q us'.length c) us'.length (us'.map encStr) ∧ Below w1.heap.size w1 w3) from ⟨own_later HO.out.1 HB3.out, HO.out.2.trans (HB3.out.mono HO.out.2.size)⟩
          go_wp2_with fail
          go_roundw
          case rel => exact ⟨k + 1, q, c, by omega, by go_num, by rw [HU.out], by rw [HU.out]; exact HR⟩
          case measure => first | (simp [intOf]; done) | (simp [intOf]; omega)
        · have hus := HSTK.out
          simp only [if_true] at hus
          have HR := show Hid (w3.ownsRow w1.heap.size 9 1 (.slice q us.length c) us.length (us.map encStr) ∧ Below w1.heap.size w1 w3) from ⟨own_later HO.out.1 HB3.out, HO.out.2.trans (HB3.out.mono HO.out.2.size)⟩
          have hs13 : w1.heap.size ≤ w3.heap.size := HR.out.2.size
          go_wp2_with (at_builtin; refine wpList_append_own_at _ rfl (.tmp 34) (.tmp 37) 37 rfl w1.heap.size 9 i0 _ 1 16 Tryz.underlying37 hi' hz0 hz1 hz2 rfl (by decide) (.slice q us.length c) us.length (us.map encStr) rfl (HR.out.1.alloc _) ⟨w3.heap.size, 0, none⟩ 1 1 [.string ns] rfl rfl (cell_one_new _ _ _) (by intro u hu; simp at hu; subst hu; rfl) (by unfold maxLen; omega) (by omega) (by simp; omega) ?_)
          intro v' w4 hown hgr hnil hat
          have HN := show Hid (w4.ownsRow w1.heap.size 9 1 v' us'.length (us'.map encStr) ∧ Below w1.heap.size w1 w4) from by
            refine ⟨?_, (HR.out.2.alloc HR.out.2.size _).grown hgr (by simp; omega) (fun j e => (HR.out.1.lt j e).1)⟩
            rw [hus, List.map_append, List.length_append]
            have e1 : [ns.data.toList].map encStr = [.string ns] := by simp [encStr]
            rw [e1]
            exact hown
          obtain ⟨q', c', hv'⟩ := own_slice HN.out.1
          subst hv'
          clear hown hgr hnil hat HR
          go_wp2_with fail
          go_roundw
          case rel => exact ⟨k + 1, q', c', by omega, by go_num, by rw [HU.out], by rw [HU.out]; exact HN⟩
          case measure => first | (simp [intOf]; done) | (simp [intOf]; omega)
      · have hia := HIA.out
        have hnb : (nk == 1) = false := by simpa using hk1
        rw [hnb] at hia
        simp only [Bool.false_and] at hia
        have hus := HSTK.out
        rw [hia] at hus
        simp only [Bool.false_eq_true, if_false] at hus
        subst hus
        go_wp2_with fail
        refine KNJ.out.mono ?_
        rintro e w2 ⟨rfl, hb2⟩
        have HR := show Hid ((w2.alloc (Obj.cells #[.int .i64 nk, .string ns, .int .i64 nl, .int .i64 nr] 72)).ownsRow w1.heap.size 9 1 (.slice q us'.length c) us'.length (us'.map encStr) ∧ Below w1.heap.size w1 (w2.alloc (Obj.cells #[.int .i64 nk, .string ns, .int .i64 nl, .int .i64 nr] 72))) from by
          have h := hb2.alloc hb2.size (Obj.cells #[.int .i64 nk, .string ns, .int .i64 nl, .int .i64 nr] 72)
          exact ⟨own_later HO.out.1 h, HO.out.2.trans (h.mono HO.out.2.size)⟩
        clear KNJ hb2 hcl
        go_wp2_with fail
        go_roundw
        case rel => exact ⟨k + 1, q, c, by omega, by go_num, by rw [HU.out], by rw [HU.out]; exact HR⟩
        case measure => first | (simp [intOf]; done) | (simp [intOf]; omega)
    · have hke : k = l.length := by omega
      subst hke
      rw [HEND.out] at HO ⊢
      have HUB := show Hid ((namesU t p l).length ≤ 1024) from by have := HUL.out l.length; rw [HEND.out] at this; exact this
      obtain ⟨q2, c2, hsv, hS⟩ := sort_names w wr _ (namesU t p l) (own_base HO.out.1 HB1.out.size) (HB1.out.trans (HO.out.2.mono HB1.out.size)) HUB.out
      obtain ⟨rfl, _, rfl⟩ := Value.slice.inj hsv
      have KS := show Hid (Calls Tryz.prog 72 #[.slice q (namesU t p l).length c] wr fun e w' => e = .returned (.tuple #[]) ∧ w'.ownsRow w.heap.size 9 1 (.slice q (namesU t p l).length c) (namesU t p l).length (((namesU t p l).mergeSort fun x y => decide (x ≤ y)).map encStr) ∧ Below w.heap.size w w') from hS
      rw [← HNS.out] at KS
      have HLN := show Hid (ans.length = (namesU t p l).length) from by show ans.length = _; rw [HNS.out]; simp
      clear hS hsv HST HUL HEND HC HLT KN HW HNS
      go_wp2_with fail
      refine KS.out.mono ?_
      rintro e w2 ⟨rfl, hO2, hb2⟩
      have HE := show Hid (w2.ownsRow w.heap.size 9 1 (.slice q (namesU t p l).length c) (namesU t p l).length (ans.map encStr) ∧ Below w.heap.size w w2) from ⟨hO2, hb2⟩
      clear hO2 hb2 KS
      go_wp2_with fail
      go_ret
      refine ⟨q, c, ?_, ?_, HE.out.2⟩
      · rw [HLN.out]; rfl
      · rw [HLN.out]; exact HE.out.1
end
end Go.Proofs.YthdcppkohalkmaaGreat
