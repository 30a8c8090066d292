/-
  Small calls of the checker: refuse, lacks, joined, toldName. No condition but that the way is short.
-/
import Derived.Test.YtkpbpecikibohaaDoorYCk
namespace Go.Proofs.YtkpbpecikibohaaDoor.Ya
open Go.RowKit Go.Maps
open Fm (Nd)
open Ty (Tm)
set_option linter.unusedSimpArgs false

theorem intsI_len (l : List Int) : (intsI l).length = l.length := by simp [intsI]
theorem intsI_one (l : List Int) : ∀ u ∈ intsI l, u.oneCell' = true := by
  intro u hu
  obtain ⟨x, _, rfl⟩ := List.mem_map.1 hu
  rfl
theorem run_eql_ints (w : World) (a : Addr) (l c : Nat) : (binOp .eql 56 (.slice (some a) l c) (.slice none 0 0)).run Tryd.prog w = .ok (.bool false) w := by kernel_rfl
theorem run_eql_nil (w : World) : (binOp .eql 56 (.slice none 0 0) (.slice none 0 0)).run Tryd.prog w = .ok (.bool true) w := by kernel_rfl
theorem bs0 (w : World) : (Instr.buildSlice 56 0 #[]).run Tryd.prog w = .ok (.slice (some ⟨w.heap.size, 0, none⟩) 0 0) (w.alloc (.cells #[] 3)) := by kernel_rfl
theorem own_src {w : World} {B : Nat} {g cap : Nat} {xs : List Value} {n : Nat} (h : w.ownsRow B 3 1 (.slice (some ⟨g, 0, none⟩) n cap) n xs) : ∀ j u, xs[j]? = some u → w.cell? ((⟨g, 0, none⟩ : Addr).add j) = some u := by
  rcases h.2 with ⟨h0, _⟩ | ⟨g', cap', cur, hv, hg, hh, h1, h2, h3, h4⟩
  · cases h0
  · intro j u hu
    obtain ⟨h5, _, _⟩ := Value.slice.inj hv
    obtain rfl : g = g' := by injection h5 with h5; injection h5
    have hj : j < xs.length := (List.getElem?_eq_some_iff.1 hu).1
    have hln := h.1
    rw [← h4, List.getElem?_take, if_pos (by omega)] at hu
    have e : (⟨g, 0, none⟩ : Addr).add j = ⟨g, j, none⟩ := by simp [Addr.add]; omega
    rw [e, cell_of_row w g j _ _ _ hh]
    simpa using hu
def NewI (w w' : World) (v : Value) (l : List Int) : Prop := w'.ownsRow w.heap.size 3 1 v l.length (intsI l) ∧ Below w.heap.size w w'
set_option maxRecDepth 100000 in
set_option maxHeartbeats 1000000 in
theorem cloneI_any (w : World) {B : Nat} {v : Value} {l : List Int} (h : w.ownsRow B 3 1 v l.length (intsI l)) (hl : l.length ≤ 1000000) :
    Calls Tryd.prog 46 #[v] w fun e w' => ∃ v', e = .returned v' ∧ NewI w w' v' l := by
  have hq := run_eql_ints w
  have hq0 := run_eql_nil w
  rcases h.2 with ⟨rfl, h0⟩ | ⟨g, cap, cur, rfl, hg, hh, h1, h2, h3, h4⟩
  · obtain rfl : l = [] := List.eq_nil_of_length_eq_zero h0
    clear h h0
    go_enter Tryd.func46, Tryd.ntmps46
    go_wp2_with fail
    go_ret
    exact ⟨_, rfl, ⟨rfl, Or.inl ⟨rfl, rfl⟩⟩, Below.refl _ _⟩
  · obtain ⟨i0, hi, hz0, hz1, hz2⟩ := info_parts infoI1
    have HSRC := show Hid (∀ j u, (intsI l)[j]? = some u → (w.alloc (Obj.cells #[] 3)).cell? ((⟨g, 0, none⟩ : Addr).add j) = some u) from own_src (own_kp h fun k e => by
      obtain rfl : g = k := Option.some.inj e
      exact (below_alloc w (Obj.cells #[] 3)).block g (lt_of_block hh))
    have HX1 := show Hid (∀ u ∈ intsI l, u.oneCell' = true) from intsI_one l
    have HXL := show Hid ((intsI l).length = l.length * 1) from (by rw [intsI_len]; omega : (intsI l).length = l.length * 1)
    obtain ⟨xs, hxs⟩ : ∃ xs, xs = intsI l := ⟨_, rfl⟩
    have HXS := show Hid (xs = intsI l) from hxs
    rw [← hxs] at HSRC HX1 HXL
    clear hxs
    have hb0 := bs0 w
    clear h hh h4 h1 h2 h3
    go_enter Tryd.func46, Tryd.ntmps46
    go_wp2_with (at_builtin; refine wpList_append_own_at _ rfl (.tmp 5) (.tmp 6) 56 rfl w.heap.size 3 i0 _ 1 8 Tryd.underlying56 hi hz0 hz1 hz2 rfl (by decide) (.slice (some ⟨w.heap.size, 0, none⟩) 0 0) 0 [] rfl (World.ownsRow_made w #[] 0 (Nat.le_refl _) (Nat.zero_le _) rfl) ⟨g, 0, none⟩ l.length cap xs rfl HXL.out HSRC.out HX1.out (by unfold maxLen; omega) (by omega) (by simp) ?_)
    intro v' w1 hown hgr hnil hat
    have HOW := show Hid (w1.ownsRow w.heap.size 3 1 v' l.length xs) from (by simpa using hown : w1.ownsRow w.heap.size 3 1 v' l.length xs)
    have HGR := show Hid ((w.alloc (Obj.cells #[] 3)).grownBy w1 (some w.heap.size)) from hgr
    clear hown hgr hnil hat
    go_wp2_with fail
    go_ret
    have h1 := HOW.out
    rw [HXS.out] at h1
    exact ⟨_, rfl, h1, (below_alloc _ _).grown HGR.out (by simp) (fun k hk => by cases hk; exact Nat.le_refl _)⟩
structure Rf (w : World) (B q : Nat) (e : Int) (wy : List Int) (wv : Value) : Prop where
  ex : ∃ yv, Cl w q #[.int .i64 e, yv] 84 ∧ w.ownsRow B 3 1 yv wy.length (intsI wy) ∧ ∀ k, yv.ownBlock = some k → wv.ownBlock ≠ some k
  qB : B ≤ q
theorem Rf.af {w w' : World} {B q C m n : Nat} {e : Int} {wy : List Int} {pt : Value} {g : Ty.Env} {wv : Value} {way : List Int} (h : Rf w B q e wy wv) (hc : Ck w B C m n pt g wv way) (hk : Kp (Fc C m wv) w w') : Rf w' B q e wy wv := by
  obtain ⟨⟨yv, h1, h2, h3⟩, h4⟩ := h
  refine ⟨⟨yv, Cl.af h1 hc hk (by decide) (by decide), own_kp h2 fun k e => ?_, h3⟩, h4⟩
  obtain ⟨_, hlt, cur, hh⟩ := own_blk h2 k e
  refine hk.block k hlt ?_
  rintro (e2 | e2 | e2)
  · subst e2
    rw [show w.heap[k]? = _ from hc.blk] at hh
    injection hh with hh
    injection hh with _ h5 _
    exact absurd h5 (by decide)
  · exact hc.mne (show Cl w k cur _ from hh) e2
  · exact h3 k e e2
theorem Rf.other {w w' : World} {B q b : Nat} {e : Int} {wy : List Int} {wv : Value} {cs : Array Value} {T : TypeId} (h : Rf w B q e wy wv) (hb : Cl w b cs T) (h1 : T ≠ 84) (h2 : T ≠ 3) (hk : KpP b w w') : Rf w' B q e wy wv := by
  obtain ⟨⟨yv, h3, h4, h5⟩, h6⟩ := h
  refine ⟨⟨yv, Cl.kp h3 hk fun e2 => ?_, own_kp h4 fun k e2 => ?_, h5⟩, h6⟩
  · subst e2
    rw [Cl, show w.heap[q]? = _ from hb] at h3
    injection h3 with h3
    injection h3 with _ h7 _
    exact h1 h7
  · obtain ⟨_, hlt, cur, hh⟩ := own_blk h4 k e2
    refine hk.block k hlt fun e3 => ?_
    subst e3
    rw [show w.heap[k]? = _ from hb] at hh
    injection hh with hh
    injection hh with _ h7 _
    exact h2 h7
theorem Rf.later {w w' : World} {B q : Nat} {e : Int} {wy : List Int} {wv : Value} (h : Rf w B q e wy wv) (hb : Below w.heap.size w w') : Rf w' B q e wy wv := by
  obtain ⟨⟨yv, h3, h4, h5⟩, h6⟩ := h
  exact ⟨⟨yv, h3.later hb, own_kp h4 fun k e2 => hb.block k (own_blk h4 k e2).2.1, h5⟩, h6⟩
theorem Rf.wv {w : World} {B q : Nat} {e : Int} {wy : List Int} {wv wv' : Value} (h : Rf w B q e wy wv) (hw : wv'.ownBlock = wv.ownBlock) : Rf w B q e wy wv' := by
  obtain ⟨⟨yv, h1, h2, h3⟩, h4⟩ := h
  exact ⟨⟨yv, h1, h2, fun k e => by rw [hw]; exact h3 k e⟩, h4⟩
theorem own_form {w : World} {B n size : Nat} {e : TypeId} {v : Value} {xs : List Value} (h : w.ownsRow B e size v n xs) : ∃ p c, v = .slice p n c := by
  rcases h.2 with ⟨rfl, rfl⟩ | ⟨g, cap, cur, rfl, _⟩
  · exact ⟨_, _, rfl⟩
  · exact ⟨_, _, rfl⟩
set_option maxRecDepth 100000 in
set_option maxHeartbeats 1000000 in
theorem refuse_any (w : World) {B C m n : Nat} {pt : Value} {g : Ty.Env} {wv : Value} {way : List Int} (h : Ck w B C m n pt g wv way) (hl : way.length ≤ 1000000) (hB : B ≤ w.heap.size) (e : Int) :
    Calls Tryd.prog 24 #[.pointer (some ⟨C, 0, none⟩), .int .i64 e] w fun r w' => ∃ q, r = .returned (.iface 80 (.pointer (some ⟨q, 0, none⟩))) ∧ Rf w' B q e way wv ∧ Below w.heap.size w w' := by
  have KC := show Hid (Calls Tryd.prog 46 #[wv] w fun e w' => ∃ v', e = .returned v' ∧ NewI w w' v' way) from cloneI_any w h.row hl
  have c2 : w.cell? ⟨C, 2, none⟩ = some wv := h.blk.cell 2
  have HW := show Hid (∀ k, wv.ownBlock = some k → k < w.heap.size) from fun k e => (own_blk h.row k e).2.1
  have hmi : ∀ (w : World) (v : Value), (Instr.makeInterface 80 v).run Tryd.prog w = .ok (.iface 80 v) w := fun w v => by kernel_rfl
  obtain ⟨p, c, rfl⟩ := own_form h.row
  clear h
  go_enter Tryd.func24, Tryd.ntmps24
  go_wp2_with fail
  refine Calls.mono KC.out ?_
  rintro r w1 ⟨v', rfl, hn⟩
  have HN := show Hid (NewI w w1 v' way) from hn
  obtain ⟨p', c', rfl⟩ := own_form hn.1
  clear hn KC c2
  go_wp2_with (refine wpList_box 84 _ rfl _ rfl rfl ?_)
  intro w2 q hn2
  have HN2 := show Hid _ from hn2
  clear hn2
  go_wp2_with fail
  go_ret
  have hn2 := HN2.out
  have h1 := HN.out
  refine ⟨q, rfl, ⟨⟨_, hn2.blk, ?_, fun k e1 e2 => ?_⟩, ?_⟩, bel_new h1.2 hn2⟩
  · refine own_kp (base := B) ?_ fun k e => hn2.bel.block k (own_blk h1.1 k e).2.1
    refine ⟨h1.1.1, ?_⟩
    rcases h1.1.2 with h2 | ⟨g, cap, cur, h2, h3, r⟩
    · exact Or.inl h2
    · exact Or.inr ⟨g, cap, cur, h2, by omega, r⟩
  · have := (own_blk h1.1 k e1).1
    have := HW.out k e2
    omega
  · have := hn2.ge
    have := h1.2.size
    omega
end Go.Proofs.YtkpbpecikibohaaDoor.Ya
