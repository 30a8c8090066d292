/-
  The call Match, gone through. For every table that calls made, and all numbers.
-/
import Derived.Test.YthfedlodikbdgaaUPat
import Derived.Test.YthfedlodikbdgaaUPut
import Derived.Laws.EntriesVeiled
namespace Go.Proofs.Ythfedlodikbdgaa
open Go.RowKit Go.Shelf Go.Maps
open Fm (Nd)
attribute [local go_sem] Oper.semAt_some

theorem info_hyp : (Try.prog.info? 39).map (fun i => (i.zero, i.size, i.bytes)) = some (some (.agg #[.string ⟨#[]⟩, .int .i64 0]), 2, 24) := by kernel_rfl
theorem own_keep {W W' : World} {B : Nat} {ty : TypeId} {k : Nat} {sv : Value} {n : Nat} {xs : List Value} (h : W.ownsRow B ty k sv n xs) (hk : ∀ j, sv.ownBlock = some j → j < W.heap.size → W'.heap[j]? = W.heap[j]?) : W'.ownsRow B ty k sv n xs := by
  rcases h with ⟨hl, ⟨rfl, hn⟩ | ⟨g, cap, cur, rfl, hg1, hh, r⟩⟩
  · exact ⟨hl, Or.inl ⟨rfl, hn⟩⟩
  · exact ⟨hl, Or.inr ⟨g, cap, cur, rfl, hg1, (hk g rfl (lt_of_block hh)).trans hh, r⟩⟩
theorem own_ge {W : World} {B : Nat} {ty : TypeId} {k : Nat} {sv : Value} {n : Nat} {xs : List Value} (h : W.ownsRow B ty k sv n xs) : ∀ j, sv.ownBlock = some j → B ≤ j ∧ ∃ cur, W.heap[j]? = some (.cells cur ty (0, 0)) := by
  intro j hj
  rcases h with ⟨hl, ⟨rfl, hn⟩ | ⟨g, cap, cur, rfl, hg1, hh, r⟩⟩
  · cases hj
  · cases hj; exact ⟨hg1, cur, hh⟩
theorem keeps_below {B : Nat} {W W' : World} (h : Below W.heap.size W W') : KeepsFrom B W W' := ⟨h.size, fun k _ _ hk _ => (h.block k (lt_of_block hk)).trans hk⟩
theorem keeps_grown {B : Nat} {W W' : World} {row : Option Nat} (h : W.grownBy W' row) (hr : ∀ j, row = some j → ∃ cur ty fr, W.heap[j]? = some (.cells cur ty fr)) : KeepsFrom B W W' :=
  ⟨h.size, fun k _ _ hk ho => (h.block k (lt_of_block hk) (fun e => by
    obtain ⟨cur, ty, fr, hc⟩ := hr k e.symm
    rw [hc] at hk
    cases hk
    cases ho)).trans hk⟩
theorem keeps_kp {B : Nat} {S : Nat → Prop} {W W' : World} (h : Kp S W W') (hS : ∀ k, S k → k < B) : KeepsFrom B W W' :=
  ⟨h.size, fun k _ hB hk _ => (h.block k (lt_of_block hk) (fun e => by have := hS k e; omega)).trans hk⟩
theorem kp_set (W : World) (g o : Nat) (x : Value) : Kp (fun k => k = g) W (W.setCell ⟨g, o, none⟩ x) := by
  have h := (Below.refl 0 W).setCell (p := ⟨g, o, none⟩) (Nat.zero_le _) x
  refine ⟨h.os, h.tape, h.output, h.size, fun k _ hk => ?_⟩
  exact Go.Deep.blk_setCell_other W ⟨g, o, none⟩ x k hk
theorem ret3 {W : World} {H : Nat} {a c d x y z : Value} (d1 : W.cell? ⟨H + 1, 0, none⟩ = some a) (d2 : W.cell? ⟨H + 2, 0, none⟩ = some c) (d3 : W.cell? ⟨H + 3, 0, none⟩ = some d) :
    (((W.setCell ⟨H + 1, 0, none⟩ x).setCell ⟨H + 2, 0, none⟩ y).setCell ⟨H + 3, 0, none⟩ z).cell? ⟨H + 1, 0, none⟩ = some x ∧ (((W.setCell ⟨H + 1, 0, none⟩ x).setCell ⟨H + 2, 0, none⟩ y).setCell ⟨H + 3, 0, none⟩ z).cell? ⟨H + 2, 0, none⟩ = some y ∧ (((W.setCell ⟨H + 1, 0, none⟩ x).setCell ⟨H + 2, 0, none⟩ y).setCell ⟨H + 3, 0, none⟩ z).cell? ⟨H + 3, 0, none⟩ = some z ∧
    Kp (fun k => k = H + 1 ∨ k = H + 2 ∨ k = H + 3) W (((W.setCell ⟨H + 1, 0, none⟩ x).setCell ⟨H + 2, 0, none⟩ y).setCell ⟨H + 3, 0, none⟩ z) := by
  refine ⟨by simp [go_sem, d1], by simp [go_sem, d2], by simp [go_sem, d3], ?_⟩
  exact ((kp_set W (H + 1) 0 x).mono fun k e => by omega).then (((kp_set _ (H + 2) 0 y).mono fun k e => by omega).then ((kp_set _ (H + 3) 0 z).mono fun k e => by omega))
/-- The names of a pattern's atoms are each another's. -/
theorem match_dist {t : List Nd} (h : Fm.Ok t) {pat : Nat} (hp : pat < t.length) {id : Int} (hid : Fm.has t id = true) (hg : (Sb.mrun t (Fm.below t pat).reverse pat id).2.2 = true) : Sb.Dist (Sb.mrun t (Fm.below t pat).reverse pat id).2.1 := by
  obtain ⟨y, hy, h0, _⟩ := Sb.match_told h hp hid hg
  rw [Sb.match_is h hp hy h0]
  unfold Sb.Dist Sb.atomsOf
  rw [List.map_map]
  have hs : (Fm.below t pat).reverse.Nodup := by
    exact List.pairwise_reverse.2 ((Ms.below_sorted t pat).imp fun h => (Nat.ne_of_lt h).symm)
  refine List.pairwise_map.2 ((hs.filter _).imp_of_mem fun {a b} ha hb hab e => hab ?_)
  have ha' := List.mem_filter.1 ha
  have hb' := List.mem_filter.1 hb
  have la : a < t.length := by have := Ms.below_lt t pat a (by simpa using ha'.1); omega
  have lb : b < t.length := by have := Ms.below_lt t pat b (by simpa using hb'.1); omega
  have ka : (Ms.row t a).k = 1 := by simpa using ha'.2
  have kb : (Ms.row t b).k = 1 := by simpa using hb'.2
  refine Sb.row_inj h la lb ?_
  have e' : (Ms.row t a).s = (Ms.row t b).s := e
  rcases Sb.row_kind h la with r | r | r
  · rcases Sb.row_kind h lb with q | q | q
    · generalize Ms.row t a = x at *
      generalize Ms.row t b = z at *
      obtain ⟨xk, xs, xl, xr⟩ := x
      obtain ⟨zk, zs, zl, zr⟩ := z
      simp only at r q e'
      obtain ⟨rfl, _, rfl, rfl, _⟩ := r
      obtain ⟨rfl, _, rfl, rfl, _⟩ := q
      rw [e']
    · rw [q.1] at kb; cases kb
    · exact absurd kb q.2.1
  · rw [r.1] at ka; cases ka
  · exact absurd ka r.2.1
/-- What Match leaves. -/
def MtP (w : World) (r : Sb.Hs × Bool × Int) (e : Ending) (w' : World) : Prop := ∃ sv, e = .returned (.tuple #[sv, .bool r.2.1, .int .i64 r.2.2]) ∧ IsH w' sv r.1 ∧ (∀ k, sv.ownBlock = some k → w.heap.size ≤ k) ∧ Below w.heap.size w w'
theorem undef_no {b : Bool} {p : Prop} (h : some undef = some (Value.bool b)) : p := by cases h
theorem isH_nil (w : World) : IsH w (.slice none 0 0) [] := ⟨_, _, rfl, by simp, fun k hk => by simp at hk⟩
theorem load_one (W : World) (ty : TypeId) (a : Addr) (x : Value) (hu : (isAgg ty).run Try.prog W = .ok false W) (hc : W.cell? a = some x) : (loadVar ty a).run Try.prog W = .ok x W := by
  simp [loadVar, hu, Result.andThen, go_sem, hc]
theorem res_match (tmps : Array Value) (W : World) (a c d : Addr) (x y z : Value) (h6 : tmps.getD 6 undef = .pointer (some a)) (h7 : tmps.getD 7 undef = .pointer (some c)) (h8 : tmps.getD 8 undef = .pointer (some d))
    (c1 : W.cell? a = some x) (c2 : W.cell? c = some y) (c3 : W.cell? d = some z) : (results Try.f19 tmps).run Try.prog W = .ok (.tuple #[x, y, z]) W := by
  have e1 := load_one W 23 a x (by kernel_rfl) c1
  have e2 := load_one W 4 c y (by kernel_rfl) c2
  have e3 := load_one W 29 d z (by kernel_rfl) c3
  have h6' : tmps[6]?.getD undef = .pointer (some a) := by simpa using h6
  have h7' : tmps[7]?.getD undef = .pointer (some c) := by simpa using h7
  have h8' : tmps[8]?.getD undef = .pointer (some d) := by simpa using h8
  simp [results, Try.results19, h6', h7', h8', asAddr, e1, e2, e3, Result.andThen]
section
variable {b m : Nat} {v : Value} {t : List Nd}
set_option maxRecDepth 100000 in
set_option maxHeartbeats 2000000 in
theorem Match_any (w : World) (hT : Tb w b m v t) (pat id : Int) :
    Calls Try.prog 19 #[.pointer (some ⟨b, 0, none⟩), .int .i64 pat, .int .i64 id] w (MtP w (matchR t pat id)) := by
  have hok := hT.ok
  have hlen := hok.len
  have HTB := show Hid (Tb w b m v t) from hT
  have hmm := @run_makeMap Try.prog
  obtain ⟨w0, hw0⟩ : ∃ w0, w0 = (((w.alloc (Obj.cells #[.pointer (some ⟨b, 0, none⟩)] 24)).alloc (Obj.cells #[.slice none 0 0] 23)).alloc (Obj.cells #[.bool false] 4)).alloc (Obj.cells #[.int .i64 0] 29) := ⟨_, rfl⟩
  obtain ⟨w1, hw1⟩ : ∃ w1, w1 = w0.alloc (Obj.cells #[.int .i64 pat, .int .i64 id] 3) := ⟨_, rfl⟩
  have hB0 : Below w.heap.size w w0 := by rw [hw0]; exact (((below_alloc w _).alloc (below_alloc w _).size _).alloc ((below_alloc w _).alloc (below_alloc w _).size _).size _).alloc (((below_alloc w _).alloc (below_alloc w _).size _).alloc ((below_alloc w _).alloc (below_alloc w _).size _).size _).size _
  have hs0 : w0.heap.size = w.heap.size + 4 := by rw [hw0]; simp
  have hB1 : Below w.heap.size w w1 := by rw [hw1]; exact hB0.alloc hB0.size _
  have hs1 : w1.heap.size = w.heap.size + 5 := by rw [hw1]; simp [hs0]
  have hIL : IsL w1 (.slice (some ⟨w.heap.size + 4, 0, none⟩) 2 2) [pat, id] := by rw [hw1, ← hs0]; exact isL2 w0 pat id
  have hc0 : w1.cell? ⟨w.heap.size, 0, none⟩ = some (.pointer (some ⟨b, 0, none⟩)) := by rw [hw1, hw0]; simp [go_sem, World.cell?_alloc_past]
  have hc1 : w1.cell? ⟨w.heap.size + 1, 0, none⟩ = some (.slice none 0 0) := by rw [hw1, hw0]; simp [go_sem]
  have hc2 : w1.cell? ⟨w.heap.size + 2, 0, none⟩ = some (.bool false) := by rw [hw1, hw0]; simp [go_sem]
  have hc3 : w1.cell? ⟨w.heap.size + 3, 0, none⟩ = some (.int .i64 0) := by rw [hw1, hw0]; simp [go_sem]
  have hf : ∀ k, k = 1 ∨ k = 2 ∨ k = 3 → w1.frozen? ⟨w.heap.size + k, 0, none⟩ = false := fun k hk => by
    rcases hk with rfl | rfl | rfl <;> (rw [hw1, hw0]; simp [go_sem])
  have KR := show Hid (Calls Try.prog 35 #[.pointer (some ⟨b, 0, none⟩), .slice (some ⟨w.heap.size + 4, 0, none⟩) 2 2] w1 fun e w' => e = .returned (.int .i64 (Sb.refR t [pat, id])) ∧ Below w1.heap.size w1 w') from refused_any w1 (hT.later hB1) _ _ hIL
  have HMR := show Hid ((Sb.refR t [pat, id] = 31 → matchR t pat id = ([], false, 31)) ∧ (Sb.refR t [pat, id] = 0 → matchR t pat id = if (Sb.mrun t (Fm.below t pat.toNat).reverse pat.toNat id).2.2 then (srt (Sb.mrun t (Fm.below t pat.toNat).reverse pat.toNat id).2.1, true, 0) else ([], false, 0))) from by
    refine ⟨fun h => ?_, fun h => ?_⟩
    · unfold matchR; rw [h]; rfl
    · unfold matchR; rw [if_pos h]
  have HR := show Hid _ from refR_vals t [pat, id]
  generalize Sb.refR t [pat, id] = rr at *
  generalize matchR t pat id = ans at *
  have HCC := show Hid (∀ w2, Below w1.heap.size w1 w2 → (w2.cell? ⟨w.heap.size, 0, none⟩ = some (.pointer (some ⟨b, 0, none⟩)) ∧ w2.cell? ⟨w.heap.size + 1, 0, none⟩ = some (.slice none 0 0) ∧ w2.cell? ⟨w.heap.size + 2, 0, none⟩ = some (.bool false) ∧ w2.cell? ⟨w.heap.size + 3, 0, none⟩ = some (.int .i64 0)) ∧ w2.frozen? ⟨w.heap.size + 1, 0, none⟩ = false ∧ w2.frozen? ⟨w.heap.size + 2, 0, none⟩ = false ∧ w2.frozen? ⟨w.heap.size + 3, 0, none⟩ = false) from fun w2 h2 => by
    have hk := Kp.of_below (S := fun _ => False) h2
    refine ⟨⟨hk.cell hc0 (fun h => h), hk.cell hc1 (fun h => h), hk.cell hc2 (fun h => h), hk.cell hc3 (fun h => h)⟩, ?_, ?_, ?_⟩
    · rw [← hf 1 (by omega)]; exact World.frozen?_of_block (a := ⟨w.heap.size + 1, 0, none⟩) (h2.block _ (by show w.heap.size + 1 < _; omega))
    · rw [← hf 2 (by omega)]; exact World.frozen?_of_block (a := ⟨w.heap.size + 2, 0, none⟩) (h2.block _ (by show w.heap.size + 2 < _; omega))
    · rw [← hf 3 (by omega)]; exact World.frozen?_of_block (a := ⟨w.heap.size + 3, 0, none⟩) (h2.block _ (by show w.heap.size + 3 < _; omega))
  clear hIL hT hc0 hc1 hc2 hc3 hf
  rw [hw0] at hw1
  refine (callsIn_wide (n := 5)).1 ?_
  refine callsIn_of_wp_marks Try.func19 rfl trivial ?_ rfl
  simp only [Try.ntmps19, List.size_toArray, List.length_cons, List.length_nil, Nat.reduceAdd, Nat.reduceSub, Array.replicate_succ, Array.replicate_zero, List.push_toArray, List.append_toArray, List.nil_append, List.cons_append]
  rcases HR.out with ⟨h0, hin⟩ | h31
  · subst h0
    have ea := HMR.out.2 rfl
    obtain ⟨hp0, hp1⟩ := Fm.has_iff.1 (hin pat (by simp))
    have hid := hin id (by simp)
    obtain ⟨pn, rfl⟩ : ∃ pn : Nat, pat = pn := ⟨pat.toNat, by omega⟩
    have hpn : pn < t.length := by omega
    rw [Int.toNat_natCast] at ea
    have HAN := show Hid _ from ea
    clear HMR HR ea hw0 hin hp0 hp1
    have hlt : ∀ x ∈ Fm.below t pn, x < t.length := fun x hx => by have := Ms.below_lt t pn x hx; omega
    have hbr : belowR t (pn : Int) = (Fm.below t pn, 0) := by
      unfold belowR
      rw [if_pos (Fm.has_iff.2 ⟨by omega, by omega⟩)]
      simp
    have hbl : (Fm.below t pn).length ≤ 1024 := by have := belowR_len hok (pn : Int); rw [hbr] at this; exact this
    have KBL := show Hid (∀ w2, Below w1.heap.size w1 w2 → Calls Try.prog 48 #[.pointer (some ⟨b, 0, none⟩), .int .i64 (pn : Int)] w2 fun e w' => ∃ p c, e = .returned (.tuple #[.slice p (Fm.below t pn).length c, .int .i64 0]) ∧ IsI w' w2.heap.size (.slice p (Fm.below t pn).length c) (Fm.below t pn) ∧ Below w2.heap.size w2 w') from fun w2 hb2 => (below_any w2 (HTB.out.later (hB1.trans (hb2.mono hB1.size))) (pn : Int)).mono fun e w' ⟨v', he, hi, hb⟩ => by
      rw [hbr] at he hi
      obtain ⟨p, c, rfl⟩ := isI_slice hi
      exact ⟨p, c, he, hi, hb⟩
    have KW := show Hid (∀ (w : World) (p : Option Addr) (n c : Nat), Calls Try.prog 50 #[.slice p n c] w fun e w' => e = .returned (.func (.func 70) #[] #[.pointer (some ⟨w.heap.size, 0, none⟩)]) ∧ w' = w.alloc (.cells #[.slice p n c] 77)) from backward_any
    have HUP := show Hid (∀ w3 : World, ∃ w5, (Instr.mapUpdate 96 (.map (some w3.heap.size)) (.int .i64 (pn : Int)) (.int .i64 id)).run Try.prog (w3.alloc (.map #[] 0)) = .ok () w5 ∧ Ma w5 w3.heap.size 1 (Sb.updA (fun _ => none) pn id) ∧ Kp (fun k => k = w3.heap.size) (w3.alloc (.map #[] 0)) w5) from fun w3 =>
      Ma.put (M := w3.heap.size) (n := 0) (g := fun _ => none) ⟨fun _ => none, mp_made w3, fun j => rfl⟩ (by omega) (by omega) id
    gi_wp2_with (first
      | (refine ⟨trivial, ?_⟩; gi_at_call 35; rw [← hw1]; refine (callsIn_wide.2 KR.out).mono ?_; rintro e w2 ⟨rfl, hb2⟩; obtain ⟨⟨d0, d1, d2, d3⟩, f1, f2, f3⟩ := HCC.out w2 hb2)
      | (refine ⟨trivial, ?_⟩; gi_at_call 48; refine (callsIn_wide.2 (KBL.out _ hb2)).mono ?_; rintro e w3 ⟨p3, c3, rfl, hI3, hb3⟩; obtain ⟨w5, hup, hMa5, hK5⟩ := HUP.out w3)
      | (refine ⟨trivial, ?_⟩; gi_at_call 50; refine (callsIn_wide.2 (KW.out _ _ _ _)).mono ?_; rintro e w9 ⟨rfl, hw9⟩))
    have hs2 := hb2.size
    have hs3 := hb3.size
    have hs5 : w3.heap.size + 1 ≤ w5.heap.size := by have := hK5.size; simpa using this
    have hs9 : w9.heap.size = w5.heap.size + 4 := by rw [hw9]; simp
    have hB3 : Below w.heap.size w w3 := (hB1.trans (hb2.mono hB1.size)).trans (hb3.mono (hB1.trans (hb2.mono hB1.size)).size)
    have hB5 : Below w.heap.size w w5 := (hB3.alloc hB3.size _).trans (hK5.below (by have := hB3.size; simp; omega) (fun k hk => by have := hB3.size; omega))
    have hb59 : Below w5.heap.size w5 w9 := by rw [hw9]; exact (((below_alloc w5 _).alloc (below_alloc w5 _).size _).alloc ((below_alloc w5 _).alloc (below_alloc w5 _).size _).size _).alloc (((below_alloc w5 _).alloc (below_alloc w5 _).size _).alloc ((below_alloc w5 _).alloc (below_alloc w5 _).size _).size _).size _
    have hB9 : Below w.heap.size w w9 := hB5.trans (hb59.mono hB5.size)
    have hk25 : Kp (fun k => k = w3.heap.size) w2 w5 := ((Kp.of_below hb3).alloc _).trans hK5 (fun i hi => Or.inl hi)
    have hk29 : Kp (fun k => k = w3.heap.size) w2 w9 := hk25.belows hb59
    have hMa9 : Ma w9 w3.heap.size 1 (Sb.updA (fun _ => none) pn id) := hMa5.later hb59
    have hsw := hB3.size
    have hcC : w9.cell? ⟨w5.heap.size, 0, none⟩ = some (.map (some w3.heap.size)) := by rw [hw9]; exact cell_alloc (cell_alloc (cell_alloc (cell_newE _ _ rfl _ _) _) _) _
    have hcD : w9.cell? ⟨w5.heap.size + 1, 0, none⟩ = some (.func (.func 49) #[] #[.pointer (some ⟨w5.heap.size, 0, none⟩)]) := by rw [hw9]; exact cell_alloc (cell_alloc (cell_newE _ _ (by simp) _ _) _) _
    have hcA : w9.heap[w5.heap.size + 2]? = some (.cells #[.slice none 0 0] 23 (0, 0)) := by
      rw [hw9]
      refine (Below.heap_alloc _ _ _ (by simp)).trans ?_
      have := heap_alloc_new ((w5.alloc (Obj.cells #[.map (some w3.heap.size)] 96)).alloc (Obj.cells #[.func (.func 49) #[] #[.pointer (some ⟨w5.heap.size, 0, none⟩)]] 97)) (Obj.cells #[.slice none 0 0] 23)
      simpa using this
    have hcG : w9.cell? ⟨w5.heap.size + 3, 0, none⟩ = some (.slice p3 (Fm.below t pn).length c3) := by rw [hw9]; exact cell_newE _ _ (by simp) _ _
    have hBk : Bk w9 (w5.heap.size + 3) w9.heap.size (fun k => k = w3.heap.size ∨ k = w5.heap.size + 2) (mkL (Fm.below t pn) hlt) := by
      obtain ⟨p, c, hv, _, hcell⟩ := isI_isL hI3 (by omega)
      obtain ⟨rfl, _, rfl⟩ := Value.slice.inj hv
      refine ⟨⟨p3, c3, by rw [mkL_len]; exact hcG, fun k hk => ?_⟩, ⟨by omega, fun h => by omega⟩, fun k hk => (mkL_at hk).1, by rw [mkL_len]; exact hbl⟩
      have hk' : k < (Fm.below t pn).length := by rw [← mkL_len (h := hlt)]; exact hk
      obtain ⟨g, o, hp, hcg⟩ := hcell k (by simpa using hk')
      have hlg := World.block_lt_of_cell? w3 _ hcg
      simp only at hlg
      refine ⟨g, o, hp, ?_, by omega, fun h => by omega⟩
      rw [(mkL_at hk).2]
      have h1 := ((Kp.of_below (S := fun k => k = w3.heap.size) (below_alloc w3 (.map #[] 0))).then hK5).belows hb59 |>.cell hcg (fun h => by have h' : g = w3.heap.size := h; omega)
      simpa using h1
    have HSX := show Hid (∀ W, KB w9.heap.size (fun k => k = w3.heap.size ∨ k = w5.heap.size + 2) w9 W → W.cell? ⟨w.heap.size, 0, none⟩ = some (.pointer (some ⟨b, 0, none⟩)) ∧ W.cell? ⟨w5.heap.size, 0, none⟩ = some (.map (some w3.heap.size)) ∧ W.cell? ⟨w5.heap.size + 1, 0, none⟩ = some (.func (.func 49) #[] #[.pointer (some ⟨w5.heap.size, 0, none⟩)]) ∧ Tb W b m v t) from fun W hW => by
      refine ⟨hW.cell (hk29.cell d0 (by omega)) (fun h => by omega), hW.cell hcC (fun h => by omega), hW.cell hcD (fun h => by omega), ?_⟩
      exact (HTB.out.later hB9).keep fun k hk => hW.block k (by have := HTB.out.foot k hk; omega) fun h => by have := HTB.out.foot k hk; omega
    have HRX := show Hid (∀ W, KB w9.heap.size (fun k => k = w3.heap.size ∨ k = w5.heap.size + 2) w9 W → (W.cell? ⟨w.heap.size + 1, 0, none⟩ = some (.slice none 0 0) ∧ W.cell? ⟨w.heap.size + 2, 0, none⟩ = some (.bool false) ∧ W.cell? ⟨w.heap.size + 3, 0, none⟩ = some (.int .i64 0)) ∧ W.frozen? ⟨w.heap.size + 1, 0, none⟩ = false ∧ W.frozen? ⟨w.heap.size + 2, 0, none⟩ = false ∧ W.frozen? ⟨w.heap.size + 3, 0, none⟩ = false) from fun W hW => by
      have hfz : ∀ k, 1 ≤ k → k ≤ 3 → w2.frozen? ⟨w.heap.size + k, 0, none⟩ = false → W.frozen? ⟨w.heap.size + k, 0, none⟩ = false := fun k h1 h3 hz => by
        rw [← hz]
        refine (World.frozen?_of_block (a := ⟨w.heap.size + k, 0, none⟩) (hW.block (w.heap.size + k) (by omega) fun h => by omega)).trans (World.frozen?_of_block (a := ⟨w.heap.size + k, 0, none⟩) (hk29.block (w.heap.size + k) (by omega) fun h => by omega))
      exact ⟨⟨hW.cell (hk29.cell d1 (by omega)) (fun h => by omega), hW.cell (hk29.cell d2 (by omega)) (fun h => by omega), hW.cell (hk29.cell d3 (by omega)) (fun h => by omega)⟩, hfz 1 (by omega) (by omega) f1, hfz 2 (by omega) (by omega) f2, hfz 3 (by omega) (by omega) f3⟩
    have HB9 := show Hid (Below w.heap.size w w9) from hB9
    clear hup hI3 KBL KW KR HUP HCC hmm hb2 hb3 hK5 hB3 hB5 hk25 hk29 hMa5 hb59 hcC hcD hcG d0 d1 d2 d3 f1 f2 f3 hbr
    rw [← hw9]
    clear hw9 hw1 hB0 hs0 hB1 hB9
    refine range_exR rfl (by omega) (gf := 70) (lb := #[.pointer (some ⟨w5.heap.size + 3, 0, none⟩)]) (by simp [go_sem]) trivial (enters_of Try.func70 (by kernel_rfl) rfl)
      (back_stops (5 - 1) (by omega) (w5.heap.size + 3) w9.heap.size (fun k => k = w3.heap.size ∨ k = w5.heap.size + 2) (mkL (Fm.below t pn) hlt) w9 hBk) (Nat.le_refl _) (Below.refl _ _) (fun _ => rfl)
      (PI t pn id w9 w3.heap.size (w5.heap.size + 2)) (PJ t pn id w9 w3.heap.size (w5.heap.size + 2) w.heap.size) (pi_own t pn id w9 (by omega) (by omega)) (pj_own t pn id w9 (by omega))
      ⟨rfl, hMa9, ⟨_, hcA, World.ownsRow_nil _ _ _ _⟩, Nat.le_refl _, Kp.refl _ _⟩ ?ab ?done ?stop
    case ab =>
      apply Exists.intro
      refine ⟨?assign, ?body⟩
      case assign =>
        intro l x W K hK
        unfold encB
        gi_wp2
        exact hK
      case body =>
        rintro l pre ⟨xi, j, hj⟩ W ⟨hg, hMa, ⟨sv, hA, hrow⟩, hle, hKB⟩ hlp
        have hpl : pre.length < 1024 := by
          have h1 := hBk.len
          omega
        obtain ⟨hcT, hcC, hcD, hTW⟩ := HSX.out W hKB
        have HKB := show Hid (KB w9.heap.size (fun k => k = w3.heap.size ∨ k = w5.heap.size + 2) w9 W) from hKB
        have HSN := show Hid (Sb.mrun t (vals (pre ++ [((xi, ⟨j, hj⟩) : It t.length)])) pn id = Sb.mstep t (Sb.mrun t (vals pre) pn id) j) from by
          show Sb.mrun t (vals (pre ++ [((xi, ⟨j, hj⟩) : It t.length)])) pn id = _
          rw [vals_snoc, Sb.mrun_snoc]
        obtain ⟨⟨nk, ns, nl, nr⟩, hn⟩ : ∃ n, n = Ms.row t j := ⟨_, rfl⟩
        have hns : ns.size ≤ 140737488351232 := by
          have := (Sb.good_row hok j hj).2.1
          rw [← hn] at this
          exact this
        have KN := show Hid (Calls Try.prog 28 #[.pointer (some ⟨b, 0, none⟩), .int .i64 (j : Int)] W fun e w' => e = .returned (.tuple #[.agg #[.int .i64 nk, .string ns, .int .i64 nl, .int .i64 nr], .bool true]) ∧ Below W.heap.size W w') from by
          have h' := node_any W hTW (j : Int)
          rw [(nodeOf_in hj).1, (nodeOf_in hj).2, ← hn] at h'
          exact h'
        have hwW := hKB.size
        have hkj : (nk != 1 && nk != 2) = Fm.jn nk := by have := kind_join hok hj; rw [← hn] at this; exact this
        have hpp : Fm.jn nk = true → 0 ≤ nl ∧ nl ≤ 1024 ∧ 0 ≤ nr ∧ nr ≤ 1024 := fun hjn => by
          have := Ms.parts_lt hok hj (by rw [← hn]; exact hjn)
          rw [← hn] at this
          simp only at this
          omega
        generalize Sb.mrun t (vals pre) pn id = s at *
        obtain ⟨g, ats, okk⟩ := s
        simp only at hg hMa hrow hle
        subst hg
        have hlk := hMa.look (j := j) (by omega)
        obtain ⟨f, hf⟩ : ∃ f, f = (g j).getD 0 := ⟨_, rfl⟩
        rw [← hf] at hlk
        obtain ⟨⟨yk, ys, yl, yr⟩, hy⟩ : ∃ n, n = Sb.nd t f := ⟨_, rfl⟩
        have KN2 := show Hid (∀ W1, Below W.heap.size W W1 → Calls Try.prog 28 #[.pointer (some ⟨b, 0, none⟩), .int .i64 f] W1 fun e w' => e = .returned (.tuple #[.agg #[.int .i64 yk, .string ys, .int .i64 yl, .int .i64 yr], .bool (Fm.has t f)]) ∧ Below W1.heap.size W1 w') from fun W1 hb => by
          have h' := node_any W1 (hTW.later hb) f
          rw [show nodeOf t f = Sb.nd t f from rfl, ← hy] at h'
          exact h'
        have HMS := show Hid (Sb.mstep t (g, ats, true) j = (if nk = 1 then (g, ats ++ [(ns, f)], true) else if nk ≠ yk then (g, ats, false) else if Fm.jn nk then
            (if Sb.fits g nl.toNat yl then (Sb.updA (Sb.updA g nl.toNat yl) nr.toNat yr, ats, Sb.fits (Sb.updA g nl.toNat yl) nr.toNat yr) else (Sb.updA g nl.toNat yl, ats, false)) else (g, ats, true))) from by
          show Sb.mstep t (g, ats, true) j = _
          unfold Sb.mstep
          simp only [← hf]
          rw [← hn, ← hy]
          rfl
        have HNORM := show Hid (∀ (W' : World) (g' : Sb.Ag) (at' : Sb.Hs) (sv' : Value), Sb.mstep t (g, ats, true) j = (g', at', true) → Ma W' w3.heap.size (1 + 2 * pre.length + 2) g' → W'.heap[w5.heap.size + 2]? = some (.cells #[sv'] 23 (0, 0)) → W'.ownsRow w9.heap.size 39 2 sv' at'.length (cellsH at') → at'.length ≤ pre.length + 1 → KB w9.heap.size (fun k => k = w3.heap.size ∨ k = w5.heap.size + 2) W W' → KeepsFrom w9.heap.size W W' →
            ownPostG w9.heap.size (KB w9.heap.size (fun k => k = w3.heap.size ∨ k = w5.heap.size + 2)) (PI t pn id w9 w3.heap.size (w5.heap.size + 2)) (fun c s W => c = .ret ∧ PJ t pn id w9 w3.heap.size (w5.heap.size + 2) w.heap.size s W) (pre ++ [((xi, ⟨j, hj⟩) : It t.length)]) W .normal { tmps := #[], defers := [] } W') from
          fun W' g' at' sv' hms h1 h2 h3 h4 h5 h6 => by
            refine ⟨h6, h5, ?_⟩
            unfold PI
            rw [HSN.out, hms, List.length_append, List.length_singleton, Nat.mul_add]
            exact ⟨rfl, h1, ⟨sv', h2, h3⟩, h4, HKB.out.then h5⟩
        have HRET := show Hid (∀ (W' : World), (Sb.mstep t (g, ats, true) j).2.2 = false → W'.cell? ⟨w.heap.size + 1, 0, none⟩ = some (.slice none 0 0) → W'.cell? ⟨w.heap.size + 2, 0, none⟩ = some (.bool false) → W'.cell? ⟨w.heap.size + 3, 0, none⟩ = some (.int .i64 0) → Kp (fun k => (k = w3.heap.size ∨ k = w5.heap.size + 2 ∨ k = w.heap.size + 1 ∨ k = w.heap.size + 2 ∨ k = w.heap.size + 3) ∨ w9.heap.size ≤ k) W W' → KeepsFrom w9.heap.size W W' →
            ownPostG w9.heap.size (KB w9.heap.size (fun k => k = w3.heap.size ∨ k = w5.heap.size + 2)) (PI t pn id w9 w3.heap.size (w5.heap.size + 2)) (fun c s W => c = .ret ∧ PJ t pn id w9 w3.heap.size (w5.heap.size + 2) w.heap.size s W) (pre ++ [((xi, ⟨j, hj⟩) : It t.length)]) W .ret { tmps := #[], defers := [] } W') from
          fun W' hms h1 h2 h3 h4 h5 => by
            refine ⟨h5, rfl, ?_⟩
            unfold PJ
            rw [HSN.out]
            exact ⟨hms, h1, h2, h3, (HKB.out.mono fun k hk => by omega).then h4⟩
        have HCX := show Hid (∀ W', Below W.heap.size W W' → W'.cell? ⟨w.heap.size, 0, none⟩ = some (.pointer (some ⟨b, 0, none⟩)) ∧ W'.cell? ⟨w5.heap.size, 0, none⟩ = some (.map (some w3.heap.size)) ∧ W'.cell? ⟨w5.heap.size + 1, 0, none⟩ = some (.func (.func 49) #[] #[.pointer (some ⟨w5.heap.size, 0, none⟩)]) ∧ W'.heap[w5.heap.size + 2]? = some (.cells #[sv] 23 (0, 0)) ∧ Ma W' w3.heap.size (1 + 2 * pre.length) g) from fun W' hb =>
          ⟨(Kp.of_below (S := fun _ => False) hb).cell hcT (fun h => h), (Kp.of_below (S := fun _ => False) hb).cell hcC (fun h => h), (Kp.of_below (S := fun _ => False) hb).cell hcD (fun h => h), (hb.block _ (lt_of_block hA)).trans hA, hMa.later hb⟩
        have HRW := show Hid (W.ownsRow w9.heap.size 39 2 sv ats.length (cellsH ats) ∧ ats.length ≤ pre.length) from ⟨hrow, hle⟩
        have HKJ := show Hid _ from hkj
        have HPP := show Hid _ from hpp
        clear hMa hTW hKB hn hf hy HSN hA hrow hle hkj hpp hcD hBk
        generalize Fm.has t f = hhf at *
        by_cases h1 : nk = 1
        · subst h1
          have ems := HMS.out
          rw [if_pos rfl] at ems
          have HMS2 := show Hid _ from ems
          obtain ⟨i0, HI0⟩ : ∃ i0 : TypeInfo × Unit, Hid (Try.prog.info? 39 = some i0.1 ∧ i0.1.zero = some (.agg #[.string ⟨#[]⟩, .int .i64 0]) ∧ i0.1.size = 2 ∧ i0.1.bytes = 24) := by
            obtain ⟨i0, hi', hz0, hz1, hz2⟩ := info_parts info_hyp
            exact ⟨(i0, ()), hi', hz0, hz1, hz2⟩
          have HBT := show Hid (∀ (W1 W2 : World) (o o' : Obj), Below W.heap.size W W1 → Below (W1.alloc o).heap.size (W1.alloc o) W2 → Below W.heap.size W (W2.alloc o')) from fun W1 W2 o o' h1 h2 => by
            have h3 := (h1.alloc h1.size o).trans (h2.mono (h1.alloc h1.size o).size)
            exact h3.alloc h3.size _
          have HNT := show Hid (∀ (W1 W2 : World) (cs : Array Value) (o' : Obj), Below (W1.alloc (Obj.cells cs 59)).heap.size (W1.alloc (Obj.cells cs 59)) W2 → (W2.alloc o').heap[W1.heap.size]? = some (.cells cs 59 (0, 0))) from fun W1 W2 cs o' h => by
            have h1 : W2.heap[W1.heap.size]? = some (.cells cs 59 (0, 0)) := (h.block _ (by simp)).trans (heap_alloc_new _ _)
            exact (Below.heap_alloc _ _ _ (lt_of_block h1)).trans h1
          clear HMS ems HRET HKJ HPP
          gi_wp2_with fail
          refine ⟨trivial, (CallsIn.inRound l (callsIn_wide.2 KN.out)).mono ?_⟩
          rintro e W1 ⟨rfl, hb1⟩
          obtain ⟨Wa, hWa⟩ : ∃ Wa, Wa = W1.alloc (Obj.cells #[.int .i64 1, .string ns, .int .i64 nl, .int .i64 nr] 59) := ⟨_, rfl⟩
          have hba : Below W.heap.size W Wa := by rw [hWa]; exact hb1.alloc hb1.size _
          have hNa : N4 Wa W1.heap.size ⟨1, ns, nl, nr⟩ := by rw [hWa]; exact heap_alloc_new _ _
          have e0 := (HCX.out Wa hba).1
          rw [hWa] at e0
          clear hcT hcC hlk KN
          gi_wp2_with fail
          rw [← hWa]
          clear hWa
          refine ⟨trivial, (CallsIn.inRound l (callsIn_wide.2 (KN2.out Wa hba))).mono ?_⟩
          rintro e W2 ⟨rfl, hb2⟩
          obtain ⟨Wb, hWb⟩ : ∃ Wb, Wb = W2.alloc (Obj.cells #[.int .i64 yk, .string ys, .int .i64 yl, .int .i64 yr] 59) := ⟨_, rfl⟩
          have hbb : Below W.heap.size W Wb := by rw [hWb]; exact (hba.trans (hb2.mono hba.size)).alloc (hba.trans (hb2.mono hba.size)).size _
          have hNb : N4 Wb W1.heap.size ⟨1, ns, nl, nr⟩ := by rw [hWb]; exact (Below.heap_alloc _ _ _ (lt_of_block ((hb2.block _ (lt_of_block hNa)).trans hNa))).trans ((hb2.block _ (lt_of_block hNa)).trans hNa)
          have k0 := hNb.c0
          have k1 := hNb.c1
          simp only at k0 k1
          have k2 : Wb.cell? ⟨w5.heap.size + 2, 0, none⟩ = some sv := cell_of_row _ _ 0 _ _ _ (HCX.out Wb hbb).2.2.2.1
          rw [hWb] at k0 k1 k2
          have hsW := hbb.size
          have HOW := show Hid (((W2.alloc (Obj.cells #[.int .i64 yk, .string ys, .int .i64 yl, .int .i64 yr] 59)).alloc (Obj.cells #[.string ns, .int .i64 f] 39)).ownsRow w9.heap.size 39 2 sv ats.length (cellsH ats)) from by
            rw [← hWb]
            exact (own_keep HRW.out.1 (fun k _ hk => hbb.block k hk)).alloc _
          have HAW := show Hid (∀ W3 : World, ((W2.alloc (Obj.cells #[.int .i64 yk, .string ys, .int .i64 yl, .int .i64 yr] 59)).alloc (Obj.cells #[.string ns, .int .i64 f] 39)).grownBy W3 sv.ownBlock → W3.heap[w5.heap.size + 2]? = some (.cells #[sv] 23 (0, 0))) from fun W3 hgr => by
            rw [← hWb] at hgr
            have hA := (HCX.out Wb hbb).2.2.2.1
            have hA2 := (Below.heap_alloc Wb (Obj.cells #[.string ns, .int .i64 f] 39) _ (lt_of_block hA)).trans hA
            exact (hgr.block _ (lt_of_block hA2) (fun e => by have := (own_ge HRW.out.1 _ e.symm).1; omega)).trans hA2
          have hle := HRW.out.2
          have hsW2 : w9.heap.size ≤ W2.heap.size := by have h2 := hb2.size; have h3 := hba.size; omega
          clear e0 hNa HBT HNT HKB hwW hba hb1 hb2 KN2 HTB HSX HRX HAN HB9
          clear hlp hbl hid hpn hs2 hs3
          gi_wp2_with (gi_at_builtin; refine wpListIn_append_own _ rfl (.tmp 64) (.tmp 69) 23 rfl w9.heap.size 39 i0.1 _ 2 24 Try.underlying23 HI0.out.1 HI0.out.2.1 HI0.out.2.2.1 HI0.out.2.2.2 rfl (by decide) sv ats.length (cellsH ats) rfl HOW.out ⟨(W2.alloc (Obj.cells #[.int .i64 yk, .string ys, .int .i64 yl, .int .i64 yr] 59)).heap.size, 0, none⟩ 1 1 [.string ns, .int .i64 f] (by simp [go_sem]) rfl (lit_newsV _ #[.string ns, .int .i64 f] _ _ rfl) (by simp [Value.oneCell']) (by unfold maxLen; omega) (by omega) (by simp; omega) ?_; intro v' W3 hown hgr _; obtain ⟨g', cap', rfl⟩ := ownsRow_succ hown; have q0 := HAW.out W3 hgr; have q1 : W3.cell? ⟨w5.heap.size + 2, 0, none⟩ = some sv := cell_of_row _ _ 0 _ _ _ q0; have q2 : W3.frozen? ⟨w5.heap.size + 2, 0, none⟩ = false := frozen_of_row _ _ 0 _ _ q0)
          rw [← hWb] at hgr
          have hge : ∀ k, sv.ownBlock = some k → w9.heap.size ≤ k ∧ ∃ cur ty fr, (Wb.alloc (Obj.cells #[.string ns, .int .i64 f] 39)).heap[k]? = some (.cells cur ty fr) := fun k hk => by
            obtain ⟨h1, cur, h2⟩ := own_ge HRW.out.1 k hk
            have h3 := hbb.block k (lt_of_block h2)
            exact ⟨h1, cur, _, _, (Below.heap_alloc Wb _ _ (lt_of_block (h3.trans h2))).trans (h3.trans h2)⟩
          have hg' := (own_ge hown g' rfl).1
          have hk3 : Kp (fun k => k = w5.heap.size + 2 ∨ w9.heap.size ≤ k) W W3 := ((Kp.of_below hbb).alloc _).then ⟨hgr.os, hgr.tape, hgr.output, hgr.size, fun k hk hn => hgr.block k hk fun e => hn (Or.inr (hge k e.symm).1)⟩
          have hkW : Kp (fun k => k = w5.heap.size + 2 ∨ w9.heap.size ≤ k) W (W3.setCell ⟨w5.heap.size + 2, 0, none⟩ (.slice (some ⟨g', 0, none⟩) (ats.length + 1) cap')) := hk3.then ((kp_set W3 (w5.heap.size + 2) 0 _).mono fun k e => Or.inl e)
          refine HNORM.out (W3.setCell ⟨w5.heap.size + 2, 0, none⟩ (.slice (some ⟨g', 0, none⟩) (ats.length + 1) cap')) g (ats ++ [(ns, f)]) (.slice (some ⟨g', 0, none⟩) (ats.length + 1) cap') HMS2.out ?_ ?_ ?_ ?_ ?_ ?_
          · have hm := (HCX.out W (Below.refl _ _)).2.2.2.2
            exact (hm.keep (hkW.block _ hm.lt fun h => by omega)).mono (by omega)
          · exact heap_setCell_same W3 (w5.heap.size + 2) 0 _ _ _ q0
          · rw [List.length_append, List.length_singleton, show cellsH (ats ++ [(ns, f)]) = cellsH ats ++ [.string ns, .int .i64 f] from by simp [cellsH, encH]]
            exact own_keep hown fun k hk _ => Go.Deep.blk_setCell_other _ _ _ _ (by
              cases hk
              show g' ≠ w5.heap.size + 2
              omega)
          · rw [List.length_append, List.length_singleton]; omega
          · exact hkW.mono fun k hk => by omega
          · exact ((keeps_below hbb).trans (keeps_below (below_alloc _ _))).trans ((keeps_grown hgr fun k hk => (hge k hk).2).trans (keeps_kp (kp_set W3 (w5.heap.size + 2) 0 _) fun k hk => by omega))
        · have hn1 : (nk == 1) = false := by simpa using h1
          have KJ := show Hid (∀ (w : World) (k : Int), Calls Try.prog 51 #[.int .i64 k] w fun e w' => e = .returned (.bool (k != 1 && k != 2)) ∧ w' = w) from joinsU_any
          have HRB := show Hid (∀ Wx, Kp (fun k => k = w3.heap.size ∨ W.heap.size ≤ k) W Wx → (Wx.cell? ⟨w.heap.size + 1, 0, none⟩ = some (.slice none 0 0) ∧ Wx.cell? ⟨w.heap.size + 2, 0, none⟩ = some (.bool false) ∧ Wx.cell? ⟨w.heap.size + 3, 0, none⟩ = some (.int .i64 0)) ∧ Wx.frozen? ⟨w.heap.size + 1, 0, none⟩ = false ∧ Wx.frozen? ⟨w.heap.size + 2, 0, none⟩ = false ∧ Wx.frozen? ⟨w.heap.size + 3, 0, none⟩ = false) from fun Wx hx => by
            obtain ⟨⟨a1, a2, a3⟩, z1, z2, z3⟩ := HRX.out W HKB.out
            have hfz : ∀ k, 1 ≤ k → k ≤ 3 → W.frozen? ⟨w.heap.size + k, 0, none⟩ = false → Wx.frozen? ⟨w.heap.size + k, 0, none⟩ = false := fun k h1 h3 hz => by
              rw [← hz]
              exact World.frozen?_of_block (a := ⟨w.heap.size + k, 0, none⟩) (hx.block (w.heap.size + k) (by omega) fun h => by omega)
            exact ⟨⟨hx.cell a1 (fun h => by omega), hx.cell a2 (fun h => by omega), hx.cell a3 (fun h => by omega)⟩, hfz 1 (by omega) (by omega) z1, hfz 2 (by omega) (by omega) z2, hfz 3 (by omega) (by omega) z3⟩
          have HFIN := show Hid (∀ Wx, Kp (fun k => k = w3.heap.size ∨ W.heap.size ≤ k) W Wx → KeepsFrom w9.heap.size W Wx → (Sb.mstep t (g, ats, true) j).2.2 = false →
              ownPostG w9.heap.size (KB w9.heap.size (fun k => k = w3.heap.size ∨ k = w5.heap.size + 2)) (PI t pn id w9 w3.heap.size (w5.heap.size + 2)) (fun c s W => c = .ret ∧ PJ t pn id w9 w3.heap.size (w5.heap.size + 2) w.heap.size s W) (pre ++ [((xi, ⟨j, hj⟩) : It t.length)]) W .ret { tmps := #[], defers := [] } (((Wx.setCell ⟨w.heap.size + 1, 0, none⟩ (.slice none 0 0)).setCell ⟨w.heap.size + 2, 0, none⟩ (.bool false)).setCell ⟨w.heap.size + 3, 0, none⟩ (.int .i64 0))) from fun Wx hx hk hms => by
            obtain ⟨⟨a1, a2, a3⟩, _⟩ := HRB.out Wx hx
            obtain ⟨q1, q2, q3, q4⟩ := ret3 (x := .slice none 0 0) (y := .bool false) (z := .int .i64 0) a1 a2 a3
            exact HRET.out _ hms q1 q2 q3 ((hx.mono fun k e => by omega).then (q4.mono fun k e => by omega)) (hk.trans (keeps_kp q4 fun k e => by omega))
          clear HRX HRET
          by_cases h2 : nk = yk
          · subst h2
            cases hjn : Fm.jn nk with
            | false =>
              have ems := HMS.out
              rw [if_neg h1, if_neg (by simp), hjn] at ems
              have HMS2 := show Hid (Sb.mstep t (g, ats, true) j = (g, ats, true)) from ems
              have KJ2 := show Hid (∀ w : World, Calls Try.prog 51 #[.int .i64 nk] w fun e w' => e = .returned (.bool false) ∧ w' = w) from fun w => by
                have h' := KJ.out w nk
                rw [HKJ.out, hjn] at h'
                exact h'
              clear HMS ems HKJ HPP KJ HFIN HRB
              gi_wp2_with fail
              refine ⟨trivial, (CallsIn.inRound l (callsIn_wide.2 KN.out)).mono ?_⟩
              rintro e W1 ⟨rfl, hb1⟩
              obtain ⟨Wa, hWa⟩ : ∃ Wa, Wa = W1.alloc (Obj.cells #[.int .i64 nk, .string ns, .int .i64 nl, .int .i64 nr] 59) := ⟨_, rfl⟩
              have hba : Below W.heap.size W Wa := by rw [hWa]; exact hb1.alloc hb1.size _
              have hNa : N4 Wa W1.heap.size ⟨nk, ns, nl, nr⟩ := by rw [hWa]; exact heap_alloc_new _ _
              have e0 := (HCX.out Wa hba).1
              rw [hWa] at e0
              clear hcT hcC hlk KN
              gi_wp2_with fail
              rw [← hWa]
              clear hWa
              refine ⟨trivial, (CallsIn.inRound l (callsIn_wide.2 (KN2.out Wa hba))).mono ?_⟩
              rintro e W2 ⟨rfl, hb2⟩
              obtain ⟨Wb, hWb⟩ : ∃ Wb, Wb = W2.alloc (Obj.cells #[.int .i64 nk, .string ys, .int .i64 yl, .int .i64 yr] 59) := ⟨_, rfl⟩
              have hbb : Below W.heap.size W Wb := by rw [hWb]; exact (hba.trans (hb2.mono hba.size)).alloc (hba.trans (hb2.mono hba.size)).size _
              have hNb : N4 Wb W1.heap.size ⟨nk, ns, nl, nr⟩ := by rw [hWb]; exact (Below.heap_alloc _ _ _ (lt_of_block ((hb2.block _ (lt_of_block hNa)).trans hNa))).trans ((hb2.block _ (lt_of_block hNa)).trans hNa)
              have hNc : N4 Wb W2.heap.size ⟨nk, ys, yl, yr⟩ := by rw [hWb]; exact heap_alloc_new _ _
              have k0 := hNb.c0
              have k1 := hNc.c0
              simp only at k0 k1
              have hsb := hbb.size
              have hsz1 := hb1.size
              have hsz2 : W.heap.size ≤ W2.heap.size := by have h2 := hb2.size; have h3 := hba.size; omega
              clear e0 hNa HKB hba hb1 hb2 KN2 HTB HSX HAN HB9
              clear hlp hbl hid hpn hs2 hs3
              rw [hWb] at k0 k1
              gi_wp2_with (refine ⟨trivial, ?_⟩; gi_at_call 51; refine (CallsIn.inRound l (callsIn_wide.2 (KJ2.out _))).mono ?_; rintro e w' ⟨rfl, rfl⟩)
              refine ⟨fun _ h => (by cases h), ?_⟩
              gi_wp2_with fail
              all_goals (first | exact undef_no (by assumption) | skip)
              rw [← hWb]
              obtain ⟨_, _, _, hA, hm⟩ := HCX.out Wb hbb
              exact HNORM.out Wb g ats sv HMS2.out (hm.mono (by omega)) hA (own_keep HRW.out.1 fun k _ hk => hbb.block k hk) (by have := HRW.out.2; omega) ((Kp.of_below hbb).mono fun k hk => hk) (keeps_below hbb)
            | true =>
              obtain ⟨hl0, hl1, hr0, hr1⟩ := HPP.out hjn
              obtain ⟨jl, rfl⟩ : ∃ jl : Nat, nl = jl := ⟨nl.toNat, by omega⟩
              obtain ⟨jr, rfl⟩ : ∃ jr : Nat, nr = jr := ⟨nr.toNat, by omega⟩
              have ems := HMS.out
              rw [if_neg h1, if_neg (by simp), hjn, if_pos rfl, Int.toNat_natCast, Int.toNat_natCast] at ems
              have HMS2 := show Hid _ from ems
              have KJ2 := show Hid (∀ w : World, Calls Try.prog 51 #[.int .i64 nk] w fun e w' => e = .returned (.bool true) ∧ w' = w) from fun w => by
                have h' := KJ.out w nk
                rw [HKJ.out, hjn] at h'
                exact h'
              clear HMS ems HKJ HPP KJ
              gi_wp2_with fail
              refine ⟨trivial, (CallsIn.inRound l (callsIn_wide.2 KN.out)).mono ?_⟩
              rintro e W1 ⟨rfl, hb1⟩
              obtain ⟨Wa, hWa⟩ : ∃ Wa, Wa = W1.alloc (Obj.cells #[.int .i64 nk, .string ns, .int .i64 (jl : Int), .int .i64 (jr : Int)] 59) := ⟨_, rfl⟩
              have hba : Below W.heap.size W Wa := by rw [hWa]; exact hb1.alloc hb1.size _
              have hNa : N4 Wa W1.heap.size ⟨nk, ns, jl, jr⟩ := by rw [hWa]; exact heap_alloc_new _ _
              have e0 := (HCX.out Wa hba).1
              rw [hWa] at e0
              clear hcT hcC hlk KN
              gi_wp2_with fail
              rw [← hWa]
              clear hWa
              refine ⟨trivial, (CallsIn.inRound l (callsIn_wide.2 (KN2.out Wa hba))).mono ?_⟩
              rintro e W2 ⟨rfl, hb2⟩
              obtain ⟨Wb, hWb⟩ : ∃ Wb, Wb = W2.alloc (Obj.cells #[.int .i64 nk, .string ys, .int .i64 yl, .int .i64 yr] 59) := ⟨_, rfl⟩
              have hbb : Below W.heap.size W Wb := by rw [hWb]; exact (hba.trans (hb2.mono hba.size)).alloc (hba.trans (hb2.mono hba.size)).size _
              have hNb : N4 Wb W1.heap.size ⟨nk, ns, jl, jr⟩ := by rw [hWb]; exact (Below.heap_alloc _ _ _ (lt_of_block ((hb2.block _ (lt_of_block hNa)).trans hNa))).trans ((hb2.block _ (lt_of_block hNa)).trans hNa)
              have hNc : N4 Wb W2.heap.size ⟨nk, ys, yl, yr⟩ := by rw [hWb]; exact heap_alloc_new _ _
              have k0 := hNb.c0
              have k1 := hNc.c0
              simp only at k0 k1
              have hsb := hbb.size
              have hsz1 := hb1.size
              have hsz2 : W.heap.size ≤ W2.heap.size := by have h2 := hb2.size; have h3 := hba.size; omega
              clear e0 hNa HKB hba hb1 hb2 KN2 HTB HSX HAN HB9
              clear hlp hbl hid hpn hs2 hs3
              obtain ⟨_, hcCb, hcDb, hAb, hMab⟩ := HCX.out Wb hbb
              have k2 := hNb.c2
              have k3 := hNc.c2
              simp only at k2 k3
              have KS := show Hid (Calls Try.prog 49 #[.int .i64 (jl : Int), .int .i64 yl, .pointer (some ⟨w5.heap.size, 0, none⟩)] Wb fun e w' => e = .returned (.bool (Sb.fits g jl yl)) ∧ Ma w' w3.heap.size (1 + 2 * pre.length + 1) (Sb.updA g jl yl) ∧ Kp (fun k => k = w3.heap.size) Wb w') from stands_any Wb w5.heap.size w3.heap.size (1 + 2 * pre.length) g hcCb hMab (by omega) jl (by omega) yl
              have hMlt := hMab.lt
              have HAB := show Hid (Wb.heap[w5.heap.size + 2]? = some (.cells #[sv] 23 (0, 0)) ∧ Wb.cell? ⟨w5.heap.size, 0, none⟩ = some (.map (some w3.heap.size)) ∧ Wb.cell? ⟨w5.heap.size + 1, 0, none⟩ = some (.func (.func 49) #[] #[.pointer (some ⟨w5.heap.size, 0, none⟩)])) from ⟨hAb, hcCb, hcDb⟩
              have HNN := show Hid (N4 Wb W1.heap.size ⟨nk, ns, jl, jr⟩ ∧ N4 Wb W2.heap.size ⟨nk, ys, yl, yr⟩) from ⟨hNb, hNc⟩
              clear hAb hcCb hMab hNb hNc
              rw [hWb] at k0 k1 k2 k3 hcDb
              gi_wp2_with (refine ⟨trivial, ?_⟩; gi_at_call 51; refine (CallsIn.inRound l (callsIn_wide.2 (KJ2.out _))).mono ?_; rintro e w' ⟨rfl, rfl⟩)
              rw [← hWb]
              refine ⟨trivial, (CallsIn.inRound l (callsIn_wide.2 KS.out)).mono ?_⟩
              rintro e Wc ⟨rfl, hMac, hKc⟩
              have hsc := hKc.size
              have hkc : Kp (fun k => k = w3.heap.size ∨ W.heap.size ≤ k) W Wc := (Kp.of_below hbb).then (hKc.mono fun k e => Or.inl e)
              have hkeepc : KeepsFrom w9.heap.size W Wc := (keeps_below hbb).trans (keeps_kp hKc fun k e => by omega)
              clear KS k0 k1 k2 k3 hcDb
              cases hf1 : Sb.fits g jl yl with
              | false =>
                obtain ⟨⟨a1, a2, a3⟩, z1, z2, z3⟩ := HRB.out Wc hkc
                have HMS3 := show Hid ((Sb.mstep t (g, ats, true) j).2.2 = false) from by
                  show (Sb.mstep t (g, ats, true) j).2.2 = false
                  rw [HMS2.out, hf1]
                  rfl
                clear HMS2 HNORM HRW HAB HNN hMac
                gi_wp2_with fail
                refine ⟨fun _ h => (by cases h), ?_⟩
                gi_wp2_with fail
                all_goals (first | exact undef_no (by assumption) | skip)
                exact HFIN.out Wc hkc hkeepc HMS3.out
              | true =>
                have hms := HMS2.out
                rw [hf1, if_pos rfl] at hms
                have HMS3 := show Hid _ from hms
                obtain ⟨hAb, hcCb, hcDb⟩ := HAB.out
                have hcCc : Wc.cell? ⟨w5.heap.size, 0, none⟩ = some (.map (some w3.heap.size)) := hKc.cell hcCb (fun e => by have e' : w5.heap.size = w3.heap.size := e; omega)
                have hcDc : Wc.cell? ⟨w5.heap.size + 1, 0, none⟩ = some (.func (.func 49) #[] #[.pointer (some ⟨w5.heap.size, 0, none⟩)]) := hKc.cell hcDb (fun e => by have e' : w5.heap.size + 1 = w3.heap.size := e; omega)
                have hNc1 : N4 Wc W1.heap.size ⟨nk, ns, jl, jr⟩ := (hKc.block _ (lt_of_block HNN.out.1) (by omega)).trans HNN.out.1
                have hNc2 : N4 Wc W2.heap.size ⟨nk, ys, yl, yr⟩ := (hKc.block _ (lt_of_block HNN.out.2) (by omega)).trans HNN.out.2
                have k2 := hNc1.c3
                have k3 := hNc2.c3
                simp only at k2 k3
                have KS2 := show Hid (Calls Try.prog 49 #[.int .i64 (jr : Int), .int .i64 yr, .pointer (some ⟨w5.heap.size, 0, none⟩)] Wc fun e w' => e = .returned (.bool (Sb.fits (Sb.updA g jl yl) jr yr)) ∧ Ma w' w3.heap.size (1 + 2 * pre.length + 1 + 1) (Sb.updA (Sb.updA g jl yl) jr yr) ∧ Kp (fun k => k = w3.heap.size) Wc w') from stands_any Wc w5.heap.size w3.heap.size (1 + 2 * pre.length + 1) (Sb.updA g jl yl) hcCc hMac (by omega) jr (by omega) yr
                clear HMS2 hms hNc1 hNc2 hcCc hMac HAB HNN hcCb hcDb
                gi_wp2_with fail
                refine ⟨trivial, (CallsIn.inRound l (callsIn_wide.2 KS2.out)).mono ?_⟩
                rintro e Wd ⟨rfl, hMad, hKd⟩
                have hsd := hKd.size
                have hkd : Kp (fun k => k = w3.heap.size ∨ W.heap.size ≤ k) W Wd := hkc.then (hKd.mono fun k e => Or.inl e)
                have hkeepd : KeepsFrom w9.heap.size W Wd := hkeepc.trans (keeps_kp hKd fun k e => by omega)
                clear KS2 k2 k3 hcDc
                cases hf2 : Sb.fits (Sb.updA g jl yl) jr yr with
                | false =>
                  obtain ⟨⟨a1, a2, a3⟩, z1, z2, z3⟩ := HRB.out Wd hkd
                  have HMS4 := show Hid ((Sb.mstep t (g, ats, true) j).2.2 = false) from by
                    show (Sb.mstep t (g, ats, true) j).2.2 = false
                    rw [HMS3.out, hf2]
                  clear HMS3 HNORM HRW hMad hAb
                  gi_wp2_with fail
                  exact HFIN.out Wd hkd hkeepd HMS4.out
                | true =>
                  have hms := HMS3.out
                  rw [hf2] at hms
                  have HMS4 := show Hid _ from hms
                  have HAD := show Hid (Wd.heap[w5.heap.size + 2]? = some (.cells #[sv] 23 (0, 0))) from (hKd.block _ (by have := lt_of_block hAb; omega) (by omega)).trans ((hKc.block _ (lt_of_block hAb) (by omega)).trans hAb)
                  have HMD := show Hid _ from hMad
                  have HOD := show Hid (Wd.ownsRow w9.heap.size 39 2 sv ats.length (cellsH ats)) from own_keep HRW.out.1 fun k h1 hk => hkd.block k hk fun e => by
                    have := (own_ge HRW.out.1 k h1).1
                    omega
                  clear HMS3 hms hMad hAb
                  gi_wp2_with fail
                  exact HNORM.out Wd _ ats sv HMS4.out (by rw [Nat.add_assoc] at HMD; exact HMD.out) HAD.out HOD.out (by have := HRW.out.2; omega) (hkd.mono fun k hk => by omega) hkeepd
          · have hk12 : (nk != yk) = true := by simpa using h2
            have ems := HMS.out
            rw [if_neg h1, if_pos h2] at ems
            have HMS2 := show Hid ((Sb.mstep t (g, ats, true) j).2.2 = false) from by
              show (Sb.mstep t (g, ats, true) j).2.2 = false
              rw [ems]
            clear HMS ems HKJ HPP KJ HNORM HRW
            gi_wp2_with fail
            refine ⟨trivial, (CallsIn.inRound l (callsIn_wide.2 KN.out)).mono ?_⟩
            rintro e W1 ⟨rfl, hb1⟩
            obtain ⟨Wa, hWa⟩ : ∃ Wa, Wa = W1.alloc (Obj.cells #[.int .i64 nk, .string ns, .int .i64 nl, .int .i64 nr] 59) := ⟨_, rfl⟩
            have hba : Below W.heap.size W Wa := by rw [hWa]; exact hb1.alloc hb1.size _
            have hNa : N4 Wa W1.heap.size ⟨nk, ns, nl, nr⟩ := by rw [hWa]; exact heap_alloc_new _ _
            have e0 := (HCX.out Wa hba).1
            rw [hWa] at e0
            clear hcT hcC hlk KN
            gi_wp2_with fail
            rw [← hWa]
            clear hWa
            refine ⟨trivial, (CallsIn.inRound l (callsIn_wide.2 (KN2.out Wa hba))).mono ?_⟩
            rintro e W2 ⟨rfl, hb2⟩
            obtain ⟨Wb, hWb⟩ : ∃ Wb, Wb = W2.alloc (Obj.cells #[.int .i64 yk, .string ys, .int .i64 yl, .int .i64 yr] 59) := ⟨_, rfl⟩
            have hbb : Below W.heap.size W Wb := by rw [hWb]; exact (hba.trans (hb2.mono hba.size)).alloc (hba.trans (hb2.mono hba.size)).size _
            have hNb : N4 Wb W1.heap.size ⟨nk, ns, nl, nr⟩ := by rw [hWb]; exact (Below.heap_alloc _ _ _ (lt_of_block ((hb2.block _ (lt_of_block hNa)).trans hNa))).trans ((hb2.block _ (lt_of_block hNa)).trans hNa)
            have hNc : N4 Wb W2.heap.size ⟨yk, ys, yl, yr⟩ := by rw [hWb]; exact heap_alloc_new _ _
            have k0 := hNb.c0
            have k1 := hNc.c0
            simp only at k0 k1
            have hsb := hbb.size
            have hsz1 := hb1.size
            have hsz2 : W.heap.size ≤ W2.heap.size := by have h2 := hb2.size; have h3 := hba.size; omega
            clear e0 hNa HKB hba hb1 hb2 KN2 HTB HSX HAN HB9
            clear hlp hbl hid hpn hs2 hs3
            obtain ⟨⟨a1, a2, a3⟩, z1, z2, z3⟩ := HRB.out Wb ((Kp.of_below hbb).mono fun k hk => hk)
            rw [hWb] at k0 k1 a1 a2 a3 z1 z2 z3
            gi_wp2_with fail
            rw [← hWb]
            exact HFIN.out Wb (Kp.of_below hbb) (keeps_below hbb) HMS2.out
    case done =>
      rintro D ys W hD rfl ⟨hg, _, ⟨sv, hA, hrow⟩, hle, hKB⟩ hK
      have hv : vals (mkL (Fm.below t pn) hlt).reverse = (Fm.below t pn).reverse := by unfold vals; rw [List.map_reverse, mkL_map]
      rw [hv] at hg hrow hle
      have hdist := match_dist hok hpn hid hg
      have hlen2 : (Sb.mrun t (Fm.below t pn).reverse pn id).2.1.length ≤ 1024 := by
        rw [List.length_reverse, mkL_len] at hle
        omega
      have han := HAN.out
      rw [if_pos hg] at han
      obtain ⟨p1, c1, hsv, hS⟩ := sortH_any W hrow hdist hlen2
      have HGE := show Hid (∀ k, sv.ownBlock = some k → w9.heap.size ≤ k ∧ ∃ cur, W.heap[k]? = some (.cells cur 39 (0, 0))) from own_ge hrow
      generalize (Sb.mrun t (Fm.below t pn).reverse pn id).2.1 = ats at *
      have KS := show Hid (Calls Try.prog 52 #[.slice p1 ats.length c1, .func (.func 53) #[] #[]] W fun e w' => e = .returned (.tuple #[]) ∧ IsH w' (.slice p1 ats.length c1) (srt ats) ∧ W.grownBy w' sv.ownBlock) from hS
      have k1 : W.cell? ⟨w5.heap.size + 2, 0, none⟩ = some (.slice p1 ats.length c1) := by rw [← hsv]; exact cell_of_row _ _ 0 _ _ _ hA
      have hWs := hKB.size
      have HW := show Hid (∀ W2, W.grownBy W2 sv.ownBlock → W2.cell? ⟨w5.heap.size + 2, 0, none⟩ = some (.slice p1 ats.length c1) ∧ (W2.cell? ⟨w.heap.size + 1, 0, none⟩ = some (.slice none 0 0) ∧ W2.cell? ⟨w.heap.size + 2, 0, none⟩ = some (.bool false) ∧ W2.cell? ⟨w.heap.size + 3, 0, none⟩ = some (.int .i64 0)) ∧ W2.frozen? ⟨w.heap.size + 1, 0, none⟩ = false ∧ W2.frozen? ⟨w.heap.size + 2, 0, none⟩ = false ∧ W2.frozen? ⟨w.heap.size + 3, 0, none⟩ = false ∧ W2.heap[D]? = some (.deferred (some []))) from fun W2 hgr => by
        obtain ⟨⟨a1, a2, a3⟩, z1, z2, z3⟩ := HRX.out W hKB
        have hkg : Kp (fun k => w9.heap.size ≤ k) W W2 := ⟨hgr.os, hgr.tape, hgr.output, hgr.size, fun k hk hn => hgr.block k hk fun e => hn (HGE.out k e.symm).1⟩
        have hfz : ∀ k, 1 ≤ k → k ≤ 3 → W.frozen? ⟨w.heap.size + k, 0, none⟩ = false → W2.frozen? ⟨w.heap.size + k, 0, none⟩ = false := fun k h1 h3 hz => by
          rw [← hz]
          exact World.frozen?_of_block (a := ⟨w.heap.size + k, 0, none⟩) (hkg.block (w.heap.size + k) (by omega) fun h => by omega)
        refine ⟨hkg.cell k1 (fun h => by omega), ⟨hkg.cell a1 (fun h => by omega), hkg.cell a2 (fun h => by omega), hkg.cell a3 (fun h => by omega)⟩, hfz 1 (by omega) (by omega) z1, hfz 2 (by omega) (by omega) z2, hfz 3 (by omega) (by omega) z3, ?_⟩
        exact (hgr.block D (lt_of_block hK) (fun e => by
          obtain ⟨_, cur, hc⟩ := HGE.out D e.symm
          rw [hc] at hK
          cases hK)).trans hK
      have HB := show Hid (Below w.heap.size w W) from HB9.out.trans (hKB.below (by omega) (fun k hk => by omega))
      have HAN2 := show Hid (ans = (srt ats, true, 0)) from han
      have HOWN := show Hid (∀ k, p1 = some k → sv.ownBlock = some k.block) from fun k hk => by
        rcases hrow.2 with ⟨hn, _⟩ | ⟨g, cap, cur, hn, _⟩
        · obtain ⟨e1, _, _⟩ := Value.slice.inj (hsv.symm.trans hn)
          rw [e1] at hk
          cases hk
        · obtain ⟨e1, _, _⟩ := Value.slice.inj (hsv.symm.trans hn)
          rw [e1] at hk
          cases hk
          rw [hn]
          rfl
      clear hS hA hrow hsv han HAN hg hdist hle hKB HSX HRX hBk HB9 hv HTB hMa9 hcA
      gi_wp2_with (refine ⟨trivial, ?_⟩; gi_at_call 52; refine (callsIn_wide.2 KS.out).mono ?_; rintro e W2 ⟨rfl, hI2, hgr⟩; obtain ⟨a0, ⟨a1, a2, a3⟩, z1, z2, z3, zD⟩ := HW.out W2 hgr)
      refine ⟨by simp, .inl ⟨_, _, rfl, run_takeDeferred (w := ((W2.setCell ⟨w.heap.size + 1, 0, none⟩ (.slice p1 ats.length c1)).setCell ⟨w.heap.size + 2, 0, none⟩ (.bool true)).setCell ⟨w.heap.size + 3, 0, none⟩ (.int .i64 0)) ?_, ?_⟩⟩
      · exact (Go.Deep.blk_setCell_other _ _ _ _ (by show D ≠ w.heap.size + 3; omega)).trans ((Go.Deep.blk_setCell_other _ _ _ _ (by show D ≠ w.heap.size + 2; omega)).trans ((Go.Deep.blk_setCell_other _ _ _ _ (by show D ≠ w.heap.size + 1; omega)).trans zD))
      · obtain ⟨q1, q2, q3, q4⟩ := ret3 (x := .slice p1 ats.length c1) (y := .bool true) (z := .int .i64 0) a1 a2 a3
        generalize ((W2.setCell ⟨w.heap.size + 1, 0, none⟩ (.slice p1 ats.length c1)).setCell ⟨w.heap.size + 2, 0, none⟩ (.bool true)).setCell ⟨w.heap.size + 3, 0, none⟩ (.int .i64 0) = W3 at *
        have hcell : ∀ {k : Nat} {x : Value}, k < w9.heap.size → W3.cell? ⟨k, 0, none⟩ = some x → ∀ o : Obj, (W3.putObj D o).cell? ⟨k, 0, none⟩ = some x := fun {k x} hk hc o => by
          rw [← hc]
          exact World.cell?_of_block (a := ⟨k, 0, none⟩) (World.putObj_heap_other (by show k ≠ D; omega))
        have hb2 : Below w.heap.size w W2 := HB.out.grown hgr HB.out.size (fun k e => by have := (HGE.out k e).1; omega)
        have hb3 : Below w.heap.size w W3 := hb2.trans (q4.below hb2.size (fun k hk => by omega))
        refine ⟨_, res_match _ _ ⟨w.heap.size + 1, 0, none⟩ ⟨w.heap.size + 2, 0, none⟩ ⟨w.heap.size + 3, 0, none⟩ (.slice p1 ats.length c1) (.bool true) (.int .i64 0) rfl rfl rfl (hcell (by omega) q1 _) (hcell (by omega) q2 _) (hcell (by omega) q3 _), ?_⟩
        rw [HAN2.out]
        refine ⟨_, rfl, ?_, fun k hk => ?_, hb3.grown (grownBy_putObj' W3 D _) hb3.size (fun k e => by cases e; omega)⟩
        rotate_left
        · cases hp1 : p1 with
          | none => rw [hp1] at hk; cases hk
          | some ad =>
            rw [hp1] at hk
            have := (HGE.out _ (HOWN.out ad hp1)).1
            cases hk
            omega
        obtain ⟨p, c, hv, h1, h2⟩ := hI2
        refine ⟨p, c, hv, h1, fun k hk => ?_⟩
        obtain ⟨gb, go, hp, e1, e2⟩ := h2 k hk
        have hpo := HOWN.out ⟨gb, go, none⟩ ((Value.slice.inj hv).1.trans hp)
        have hge := HGE.out gb hpo
        have hblk : ∀ o : Obj, (W3.putObj D o).heap[gb]? = W2.heap[gb]? := fun o => (World.putObj_heap_other (fun e => by
          obtain ⟨cur, hc⟩ := hge.2
          have e' : gb = D := e
          rw [e', hK] at hc
          cases hc)).trans (q4.block gb (World.block_lt_of_cell? W2 _ e1) (fun h => by omega))
        exact ⟨gb, go, hp, (World.cell?_of_block (a := ⟨gb, _, none⟩) (hblk _)).trans e1, (World.cell?_of_block (a := ⟨gb, _, none⟩) (hblk _)).trans e2⟩
    case stop =>
      rintro D pre W hD hpre ⟨hbad, b1, b2, b3, hKJ⟩ hK
      have hbad2 : (Sb.mrun t (Fm.below t pn).reverse pn id).2.2 = false := by
        obtain ⟨suf, hsuf⟩ := hpre
        have hv : vals (mkL (Fm.below t pn) hlt).reverse = (Fm.below t pn).reverse := by unfold vals; rw [List.map_reverse, mkL_map]
        rw [← hv, ← hsuf]
        unfold vals
        rw [List.map_append]
        unfold Sb.mrun
        rw [List.foldl_append]
        have h' : (Sb.mrun t (vals pre) pn id).2.2 = false := hbad
        unfold Sb.mrun vals at h'
        rw [Sb.mfold_bad h']
        exact h'
      have han := HAN.out
      rw [if_neg (by rw [hbad2]; simp)] at han
      subst han
      have hlD := lt_of_block hK
      have hD1 : ∀ k, k < w9.heap.size → k ≠ D := fun k hk e => by omega
      have hcell : ∀ {k : Nat} {x : Value}, k < w9.heap.size → W.cell? ⟨k, 0, none⟩ = some x → ∀ o : Obj, (W.putObj D o).cell? ⟨k, 0, none⟩ = some x := fun hk hc o => by
        rw [← hc]
        exact World.cell?_of_block (a := ⟨_, 0, none⟩) (World.putObj_heap_other (hD1 _ hk))
      have HB := show Below w.heap.size w W from HB9.out.trans (hKJ.below (by omega) (fun k hk => by omega))
      gi_wp2
      refine ⟨by simp, .inl ⟨_, _, rfl, run_takeDeferred hK, ?_⟩⟩
      refine ⟨_, res_match _ _ ⟨w.heap.size + 1, 0, none⟩ ⟨w.heap.size + 2, 0, none⟩ ⟨w.heap.size + 3, 0, none⟩ (.slice none 0 0) (.bool false) (.int .i64 0) rfl rfl rfl (hcell (by omega) b1 _) (hcell (by omega) b2 _) (hcell (by omega) b3 _), _, rfl, isH_nil _, (fun k hk => by cases hk), ?_⟩
      exact HB.grown (grownBy_putObj' W D _) HB.size (fun k e => by cases e; omega)
  · subst h31
    have ea := HMR.out.1 rfl
    subst ea
    clear HMR HR hw0
    gi_wp2_with (refine ⟨trivial, ?_⟩; gi_at_call 35; rw [← hw1]; refine (callsIn_wide.2 KR.out).mono ?_; rintro e w2 ⟨rfl, hb2⟩; obtain ⟨⟨d0, d1, d2, d3⟩, f1, f2, f3⟩ := HCC.out w2 hb2)
    refine ⟨_, res_match _ _ ⟨w.heap.size + 1, 0, none⟩ ⟨w.heap.size + 2, 0, none⟩ ⟨w.heap.size + 3, 0, none⟩ (.slice none 0 0) (.bool false) (.int .i64 31) rfl rfl rfl ?_ ?_ ?_, _, rfl, isH_nil _, (fun k hk => by cases hk), ?_⟩
    · simp [go_sem, d1]
    · simp [go_sem, d2]
    · simp [go_sem, d3]
    · exact (((hB1.trans (hb2.mono hB1.size)).setCell (by show w.heap.size ≤ w.heap.size + 1; omega) _).setCell (by show w.heap.size ≤ w.heap.size + 1 + 1; omega) _).setCell (by show w.heap.size ≤ w.heap.size + 1 + 1 + 1; omega) _
end
end Go.Proofs.Ythfedlodikbdgaa
