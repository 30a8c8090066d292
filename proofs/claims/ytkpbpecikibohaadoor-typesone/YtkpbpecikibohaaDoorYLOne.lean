/-
  The law TypesOne: what is told is what alone is checked; a hypothesis more, ahead of the others. The tables of shapes and of the errors' type stand.
-/
import Derived.Test.YtkpbpecikibohaaDoorYHeads
import Derived.Test.YtkpbpecikibohaaDoorYOneP
import Derived.Test.YtkpbpecikibohaaDoorZBoth
namespace Go.Proofs.YtkpbpecikibohaaDoor.Ya
open Go.RowKit Go.Maps
open Fm (Nd)
open Ty (Tm Hs env aheadF whF inF)
set_option linter.unusedSimpArgs false

def hcs : Hs → List Value
  | [] => []
  | h :: r => .string h.1 :: .int .i64 h.2 :: hcs r
theorem hcs_len : ∀ l : Hs, (hcs l).length = l.length * 2
  | [] => rfl
  | h :: r => by simp [hcs, hcs_len r]; omega
theorem hcs_at : ∀ (l : Hs) (k : Nat) (hk : k < l.length), (hcs l)[k * 2]? = some (.string l[k].1) ∧ (hcs l)[k * 2 + 1]? = some (.int .i64 l[k].2)
  | [], _, hk => by simp at hk
  | h :: r, 0, _ => ⟨rfl, rfl⟩
  | h :: r, k + 1, hk => by
    have := hcs_at r k (by simpa using hk)
    rw [show (k + 1) * 2 = k * 2 + 1 + 1 by omega]
    exact this
theorem hcs_one : ∀ (l : Hs), ∀ u ∈ hcs l, u.oneCell' = true
  | [], u, hu => by cases hu
  | h :: r, u, hu => by
    simp only [hcs, List.mem_cons] at hu
    rcases hu with rfl | rfl | hu
    · rfl
    · rfl
    · exact hcs_one r u hu
theorem src_h {w : World} {L : Nat} {a : Addr} {n c : Nat} {hs : Hs} (h : IsH w L (.slice (some a) n c) hs) : ∀ j u, (hcs hs)[j]? = some u → w.cell? (a.add j) = some u := by
  intro j u hj
  obtain ⟨p, c', hv, hl, hc⟩ := h
  have hj2 : j < hs.length * 2 := by
    obtain ⟨hlt, _⟩ := List.getElem?_eq_some_iff.1 hj
    rw [hcs_len] at hlt
    exact hlt
  obtain ⟨rfl, _, _⟩ := Value.slice.inj hv
  obtain ⟨k, hk⟩ : ∃ k, j = k * 2 ∨ j = k * 2 + 1 := ⟨j / 2, by omega⟩
  have hkl : k < hs.length := by omega
  obtain ⟨b, o, _, hp, h1, h2⟩ := hc k hkl
  obtain rfl := Option.some.inj hp
  have hat := hcs_at hs k hkl
  have hadd : (⟨b, o, none⟩ : Addr).add j = ⟨b, o + j, none⟩ := by unfold Addr.add; split <;> simp_all
  rw [hadd]
  rcases hk with rfl | rfl
  · rw [hat.1] at hj
    rw [h1, ← hj]
  · rw [hat.2] at hj
    rw [← hj, ← h2, Nat.add_assoc]
theorem isH_own {w : World} {B : Nat} {v : Value} {l : Hs} (h : w.ownsRow B 29 2 v l.length (hcs l)) (hl : l.length ≤ 5864062014639) : IsH w w.heap.size v l := by
  obtain ⟨_, ⟨rfl, h0⟩ | ⟨g, cap, cur, rfl, _, hb, hle, _, hsz, ht⟩⟩ := h
  · obtain rfl := List.eq_nil_of_length_eq_zero h0
    exact isH_nil _ _
  · refine ⟨_, cap, rfl, hl, fun k hk => ⟨g, 0, lt_of_block hb, rfl, ?_, ?_⟩⟩
    · have h1 := (hcs_at l k hk).1
      rw [← ht, List.getElem?_take, if_pos (by omega)] at h1
      rw [cell_of_row _ _ _ _ _ _ hb, Nat.zero_add]
      simpa using h1
    · have h1 := (hcs_at l k hk).2
      rw [← ht, List.getElem?_take, if_pos (by omega)] at h1
      rw [cell_of_row _ _ _ _ _ _ hb, Nat.zero_add]
      simpa using h1
theorem info_hyp : (Tryd.prog.info? 29).map (fun i => (i.zero, i.size, i.bytes)) = some (some (.agg #[.string ⟨#[]⟩, .int .i64 0]), 2, 24) := by kernel_rfl
theorem goodH_cons {hs : Hs} {n : ByteArray} {f : Int} (hG : GoodH hs) (h1 : n.size ≤ 140737488351232) (h2 : Fm.i64 f) : GoodH ((n, f) :: hs) := by
  intro h hh
  rcases List.mem_cons.1 hh with rfl | hh
  · exact ⟨h1, h2⟩
  · exact hG h hh
structure OnH (w w' : World) (B M : Nat) (v : Value) (C : Nat) (u : Value) (t : List Nd) (bx bm : Nat) (tx tm : Array Value) : Prop where
  tb : Tb w' B M v t
  tr : Tr w' C u t
  cx : Cl w' bx tx 27
  cm : Cl w' bm tm 29
  be : Below w.heap.size w w'
theorem OnH.later {w w' w2 : World} {B M C bx bm : Nat} {v u : Value} {t : List Nd} {tx tm : Array Value} (h : OnH w w' B M v C u t bx bm tx tm) (hb : Below w'.heap.size w' w2) : OnH w w2 B M v C u t bx bm tx tm :=
  ⟨h.tb.later hb, h.tr.later hb, Cl.later h.cx hb, Cl.later h.cm hb, h.be.trans (hb.mono h.be.size)⟩

set_option maxRecDepth 100000 in
set_option maxHeartbeats 8000000 in
theorem typesOne_any (w : World) {rv : Value} {rs : List Nd} (hR : IsR w rv rs) (hg : ∀ n ∈ rs, Fm.good n) (hl : rs.length * 40 ≤ 140737488351232) (hv : rv = .slice none 0 0 ∨ ∃ a n c, rv = .slice (some a) n c)
    {hp : Option Addr} {hn hc : Nat} {hs : Hs} (hH : IsH w w.heap.size (.slice hp hn hc) hs) (hG : GoodH hs) (hL : hs.length * 24 ≤ 140737488351232) (hnil : hp = none → hc = 0)
    {sv : Value} {x : Tm} (hK : Kid w w.heap.size x sv) (hX : Gt x) (id : Int) (nm : ByteArray) (fo : Int) (hnm : nm.size ≤ 140737488351232) (hfo : Fm.i64 fo) (hS : Std w) :
    Calls Tryd.prog 3 #[rv, .slice hp hn hc, tmV x sv, .int .i64 id, .agg #[.string nm, .int .i64 fo]] w fun e w' => e = .returned (.bool true) ∧ Below w.heap.size w w' := by
  obtain ⟨sp, sn, sc, rfl⟩ := hK.form
  have hlen : hn = hs.length := by
    obtain ⟨p, c, hv, _⟩ := hH
    exact (Value.slice.inj hv).2.1
  subst hlen
  have KB := show Hid (∀ W, Below w.heap.size w W → Calls Tryd.prog 5 #[rv] W fun e w' => IsBoth W w' e (Fm.fr [] rs)) from fun W hW => both_any W rv rs (hR.later hW) hg hl hv
  have KE := show Hid (∀ W, Below w.heap.size w W → Calls Tryd.prog 7 #[] W fun e w' => e = .returned (.bool true) ∧ Below W.heap.size W w') from fun W hW => heads13_any W (hS.later hW)
  have KI := show Hid (∀ W B M v t, Below w.heap.size w W → Tb W B M v t → Calls Tryd.prog 8 #[.pointer (some ⟨B, 0, none⟩), .slice hp hs.length hc, tmV x (.slice sp sn sc)] W fun r w' => r = .returned (.tuple #[.int .i64 (inF t hs x).1, .int .i64 (inF t hs x).2]) ∧ Below W.heap.size W w') from fun W B M v t hW hT => infer_any W hT (hH.up hW) hG (hK.up hW) hX (hS.later hW)
  have KC := show Hid (∀ W B M v t i, Below w.heap.size w W → Tb W B M v t → Calls Tryd.prog 9 #[.pointer (some ⟨B, 0, none⟩), .slice hp hs.length hc, tmV x (.slice sp sn sc), .int .i64 i] W fun r w' => r = .returned (.int .i64 (whF t hs x i).2) ∧ Below W.heap.size W w') from fun W B M v t i hW hT => check_any W hT (hH.up hW) hG (hK.up hW) hX (hS.later hW) i
  have KM := show Hid (∀ W B M v t hv2, Below w.heap.size w W → Tb W B M v t → IsH W W.heap.size hv2 ((nm, fo) :: hs) → Calls Tryd.prog 9 #[.pointer (some ⟨B, 0, none⟩), hv2, tmV x (.slice sp sn sc), .int .i64 id] W fun r w' => r = .returned (.int .i64 (whF t ((nm, fo) :: hs) x id).2) ∧ Below W.heap.size W w') from fun W B M v t hv2 hW hT hI => check_any W hT hI (goodH_cons hG hnm hfo) (hK.up hW) hX (hS.later hW) id
  have LL := show Hid (∀ t, Fm.Ok t → ∀ a, inF t hs x = (a, 0) → (whF t hs x a).2 = 0 ∧ ∀ i, Fm.has t i = true → ((whF t hs x i).2 = 0 ↔ i = a)) from fun t ht a h => Ty.law_one ht h
  have LM := show Hid (∀ t, Fm.has t fo = true → (whF t hs x id).2 = (whF t ((nm, fo) :: hs) x id).2 ∨ (whF t hs x id).2 = 131) from fun t h => Ty.law_more (mo := (nm, fo)) h
  have HI := show Hid (IsH w w.heap.size (.slice hp hs.length hc) hs) from hH
  obtain ⟨i0, hi, hz0, hz1, hz2⟩ := info_parts info_hyp
  clear hR hg hl hv hH hG hK hX hS hnm hfo
  unfold tmV at KI KC KM ⊢
  obtain ⟨nh, hnh⟩ : ∃ nh, nh = hs.length := ⟨_, rfl⟩
  rw [← hnh] at KI KC HI hL ⊢
  have HN := show Hid (nh = hs.length) from hnh
  clear hnh
  generalize Fm.fr [] rs = ans at *
  generalize x.k = xk at *
  generalize x.n = xn at *
  generalize x.o = xo at *
  generalize x.f = xf at *
  cases hp with
  | none =>
    have hz : hs = [] := by
      cases hs with
      | nil => rfl
      | cons h r =>
        obtain ⟨p, c, hv, _, hq⟩ := HI.out
        obtain ⟨b, o, _, hp, _⟩ := hq 0 (by simp)
        rw [(Value.slice.inj hv).1.symm] at hp
        cases hp
    have h0 : nh = 0 := by rw [HN.out, hz]; rfl
    have hc0 := hnil rfl
    subst h0
    subst hc0
    have HZ := show Hid (hs = []) from hz
    clear hz HI HN hnil
    go_enter Tryd.func3, Tryd.ntmps3
    go_wp2_with (refine wpList_box 27 _ rfl _ rfl rfl ?_)
    intro w1 bx hn1
    go_wp2_with (refine wpList_box 29 _ rfl _ rfl rfl ?_)
    intro w2 bm hn2
    have HX2 := show Hid (Cl w2 bx #[.int .i64 xk, .string xn, .string xo, .int .i64 xf, .slice sp sn sc] 27 ∧ Cl w2 bm #[.string nm, .int .i64 fo] 29 ∧ Below w.heap.size w w2) from ⟨Cl.later (show Cl w1 bx _ _ from hn1.blk) hn2.bel, hn2.blk, hn1.bel.trans (hn2.bel.mono hn1.bel.size)⟩
    clear hn1 hn2
    go_wp2_with fail
    refine Calls.mono (KB.out w2 HX2.out.2.2) ?_
    rintro e w3 (⟨h0, B, M, v, C, u, rfl, hP⟩ | ⟨h0, rfl, hb3⟩)
    case inr =>
      have KH := show Hid _ from KE.out w3 (HX2.out.2.2.trans (hb3.mono HX2.out.2.2.size))
      have HB3 := show Hid (Below w.heap.size w w3) from HX2.out.2.2.trans (hb3.mono HX2.out.2.2.size)
      clear hb3 HX2 KB KE KI KC KM LL LM HZ
      go_wp2_with fail
      refine Calls.mono KH.out ?_
      rintro e w4 ⟨rfl, hb4⟩
      have HB4 := show Hid (Below w.heap.size w w4) from HB3.out.trans (hb4.mono HB3.out.size)
      clear hb4 KH
      go_wp2_with fail
      go_ret
      exact ⟨rfl, HB4.out⟩
    obtain ⟨a1, t⟩ := ans
    simp only at h0 hP
    subst h0
    have H3 := show Hid (OnH w w3 B M v C u t bx bm #[.int .i64 xk, .string xn, .string xo, .int .i64 xf, .slice sp sn sc] #[.string nm, .int .i64 fo]) from ⟨hP.tb, hP.tr, Cl.later HX2.out.1 hP.bel, Cl.later HX2.out.2.1 hP.bel, HX2.out.2.2.trans (hP.bel.mono HX2.out.2.2.size)⟩
    clear hP HX2 KB
    have KA1 := show Hid _ from rhas_any w3 H3.out.tr id
    have KA2 := show Hid _ from rhas_any w3 H3.out.tr fo
    have KH := show Hid _ from KE.out w3 H3.out.be
    have m1 : w3.cell? ⟨bm, 1, none⟩ = some (.int .i64 fo) := H3.out.cm.cell 1
    cases hid : Fm.has t id
    · rw [hid] at KA1
      clear KA2 KE KI KC KM LL LM HZ m1
      go_wp2_with fail
      refine Calls.mono KA1.out ?_
      rintro e w4 ⟨rfl, hw4⟩
      subst w4
      clear KA1
      go_wp2_with fail
      refine Calls.mono KH.out ?_
      rintro e w4 ⟨rfl, hb4⟩
      have HB4 := show Hid (Below w.heap.size w w4) from H3.out.be.trans (hb4.mono H3.out.be.size)
      clear hb4 KH H3
      go_wp2_with fail
      go_ret
      exact ⟨rfl, HB4.out⟩
    cases hmo : Fm.has t fo
    · rw [hid] at KA1
      rw [hmo] at KA2
      clear KE KI KC KM LL LM HZ
      go_wp2_with fail
      refine Calls.mono KA1.out ?_
      rintro e w4 ⟨rfl, hw4⟩
      subst w4
      clear KA1
      go_wp2_with fail
      refine Calls.mono KA2.out ?_
      rintro e w4 ⟨rfl, hw4⟩
      subst w4
      clear KA2 m1
      go_wp2_with fail
      refine Calls.mono KH.out ?_
      rintro e w4 ⟨rfl, hb4⟩
      have HB4 := show Hid (Below w.heap.size w w4) from H3.out.be.trans (hb4.mono H3.out.be.size)
      clear hb4 KH H3
      go_wp2_with fail
      go_ret
      exact ⟨rfl, HB4.out⟩
    have L2 := show Hid _ from LM.out t hmo
    have L1 := show Hid _ from LL.out t H3.out.tb.ok
    have KI3 := show Hid _ from KI.out w3 B M v t H3.out.be H3.out.tb
    have KC2 := show Hid (∀ W i, Below w.heap.size w W → Tb W B M v t → _) from fun W i hW hT => KC.out W B M v t i hW hT
    have KM2 := show Hid (∀ W hv2, Below w.heap.size w W → Tb W B M v t → IsH W W.heap.size hv2 ((nm, fo) :: hs) → _) from fun W hv2 hW hT hI => KM.out W B M v t hv2 hW hT hI
    rw [hid] at KA1
    rw [hmo] at KA2
    have HID := show Hid (Fm.has t id = true) from hid
    clear hid hmo LM LL KI KC KM KH
    generalize (whF t ((nm, fo) :: hs) x id).2 = dd at *
    generalize inF t hs x = ia at *
    obtain ⟨pa, pe⟩ := ia
    simp only at KI3
    go_wp2_with fail
    refine Calls.mono KA1.out ?_
    rintro e w4 ⟨rfl, hw4⟩
    subst w4
    clear KA1
    go_wp2_with fail
    refine Calls.mono KA2.out ?_
    rintro e w4 ⟨rfl, hw4⟩
    subst w4
    clear KA2 m1
    go_wp2_with (refine wpList_ldw 27 _ rfl bx rfl _ _ H3.out.cx rfl Tryd.underlying27 sizeTm rfl ?_)
    refine Calls.mono KI3.out ?_
    rintro e w5 ⟨rfl, hb5⟩
    have H5 := show Hid _ from H3.out.later hb5
    clear hb5 KI3 H3
    by_cases hpe : pe = 0
    · subst hpe
      obtain ⟨q1, q2⟩ := L1.out pa rfl
      have q3 := q2 id HID.out
      have KCa := show Hid _ from KC2.out w5 pa H5.out.be H5.out.tb
      rw [q1] at KCa
      clear q1 q2 L1 HID
      go_wp2_with (refine wpList_ldw 27 _ rfl bx rfl _ _ H5.out.cx rfl Tryd.underlying27 sizeTm rfl ?_)
      refine Calls.mono KCa.out ?_
      rintro e w6 ⟨rfl, hb6⟩
      have H6 := show Hid _ from H5.out.later hb6
      clear hb6 KCa H5
      have KCi := show Hid _ from KC2.out w6 id H6.out.be H6.out.tb
      have KCj := show Hid (∀ W, Below w.heap.size w W → Tb W B M v t → _) from fun W hW hT => KC2.out W id hW hT
      clear KC2
      generalize (whF t hs x id).2 = cc at *
      go_wp2_with (refine wpList_ldw 27 _ rfl bx rfl _ _ H6.out.cx rfl Tryd.underlying27 sizeTm rfl ?_)
      refine Calls.mono KCi.out ?_
      rintro e w7 ⟨rfl, hb7⟩
      have H7 := show Hid _ from H6.out.later hb7
      clear hb7 KCi H6
      by_cases hcc : cc = 0
      · have e1 : id = pa := q3.1 hcc
        subst hcc
        subst e1
        clear q3
        have hb8 : Below w7.heap.size w7 (w7.alloc (Obj.cells #[.string nm, .int .i64 fo] 29)) := below_alloc _ _
        have hn8 := new_alloc w7 #[.string nm, .int .i64 fo] 29
        have H9 := show Hid _ from H7.out.later hb8
        have HH9 := show Hid (IsH (w7.alloc (Obj.cells #[.string nm, .int .i64 fo] 29)) (World.heap (w7.alloc (Obj.cells #[.string nm, .int .i64 fo] 29))).size (.slice (some ⟨w7.heap.size, 0, none⟩) 1 1) ((nm, fo) :: hs)) from by rw [HZ.out]; exact isH_one hn8.blk (lt_of_block hn8.blk)
        clear hn8 hb8
        go_wp2_with (first | (refine wpList_ldw 29 _ rfl bm rfl _ _ H7.out.cm rfl Tryd.underlying29 sizeHyp rfl ?_) | (refine wpList_ldw 27 _ rfl bx rfl _ _ H9.out.cx rfl Tryd.underlying27 sizeTm rfl ?_))
        clear H7
        refine Calls.mono (KCj.out _ H9.out.be H9.out.tb) ?_
        rintro e w10 ⟨rfl, hb10⟩
        have H10 := show Hid _ from H9.out.later hb10
        have KMM := show Hid _ from KM2.out w10 (.slice (some ⟨w7.heap.size, 0, none⟩) 1 1) H10.out.be H10.out.tb (HH9.out.up hb10)
        clear hb10 H9 HH9 KCj KM2
        go_wp2_with (refine wpList_ldw 27 _ rfl bx rfl _ _ H10.out.cx rfl Tryd.underlying27 sizeTm rfl ?_)
        refine Calls.mono KMM.out ?_
        rintro e w11 ⟨rfl, hb11⟩
        have H11 := show Hid _ from H10.out.later hb11
        have KH := show Hid _ from KE.out w11 H11.out.be
        clear hb11 H10 KMM KE
        by_cases heq : 0 = dd
        · subst heq
          clear L2
          go_wp2_with fail
          refine Calls.mono KH.out ?_
          rintro e w12 ⟨rfl, hb12⟩
          have HB12 := show Hid (Below w.heap.size w w12) from H11.out.be.trans (hb12.mono H11.out.be.size)
          clear hb12 KH H11
          go_wp2_with fail
          go_ret
          exact ⟨rfl, HB12.out⟩
        · exact absurd (L2.out.resolve_left heq) (by decide)
      · have e1 : (cc == 0) = false := by simpa using hcc
        have e2 : (id == pa) = false := by
          have : id ≠ pa := fun h => hcc (q3.2 h)
          simpa using this
        clear q3
        have hb8 : Below w7.heap.size w7 (w7.alloc (Obj.cells #[.string nm, .int .i64 fo] 29)) := below_alloc _ _
        have hn8 := new_alloc w7 #[.string nm, .int .i64 fo] 29
        have H9 := show Hid _ from H7.out.later hb8
        have HH9 := show Hid (IsH (w7.alloc (Obj.cells #[.string nm, .int .i64 fo] 29)) (World.heap (w7.alloc (Obj.cells #[.string nm, .int .i64 fo] 29))).size (.slice (some ⟨w7.heap.size, 0, none⟩) 1 1) ((nm, fo) :: hs)) from by rw [HZ.out]; exact isH_one hn8.blk (lt_of_block hn8.blk)
        clear hn8 hb8
        go_wp2_with (first | (refine wpList_ldw 29 _ rfl bm rfl _ _ H7.out.cm rfl Tryd.underlying29 sizeHyp rfl ?_) | (refine wpList_ldw 27 _ rfl bx rfl _ _ H9.out.cx rfl Tryd.underlying27 sizeTm rfl ?_))
        clear H7 e1 e2 hcc
        refine Calls.mono (KCj.out _ H9.out.be H9.out.tb) ?_
        rintro e w10 ⟨rfl, hb10⟩
        have H10 := show Hid _ from H9.out.later hb10
        have KMM := show Hid _ from KM2.out w10 (.slice (some ⟨w7.heap.size, 0, none⟩) 1 1) H10.out.be H10.out.tb (HH9.out.up hb10)
        clear hb10 H9 HH9 KCj KM2
        go_wp2_with (refine wpList_ldw 27 _ rfl bx rfl _ _ H10.out.cx rfl Tryd.underlying27 sizeTm rfl ?_)
        refine Calls.mono KMM.out ?_
        rintro e w11 ⟨rfl, hb11⟩
        have H11 := show Hid _ from H10.out.later hb11
        have KH := show Hid _ from KE.out w11 H11.out.be
        clear hb11 H10 KMM KE
        by_cases heq : cc = dd
        · subst heq
          clear L2
          go_wp2_with fail
          refine Calls.mono KH.out ?_
          rintro e w12 ⟨rfl, hb12⟩
          have HB12 := show Hid (Below w.heap.size w w12) from H11.out.be.trans (hb12.mono H11.out.be.size)
          clear hb12 KH H11
          go_wp2_with fail
          go_ret
          exact ⟨rfl, HB12.out⟩
        · have e5 := L2.out.resolve_left heq
          subst e5
          have e6 : ((131 : Int) == dd) = false := by simpa using heq
          clear L2 heq
          go_wp2_with fail
          refine Calls.mono KH.out ?_
          rintro e w12 ⟨rfl, hb12⟩
          have HB12 := show Hid (Below w.heap.size w w12) from H11.out.be.trans (hb12.mono H11.out.be.size)
          clear hb12 KH H11
          go_wp2_with fail
          go_ret
          exact ⟨rfl, HB12.out⟩
    · have hpe2 : (pe == 0) = false := by simpa using hpe
      have KCj := show Hid (∀ W, Below w.heap.size w W → Tb W B M v t → _) from fun W hW hT => KC2.out W id hW hT
      have H7 := show Hid _ from H5.out
      clear KC2 L1 HID H5
      generalize (whF t hs x id).2 = cc at *
      have hb8 : Below w5.heap.size w5 (w5.alloc (Obj.cells #[.string nm, .int .i64 fo] 29)) := below_alloc _ _
      have hn8 := new_alloc w5 #[.string nm, .int .i64 fo] 29
      have H9 := show Hid _ from H7.out.later hb8
      have HH9 := show Hid (IsH (w5.alloc (Obj.cells #[.string nm, .int .i64 fo] 29)) (World.heap (w5.alloc (Obj.cells #[.string nm, .int .i64 fo] 29))).size (.slice (some ⟨w5.heap.size, 0, none⟩) 1 1) ((nm, fo) :: hs)) from by rw [HZ.out]; exact isH_one hn8.blk (lt_of_block hn8.blk)
      clear hn8 hb8
      go_wp2_with (first | (refine wpList_ldw 29 _ rfl bm rfl _ _ H7.out.cm rfl Tryd.underlying29 sizeHyp rfl ?_) | (refine wpList_ldw 27 _ rfl bx rfl _ _ H9.out.cx rfl Tryd.underlying27 sizeTm rfl ?_))
      clear H7 hpe hpe2
      refine Calls.mono (KCj.out _ H9.out.be H9.out.tb) ?_
      rintro e w10 ⟨rfl, hb10⟩
      have H10 := show Hid _ from H9.out.later hb10
      have KMM := show Hid _ from KM2.out w10 (.slice (some ⟨w5.heap.size, 0, none⟩) 1 1) H10.out.be H10.out.tb (HH9.out.up hb10)
      clear hb10 H9 HH9 KCj KM2
      go_wp2_with (refine wpList_ldw 27 _ rfl bx rfl _ _ H10.out.cx rfl Tryd.underlying27 sizeTm rfl ?_)
      refine Calls.mono KMM.out ?_
      rintro e w11 ⟨rfl, hb11⟩
      have H11 := show Hid _ from H10.out.later hb11
      have KH := show Hid _ from KE.out w11 H11.out.be
      clear hb11 H10 KMM KE
      by_cases heq : cc = dd
      · subst heq
        clear L2
        go_wp2_with fail
        refine Calls.mono KH.out ?_
        rintro e w12 ⟨rfl, hb12⟩
        have HB12 := show Hid (Below w.heap.size w w12) from H11.out.be.trans (hb12.mono H11.out.be.size)
        clear hb12 KH H11
        go_wp2_with fail
        go_ret
        exact ⟨rfl, HB12.out⟩
      · have e5 := L2.out.resolve_left heq
        subst e5
        have e6 : ((131 : Int) == dd) = false := by simpa using heq
        clear L2 heq
        go_wp2_with fail
        refine Calls.mono KH.out ?_
        rintro e w12 ⟨rfl, hb12⟩
        have HB12 := show Hid (Below w.heap.size w w12) from H11.out.be.trans (hb12.mono H11.out.be.size)
        clear hb12 KH H11
        go_wp2_with fail
        go_ret
        exact ⟨rfl, HB12.out⟩
  | some ad =>
    clear hnil
    go_enter Tryd.func3, Tryd.ntmps3
    go_wp2_with (refine wpList_box 27 _ rfl _ rfl rfl ?_)
    intro w1 bx hn1
    go_wp2_with (refine wpList_box 29 _ rfl _ rfl rfl ?_)
    intro w2 bm hn2
    have HX2 := show Hid (Cl w2 bx #[.int .i64 xk, .string xn, .string xo, .int .i64 xf, .slice sp sn sc] 27 ∧ Cl w2 bm #[.string nm, .int .i64 fo] 29 ∧ Below w.heap.size w w2) from ⟨Cl.later (show Cl w1 bx _ _ from hn1.blk) hn2.bel, hn2.blk, hn1.bel.trans (hn2.bel.mono hn1.bel.size)⟩
    clear hn1 hn2
    go_wp2_with fail
    refine Calls.mono (KB.out w2 HX2.out.2.2) ?_
    rintro e w3 (⟨h0, B, M, v, C, u, rfl, hP⟩ | ⟨h0, rfl, hb3⟩)
    case inr =>
      have KH := show Hid _ from KE.out w3 (HX2.out.2.2.trans (hb3.mono HX2.out.2.2.size))
      have HB3 := show Hid (Below w.heap.size w w3) from HX2.out.2.2.trans (hb3.mono HX2.out.2.2.size)
      clear hb3 HX2 KB KE KI KC KM LL LM HI HN
      go_wp2_with fail
      refine Calls.mono KH.out ?_
      rintro e w4 ⟨rfl, hb4⟩
      have HB4 := show Hid (Below w.heap.size w w4) from HB3.out.trans (hb4.mono HB3.out.size)
      clear hb4 KH
      go_wp2_with fail
      go_ret
      exact ⟨rfl, HB4.out⟩
    obtain ⟨a1, t⟩ := ans
    simp only at h0 hP
    subst h0
    have H3 := show Hid (OnH w w3 B M v C u t bx bm #[.int .i64 xk, .string xn, .string xo, .int .i64 xf, .slice sp sn sc] #[.string nm, .int .i64 fo]) from ⟨hP.tb, hP.tr, Cl.later HX2.out.1 hP.bel, Cl.later HX2.out.2.1 hP.bel, HX2.out.2.2.trans (hP.bel.mono HX2.out.2.2.size)⟩
    clear hP HX2 KB
    have KA1 := show Hid _ from rhas_any w3 H3.out.tr id
    have KA2 := show Hid _ from rhas_any w3 H3.out.tr fo
    have KH := show Hid _ from KE.out w3 H3.out.be
    have m1 : w3.cell? ⟨bm, 1, none⟩ = some (.int .i64 fo) := H3.out.cm.cell 1
    cases hid : Fm.has t id
    · rw [hid] at KA1
      clear KA2 KE KI KC KM LL LM HI HN m1
      go_wp2_with fail
      refine Calls.mono KA1.out ?_
      rintro e w4 ⟨rfl, hw4⟩
      subst w4
      clear KA1
      go_wp2_with fail
      refine Calls.mono KH.out ?_
      rintro e w4 ⟨rfl, hb4⟩
      have HB4 := show Hid (Below w.heap.size w w4) from H3.out.be.trans (hb4.mono H3.out.be.size)
      clear hb4 KH H3
      go_wp2_with fail
      go_ret
      exact ⟨rfl, HB4.out⟩
    cases hmo : Fm.has t fo
    · rw [hid] at KA1
      rw [hmo] at KA2
      clear KE KI KC KM LL LM HI HN
      go_wp2_with fail
      refine Calls.mono KA1.out ?_
      rintro e w4 ⟨rfl, hw4⟩
      subst w4
      clear KA1
      go_wp2_with fail
      refine Calls.mono KA2.out ?_
      rintro e w4 ⟨rfl, hw4⟩
      subst w4
      clear KA2 m1
      go_wp2_with fail
      refine Calls.mono KH.out ?_
      rintro e w4 ⟨rfl, hb4⟩
      have HB4 := show Hid (Below w.heap.size w w4) from H3.out.be.trans (hb4.mono H3.out.be.size)
      clear hb4 KH H3
      go_wp2_with fail
      go_ret
      exact ⟨rfl, HB4.out⟩
    have L2 := show Hid _ from LM.out t hmo
    have L1 := show Hid _ from LL.out t H3.out.tb.ok
    have KI3 := show Hid _ from KI.out w3 B M v t H3.out.be H3.out.tb
    have KC2 := show Hid (∀ W i, Below w.heap.size w W → Tb W B M v t → _) from fun W i hW hT => KC.out W B M v t i hW hT
    have KM2 := show Hid (∀ W hv2, Below w.heap.size w W → Tb W B M v t → IsH W W.heap.size hv2 ((nm, fo) :: hs) → _) from fun W hv2 hW hT hI => KM.out W B M v t hv2 hW hT hI
    rw [hid] at KA1
    rw [hmo] at KA2
    have HID := show Hid (Fm.has t id = true) from hid
    clear hid hmo LM LL KI KC KM KH
    generalize (whF t ((nm, fo) :: hs) x id).2 = dd at *
    generalize inF t hs x = ia at *
    obtain ⟨pa, pe⟩ := ia
    simp only at KI3
    go_wp2_with fail
    refine Calls.mono KA1.out ?_
    rintro e w4 ⟨rfl, hw4⟩
    subst w4
    clear KA1
    go_wp2_with fail
    refine Calls.mono KA2.out ?_
    rintro e w4 ⟨rfl, hw4⟩
    subst w4
    clear KA2 m1
    go_wp2_with (refine wpList_ldw 27 _ rfl bx rfl _ _ H3.out.cx rfl Tryd.underlying27 sizeTm rfl ?_)
    refine Calls.mono KI3.out ?_
    rintro e w5 ⟨rfl, hb5⟩
    have H5 := show Hid _ from H3.out.later hb5
    clear hb5 KI3 H3
    by_cases hpe : pe = 0
    · subst hpe
      obtain ⟨q1, q2⟩ := L1.out pa rfl
      have q3 := q2 id HID.out
      have KCa := show Hid _ from KC2.out w5 pa H5.out.be H5.out.tb
      rw [q1] at KCa
      clear q1 q2 L1 HID
      go_wp2_with (refine wpList_ldw 27 _ rfl bx rfl _ _ H5.out.cx rfl Tryd.underlying27 sizeTm rfl ?_)
      refine Calls.mono KCa.out ?_
      rintro e w6 ⟨rfl, hb6⟩
      have H6 := show Hid _ from H5.out.later hb6
      clear hb6 KCa H5
      have KCi := show Hid _ from KC2.out w6 id H6.out.be H6.out.tb
      have KCj := show Hid (∀ W, Below w.heap.size w W → Tb W B M v t → _) from fun W hW hT => KC2.out W id hW hT
      clear KC2
      generalize (whF t hs x id).2 = cc at *
      go_wp2_with (refine wpList_ldw 27 _ rfl bx rfl _ _ H6.out.cx rfl Tryd.underlying27 sizeTm rfl ?_)
      refine Calls.mono KCi.out ?_
      rintro e w7 ⟨rfl, hb7⟩
      have H7 := show Hid _ from H6.out.later hb7
      clear hb7 KCi H6
      by_cases hcc : cc = 0
      · have e1 : id = pa := q3.1 hcc
        subst hcc
        subst e1
        clear q3
        have hb8 : Below w7.heap.size w7 (w7.alloc (Obj.cells #[.string nm, .int .i64 fo] 29)) := below_alloc _ _
        have hn8 := new_alloc w7 #[.string nm, .int .i64 fo] 29
        have HO8 := show Hid (World.ownsRow (w7.alloc (Obj.cells #[.string nm, .int .i64 fo] 29)) w7.heap.size 29 2 (.slice (some ⟨w7.heap.size, 0, none⟩) 1 1) 1 [.string nm, .int .i64 fo]) from ⟨rfl, Or.inr ⟨_, 1, _, rfl, Nat.le_refl _, hn8.blk, Nat.le_refl _, by decide, rfl, rfl⟩⟩
        have HQ8 := show Hid (Below w7.heap.size w7 (w7.alloc (Obj.cells #[.string nm, .int .i64 fo] 29))) from hb8
        have HS8 := show Hid (∀ j u, (hcs hs)[j]? = some u → (World.cell? (w7.alloc (Obj.cells #[.string nm, .int .i64 fo] 29)) (ad.add j)) = some u) from src_h (HI.out.up (H7.out.later hb8).be)
        clear hn8 hb8
        go_wp2_with (first | (refine wpList_ldw 29 _ rfl bm rfl _ _ H7.out.cm rfl Tryd.underlying29 sizeHyp rfl ?_) | (at_builtin; refine wpList_append_own_at _ rfl (.tmp 73) (.tmp 74) 23 rfl w7.heap.size 29 i0 _ 2 24 Tryd.underlying23 hi hz0 hz1 hz2 rfl (by decide) (.slice (some ⟨w7.heap.size, 0, none⟩) 1 1) 1 [.string nm, .int .i64 fo] rfl HO8.out ad nh hc (hcs hs) rfl (by rw [HN.out]; exact hcs_len hs) HS8.out (hcs_one hs) (by unfold maxLen; omega) (by omega) HQ8.out.size ?_))
        intro v9 w9 hown hgr _ _
        have hb9 : Below w7.heap.size w7 w9 := HQ8.out.grown hgr HQ8.out.size (fun k hk => by cases hk; exact Nat.le_refl _)
        have H9 := show Hid _ from H7.out.later hb9
        have HH9 := show Hid (IsH w9 w9.heap.size v9 ((nm, fo) :: hs)) from isH_own (B := w7.heap.size) (by rw [List.length_cons, ← HN.out, Nat.add_comm]; exact hown) (by rw [List.length_cons, ← HN.out]; omega)
        clear hown hgr hb9 HO8 HQ8 HS8 H7
        go_wp2_with (refine wpList_ldw 27 _ rfl bx rfl _ _ H9.out.cx rfl Tryd.underlying27 sizeTm rfl ?_)
        refine Calls.mono (KCj.out w9 H9.out.be H9.out.tb) ?_
        rintro e w10 ⟨rfl, hb10⟩
        have H10 := show Hid _ from H9.out.later hb10
        have KMM := show Hid _ from KM2.out w10 v9 H10.out.be H10.out.tb (HH9.out.up hb10)
        clear hb10 H9 HH9 KCj KM2
        go_wp2_with (refine wpList_ldw 27 _ rfl bx rfl _ _ H10.out.cx rfl Tryd.underlying27 sizeTm rfl ?_)
        refine Calls.mono KMM.out ?_
        rintro e w11 ⟨rfl, hb11⟩
        have H11 := show Hid _ from H10.out.later hb11
        have KH := show Hid _ from KE.out w11 H11.out.be
        clear hb11 H10 KMM KE
        by_cases heq : 0 = dd
        · subst heq
          clear L2
          go_wp2_with fail
          refine Calls.mono KH.out ?_
          rintro e w12 ⟨rfl, hb12⟩
          have HB12 := show Hid (Below w.heap.size w w12) from H11.out.be.trans (hb12.mono H11.out.be.size)
          clear hb12 KH H11
          go_wp2_with fail
          go_ret
          exact ⟨rfl, HB12.out⟩
        · exact absurd (L2.out.resolve_left heq) (by decide)
      · have e1 : (cc == 0) = false := by simpa using hcc
        have e2 : (id == pa) = false := by
          have : id ≠ pa := fun h => hcc (q3.2 h)
          simpa using this
        clear q3
        have hb8 : Below w7.heap.size w7 (w7.alloc (Obj.cells #[.string nm, .int .i64 fo] 29)) := below_alloc _ _
        have hn8 := new_alloc w7 #[.string nm, .int .i64 fo] 29
        have HO8 := show Hid (World.ownsRow (w7.alloc (Obj.cells #[.string nm, .int .i64 fo] 29)) w7.heap.size 29 2 (.slice (some ⟨w7.heap.size, 0, none⟩) 1 1) 1 [.string nm, .int .i64 fo]) from ⟨rfl, Or.inr ⟨_, 1, _, rfl, Nat.le_refl _, hn8.blk, Nat.le_refl _, by decide, rfl, rfl⟩⟩
        have HQ8 := show Hid (Below w7.heap.size w7 (w7.alloc (Obj.cells #[.string nm, .int .i64 fo] 29))) from hb8
        have HS8 := show Hid (∀ j u, (hcs hs)[j]? = some u → (World.cell? (w7.alloc (Obj.cells #[.string nm, .int .i64 fo] 29)) (ad.add j)) = some u) from src_h (HI.out.up (H7.out.later hb8).be)
        clear hn8 hb8
        go_wp2_with (first | (refine wpList_ldw 29 _ rfl bm rfl _ _ H7.out.cm rfl Tryd.underlying29 sizeHyp rfl ?_) | (at_builtin; refine wpList_append_own_at _ rfl (.tmp 73) (.tmp 74) 23 rfl w7.heap.size 29 i0 _ 2 24 Tryd.underlying23 hi hz0 hz1 hz2 rfl (by decide) (.slice (some ⟨w7.heap.size, 0, none⟩) 1 1) 1 [.string nm, .int .i64 fo] rfl HO8.out ad nh hc (hcs hs) rfl (by rw [HN.out]; exact hcs_len hs) HS8.out (hcs_one hs) (by unfold maxLen; omega) (by omega) HQ8.out.size ?_))
        intro v9 w9 hown hgr _ _
        have hb9 : Below w7.heap.size w7 w9 := HQ8.out.grown hgr HQ8.out.size (fun k hk => by cases hk; exact Nat.le_refl _)
        have H9 := show Hid _ from H7.out.later hb9
        have HH9 := show Hid (IsH w9 w9.heap.size v9 ((nm, fo) :: hs)) from isH_own (B := w7.heap.size) (by rw [List.length_cons, ← HN.out, Nat.add_comm]; exact hown) (by rw [List.length_cons, ← HN.out]; omega)
        clear hown hgr hb9 HO8 HQ8 HS8 H7 e1 e2 hcc
        go_wp2_with (refine wpList_ldw 27 _ rfl bx rfl _ _ H9.out.cx rfl Tryd.underlying27 sizeTm rfl ?_)
        refine Calls.mono (KCj.out w9 H9.out.be H9.out.tb) ?_
        rintro e w10 ⟨rfl, hb10⟩
        have H10 := show Hid _ from H9.out.later hb10
        have KMM := show Hid _ from KM2.out w10 v9 H10.out.be H10.out.tb (HH9.out.up hb10)
        clear hb10 H9 HH9 KCj KM2
        go_wp2_with (refine wpList_ldw 27 _ rfl bx rfl _ _ H10.out.cx rfl Tryd.underlying27 sizeTm rfl ?_)
        refine Calls.mono KMM.out ?_
        rintro e w11 ⟨rfl, hb11⟩
        have H11 := show Hid _ from H10.out.later hb11
        have KH := show Hid _ from KE.out w11 H11.out.be
        clear hb11 H10 KMM KE
        by_cases heq : cc = dd
        · subst heq
          clear L2
          go_wp2_with fail
          refine Calls.mono KH.out ?_
          rintro e w12 ⟨rfl, hb12⟩
          have HB12 := show Hid (Below w.heap.size w w12) from H11.out.be.trans (hb12.mono H11.out.be.size)
          clear hb12 KH H11
          go_wp2_with fail
          go_ret
          exact ⟨rfl, HB12.out⟩
        · have e5 := L2.out.resolve_left heq
          subst e5
          have e6 : ((131 : Int) == dd) = false := by simpa using heq
          clear L2 heq
          go_wp2_with fail
          refine Calls.mono KH.out ?_
          rintro e w12 ⟨rfl, hb12⟩
          have HB12 := show Hid (Below w.heap.size w w12) from H11.out.be.trans (hb12.mono H11.out.be.size)
          clear hb12 KH H11
          go_wp2_with fail
          go_ret
          exact ⟨rfl, HB12.out⟩
    · have hpe2 : (pe == 0) = false := by simpa using hpe
      have KCj := show Hid (∀ W, Below w.heap.size w W → Tb W B M v t → _) from fun W hW hT => KC2.out W id hW hT
      have H7 := show Hid _ from H5.out
      clear KC2 L1 HID H5
      generalize (whF t hs x id).2 = cc at *
      have hb8 : Below w5.heap.size w5 (w5.alloc (Obj.cells #[.string nm, .int .i64 fo] 29)) := below_alloc _ _
      have hn8 := new_alloc w5 #[.string nm, .int .i64 fo] 29
      have HO8 := show Hid (World.ownsRow (w5.alloc (Obj.cells #[.string nm, .int .i64 fo] 29)) w5.heap.size 29 2 (.slice (some ⟨w5.heap.size, 0, none⟩) 1 1) 1 [.string nm, .int .i64 fo]) from ⟨rfl, Or.inr ⟨_, 1, _, rfl, Nat.le_refl _, hn8.blk, Nat.le_refl _, by decide, rfl, rfl⟩⟩
      have HQ8 := show Hid (Below w5.heap.size w5 (w5.alloc (Obj.cells #[.string nm, .int .i64 fo] 29))) from hb8
      have HS8 := show Hid (∀ j u, (hcs hs)[j]? = some u → (World.cell? (w5.alloc (Obj.cells #[.string nm, .int .i64 fo] 29)) (ad.add j)) = some u) from src_h (HI.out.up (H7.out.later hb8).be)
      clear hn8 hb8
      go_wp2_with (first | (refine wpList_ldw 29 _ rfl bm rfl _ _ H7.out.cm rfl Tryd.underlying29 sizeHyp rfl ?_) | (at_builtin; refine wpList_append_own_at _ rfl (.tmp 73) (.tmp 74) 23 rfl w5.heap.size 29 i0 _ 2 24 Tryd.underlying23 hi hz0 hz1 hz2 rfl (by decide) (.slice (some ⟨w5.heap.size, 0, none⟩) 1 1) 1 [.string nm, .int .i64 fo] rfl HO8.out ad nh hc (hcs hs) rfl (by rw [HN.out]; exact hcs_len hs) HS8.out (hcs_one hs) (by unfold maxLen; omega) (by omega) HQ8.out.size ?_))
      intro v9 w9 hown hgr _ _
      have hb9 : Below w5.heap.size w5 w9 := HQ8.out.grown hgr HQ8.out.size (fun k hk => by cases hk; exact Nat.le_refl _)
      have H9 := show Hid _ from H7.out.later hb9
      have HH9 := show Hid (IsH w9 w9.heap.size v9 ((nm, fo) :: hs)) from isH_own (B := w5.heap.size) (by rw [List.length_cons, ← HN.out, Nat.add_comm]; exact hown) (by rw [List.length_cons, ← HN.out]; omega)
      clear hown hgr hb9 HO8 HQ8 HS8 H7 hpe hpe2
      go_wp2_with (refine wpList_ldw 27 _ rfl bx rfl _ _ H9.out.cx rfl Tryd.underlying27 sizeTm rfl ?_)
      refine Calls.mono (KCj.out w9 H9.out.be H9.out.tb) ?_
      rintro e w10 ⟨rfl, hb10⟩
      have H10 := show Hid _ from H9.out.later hb10
      have KMM := show Hid _ from KM2.out w10 v9 H10.out.be H10.out.tb (HH9.out.up hb10)
      clear hb10 H9 HH9 KCj KM2
      go_wp2_with (refine wpList_ldw 27 _ rfl bx rfl _ _ H10.out.cx rfl Tryd.underlying27 sizeTm rfl ?_)
      refine Calls.mono KMM.out ?_
      rintro e w11 ⟨rfl, hb11⟩
      have H11 := show Hid _ from H10.out.later hb11
      have KH := show Hid _ from KE.out w11 H11.out.be
      clear hb11 H10 KMM KE
      by_cases heq : cc = dd
      · subst heq
        clear L2
        go_wp2_with fail
        refine Calls.mono KH.out ?_
        rintro e w12 ⟨rfl, hb12⟩
        have HB12 := show Hid (Below w.heap.size w w12) from H11.out.be.trans (hb12.mono H11.out.be.size)
        clear hb12 KH H11
        go_wp2_with fail
        go_ret
        exact ⟨rfl, HB12.out⟩
      · have e5 := L2.out.resolve_left heq
        subst e5
        have e6 : ((131 : Int) == dd) = false := by simpa using heq
        clear L2 heq
        go_wp2_with fail
        refine Calls.mono KH.out ?_
        rintro e w12 ⟨rfl, hb12⟩
        have HB12 := show Hid (Below w.heap.size w w12) from H11.out.be.trans (hb12.mono H11.out.be.size)
        clear hb12 KH H11
        go_wp2_with fail
        go_ret
        exact ⟨rfl, HB12.out⟩
end Go.Proofs.YtkpbpecikibohaaDoor.Ya
