/-
  The law RuleFalls, as the program walks it: true for every row of formulas, every sequent and every row of choices. Where the table of TrailingZeros stands as the program's text lays it. (Written by genzlfal.py.)
-/
import Derived.Test.YtpddfooeaecekaaDoorZLTru
import Derived.Test.YtpddfooeaecekaaDoorZLess
namespace Go.Proofs.YtpddfooeaecekaaDoor
open Go.RowKit Go.Shelf Go.Maps
open Fm (Nd)
open Bt.Bs (Ok wd)
set_option linter.unusedSimpArgs false

theorem wp_region_relI {P : Program} {ops : Array Oper} {Q : Exit → Act → World → Prop} {id : Nat} {a0 : Act} {w : World} (hm : P.follows .mixedOrders = true) (dsts : List (Option Tmp)) (needs : List (List Nat)) (hc : relOk .any ops dsts needs a0.tmps.size = true) (R : Nat → Value → World → Prop) (S : (Nat → Bool) → World → Prop) (le : Nat → World → World → Prop)
    (hle : ∀ i j v w w', i ≠ j → i ∉ needs.getD j [] → le i w w' → R j v w → R j v w') (h0 : S (fun _ => false) w.drew)
    (step : ∀ i, i < ops.size → ∀ (done : Nat → Bool) a w, S done w → done i = false → (∀ j ∈ needs.getD i [], done j = true) → (∀ j, i ∈ needs.getD j [] → done j = false) → Outs dsts a0 a → (∀ j ∈ needs.getD i [], ∃ v, Got a (dsts.getD j none) v ∧ R j v w) →
      wpOp P ops Q i (fun a' w' => ∃ v, a' = a.put (dsts.getD i none) v ∧ R i v w' ∧ S (fun j => j == i || done j) w' ∧ le i w w') a w)
    (fin : ∀ (vs : Nat → Value) (done : Nat → Bool) (w : World), (∀ i, i < ops.size → done i = true) → S done w → (∀ i, i < ops.size → R i (vs i) w) → Q .normal (putAll dsts vs 0 a0) w) : (Code.region id ops true).wp P Q a0 w :=
  wp_region_any hm (wpAny_relI dsts needs hc R S le hle h0 step fin)
structure LF (w wb W : World) (b4 B M : Nat) (v : Value) (C : Nat) (u : Value) (t t2 : List Nd) (r : List Nat) (g : Int) (c : Nat) (uc : Value) (sv : Value) (l : List SQ) : Prop where
  lx : LX w wb W b4 B M v C u t t2 r g
  tr : Tr W c uc t
  sq : SqR sv l W
section
variable {w wb W W' : World} {b4 B M : Nat} {v : Value} {C : Nat} {u : Value} {t t2 : List Nd} {r : List Nat} {g : Int} {c : Nat} {uc : Value} {sv : Value} {l : List SQ}
theorem LF.later (h : LF w wb W b4 B M v C u t t2 r g c uc sv l) (hb : Below W.heap.size W W') : LF w wb W' b4 B M v C u t t2 r g c uc sv l := ⟨h.lx.later hb, h.tr.later hb, h.sq.later hb⟩
theorem LF.drew (h : LF w wb W b4 B M v C u t t2 r g c uc sv l) : LF w wb W.drew b4 B M v C u t t2 r g c uc sv l := h.later ((Below.refl _ _).drew)
theorem LX.store (h : LX w wb W b4 B M v C u t t2 r g) (hb4 : b4 < wb.heap.size) (hw4 : w.heap.size ≤ b4) {r' : List Nat} {g' : Int} (hs : SeqAt W' b4 r' g') (hk : KpP b4 W W') : ∃ wb', b4 < wb'.heap.size ∧ LX w wb' W' b4 B M v C u t t2 r' g' := by
  have hbl : wb.heap[b4]? = some (.cells (cellsQ r g) 27 (0, 0)) := (h.pr.bel.block b4 hb4).symm.trans h.s
  have hk1 := setRow_kp wb b4 (cellsQ r' g')
  have hsz : (wb.setRow b4 (cellsQ r' g')).heap.size = wb.heap.size := by simp
  have hft : ∀ k, Ft B M v k → k ≠ b4 := fun k hk e => by have := h.pr.bt k hk; omega
  have hfr : ∀ k, Fr C u k → k ≠ b4 := fun k hk e => by have := h.pr.br k hk; omega
  refine ⟨wb.setRow b4 (cellsQ r' g'), by rw [hsz]; exact hb4, ⟨h.pr.tb.keep fun k hk2 => hk.block k (h.pr.tb.foot k hk2) (hft k hk2), h.pr.tr.keep fun k hk2 => hk.block k (h.pr.tr.foot k hk2) (hfr k hk2), h.pr.dis, fun k hk2 => by rw [hsz]; exact h.pr.bt k hk2, fun k hk2 => by rw [hsz]; exact h.pr.br k hk2, ?_⟩, hs, bel_kp h.b1 hk1 hw4⟩
  refine ⟨hk.os.trans (h.pr.bel.os.trans hk1.os.symm), hk.tape.trans (h.pr.bel.tape.trans hk1.tape.symm), hk.output.trans (h.pr.bel.output.trans hk1.output.symm), by rw [hsz]; exact Nat.le_trans h.pr.bel.size hk.size, fun k hk2 => ?_⟩
  rw [hsz] at hk2
  by_cases e : k = b4
  · subst e
    rw [setRow_heap wb k _ _ _ _ hbl]
    exact hs
  · rw [hk.block k (Nat.lt_of_lt_of_le hk2 h.pr.bel.size) e, h.pr.bel.block k hk2, hk1.block k hk2 e]
end
theorem ids_le {f : Nat → Nat} {s : SQ} {L : List Nat} (h : Fl L (idsW f s)) : L.length ≤ 1000000 := by
  have e := h.len
  unfold idsW at e
  rw [List.length_append, List.length_map, List.length_singleton] at e
  have := Bt.Bs.nums_len_le s.1
  omega
theorem pick_div (pick : Int) {n : Nat} (hn : 0 < n) (hb : n ≤ 1000000) : ∃ j : Nat, j < n ∧ wrap64 ((IntKind.u64.wrap ((IntKind.u64.wrap pick).tdiv 7)).tmod (n : Int)) = (j : Int) := by
  have h0 : 0 ≤ IntKind.u64.wrap ((IntKind.u64.wrap pick).tdiv 7) := by rw [wrapU]; omega
  generalize IntKind.u64.wrap ((IntKind.u64.wrap pick).tdiv 7) = x at *
  have h1 := Int.tmod_nonneg (n : Int) h0
  have h2 := Int.tmod_lt_of_pos x (show (0 : Int) < n by omega)
  refine ⟨(x.tmod n).toNat, by omega, ?_⟩
  unfold wrap64
  omega
theorem wpList_geq {ops : Array Oper} {rest : List Oper} {o : Oper} {a : Act} {Q : Exit → Act → World → Prop} {w : World} (hg : o.guard = none) (x : Operand) (T T' : TypeId) (hop : o.op = Op.binOp BinOp.geq T x (.const (.int .u64 1152921504606846976)) T') (v : Nat) (hx : a.eval x = .int .u64 (v : Int)) (b : Bool) (hb : decide (1152921504606846976 ≤ v) = b)
    (hK : wpList Tryd.prog ops Q rest (a.put o.dst (.bool b)) w) : wpList Tryd.prog ops Q (o :: rest) a w := by
  have hrun : (execOp a.eval o).run Tryd.prog w = .ok (.value (.bool b)) w := by
    have e : decide ((1152921504606846976 : Int) ≤ (v : Int)) = b := by
      rw [← hb]
      by_cases h : 1152921504606846976 ≤ v
      · rw [decide_eq_true h, decide_eq_true (by omega)]
      · rw [decide_eq_false h, decide_eq_false (by omega)]
    rw [← e]
    have hk : a.eval (.const (.int .u64 1152921504606846976)) = .int .u64 1152921504606846976 := rfl
    simp only [execOp, hop, hx, hk]
    simp [go_sem]
  refine wpList_plain hg fun K' hK' => ?_
  unfold Oper.wp
  rw [hrun, Oper.upon_value]
  exact hK' _ _ hK
set_option maxRecDepth 100000 in
set_option maxHeartbeats 4000000 in
theorem ruleFalls_any (w0 : World) (rv : Value) (rs : List Nd) (hR : IsR w0 rv rs) (hg : ∀ n ∈ rs, Fm.good n) (hl : rs.length * 40 ≤ 140737488351232) (hv : rv = .slice none 0 0 ∨ ∃ a n c, rv = .slice (some a) n c)
    {r0 : List Nat} (hr : Ok r0) (g0 : Int) {pv : Value} {picks : List Int} (hP : Bt.IsL w0 pv picks) (hpl : picks.length ≤ 1000000000000000000) (hZ : Bt.Tz w0) :
    Calls Tryd.prog 3 #[rv, .agg (cellsQ r0 g0), pv] w0 fun e w' => e = .returned (.bool true) ∧ Below w0.heap.size w0 w' := by
  have hr16 := hr.1
  have KT := show Hid (∀ w', Below w0.heap.size w0 w' → Calls Tryd.prog 6 #[rv] w' fun e w'' => IsBoth w' w'' e (Fm.fr [] rs)) from fun w' hb => both_any w' rv rs (hR.later hb) hg hl hv
  have KH := show Hid (∀ w' : World, Below w0.heap.size w0 w' → Calls Tryd.prog 7 #[] w' fun e w'' => e = .returned (.bool true) ∧ Below w'.heap.size w' w'') from fun w' hb => heads9_any w' (Bt.tz_block hZ hb)
  have HZ := show Hid (∀ W : World, Below w0.heap.size w0 W → Bt.Tz W) from fun W hb => Bt.tz_block hZ hb
  have HOK0 := show Hid (Ok r0) from hr
  have hsl : ∃ p n cc, rv = .slice p n cc := by
    rcases hv with rfl | ⟨a, n, cc, rfl⟩
    · exact ⟨_, _, _, rfl⟩
    · exact ⟨_, _, _, rfl⟩
  obtain ⟨p, n, cc, rfl⟩ := hsl
  obtain ⟨pp, pc, rfl, hpl2, hcp⟩ := hP
  have HPP := show Hid (∀ W : World, Below w0.heap.size w0 W → ∀ k (hk : k < picks.length), ∃ pb po, pp = some ⟨pb, po, none⟩ ∧ W.cell? ⟨pb, po + k, none⟩ = some (.int .i64 picks[k])) from fun W hb k hk => by
    obtain ⟨pb, po, hp, hc⟩ := hcp k hk
    exact ⟨pb, po, hp, (hb.cell (p := ⟨pb, _, none⟩) (World.block_lt_of_cell? w0 _ hc)).trans hc⟩
  generalize Fm.fr [] rs = ans at *
  clear hR hg hl hv hZ hr hcp
  go_enter Tryd.func3, Tryd.ntmps3
  go_wp2_with (refine wpList_box 27 _ rfl _ rfl rfl ?_)
  intro w1 b4 hn1
  have H1 := show Hid (RS1 w0 w1 b4 r0 g0) from ⟨hn1.blk, hn1.bel, hn1.ge⟩
  clear hn1
  go_wp2_with fail
  refine Calls.mono (KT.out _ H1.out.bel) ?_
  rintro e w2 (⟨_, B, M, v, C, u, rfl, hP⟩ | ⟨_, rfl, hb⟩)
  · have H2 := show Hid (LX w0 w1 w2 b4 B M v C u ans.2 ans.2 r0 g0) from LX.mk1 H1.out hP
    have HB4 := show Hid (w0.heap.size ≤ b4 ∧ b4 < w1.heap.size) from ⟨H1.out.ge, H1.out.s.lt⟩
    clear hP H1 KT
    generalize ans.2 = t2 at *
    go_wp2_with fail
    go_loopw [10, 11, 12, 13, 14, 15, 16] (fun iv _ _ _ _ _ _ wr => ∃ (i : Nat) (wb : World) (tv : Value) (t : List Nd) (r : List Nat) (g : Int), i ≤ picks.length ∧ iv = .int .i64 (i : Int) ∧ Hid (Ok r ∧ b4 < wb.heap.size ∧ LX w0 wb wr b4 B M tv C u t t2 r g)) (fun iv _ _ _ _ _ _ _ => picks.length - (intOf iv).toNat)
    case atStart => exact ⟨0, w1, v, t2, r0, g0, by omega, rfl, HOK0.out, HB4.out.2, H2.out⟩
    case round =>
      obtain ⟨ix, wb, tv, t, r, g, hi, rfl, HI⟩ := hrel
      clear H2 hr16
      have hr16 := HI.out.1.1
      by_cases hlt : ix < picks.length
      · have hltI : (ix : Int) < (picks.length : Int) := by omega
        obtain ⟨pb, po, hpp, hcpk⟩ := HPP.out wr HI.out.2.2.bel ix hlt
        have HPC := show Hid (∀ W : World, Below w0.heap.size w0 W → W.cell? ⟨pb, po + ix, none⟩ = some (.int .i64 picks[ix])) from fun W hb => by
          obtain ⟨pb', po', hp', hc'⟩ := HPP.out W hb ix hlt
          rw [hpp] at hp'
          cases hp'
          exact hc'
        subst hpp
        obtain ⟨pk, hpk⟩ : ∃ pk, pk = picks[ix] := ⟨_, rfl⟩
        rw [← hpk] at HPC
        clear hpk hcpk
        obtain ⟨wD, hwD⟩ : ∃ wD, wD = wr.drew := ⟨_, rfl⟩
        have HWD := show Hid (wr.drew = wD) from hwD.symm
        have HLX := show Hid (LX w0 wb wD b4 B M tv C u t t2 r g) from by
          rw [hwD]
          exact HI.out.2.2.later ((Below.refl _ _).drew)
        have HOR := show Hid (Ok r ∧ b4 < wb.heap.size) from ⟨HI.out.1, HI.out.2.1⟩
        have HPK := show Hid (wD.cell? ⟨pb, po + ix, none⟩ = some (.int .i64 pk)) from HPC.out wD HLX.out.bel
        have HNP := show Hid (ix + 1 ≤ picks.length) from hlt
        have KN := show Hid (Calls Tryd.prog 8 #[.pointer (some ⟨B, 0, none⟩), .agg (cellsQ r g), .int .i64 pk] wD fun e w' => ∃ sv, e = .returned (.tuple #[sv, .int .i64 (nxk t r g pk), .bool (nxa t r g pk)]) ∧ Nx wD B M tv t r g sv (nxk t r g pk) (nxa t r g pk) w') from next_all wD HLX.out.pr.tb (HZ.out _ HLX.out.bel) HOR.out.1 g pk
        clear hwD HI
        generalize nxk t r g pk = kF at *
        generalize nxa t r g pk = aF at *
        go_wp2_with fail
        refine wp_region_relI (by kernel_rfl) [some 33, some 34, some 35, some 36, some 37, some 38, some 39, some 32, some 40, some 41, some 42, some 11, some 12, some 13] [[], [], [], [], [2, 3], [4], [0, 1, 5], [6], [7], [7], [7], [8], [9], [10]] (by kernel_rfl) (fun i v w => match i with | 0 => v = .pointer (some ⟨B, 0, none⟩) | 1 => v = .agg (cellsQ r g) | 2 => v = .slice (some ⟨pb, po, none⟩) picks.length pc | 3 => v = .int .i64 (ix : Int) | 4 => v = .pointer (some ⟨pb, po + ix, none⟩) | 5 => v = .int .i64 pk | 6 => ∃ sv, v = .tuple #[sv, .int .i64 kF, .bool aF] ∧ Nx wD B M tv t r g sv kF aF w | 7 => ∃ sv, v = .tuple #[sv, .int .i64 kF, .bool aF] ∧ Nx wD B M tv t r g sv kF aF w | 8 => Nx wD B M tv t r g v kF aF w | 9 => v = .int .i64 kF | 10 => v = .bool aF | 11 => Nx wD B M tv t r g v kF aF w | 12 => v = .int .i64 kF | 13 => v = .bool aF | _ => True) (fun done W => done 6 = true ∨ W = wD) (fun i w w' => (i = 6 ∧ w = wD) ∨ w' = w) ?hle (Or.inr HWD.out) (allLt 14 ?steps) ?fin
        case hle =>
          intro i j v w w' hij hnd hl h
          rcases hl with ⟨rfl, rfl⟩ | rfl
          · match j, h, hij with
            | 0, h, _ => exact h
            | 1, h, _ => exact h
            | 2, h, _ => exact h
            | 3, h, _ => exact h
            | 4, h, _ => exact h
            | 5, h, _ => exact h
            | 6, h, hij => exact absurd rfl hij
            | 7, h, _ => exact (by obtain ⟨sv, _, hN⟩ := h; exact absurd hN.gt (Nat.lt_irrefl _))
            | 8, h, _ => exact absurd (show Nx _ B M tv t r g v kF aF _ from h).gt (Nat.lt_irrefl _)
            | 9, h, _ => exact h
            | 10, h, _ => exact h
            | 11, h, _ => exact absurd (show Nx _ B M tv t r g v kF aF _ from h).gt (Nat.lt_irrefl _)
            | 12, h, _ => exact h
            | 13, h, _ => exact h
            | _ + 14, h, _ => trivial
          · exact h
        case steps =>
          refine ⟨⟨⟨⟨⟨⟨⟨⟨⟨⟨⟨⟨⟨⟨trivial, ?s0⟩, ?s1⟩, ?s2⟩, ?s3⟩, ?s4⟩, ?s5⟩, ?s6⟩, ?s7⟩, ?s8⟩, ?s9⟩, ?s10⟩, ?s11⟩, ?s12⟩, ?s13⟩
          case s0 =>
            intro done a w hS h0 hd hn hO hN
            have o7 : a.tmps[7]? = some (.pointer (some ⟨B, 0, none⟩)) := (hO.out 7 (by decide)).trans rfl
            refine relVal rfl (.pointer (some ⟨B, 0, none⟩)) w rfl (by go_simp) ⟨_, rfl, rfl, by simpa [h0] using hS, Or.inr rfl⟩
          case s1 =>
            intro done a w hS h0 hd hn hO hN
            have o4 : a.tmps[4]? = some (.pointer (some ⟨b4, 0, none⟩)) := (hO.out 4 (by decide)).trans rfl
            have h6f : done 6 = false := hn 6 (by decide)
            have hw : w = wD := by have h9 := hS; simpa [h6f] using h9
            have hq := loadQQ w b4 (by rw [hw]; exact HLX.out.s) hr16
            refine relVal rfl (.agg (cellsQ r g)) w rfl (by simp [execOp, Act.eval, o4, hq, Result.andThen]) ⟨_, rfl, rfl, by simpa [h0] using hS, Or.inr rfl⟩
          case s2 =>
            intro done a w hS h0 hd hn hO hN
            have o2 : a.tmps[2]? = some (.slice (some ⟨pb, po, none⟩) picks.length pc) := (hO.out 2 (by decide)).trans rfl
            refine relVal rfl (.slice (some ⟨pb, po, none⟩) picks.length pc) w rfl (by go_simp) ⟨_, rfl, rfl, by simpa [h0] using hS, Or.inr rfl⟩
          case s3 =>
            intro done a w hS h0 hd hn hO hN
            have o10 : a.tmps[10]? = some (.int .i64 (ix : Int)) := (hO.out 10 (by decide)).trans rfl
            refine relVal rfl (.int .i64 (ix : Int)) w rfl (by go_simp) ⟨_, rfl, rfl, by simpa [h0] using hS, Or.inr rfl⟩
          case s4 =>
            intro done a w hS h0 hd hn hO hN
            obtain ⟨v2, g2, r2⟩ := hN 2 (by decide)
            have g2 : a.tmps[35]? = some v2 := g2
            obtain rfl : v2 = .slice (some ⟨pb, po, none⟩) picks.length pc := r2
            obtain ⟨v3, g3, r3⟩ := hN 3 (by decide)
            have g3 : a.tmps[36]? = some v3 := g3
            obtain rfl : v3 = .int .i64 (ix : Int) := r3
            refine relVal rfl (.pointer (some ⟨pb, po + ix, none⟩)) w rfl (by go_simp) ⟨_, rfl, rfl, by simpa [h0] using hS, Or.inr rfl⟩
          case s5 =>
            intro done a w hS h0 hd hn hO hN
            obtain ⟨v4, g4, r4⟩ := hN 4 (by decide)
            have g4 : a.tmps[37]? = some v4 := g4
            obtain rfl : v4 = .pointer (some ⟨pb, po + ix, none⟩) := r4
            have h6f : done 6 = false := hn 6 (by decide)
            have hw : w = wD := by have h9 := hS; simpa [h6f] using h9
            have hc : w.cell? ⟨pb, po + ix, none⟩ = some (.int .i64 pk) := by rw [hw]; exact HPK.out
            clear hw
            refine relVal rfl (.int .i64 pk) w rfl (by go_simp) ⟨_, rfl, rfl, by simpa [h0] using hS, Or.inr rfl⟩
          case s6 =>
            intro done a w hS h0 hd hn hO hN
            obtain ⟨v0, g0, r0⟩ := hN 0 (by decide)
            have g0 : a.tmps[33]? = some v0 := g0
            obtain rfl : v0 = .pointer (some ⟨B, 0, none⟩) := r0
            obtain ⟨v1, g1, r1⟩ := hN 1 (by decide)
            have g1 : a.tmps[34]? = some v1 := g1
            obtain rfl : v1 = .agg (cellsQ r g) := r1
            obtain ⟨v5, g5, r5⟩ := hN 5 (by decide)
            have g5 : a.tmps[38]? = some v5 := g5
            obtain rfl : v5 = .int .i64 pk := r5
            have hw : w = wD := by have h9 := hS; simpa [h0] using h9
            subst hw
            refine relCallF rfl rfl 8 [.tmp 33, .tmp 34, .tmp 38] #[29, 27, 3] rfl [.pointer (some ⟨B, 0, none⟩), .agg (cellsQ r g), .int .i64 pk] (by simp [Act.eval, g0, g1, g5]) (enters_of Tryd.func8 (by kernel_rfl) rfl) (Calls.mono KN.out ?_)
            rintro e w9 ⟨sv, rfl, hN⟩
            exact ⟨_, rfl, _, rfl, ⟨sv, rfl, hN⟩, Or.inl (by simp), Or.inl ⟨rfl, rfl⟩⟩
          case s7 =>
            intro done a w hS h0 hd hn hO hN
            obtain ⟨v6, g6, r6⟩ := hN 6 (by decide)
            have g6 : a.tmps[39]? = some v6 := g6
            obtain ⟨sv, hsv, hN⟩ := r6
            subst hsv
            refine relVal rfl (.tuple #[sv, .int .i64 kF, .bool aF]) w rfl (by go_simp) ⟨_, rfl, ⟨sv, rfl, hN⟩, by simpa [h0] using hS, Or.inr rfl⟩
          case s8 =>
            intro done a w hS h0 hd hn hO hN
            obtain ⟨v7, g7, r7⟩ := hN 7 (by decide)
            have g7 : a.tmps[32]? = some v7 := g7
            obtain ⟨sv, hsv, hN⟩ := r7
            subst hsv
            refine relVal rfl sv w rfl (by go_simp) ⟨_, rfl, hN, by simpa [h0] using hS, Or.inr rfl⟩
          case s9 =>
            intro done a w hS h0 hd hn hO hN
            obtain ⟨v7, g7, r7⟩ := hN 7 (by decide)
            have g7 : a.tmps[32]? = some v7 := g7
            obtain ⟨sv, hsv, hN⟩ := r7
            subst hsv
            refine relVal rfl (.int .i64 kF) w rfl (by go_simp) ⟨_, rfl, rfl, by simpa [h0] using hS, Or.inr rfl⟩
          case s10 =>
            intro done a w hS h0 hd hn hO hN
            obtain ⟨v7, g7, r7⟩ := hN 7 (by decide)
            have g7 : a.tmps[32]? = some v7 := g7
            obtain ⟨sv, hsv, hN⟩ := r7
            subst hsv
            refine relVal rfl (.bool aF) w rfl (by go_simp) ⟨_, rfl, rfl, by simpa [h0] using hS, Or.inr rfl⟩
          case s11 =>
            intro done a w hS h0 hd hn hO hN
            obtain ⟨v8, g8, r8⟩ := hN 8 (by decide)
            have g8 : a.tmps[40]? = some v8 := g8
            refine relVal rfl v8 w rfl (by go_simp) ⟨_, rfl, r8, by simpa [h0] using hS, Or.inr rfl⟩
          case s12 =>
            intro done a w hS h0 hd hn hO hN
            obtain ⟨v9, g9, r9⟩ := hN 9 (by decide)
            have g9 : a.tmps[41]? = some v9 := g9
            obtain rfl : v9 = .int .i64 kF := r9
            refine relVal rfl (.int .i64 kF) w rfl (by go_simp) ⟨_, rfl, rfl, by simpa [h0] using hS, Or.inr rfl⟩
          case s13 =>
            intro done a w hS h0 hd hn hO hN
            obtain ⟨v10, g10, r10⟩ := hN 10 (by decide)
            have g10 : a.tmps[42]? = some v10 := g10
            obtain rfl : v10 = .bool aF := r10
            refine relVal rfl (.bool aF) w rfl (by go_simp) ⟨_, rfl, rfl, by simpa [h0] using hS, Or.inr rfl⟩
        case fin =>
          intro vs done w hdone hS hR
          have hN := hR 11 (by decide)
          have e12 : vs 12 = .int .i64 kF := hR 12 (by decide)
          have e13 : vs 13 = .bool aF := hR 13 (by decide)
          have HN := show Hid (Nx wD B M tv t r g (vs 11) kF aF w) from hN
          obtain ⟨ps, ns, cs, hsv⟩ := HN.out.sl
          simp only [putAll, Act.put, List.setIfInBounds_toArray, List.set_cons_zero, List.set_cons_succ, hsv, e12, e13]
          rw [hsv] at HN
          clear hS hR hdone hN hsv e12 e13
          generalize vs 0 = x0, vs 1 = x1, vs 2 = x2, vs 3 = x3, vs 4 = x4, vs 5 = x5, vs 6 = x6, vs 7 = x7, vs 8 = x8, vs 9 = x9, vs 10 = x10
          generalize w = w3 at *
          obtain ⟨tq, hA, hN⟩ := HN.out.af
          obtain ⟨v3, hX3⟩ := HLX.out.next hA
          have H3 := show Hid (LX w0 wb w3 b4 B M v3 C u tq t2 r g) from hX3
          have HNN := show Hid (aF = true → refZ t r g = 0 ∧ ∃ main, findF t r g kF main = true ∧ (premF t r g kF main).2.2 = 0 ∧ tq = (premF t r g kF main).2.1 ∧ SqR (.slice ps ns cs) (premF t r g kF main).1 w3) from hN
          have HOT := show Hid (Fm.Ok t) from HLX.out.pr.tb.ok
          clear hA hN hX3 HLX KN HN HWD HPK
          cases aF with
          | false =>
            clear HNN HOT
            go_wp2_with fail
            refine Calls.mono (KH.out _ H3.out.bel) ?_
            rintro e w4 ⟨rfl, hb4⟩
            have H4 := show Hid _ from H3.out.later hb4
            clear hb4 H3 KH
            go_wp2_with fail
            go_ret
            exact ⟨rfl, H4.out.bel⟩
          | true =>
            obtain ⟨hz, main, hf, h0, ht', hS⟩ := HNN.out rfl
            obtain ⟨i, rfl, hi2, hpc, hO'⟩ := prem_pc HOT.out HOR.out.1 hz hf h0
            have hrow := prem_rows (t := t) HOR.out.1 g kF (i : Int)
            rw [← ht'] at hpc hO'
            generalize (premF t r g kF (i : Int)).1 = L at *
            generalize tq = t' at *
            obtain ⟨ps', cs', hsf⟩ := hS.form
            obtain ⟨rfl, rfl, rfl⟩ := Value.slice.inj hsf
            clear hsf
            by_cases hL0 : L.length = 0
            · rw [hL0]
              clear hz hf h0 ht' hS hpc hO' hrow HNN HOT hL0
              go_wp2_with fail
              refine Calls.mono (KH.out _ H3.out.bel) ?_
              rintro e w4 ⟨rfl, hb4⟩
              have H4 := show Hid _ from H3.out.later hb4
              clear hb4 H3 KH
              go_wp2_with fail
              go_ret
              exact ⟨rfl, H4.out.bel⟩
            · have hq0 : rgt t.length (r, g) := rgt_iff.1 (by
                have h := ref_right (t := t) HOR.out.1 g
                rw [hz] at h
                cases hqq : rightQ t r g
                · rw [hqq, if_neg Bool.false_ne_true] at h
                  exact absurd h (by decide)
                · rfl)
              obtain ⟨f, hWf⟩ := wt_ex hO'
              have hln := hO'.len
              have HPR := show Hid (rgt t'.length (r, g) ∧ ∀ s ∈ L, rgt t'.length s) from pc_right hO' HOR.out.1 hi2 hpc hq0
              have HWF := show Hid (Wtp t' f) from hWf
              have HFA := show Hid (∀ (L0 : List Nat), Fl L0 (idsW f (r, g)) → (∀ h : 0 < L0.length, L0[0] < 1152921504606846976) → ∀ s ∈ L, ∀ L1 L2 : List Nat, Fl L1 (idsW f s) → Fl L2 (idsW f (r, g)) → lessL L1 L2 = true) from fun L0 h1 h2 s hs L1 L2 h3 h4 => by
                have hxl : t.length ≤ t'.length := (pc_ext hpc).len
                have hi1024 : i < 1024 := by omega
                have hin := pc_in (f := f) HOR.out.1 hi1024 hpc
                rw [← cnS_is, ← h1.ct] at hin
                have hm := List.count_pos_iff.1 hin
                have hb : f i < 1152921504606846976 := by
                  obtain ⟨j, hj, e⟩ := List.mem_iff_getElem.1 hm
                  have h20 := h2 (by omega)
                  rw [← e]
                  by_cases e0 : j = 0
                  · subst e0; exact h20
                  · have := List.pairwise_iff_getElem.1 h1.pw 0 j (by omega) hj (by omega)
                    omega
                have hfal := pc_falls hO' HOR.out.1 hi2 hpc hWf hb hs
                exact less_count h3.pw h4.pw (m := f i) (fun v hv => by rw [h3.ct, h4.ct, cnS_is, cnS_is]; exact hfal.1 v hv) (by rw [h3.ct, h4.ct, cnS_is, cnS_is]; exact hfal.2)
              have HLR := show Hid ((∀ s ∈ L, Ok s.1) ∧ L.length ≤ 2) from hrow
              have HSQ := show Hid (SqR (.slice ps L.length cs) L w3) from hS
              have HO' := show Hid (Fm.Ok t') from hO'
              have hLb : ((L.length : Int) == 0) = false := by rw [beq_eq_false_iff_ne]; omega
              have hL0I : ¬ (L.length : Int) = 0 := by omega
              clear hS hrow hpc hq0 h0 hf hz ht' hi2 HOT HNN hO' hWf
              have KR := show Hid _ from rows_any w3 H3.out.pr.tb
              go_wp2_with fail
              refine Calls.mono KR.out ?_
              rintro e w4 ⟨v4, rfl, hF⟩
              have H4 := show Hid (Rw w4 v4 t' ∧ LX w0 wb w4 b4 B M v3 C u t' t2 r g ∧ SqR (.slice ps L.length cs) L w4) from ⟨hF.1, H3.out.later hF.2.2, HSQ.out.later hF.2.2⟩
              obtain ⟨p4, c4, hv4⟩ := hF.1.form
              clear hF H3 KR HSQ
              subst hv4
              go_wp2_with (refine wpList_box 40 _ rfl _ rfl rfl ?_)
              intro w5 c5 hn5
              have H5 := show Hid (LF w0 wb w5 b4 B M v3 C u t' t2 r g c5 (.slice p4 t'.length c4) (.slice ps L.length cs) L) from ⟨H4.out.2.1.later hn5.bel, ⟨hn5.blk, H4.out.1.keep (fun k hk => hn5.bel.block k (H4.out.1.lt k hk).1), HO'.out⟩, H4.out.2.2.later hn5.bel⟩
              clear hn5 H4
              have KG := show Hid (∀ (W : World) (s : SQ), LF w0 wb W b4 B M v3 C u t' t2 r g c5 (.slice p4 t'.length c4) (.slice ps L.length cs) L → Ok s.1 → rgt t'.length s → Calls Tryd.prog 10 #[.pointer (some ⟨c5, 0, none⟩), .agg (cellsQ s.1 s.2)] W fun e w' => e = .returned (.bool true) ∧ Below W.heap.size W w') from fun W s h ho hg => by
                have h2 := rright_any W h.tr ho s.2
                rwa [rgt_iff.2 hg] at h2
              have KW := show Hid (∀ (W : World) (s : SQ), LF w0 wb W b4 B M v3 C u t' t2 r g c5 (.slice p4 t'.length c4) (.slice ps L.length cs) L → Ok s.1 → rgt t'.length s → Calls Tryd.prog 11 #[.pointer (some ⟨c5, 0, none⟩), .agg (cellsQ s.1 s.2)] W fun e w' => ∃ sv, e = .returned sv ∧ ∃ LL, IsU w' sv LL ∧ Fl LL (idsW f s) ∧ Below W.heap.size W w') from fun W s h ho hg => rwts_any W h.tr ho hg HWF.out
              have K6 := show Hid (Calls Tryd.prog 10 #[.pointer (some ⟨c5, 0, none⟩), .agg (cellsQ r g)] w5 fun e w' => e = .returned (.bool true) ∧ Below w5.heap.size w5 w') from KG.out w5 (r, g) H5.out HOR.out.1 HPR.out.1
              go_wp2_with (refine wpList_ldQQ _ _ rfl b4 rfl H5.out.lx.s hr16 rfl ?_)
              refine Calls.mono K6.out ?_
              rintro e w6 ⟨rfl, hb6⟩
              have H6 := show Hid _ from H5.out.later hb6
              clear hb6 H5 K6
              have K7 := show Hid (Calls Tryd.prog 11 #[.pointer (some ⟨c5, 0, none⟩), .agg (cellsQ r g)] w6 fun e w' => ∃ sv, e = .returned sv ∧ ∃ LL, IsU w' sv LL ∧ Fl LL (idsW f (r, g)) ∧ Below w6.heap.size w6 w') from KW.out w6 (r, g) H6.out HOR.out.1 HPR.out.1
              go_wp2_with (refine wpList_ldQQ _ _ rfl b4 rfl H6.out.lx.s hr16 rfl ?_)
              refine Calls.mono K7.out ?_
              rintro e w7 ⟨sv7, rfl, L0, hU, hF, hb7⟩
              have H7 := show Hid (LF w0 wb w7 b4 B M v3 C u t' t2 r g c5 (.slice p4 t'.length c4) (.slice ps L.length cs) L) from H6.out.later hb7
              have hlen0 : L0.length = (idsW f (r, g)).length := hF.len
              have hpos : 0 < L0.length := by rw [hlen0]; unfold idsW; simp
              obtain ⟨p7, c7, hv7, hcl7⟩ := hU
              obtain ⟨b7, hp7, cl7⟩ := hcl7 0 hpos
              subst hp7
              subst hv7
              have HF0 := show Hid (Fl L0 (idsW f (r, g))) from hF
              have hposI : (0 : Int) < (L0.length : Int) := by omega
              obtain ⟨x7, hx7⟩ : ∃ x, x = L0[0] := ⟨_, rfl⟩
              rw [← hx7] at cl7
              have HX7 := show Hid (x7 = L0[0]) from hx7
              clear hb7 H6 K7 hcl7 hF hlen0 hx7
              by_cases hbig : 1152921504606846976 ≤ x7
              · have HBB := show Hid (decide (1152921504606846976 ≤ x7) = true) from decide_eq_true hbig
                clear HX7 HF0 hbig
                go_wp2_with (refine wpList_geq rfl _ _ _ rfl x7 rfl true HBB.out ?_)
                refine Calls.mono (KH.out _ H7.out.lx.bel) ?_
                rintro e w8 ⟨rfl, hb8⟩
                have H8 := show Hid _ from H7.out.later hb8
                clear hb8 H7 KH
                go_wp2_with fail
                go_ret
                exact ⟨rfl, H8.out.lx.bel⟩
              · have HBB := show Hid (decide (1152921504606846976 ≤ x7) = false) from decide_eq_false hbig
                have HFL := show Hid (∀ s ∈ L, ∀ L1 L2 : List Nat, Fl L1 (idsW f s) → Fl L2 (idsW f (r, g)) → lessL L1 L2 = true) from HFA.out L0 HF0.out (fun _ => by rw [← HX7.out]; omega)
                clear HX7 HF0 HFA hbig
                go_wp2_with (refine wpList_geq rfl _ _ _ rfl x7 rfl false HBB.out ?_)
                clear HBB
                go_loopw [16] (fun kv wr => ∃ kx : Nat, kx ≤ L.length ∧ kv = .int .i64 (kx : Int) ∧ Hid (LF w0 wb wr b4 B M v3 C u t' t2 r g c5 (.slice p4 t'.length c4) (.slice ps L.length cs) L)) (fun kv _ => L.length - (intOf kv).toNat)
                case atStart => exact ⟨0, by omega, rfl, H7⟩
                case round =>
                  obtain ⟨kx, hkx, rfl, HQ0⟩ := hrel
                  clear H7
                  have hL2 := HLR.out.2
                  by_cases hkl : kx < L.length
                  · have hkI : (kx : Int) < (L.length : Int) := by omega
                    have HLE := show Hid (kx + 1 ≤ L.length) from hkl
                    have hmem := List.getElem_mem hkl
                    have hokS := HLR.out.1 _ hmem
                    have hrgS := HPR.out.2 _ hmem
                    obtain ⟨qs, hps, hsi⟩ := HQ0.out.sq.at (fun s hs => (HLR.out.1 s hs).1) hkl
                    have HSI := show Hid (∀ W : World, LF w0 wb W b4 B M v3 C u t' t2 r g c5 (.slice p4 t'.length c4) (.slice ps L.length cs) L → SeqIn W qs (kx * 17) L[kx].1 L[kx].2) from fun W h => by
                      obtain ⟨qs', hps', hsi'⟩ := h.sq.at (fun s hs => (HLR.out.1 s hs).1) hkl
                      rw [hps] at hps'
                      cases hps'
                      exact hsi'
                    subst hps
                    have HQ := show Hid (LF w0 wb wr b4 B M v3 C u t' t2 r g c5 (.slice p4 t'.length c4) (.slice (some ⟨qs, 0, none⟩) L.length cs) L) from HQ0.out
                    have K8 := show Hid (∀ W : World, LF w0 wb W b4 B M v3 C u t' t2 r g c5 (.slice p4 t'.length c4) (.slice (some ⟨qs, 0, none⟩) L.length cs) L → Calls Tryd.prog 10 #[.pointer (some ⟨c5, 0, none⟩), .agg (cellsQ L[kx].1 L[kx].2)] W fun e w' => e = .returned (.bool true) ∧ Below W.heap.size W w') from fun W h => KG.out W L[kx] h hokS hrgS
                    have K9 := show Hid (∀ W : World, LF w0 wb W b4 B M v3 C u t' t2 r g c5 (.slice p4 t'.length c4) (.slice (some ⟨qs, 0, none⟩) L.length cs) L → Calls Tryd.prog 11 #[.pointer (some ⟨c5, 0, none⟩), .agg (cellsQ L[kx].1 L[kx].2)] W fun e w' => ∃ sv, e = .returned sv ∧ ∃ LL, IsU w' sv LL ∧ Fl LL (idsW f L[kx]) ∧ Below W.heap.size W w') from fun W h => KW.out W L[kx] h hokS hrgS
                    have K10 := show Hid (∀ W : World, LF w0 wb W b4 B M v3 C u t' t2 r g c5 (.slice p4 t'.length c4) (.slice (some ⟨qs, 0, none⟩) L.length cs) L → Calls Tryd.prog 11 #[.pointer (some ⟨c5, 0, none⟩), .agg (cellsQ r g)] W fun e w' => ∃ sv, e = .returned sv ∧ ∃ LL, IsU w' sv LL ∧ Fl LL (idsW f (r, g)) ∧ Below W.heap.size W w') from fun W h => KW.out W (r, g) h HOR.out.1 HPR.out.1
                    have K11 := show Hid (∀ (W : World) (v1 v2 : Value) (LL1 LL2 : List Nat), IsU W v1 LL1 → Fl LL1 (idsW f L[kx]) → IsU W v2 LL2 → Fl LL2 (idsW f (r, g)) → Calls Tryd.prog 12 #[v1, v2] W fun e w' => e = .returned (.bool true) ∧ Below W.heap.size W w') from fun W v1 v2 LL1 LL2 h1 f1 h2 f2 => by
                      have h := rless_any W h1 h2 (ids_le f1) (ids_le f2)
                      rwa [HFL.out _ hmem LL1 LL2 f1 f2] at h
                    have h16 := hokS.1
                    clear hmem hokS hrgS hsi KG KW HLR HPR HFL HQ0 HWF HO' HOR HPC HNP
                    generalize L[kx] = s at *
                    obtain ⟨sr, sg⟩ := s
                    simp only at K8 K9 K11 HSI h16
                    go_wp2_with fail
                    refine wp_region_rel (by kernel_rfl) [some 71, some 72, some 73, some 74, some 75, some 76, some 77, some 78, some 79, some 80, some 81, some 82, some 83, some 84, some 85, some 86, some 87, some 88, some 89, some 90] [[], [], [], [1, 2], [3], [0, 4], [5], [6], [7], [7], [7], [9, 10, 7], [11, 7], [8, 12, 7], [7], [7], [14, 15, 7], [13, 16, 7], [17, 7], [7, 18]] (by kernel_rfl) (fun i v w => match i with | 0 => v = .pointer (some ⟨c5, 0, none⟩) | 1 => v = .slice (some ⟨qs, 0, none⟩) L.length cs | 2 => v = .int .i64 (kx : Int) | 3 => v = .pointer (some ⟨qs, kx * 17, none⟩) | 4 => v = .agg (cellsQ sr sg) | 5 => v = .bool true | 6 => v = .bool false | 7 => v = .bool false | 8 => v = .pointer (some ⟨c5, 0, none⟩) | 9 => v = .slice (some ⟨qs, 0, none⟩) L.length cs | 10 => v = .int .i64 (kx : Int) | 11 => v = .pointer (some ⟨qs, kx * 17, none⟩) | 12 => v = .agg (cellsQ sr sg) | 13 => ∃ LL, IsU w v LL ∧ Fl LL (idsW f (sr, sg)) | 14 => v = .pointer (some ⟨c5, 0, none⟩) | 15 => v = .agg (cellsQ r g) | 16 => ∃ LL, IsU w v LL ∧ Fl LL (idsW f (r, g)) | 17 => v = .bool true | 18 => v = .bool false | 19 => v = .bool false | _ => True) (fun _ W => LF w0 wb W b4 B M v3 C u t' t2 r g c5 (.slice p4 t'.length c4) (.slice (some ⟨qs, 0, none⟩) L.length cs) L) (fun w w' => Below w.heap.size w w') ?hle (HQ.out.drew) (allLt 20 ?steps) ?fin
                    case hle =>
                      intro i v w w1 hl h
                      match i, h with
                      | 0, h => exact h
                      | 1, h => exact h
                      | 2, h => exact h
                      | 3, h => exact h
                      | 4, h => exact h
                      | 5, h => exact h
                      | 6, h => exact h
                      | 7, h => exact h
                      | 8, h => exact h
                      | 9, h => exact h
                      | 10, h => exact h
                      | 11, h => exact h
                      | 12, h => exact h
                      | 13, h => exact (by obtain ⟨LL, h1, h2⟩ := h; exact ⟨LL, h1.later hl, h2⟩)
                      | 14, h => exact h
                      | 15, h => exact h
                      | 16, h => exact (by obtain ⟨LL, h1, h2⟩ := h; exact ⟨LL, h1.later hl, h2⟩)
                      | 17, h => exact h
                      | 18, h => exact h
                      | 19, h => exact h
                      | _ + 20, h => trivial
                    case steps =>
                      refine ⟨⟨⟨⟨⟨⟨⟨⟨⟨⟨⟨⟨⟨⟨⟨⟨⟨⟨⟨⟨trivial, ?s0⟩, ?s1⟩, ?s2⟩, ?s3⟩, ?s4⟩, ?s5⟩, ?s6⟩, ?s7⟩, ?s8⟩, ?s9⟩, ?s10⟩, ?s11⟩, ?s12⟩, ?s13⟩, ?s14⟩, ?s15⟩, ?s16⟩, ?s17⟩, ?s18⟩, ?s19⟩
                      case s0 =>
                        intro done a w hS h0 hd hn hO hN
                        have o14 : a.tmps[14]? = some (.pointer (some ⟨c5, 0, none⟩)) := (hO.out 14 (by decide)).trans rfl
                        refine relVal rfl (.pointer (some ⟨c5, 0, none⟩)) w rfl (by go_simp) ⟨_, rfl, rfl, hS, Below.refl _ _⟩
                      case s1 =>
                        intro done a w hS h0 hd hn hO hN
                        have o11 : a.tmps[11]? = some (.slice (some ⟨qs, 0, none⟩) L.length cs) := (hO.out 11 (by decide)).trans rfl
                        refine relVal rfl (.slice (some ⟨qs, 0, none⟩) L.length cs) w rfl (by go_simp) ⟨_, rfl, rfl, hS, Below.refl _ _⟩
                      case s2 =>
                        intro done a w hS h0 hd hn hO hN
                        have o16 : a.tmps[16]? = some (.int .i64 (kx : Int)) := (hO.out 16 (by decide)).trans rfl
                        refine relVal rfl (.int .i64 (kx : Int)) w rfl (by go_simp) ⟨_, rfl, rfl, hS, Below.refl _ _⟩
                      case s3 =>
                        intro done a w hS h0 hd hn hO hN
                        obtain ⟨v1, g1, r1⟩ := hN 1 (by decide)
                        have g1 : a.tmps[72]? = some v1 := g1
                        obtain rfl : v1 = .slice (some ⟨qs, 0, none⟩) L.length cs := r1
                        obtain ⟨v2, g2, r2⟩ := hN 2 (by decide)
                        have g2 : a.tmps[73]? = some v2 := g2
                        obtain rfl : v2 = .int .i64 (kx : Int) := r2
                        refine relVal rfl (.pointer (some ⟨qs, kx * 17, none⟩)) w rfl (by go_simp) ⟨_, rfl, rfl, hS, Below.refl _ _⟩
                      case s4 =>
                        intro done a w hS h0 hd hn hO hN
                        obtain ⟨v3, g3, r3⟩ := hN 3 (by decide)
                        have g3 : a.tmps[74]? = some v3 := g3
                        obtain rfl : v3 = .pointer (some ⟨qs, kx * 17, none⟩) := r3
                        have hq := loadQin w qs (kx * 17) (HSI.out w hS) h16
                        refine relVal rfl (.agg (cellsQ sr sg)) w rfl (by simp [execOp, Act.eval, g3, hq, Result.andThen]) ⟨_, rfl, rfl, hS, Below.refl _ _⟩
                      case s5 =>
                        intro done a w hS h0 hd hn hO hN
                        obtain ⟨v0, g0, r0⟩ := hN 0 (by decide)
                        have g0 : a.tmps[71]? = some v0 := g0
                        obtain rfl : v0 = .pointer (some ⟨c5, 0, none⟩) := r0
                        obtain ⟨v4, g4, r4⟩ := hN 4 (by decide)
                        have g4 : a.tmps[75]? = some v4 := g4
                        obtain rfl : v4 = .agg (cellsQ sr sg) := r4
                        refine relCallF rfl rfl 10 [.tmp 71, .tmp 75] #[30, 27] rfl [.pointer (some ⟨c5, 0, none⟩), .agg (cellsQ sr sg)] (by simp [Act.eval, g0, g4]) (enters_of Tryd.func10 (by kernel_rfl) rfl) (Calls.mono (K8.out w hS) ?_)
                        rintro e w1 ⟨rfl, hb⟩
                        exact ⟨_, rfl, _, rfl, rfl, hS.later hb, hb⟩
                      case s6 =>
                        intro done a w hS h0 hd hn hO hN
                        obtain ⟨v5, g5, r5⟩ := hN 5 (by decide)
                        have g5 : a.tmps[76]? = some v5 := g5
                        obtain rfl : v5 = .bool true := r5
                        refine relVal rfl (.bool false) w rfl (by go_simp) ⟨_, rfl, rfl, hS, Below.refl _ _⟩
                      case s7 =>
                        intro done a w hS h0 hd hn hO hN
                        obtain ⟨v6, g6, r6⟩ := hN 6 (by decide)
                        have g6 : a.tmps[77]? = some v6 := g6
                        obtain rfl : v6 = .bool false := r6
                        refine relVal rfl (.bool false) w rfl (by go_simp) ⟨_, rfl, rfl, hS, Below.refl _ _⟩
                      case s8 =>
                        intro done a w hS h0 hd hn hO hN
                        obtain ⟨v7, g7, r7⟩ := hN 7 (by decide)
                        have g7 : a.tmps[78]? = some v7 := g7
                        obtain rfl : v7 = .bool false := r7
                        have o14 : a.tmps[14]? = some (.pointer (some ⟨c5, 0, none⟩)) := (hO.out 14 (by decide)).trans rfl
                        refine relValW rfl (.pointer (some ⟨c5, 0, none⟩)) w ((wanted_is rfl rfl g7).trans rfl) (by go_simp) ⟨_, rfl, rfl, hS, Below.refl _ _⟩
                      case s9 =>
                        intro done a w hS h0 hd hn hO hN
                        obtain ⟨v7, g7, r7⟩ := hN 7 (by decide)
                        have g7 : a.tmps[78]? = some v7 := g7
                        obtain rfl : v7 = .bool false := r7
                        have o11 : a.tmps[11]? = some (.slice (some ⟨qs, 0, none⟩) L.length cs) := (hO.out 11 (by decide)).trans rfl
                        refine relValW rfl (.slice (some ⟨qs, 0, none⟩) L.length cs) w ((wanted_is rfl rfl g7).trans rfl) (by go_simp) ⟨_, rfl, rfl, hS, Below.refl _ _⟩
                      case s10 =>
                        intro done a w hS h0 hd hn hO hN
                        obtain ⟨v7, g7, r7⟩ := hN 7 (by decide)
                        have g7 : a.tmps[78]? = some v7 := g7
                        obtain rfl : v7 = .bool false := r7
                        have o16 : a.tmps[16]? = some (.int .i64 (kx : Int)) := (hO.out 16 (by decide)).trans rfl
                        refine relValW rfl (.int .i64 (kx : Int)) w ((wanted_is rfl rfl g7).trans rfl) (by go_simp) ⟨_, rfl, rfl, hS, Below.refl _ _⟩
                      case s11 =>
                        intro done a w hS h0 hd hn hO hN
                        obtain ⟨v9, g9, r9⟩ := hN 9 (by decide)
                        have g9 : a.tmps[80]? = some v9 := g9
                        obtain rfl : v9 = .slice (some ⟨qs, 0, none⟩) L.length cs := r9
                        obtain ⟨v10, g10, r10⟩ := hN 10 (by decide)
                        have g10 : a.tmps[81]? = some v10 := g10
                        obtain rfl : v10 = .int .i64 (kx : Int) := r10
                        obtain ⟨v7, g7, r7⟩ := hN 7 (by decide)
                        have g7 : a.tmps[78]? = some v7 := g7
                        obtain rfl : v7 = .bool false := r7
                        refine relValW rfl (.pointer (some ⟨qs, kx * 17, none⟩)) w ((wanted_is rfl rfl g7).trans rfl) (by go_simp) ⟨_, rfl, rfl, hS, Below.refl _ _⟩
                      case s12 =>
                        intro done a w hS h0 hd hn hO hN
                        obtain ⟨v11, g11, r11⟩ := hN 11 (by decide)
                        have g11 : a.tmps[82]? = some v11 := g11
                        obtain rfl : v11 = .pointer (some ⟨qs, kx * 17, none⟩) := r11
                        obtain ⟨v7, g7, r7⟩ := hN 7 (by decide)
                        have g7 : a.tmps[78]? = some v7 := g7
                        obtain rfl : v7 = .bool false := r7
                        have hq := loadQin w qs (kx * 17) (HSI.out w hS) h16
                        refine relValW rfl (.agg (cellsQ sr sg)) w ((wanted_is rfl rfl g7).trans rfl) (by simp [execOp, Act.eval, g11, hq, Result.andThen]) ⟨_, rfl, rfl, hS, Below.refl _ _⟩
                      case s13 =>
                        intro done a w hS h0 hd hn hO hN
                        obtain ⟨v8, g8, r8⟩ := hN 8 (by decide)
                        have g8 : a.tmps[79]? = some v8 := g8
                        obtain rfl : v8 = .pointer (some ⟨c5, 0, none⟩) := r8
                        obtain ⟨v12, g12, r12⟩ := hN 12 (by decide)
                        have g12 : a.tmps[83]? = some v12 := g12
                        obtain rfl : v12 = .agg (cellsQ sr sg) := r12
                        obtain ⟨v7, g7, r7⟩ := hN 7 (by decide)
                        have g7 : a.tmps[78]? = some v7 := g7
                        obtain rfl : v7 = .bool false := r7
                        refine relCallW rfl ((wanted_is rfl rfl g7).trans rfl) 11 (.func 11) [.tmp 79, .tmp 83] #[30, 27] rfl [.pointer (some ⟨c5, 0, none⟩), .agg (cellsQ sr sg)] [] rfl (by simp [Act.eval, g8, g12]) (enters_of Tryd.func11 (by kernel_rfl) rfl) (Calls.mono (K9.out w hS) ?_)
                        rintro e w1 ⟨sv, rfl, LL, hU, hF, hb⟩
                        exact ⟨_, rfl, _, rfl, ⟨LL, hU, hF⟩, hS.later hb, hb⟩
                      case s14 =>
                        intro done a w hS h0 hd hn hO hN
                        obtain ⟨v7, g7, r7⟩ := hN 7 (by decide)
                        have g7 : a.tmps[78]? = some v7 := g7
                        obtain rfl : v7 = .bool false := r7
                        have o14 : a.tmps[14]? = some (.pointer (some ⟨c5, 0, none⟩)) := (hO.out 14 (by decide)).trans rfl
                        refine relValW rfl (.pointer (some ⟨c5, 0, none⟩)) w ((wanted_is rfl rfl g7).trans rfl) (by go_simp) ⟨_, rfl, rfl, hS, Below.refl _ _⟩
                      case s15 =>
                        intro done a w hS h0 hd hn hO hN
                        obtain ⟨v7, g7, r7⟩ := hN 7 (by decide)
                        have g7 : a.tmps[78]? = some v7 := g7
                        obtain rfl : v7 = .bool false := r7
                        have o4 : a.tmps[4]? = some (.pointer (some ⟨b4, 0, none⟩)) := (hO.out 4 (by decide)).trans rfl
                        have hq := loadQQ w b4 hS.lx.s hr16
                        refine relValW rfl (.agg (cellsQ r g)) w ((wanted_is rfl rfl g7).trans rfl) (by simp [execOp, Act.eval, o4, hq, Result.andThen]) ⟨_, rfl, rfl, hS, Below.refl _ _⟩
                      case s16 =>
                        intro done a w hS h0 hd hn hO hN
                        obtain ⟨v14, g14, r14⟩ := hN 14 (by decide)
                        have g14 : a.tmps[85]? = some v14 := g14
                        obtain rfl : v14 = .pointer (some ⟨c5, 0, none⟩) := r14
                        obtain ⟨v15, g15, r15⟩ := hN 15 (by decide)
                        have g15 : a.tmps[86]? = some v15 := g15
                        obtain rfl : v15 = .agg (cellsQ r g) := r15
                        obtain ⟨v7, g7, r7⟩ := hN 7 (by decide)
                        have g7 : a.tmps[78]? = some v7 := g7
                        obtain rfl : v7 = .bool false := r7
                        refine relCallW rfl ((wanted_is rfl rfl g7).trans rfl) 11 (.func 11) [.tmp 85, .tmp 86] #[30, 27] rfl [.pointer (some ⟨c5, 0, none⟩), .agg (cellsQ r g)] [] rfl (by simp [Act.eval, g14, g15]) (enters_of Tryd.func11 (by kernel_rfl) rfl) (Calls.mono (K10.out w hS) ?_)
                        rintro e w1 ⟨sv, rfl, LL, hU, hF, hb⟩
                        exact ⟨_, rfl, _, rfl, ⟨LL, hU, hF⟩, hS.later hb, hb⟩
                      case s17 =>
                        intro done a w hS h0 hd hn hO hN
                        obtain ⟨v13, g13, r13⟩ := hN 13 (by decide)
                        have g13 : a.tmps[84]? = some v13 := g13
                        obtain ⟨v16, g16, r16⟩ := hN 16 (by decide)
                        have g16 : a.tmps[87]? = some v16 := g16
                        obtain ⟨v7, g7, r7⟩ := hN 7 (by decide)
                        have g7 : a.tmps[78]? = some v7 := g7
                        obtain rfl : v7 = .bool false := r7
                        obtain ⟨LL1, hU1, hF1⟩ := r13
                        obtain ⟨LL2, hU2, hF2⟩ := r16
                        refine relCallW rfl ((wanted_is rfl rfl g7).trans rfl) 12 (.func 12) [.tmp 84, .tmp 87] #[42, 42] rfl [v13, v16] [] rfl (by simp [Act.eval, g13, g16]) (enters_of Tryd.func12 (by kernel_rfl) rfl) (Calls.mono (K11.out w v13 v16 LL1 LL2 hU1 hF1 hU2 hF2) ?_)
                        rintro e w1 ⟨rfl, hb⟩
                        exact ⟨_, rfl, _, rfl, rfl, hS.later hb, hb⟩
                      case s18 =>
                        intro done a w hS h0 hd hn hO hN
                        obtain ⟨v17, g17, r17⟩ := hN 17 (by decide)
                        have g17 : a.tmps[88]? = some v17 := g17
                        obtain rfl : v17 = .bool true := r17
                        obtain ⟨v7, g7, r7⟩ := hN 7 (by decide)
                        have g7 : a.tmps[78]? = some v7 := g7
                        obtain rfl : v7 = .bool false := r7
                        refine relValW rfl (.bool false) w ((wanted_is rfl rfl g7).trans rfl) (by go_simp) ⟨_, rfl, rfl, hS, Below.refl _ _⟩
                      case s19 =>
                        intro done a w hS h0 hd hn hO hN
                        obtain ⟨v7, g7, r7⟩ := hN 7 (by decide)
                        have g7 : a.tmps[78]? = some v7 := g7
                        obtain rfl : v7 = .bool false := r7
                        obtain ⟨v18, g18, r18⟩ := hN 18 (by decide)
                        have g18 : a.tmps[89]? = some v18 := g18
                        obtain rfl : v18 = .bool false := r18
                        refine relVal rfl (.bool false) w rfl (by go_simp) ⟨_, rfl, rfl, hS, Below.refl _ _⟩
                    case fin =>
                      intro vs done w hdone hS hR
                      have e19 : vs 19 = .bool false := hR 19 (by decide)
                      have HS := show Hid (LF w0 wb w b4 B M v3 C u t' t2 r g c5 (.slice p4 t'.length c4) (.slice (some ⟨qs, 0, none⟩) L.length cs) L) from hS
                      simp only [putAll, Act.put, List.setIfInBounds_toArray, List.set_cons_zero, List.set_cons_succ, e19]
                      clear hS hR hdone e19
                      generalize vs 0 = x0, vs 1 = x1, vs 2 = x2, vs 3 = x3, vs 4 = x4, vs 5 = x5, vs 6 = x6, vs 7 = x7, vs 8 = x8, vs 9 = x9, vs 10 = x10, vs 11 = x11, vs 12 = x12, vs 13 = x13, vs 14 = x14, vs 15 = x15, vs 16 = x16, vs 17 = x17, vs 18 = x18
                      go_wp2_with fail
                      go_roundw
                      case rel => exact ⟨kx + 1, HLE.out, by go_num, HS⟩
                      case measure => first | (simp [intOf]; done) | (simp [intOf]; omega)
                  · have hkI : ¬ (kx : Int) < (L.length : Int) := by omega
                    obtain ⟨j, hj, hjw⟩ := pick_div pk (n := L.length) (by omega) (by omega)
                    have hjI : (j : Int) < (L.length : Int) := by omega
                    have hmem := List.getElem_mem hj
                    have hokS := HLR.out.1 _ hmem
                    obtain ⟨qs, hps, hsi⟩ := HQ0.out.sq.at (fun s hs => (HLR.out.1 s hs).1) hj
                    subst hps
                    have cpk := HPC.out wr HQ0.out.lx.bel
                    have HSI := show Hid (SeqIn wr qs (j * 17) L[j].1 L[j].2) from hsi
                    have HOS := show Hid (Ok L[j].1) from hokS
                    have h16 := hokS.1
                    have hw0 : ¬ IntKind.u64.wrap (L.length : Int) = 0 := by rw [wrapU]; omega
                    have hw1 : (IntKind.u64.wrap (L.length : Int) == 0) = false := by rw [beq_eq_false_iff_ne]; exact hw0
                    clear hmem hokS hsi KG KW HLR HPR HFL HWF HO' HPC
                    generalize L[j] = s at *
                    clear hj
                    obtain ⟨sr, sg⟩ := s
                    simp only at HSI HOS h16
                    go_wp2_with (first | (refine wpList_ldS _ rfl _ rfl qs (j * 17) rfl HSI.out h16 ?_) | (refine wpList_st 27 rfl rfl _ _ rfl b4 rfl (cellsQ sr sg) rfl _ _ HQ0.out.lx.s (by rw [sizeQ, cellsQ_size h16]) (by rw [cellsQ_size h16, cellsQ_size hr16]) (cellsQ_one sr sg) ?_))
                    intro w9 hs9 hk9
                    obtain ⟨wb', hb9, hX9⟩ := HQ0.out.lx.store HOR.out.2 HB4.out.1 hs9 hk9
                    have H9 := show Hid (Ok sr ∧ b4 < wb'.heap.size ∧ LX w0 wb' w9 b4 B M v3 C u t' t2 sr sg) from ⟨HOS.out, hb9, hX9⟩
                    clear hs9 hk9 hb9 hX9 HQ0 HSI HOS
                    go_wp2_with fail
                    go_roundw
                    case rel => exact ⟨ix + 1, wb', v3, t', sr, sg, HNP.out, by go_num, H9⟩
                    case measure => first | (simp [intOf]; done) | (simp [intOf]; omega)
      · have hge : ¬ (ix : Int) < (picks.length : Int) := by omega
        go_wp2_with fail
        refine Calls.mono (KH.out _ HI.out.2.2.bel) ?_
        rintro e w3 ⟨rfl, hb3⟩
        have H3 := show Hid _ from HI.out.2.2.later hb3
        clear hb3 HI KH
        go_wp2_with fail
        go_ret
        exact ⟨rfl, H3.out.bel⟩
  · have H2 := show Hid (Below w0.heap.size w0 w2) from H1.out.bel.trans (hb.mono H1.out.bel.size)
    clear hb H1 KT
    go_wp2_with fail
    refine Calls.mono (KH.out _ H2.out) ?_
    rintro e w3 ⟨rfl, hb3⟩
    have H3 := show Hid (Below w0.heap.size w0 w3) from H2.out.trans (hb3.mono H2.out.size)
    clear hb3 H2 KH
    go_wp2_with fail
    go_ret
    exact ⟨rfl, H3.out⟩
end Go.Proofs.YtpddfooeaecekaaDoor
