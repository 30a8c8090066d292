/-
  Plain mathematics: what the document's parser puts while it reads; that it is what is put of a tree. No condition.
-/
import Derived.Test.YtcidldgenogdkaaGreatDoorGAa
import Derived.Test.YtcidldgenogdkaaGreatDoorGDa
namespace Go.Proofs.YtcidldgenogdkaaGreatDoor
open Fm (Nd)
open Sx (T thn)

namespace Dp
/-- Rows, and: are they full? -/
abbrev S := List Nd × Bool
def sput (s : S) (n : Nd) : Int × S := if s.2 = true then (0, s) else ((Fm.put s.1 n).1, (Fm.put s.1 n).2.2, decide ((Fm.put s.1 n).2.1 = 30))
def jn (k x y : Int) : Nd := ⟨k, ⟨#[]⟩, x, y⟩
def str : T → S → Int × S
  | .atom s, z => sput z ⟨1, s, 0, 0⟩
  | .bot, z => sput z Fm.bot
  | .top, z => sput (sput z Fm.bot).2 (jn 5 (sput z Fm.bot).1 (sput z Fm.bot).1)
  | .neg a, z => sput (sput (str a z).2 Fm.bot).2 (jn 5 (str a z).1 (sput (str a z).2 Fm.bot).1)
  | .bin k a b, z => sput (str b (str a z).2).2 (jn k (str a z).1 (str b (str a z).2).1)
  | .iff a b, z => sput (sput (sput (str b (str a z).2).2 (jn 5 (str a z).1 (str b (str a z).2).1)).2 (jn 5 (str b (str a z).2).1 (str a z).1)).2 (jn 3 (sput (str b (str a z).2).2 (jn 5 (str a z).1 (str b (str a z).2).1)).1 (sput (sput (str b (str a z).2).2 (jn 5 (str a z).1 (str b (str a z).2).1)).2 (jn 5 (str b (str a z).2).1 (str a z).1)).1)
def Gd (r : Int × S) : Prop := Fm.Ok r.2.1 ∧ Fm.i64 r.1
theorem i64_0 : Fm.i64 0 := ⟨by decide, by decide⟩
theorem i64_1 : Fm.i64 1 := ⟨by decide, by decide⟩
theorem sput_gd {s : S} (h : Fm.Ok s.1) {n : Nd} (hn : Fm.good n) : Gd (sput s n) := by
  unfold sput Gd
  split
  · exact ⟨h, i64_0⟩
  · have := Fm.put_id h n
    exact ⟨Fm.ok_put h hn, by omega, by omega⟩
theorem jn_good {k x y : Int} (hk : Fm.i64 k) (hx : Fm.i64 x) (hy : Fm.i64 y) : Fm.good (jn k x y) := Fm.good_join k x y hk hx hy
theorem i64_k {k : Int} (h : k = 3 ∨ k = 4 ∨ k = 5) : Fm.i64 k := ⟨by omega, by omega⟩
theorem atom_good {s : ByteArray} (h : Fm.word s.data.toList = true) : Fm.good ⟨1, s, 0, 0⟩ := by
  have := Sx.word_len h
  exact ⟨i64_1, by show s.size ≤ _; omega, i64_0, i64_0⟩
theorem str_gd : ∀ (a : T) {s : S}, Fm.Ok s.1 → Sx.Wf a → Gd (str a s)
  | .atom _, _, h, hw => sput_gd h (atom_good hw)
  | .bot, _, h, _ => sput_gd h Fm.good_bot
  | .top, s, h, _ => by
    have h1 := sput_gd h Fm.good_bot
    exact sput_gd h1.1 (jn_good (i64_k (by omega)) h1.2 h1.2)
  | .neg a, s, h, hw => by
    have h1 := str_gd a h hw
    have h2 := sput_gd h1.1 Fm.good_bot
    exact sput_gd h2.1 (jn_good (i64_k (by omega)) h1.2 h2.2)
  | .bin k a b, s, h, hw => by
    have h1 := str_gd a h hw.2.1
    have h2 := str_gd b h1.1 hw.2.2
    exact sput_gd h2.1 (jn_good (i64_k hw.1) h1.2 h2.2)
  | .iff a b, s, h, hw => by
    have h1 := str_gd a h hw.1
    have h2 := str_gd b h1.1 hw.2
    have h3 := sput_gd h2.1 (jn_good (i64_k (k := 5) (by omega)) h1.2 h2.2)
    have h4 := sput_gd h3.1 (jn_good (i64_k (k := 5) (by omega)) h2.2 h1.2)
    exact sput_gd h4.1 (jn_good (i64_k (by omega)) h3.2 h4.2)
theorem sput_full {s : S} (h : s.2 = true) (n : Nd) : (sput s n).2.2 = true := by
  unfold sput
  rw [if_pos h]
  exact h
theorem str_full : ∀ (a : T) {s : S}, s.2 = true → (str a s).2.2 = true
  | .atom _, _, h => sput_full h _
  | .bot, _, h => sput_full h _
  | .top, _, h => sput_full (sput_full h _) _
  | .neg a, _, h => sput_full (sput_full (str_full a h) _) _
  | .bin _ a b, _, h => sput_full (str_full b (str_full a h)) _
  | .iff a b, _, h => sput_full (sput_full (sput_full (str_full b (str_full a h)) _) _) _
/-- What is put of a tree, and what is put on the way, are one. -/
def Eq (r : Int × Int × List Nd) (z : Int × S) : Prop := (r.2.1 = 0 ∧ z = (r.1, r.2.2, false)) ∨ (r.2.1 ≠ 0 ∧ z.2.2 = true)
theorem put_eq {t : List Nd} {n : Nd} (h : Sx.Res t (Fm.put t n)) : Eq (Fm.put t n) (sput (t, false) n) := by
  unfold sput
  rw [if_neg (by simp)]
  rcases h.out with ⟨h0, _⟩ | ⟨h0, _⟩
  · exact Or.inl ⟨h0, by simp [h0]⟩
  · exact Or.inr ⟨by omega, by simp [h0]⟩
theorem thn_eq {r : Int × Int × List Nd} {z : Int × S} {k : Int → List Nd → Int × Int × List Nd} {f : Int × S → Int × S} (h : Eq r z) (hk : r.2.1 = 0 → Eq (k r.1 r.2.2) (f (r.1, r.2.2, false))) (hf : ∀ z : Int × S, z.2.2 = true → (f z).2.2 = true) : Eq (thn r k) (f z) := by
  rcases h with ⟨h0, rfl⟩ | ⟨h0, h1⟩
  · have e : thn r k = k r.1 r.2.2 := if_pos h0
    rw [e]
    exact hk h0
  · have e : thn r k = r := if_neg h0
    rw [e]
    exact Or.inr ⟨h0, hf z h1⟩
theorem res_has {t : List Nd} {r : Int × Int × List Nd} (h : Sx.Res t r) (h0 : r.2.1 = 0) : Fm.has r.2.2 r.1 = true := by
  rcases h.out with ⟨_, h⟩ | ⟨h, _⟩
  · exact h
  · omega
theorem notp_eq {t : List Nd} (h : Fm.Ok t) {x : Int} (hx : Fm.has t x = true) : Eq (Fm.notp t x) (sput (sput (t, false) Fm.bot).2 (jn 5 x (sput (t, false) Fm.bot).1)) := by
  rw [Sx.notp_thn hx]
  have hb := Sx.bot_res h
  refine thn_eq (f := fun z => sput z.2 (jn 5 x z.1)) (put_eq hb) (fun e => put_eq (Sx.join_res hb.ok (Or.inr (Or.inr rfl)) (hb.has hx) (res_has hb e))) fun z hz => sput_full hz _
theorem mutu_eq {t : List Nd} (h : Fm.Ok t) {x y : Int} (hx : Fm.has t x = true) (hy : Fm.has t y = true) : Eq (Sx.mutu t x y) (sput (sput (sput (t, false) (jn 5 x y)).2 (jn 5 y x)).2 (jn 3 (sput (t, false) (jn 5 x y)).1 (sput (sput (t, false) (jn 5 x y)).2 (jn 5 y x)).1)) := by
  rw [Sx.mutu_thn]
  have h1 := Sx.join_res h (Or.inr (Or.inr rfl)) hx hy
  refine thn_eq (f := fun z => sput (sput z.2 (jn 5 y x)).2 (jn 3 z.1 (sput z.2 (jn 5 y x)).1)) (put_eq h1) (fun e => ?_) fun z hz => sput_full (sput_full hz _) _
  have h2 := Sx.join_res h1.ok (Or.inr (Or.inr rfl)) (h1.has hy) (h1.has hx)
  exact thn_eq (f := fun z => sput z.2 (jn 3 (Fm.put t ⟨5, ⟨#[]⟩, x, y⟩).1 z.1)) (put_eq h2) (fun e2 => put_eq (Sx.join_res h2.ok (Or.inl rfl) (h2.has (res_has h1 e)) (res_has h2 e2))) fun z hz => sput_full hz _
theorem str_eq : ∀ (a : T) {t : List Nd}, Fm.Ok t → Sx.Wf a → Eq (Sx.pt a t) (str a (t, false))
  | .atom _, _, h, hw => put_eq (Sx.atom_res h hw)
  | .bot, _, h, _ => put_eq (Sx.bot_res h)
  | .top, t, h, _ => by
    have hb := Sx.bot_res h
    refine thn_eq (f := fun z => sput z.2 (jn 5 z.1 z.1)) (put_eq hb) (fun e => ?_) fun z hz => sput_full hz _
    have hx := res_has hb e
    rw [Sx.notp_thn hx]
    have hbb : Fm.put (Fm.put t Fm.bot).2.2 Fm.bot = ((Fm.put t Fm.bot).1, 0, (Fm.put t Fm.bot).2.2) := Ag.put_again e hb.ok ⟨[], (List.append_nil _).symm⟩
    rw [hbb]
    exact put_eq (Sx.join_res hb.ok (Or.inr (Or.inr rfl)) hx hx)
  | .neg a, t, h, hw => by
    have ha := Sx.pt_res a h hw
    exact thn_eq (f := fun z => sput (sput z.2 Fm.bot).2 (jn 5 z.1 (sput z.2 Fm.bot).1)) (str_eq a h hw) (fun e => notp_eq ha.ok (res_has ha e)) fun z hz => sput_full (sput_full hz _) _
  | .bin k a b, t, h, hw => by
    have ha := Sx.pt_res a h hw.2.1
    refine thn_eq (f := fun z => sput (str b z.2).2 (jn k z.1 (str b z.2).1)) (str_eq a h hw.2.1) (fun e => ?_) fun z hz => sput_full (str_full b hz) _
    have hb := Sx.pt_res b ha.ok hw.2.2
    exact thn_eq (f := fun z => sput z.2 (jn k (Sx.pt a t).1 z.1)) (str_eq b ha.ok hw.2.2) (fun e2 => put_eq (Sx.join_res hb.ok hw.1 (hb.has (res_has ha e)) (res_has hb e2))) fun z hz => sput_full hz _
  | .iff a b, t, h, hw => by
    have ha := Sx.pt_res a h hw.1
    refine thn_eq (f := fun z => sput (sput (sput (str b z.2).2 (jn 5 z.1 (str b z.2).1)).2 (jn 5 (str b z.2).1 z.1)).2 (jn 3 (sput (str b z.2).2 (jn 5 z.1 (str b z.2).1)).1 (sput (sput (str b z.2).2 (jn 5 z.1 (str b z.2).1)).2 (jn 5 (str b z.2).1 z.1)).1)) (str_eq a h hw.1) (fun e => ?_) fun z hz => sput_full (sput_full (sput_full (str_full b hz) _) _) _
    have hb := Sx.pt_res b ha.ok hw.2
    exact thn_eq (f := fun z => sput (sput (sput z.2 (jn 5 (Sx.pt a t).1 z.1)).2 (jn 5 z.1 (Sx.pt a t).1)).2 (jn 3 (sput z.2 (jn 5 (Sx.pt a t).1 z.1)).1 (sput (sput z.2 (jn 5 (Sx.pt a t).1 z.1)).2 (jn 5 z.1 (Sx.pt a t).1)).1)) (str_eq b ha.ok hw.2) (fun e2 => mutu_eq hb.ok (hb.has (res_has ha e)) (res_has hb e2)) fun z hz => sput_full (sput_full (sput_full hz _) _) _
end Dp
end Go.Proofs.YtcidldgenogdkaaGreatDoor
/-
  The document's parser: its calls implied and formula: what is read and put of every list of tokens. No other condition.
-/
namespace Go.Proofs.YtcidldgenogdkaaGreatDoor
open Go.RowKit Go.Maps
open Fm (Nd)
open Sx (Tn T Lv)

namespace Ds
def to (q : Ds) (i n : Nat) (s : Dp.S) : Ds := { q with i := i, n := n, t := s.1, fl := s.2 }
end Ds
theorem put_to {q : Ds} (h : q.e = 0) (n : Nd) : q.put n = ((Dp.sput (q.t, q.fl) n).1, q.to q.i q.n (Dp.sput (q.t, q.fl) n).2) := by
  unfold Ds.put Dp.sput Ds.to
  cases hf : q.fl
  · rw [if_neg (by simp [h]), if_neg (by simp)]
  · rw [if_pos (by simp), if_pos rfl]
    obtain ⟨qi, qn, qd, qf, qe, ql, qc, qo, qt⟩ := q
    simp only at hf
    subst hf
    rfl
theorem put_bad {q : Ds} (h : q.e ≠ 0) (n : Nd) : q.put n = (0, q) := if_pos (Or.inl h)
/-- What a call of the document's parser leaves. -/
def Dout (q : Ds) : Sx.Out → Int → Ds → Prop
  | .ok a i n, x, q' => x = (Dp.str a (q.t, q.fl)).1 ∧ q' = q.to i n (Dp.str a (q.t, q.fl)).2
  | .bad er t, _, q' => er ≠ 0 ∧ q'.e = er ∧ q'.l = t.l ∧ q'.c = t.c ∧ q'.o = t.o
def Dres (w0 w : World) (p C g cap : Nat) (ts : List Tn) (q : Ds) (o : Sx.Out) (e : Ending) (w' : World) : Prop := ∃ x q', e = .returned (.int .i64 x) ∧ Fm.i64 x ∧ Dw w0 w' p C g cap ts q' ∧ Tf w w' ∧ Dout q o x q'
def DCon (w0 : World) (p C g cap : Nat) (ts : List Tn) (F : Nat) (lv : Lv) (f : Nat) : Prop :=
  ∀ (w : World) (q : Ds) (o : Sx.Out), Dw w0 w p C g cap ts q → q.e = 0 → q.i ≤ ts.length → q.n ≤ 512 → q.d ≤ 1024 → Sx.rd ts f lv q.i q.n q.d = some o → (∀ x, o ≠ .bad 40 x) → Calls Tryz.prog F #[.pointer (some ⟨p, 0, none⟩)] w fun e w' => Dres w0 w p C g cap ts q o e w'
theorem Dw.ok {w0 w : World} {p C g cap : Nat} {ts : List Tn} {q : Ds} (h : Dw w0 w p C g cap ts q) : Fm.Ok q.t := by
  obtain ⟨u, hT, _⟩ := h.tr
  exact hT.ok
section
variable {w0 : World} {p C g cap : Nat} {ts : List Tn}
/-- Asking for a sign, behind a fault and ahead of one. -/
theorem is_bad {w : World} {q q1 : Ds} {er : Int} {t : Tn} {x : Int} (h : Dw w0 w p C g cap ts q1) (hb : Dout q (.bad er t) x q1) (s : ByteArray) : Calls Tryz.prog 61 #[.pointer (some ⟨p, 0, none⟩), .string s] w fun e w' => e = .returned (.bool false) ∧ Below w.heap.size w w' :=
  (dis_any w h s).mono fun e w' hh => ⟨by
    rw [hh.1, show (q1.e == 0) = false from beq_eq_false_iff_ne.2 (by rw [hb.2.1]; exact hb.1)]
    rfl, hh.2⟩
theorem is_ok {w : World} {q : Ds} (h : Dw w0 w p C g cap ts q) (he : q.e = 0) (s : ByteArray) : Calls Tryz.prog 61 #[.pointer (some ⟨p, 0, none⟩), .string s] w fun e w' => e = .returned (.bool (Sx.sgn (Sx.tk ts q.i) s.data.toList)) ∧ Below w.heap.size w w' :=
  (dis_any w h s).mono fun e w' hh => ⟨by rw [hh.1, he]; rfl, hh.2⟩
theorem two_bad {w : World} {q q1 : Ds} {er : Int} {t : Tn} {x : Int} (h : Dw w0 w p C g cap ts q1) (hb : Dout q (.bad er t) x q1) (k a b : Int) (hk : Fm.i64 k) (ha : Fm.i64 a) (hbb : Fm.i64 b) : Calls Tryz.prog 63 #[.pointer (some ⟨p, 0, none⟩), .int .i64 k, .int .i64 a, .int .i64 b] w fun e w' => e = .returned (.int .i64 0) ∧ Dw w0 w' p C g cap ts q1 ∧ Tf w w' := by
  have := dtwo_any w h k a b (Fm.good_join k a b hk ha hbb)
  rw [put_bad (by rw [hb.2.1]; exact hb.1)] at this
  exact this
theorem putn_bad {w : World} {q q1 : Ds} {er : Int} {t : Tn} {x : Int} (h : Dw w0 w p C g cap ts q1) (hb : Dout q (.bad er t) x q1) (n : Nd) (hn : Fm.good n) : Calls Tryz.prog 95 #[.pointer (some ⟨p, 0, none⟩), ndV n] w fun e w' => e = .returned (.int .i64 0) ∧ Dw w0 w' p C g cap ts q1 ∧ Tf w w' := by
  have := dput_any w h n hn
  rw [put_bad (by rw [hb.2.1]; exact hb.1)] at this
  exact this
theorem two_ok {w : World} {q : Ds} (h : Dw w0 w p C g cap ts q) (he : q.e = 0) (k a b : Int) (hk : Fm.i64 k) (ha : Fm.i64 a) (hb : Fm.i64 b) : Calls Tryz.prog 63 #[.pointer (some ⟨p, 0, none⟩), .int .i64 k, .int .i64 a, .int .i64 b] w fun e w' => e = .returned (.int .i64 (Dp.sput (q.t, q.fl) (Dp.jn k a b)).1) ∧ Dw w0 w' p C g cap ts (q.to q.i q.n (Dp.sput (q.t, q.fl) (Dp.jn k a b)).2) ∧ Tf w w' := by
  have := dtwo_any w h k a b (Fm.good_join k a b hk ha hb)
  rw [put_to he] at this
  exact this
theorem putn_ok {w : World} {q : Ds} (h : Dw w0 w p C g cap ts q) (he : q.e = 0) (n : Nd) (hn : Fm.good n) : Calls Tryz.prog 95 #[.pointer (some ⟨p, 0, none⟩), ndV n] w fun e w' => e = .returned (.int .i64 (Dp.sput (q.t, q.fl) n).1) ∧ Dw w0 w' p C g cap ts (q.to q.i q.n (Dp.sput (q.t, q.fl) n).2) ∧ Tf w w' := by
  have := dput_any w h n hn
  rw [put_to he] at this
  exact this
set_option maxRecDepth 100000 in
set_option maxHeartbeats 4000000 in
theorem dimplied (f : Nat) (hj : DCon w0 p C g cap ts 94 .joined f) (hi : DCon w0 p C g cap ts 60 .implied f) : DCon w0 p C g cap ts 60 .implied (f + 1) := by
  intro w q o hD he hq hn hd hr h40
  rcases Sx.bnd_cases hr with ⟨er, t, hx, rfl⟩ | ⟨a, i1, n1, hx, hk⟩
  · have K1 := show Hid (Calls Tryz.prog 94 #[.pointer (some ⟨p, 0, none⟩)] w fun e w' => Dres w0 w p C g cap ts q (.bad er t) e w') from hj w q _ hD he hq hn hd hx h40
    clear hj hi hD he hq hn hd hr h40 hx
    go_enter Tryz.func60, Tryz.ntmps60
    go_wp2_with fail
    refine K1.out.mono ?_
    rintro e w1 ⟨x, q1, rfl, hx, hD1, hT1, ho⟩
    have X1 := show Hid (Fm.i64 x ∧ Dw w0 w1 p C g cap ts q1 ∧ Tf w w1 ∧ Dout q (.bad er t) x q1) from ⟨hx, hD1, hT1, ho⟩
    clear hx hD1 hT1 ho K1
    go_wp2_with fail
    refine (is_bad X1.out.2.1 X1.out.2.2.2 ⟨#[45, 62]⟩).mono ?_
    rintro e w2 ⟨rfl, hb2⟩
    have X2 := show Hid (Fm.i64 x ∧ Dw w0 w2 p C g cap ts q1 ∧ Tf w w2 ∧ Dout q (.bad er t) x q1) from ⟨X1.out.1, X1.out.2.1.later hb2, X1.out.2.2.1.trans (Tf.of_below hb2), X1.out.2.2.2⟩
    clear hb2 X1
    go_wp2_with fail
    go_ret
    exact ⟨x, q1, rfl, X2.out⟩
  · have K1 := show Hid (Calls Tryz.prog 94 #[.pointer (some ⟨p, 0, none⟩)] w fun e w' => Dres w0 w p C g cap ts q (.ok a i1 n1) e w') from hj w q _ hD he hq hn hd hx (fun _ h => by cases h)
    have hf := Sx.rd_fine ts f .joined q.i q.n q.d _ hq hx _ _ _ rfl
    have HF := show Hid (i1 ≤ ts.length ∧ n1 ≤ 512 ∧ q.d ≤ 1024 ∧ q.e = 0) from ⟨hf.2.1, hf.2.2 hn, hd, he⟩
    have HI := show Hid (DCon w0 p C g cap ts 60 .implied f) from hi
    have H40 := show Hid (∀ x, o ≠ .bad 40 x) from h40
    clear hj hi hD he hq hn hd hr h40 hx hf
    go_enter Tryz.func60, Tryz.ntmps60
    go_wp2_with fail
    refine K1.out.mono ?_
    rintro e w1 ⟨x, q1, rfl, hx, hD1, hT1, rfl, rfl⟩
    have X1 := show Hid (Fm.i64 (Dp.str a (q.t, q.fl)).1 ∧ Dw w0 w1 p C g cap ts (q.to i1 n1 (Dp.str a (q.t, q.fl)).2) ∧ Tf w w1) from ⟨hx, hD1, hT1⟩
    clear hx hD1 hT1 K1
    have KI := show Hid (Calls Tryz.prog 61 #[.pointer (some ⟨p, 0, none⟩), .string ⟨#[45, 62]⟩] w1 fun e w' => e = .returned (.bool (Sx.sgn (Sx.tk ts i1) [45, 62])) ∧ Below w1.heap.size w1 w') from is_ok X1.out.2.1 HF.out.2.2.2 ⟨#[45, 62]⟩
    cases hs : Sx.sgn (Sx.tk ts i1) [45, 62]
    · rw [hs] at KI
      have hk' : (if Sx.sgn (Sx.tk ts i1) [45, 62] then _ else some (Sx.Out.ok a i1 n1)) = some o := hk
      rw [hs] at hk'
      have ho : Sx.Out.ok a i1 n1 = o := by simpa using hk'
      subst ho
      clear hs hk hk'
      go_wp2_with fail
      refine KI.out.mono ?_
      rintro e w2 ⟨rfl, hb2⟩
      have X2 := show Hid (Dw w0 w2 p C g cap ts (q.to i1 n1 (Dp.str a (q.t, q.fl)).2) ∧ Tf w w2) from ⟨X1.out.2.1.later hb2, X1.out.2.2.trans (Tf.of_below hb2)⟩
      clear hb2 KI
      go_wp2_with fail
      go_ret
      exact ⟨_, _, rfl, X1.out.1, X2.out.1, X2.out.2, rfl, rfl⟩
    · rw [hs] at KI
      have hlt := Sx.sgn_lt hs
      have hk' : (if Sx.sgn (Sx.tk ts i1) [45, 62] then Sx.stp ts i1 n1 fun n => Sx.bnd (Sx.rd ts f .implied (i1 + 1) n q.d) fun b i n => some (.ok (.bin 5 a b) i n) else some (Sx.Out.ok a i1 n1)) = some o := hk
      rw [hs, if_pos rfl] at hk'
      clear hs hk
      rcases Sx.stp_cases hk' with ⟨_, ho⟩ | ⟨hu, hk⟩
      · exact absurd ho (H40.out _)
      clear hk'
      go_wp2_with fail
      refine KI.out.mono ?_
      rintro e w2 ⟨rfl, hb2⟩
      have X2 := show Hid (Dw w0 w2 p C g cap ts (q.to i1 n1 (Dp.str a (q.t, q.fl)).2) ∧ Tf w w2) from ⟨X1.out.2.1.later hb2, X1.out.2.2.trans (Tf.of_below hb2)⟩
      clear hb2 KI
      go_wp2_with fail
      refine (dtake_any w2 X2.out.1 HF.out.2.2.2 HF.out.1 hu).mono ?_
      rintro e w3 ⟨rfl, hD3, hT3⟩
      have X3 := show Hid (Dw w0 w3 p C g cap ts (q.to (i1 + 1) (Sx.up ts i1 n1) (Dp.str a (q.t, q.fl)).2) ∧ Tf w w3) from ⟨hD3, X2.out.2.trans hT3⟩
      clear hD3 hT3 X2
      rcases Sx.bnd_cases hk with ⟨er, t, hx, rfl⟩ | ⟨b, i2, n2, hx, hk2⟩
      · have K2 := show Hid (Calls Tryz.prog 60 #[.pointer (some ⟨p, 0, none⟩)] w3 fun e w' => Dres w0 w3 p C g cap ts (q.to (i1 + 1) (Sx.up ts i1 n1) (Dp.str a (q.t, q.fl)).2) (.bad er t) e w') from HI.out w3 _ _ X3.out.1 HF.out.2.2.2 hlt hu HF.out.2.2.1 hx H40.out
        clear hk hx hu hlt
        go_wp2_with fail
        refine K2.out.mono ?_
        rintro e w4 ⟨y, q4, rfl, hy, hD4, hT4, ho⟩
        have X4 := show Hid (Fm.i64 y ∧ Dw w0 w4 p C g cap ts q4 ∧ Tf w w4 ∧ Dout (q.to (i1 + 1) (Sx.up ts i1 n1) (Dp.str a (q.t, q.fl)).2) (.bad er t) y q4) from ⟨hy, hD4, X3.out.2.trans hT4, ho⟩
        clear hy hD4 hT4 ho K2 X3
        generalize (Dp.str a (q.t, q.fl)).1 = x at *
        go_wp2_with fail
        refine (two_bad X4.out.2.1 X4.out.2.2.2 5 x y (Dp.i64_k (by omega)) X1.out.1 X4.out.1).mono ?_
        rintro e w5 ⟨rfl, hD5, hT5⟩
        have X5 := show Hid (Dw w0 w5 p C g cap ts q4 ∧ Tf w w5) from ⟨hD5, X4.out.2.2.1.trans hT5⟩
        clear hD5 hT5
        go_wp2_with fail
        go_ret
        exact ⟨_, q4, rfl, Dp.i64_0, X5.out.1, X5.out.2, X4.out.2.2.2⟩
      · have K2 := show Hid (Calls Tryz.prog 60 #[.pointer (some ⟨p, 0, none⟩)] w3 fun e w' => Dres w0 w3 p C g cap ts (q.to (i1 + 1) (Sx.up ts i1 n1) (Dp.str a (q.t, q.fl)).2) (.ok b i2 n2) e w') from HI.out w3 _ _ X3.out.1 HF.out.2.2.2 hlt hu HF.out.2.2.1 hx (fun _ h => by cases h)
        have ho : Sx.Out.ok (.bin 5 a b) i2 n2 = o := by simpa using hk2
        subst ho
        clear hk hx hu hlt hk2
        go_wp2_with fail
        refine K2.out.mono ?_
        rintro e w4 ⟨y, q4, rfl, hy, hD4, hT4, hyy, hq4⟩
        have HE := show Hid (q.e = 0) from HF.out.2.2.2
        have HOK := show Hid (Dp.str (.bin 5 a b) (q.t, q.fl) = Dp.sput (Dp.str b (Dp.str a (q.t, q.fl)).2).2 (Dp.jn 5 (Dp.str a (q.t, q.fl)).1 (Dp.str b (Dp.str a (q.t, q.fl)).2).1)) from rfl
        have X4 := show Hid (Fm.i64 (Dp.str b (Dp.str a (q.t, q.fl)).2).1 ∧ Dw w0 w4 p C g cap ts (q.to i2 n2 (Dp.str b (Dp.str a (q.t, q.fl)).2).2) ∧ Tf w w4) from by
          subst hyy
          subst hq4
          exact ⟨hy, hD4, X3.out.2.trans hT4⟩
        have hyy2 : y = (Dp.str b (Dp.str a (q.t, q.fl)).2).1 := hyy
        clear hy hD4 hT4 hyy hq4 K2 X3
        subst hyy2
        generalize Dp.str b (Dp.str a (q.t, q.fl)).2 = zb at *
        generalize Dp.str a (q.t, q.fl) = za at *
        go_wp2_with fail
        refine (two_ok X4.out.2.1 HE.out 5 za.1 zb.1 (Dp.i64_k (by omega)) X1.out.1 X4.out.1).mono ?_
        rintro e w5 ⟨rfl, hD5, hT5⟩
        have X5 := show Hid (Fm.i64 (Dp.sput zb.2 (Dp.jn 5 za.1 zb.1)).1 ∧ Dw w0 w5 p C g cap ts (q.to i2 n2 (Dp.sput zb.2 (Dp.jn 5 za.1 zb.1)).2) ∧ Tf w w5) from ⟨(Dp.sput_gd X4.out.2.1.ok (Dp.jn_good (Dp.i64_k (by omega)) X1.out.1 X4.out.1)).2, hD5, X4.out.2.2.trans hT5⟩
        clear hD5 hT5
        simp only [Ds.to]
        go_wp2_with fail
        go_ret
        exact ⟨_, _, rfl, X5.out.1, X5.out.2.1, X5.out.2.2, (congrArg Prod.fst HOK.out).symm, by rw [HOK.out]⟩
set_option maxRecDepth 100000 in
set_option maxHeartbeats 4000000 in
theorem dformula (f : Nat) (hj : DCon w0 p C g cap ts 60 .implied f) (hi : DCon w0 p C g cap ts 33 .formula f) : DCon w0 p C g cap ts 33 .formula (f + 1) := by
  intro w q o hD he hq hn hd hr h40
  rcases Sx.bnd_cases hr with ⟨er, t, hx, rfl⟩ | ⟨a, i1, n1, hx, hk⟩
  · have K1 := show Hid (Calls Tryz.prog 60 #[.pointer (some ⟨p, 0, none⟩)] w fun e w' => Dres w0 w p C g cap ts q (.bad er t) e w') from hj w q _ hD he hq hn hd hx h40
    clear hj hi hD he hq hn hd hr h40 hx
    go_enter Tryz.func33, Tryz.ntmps33
    go_wp2_with fail
    refine K1.out.mono ?_
    rintro e w1 ⟨x, q1, rfl, hx, hD1, hT1, ho⟩
    have X1 := show Hid (Fm.i64 x ∧ Dw w0 w1 p C g cap ts q1 ∧ Tf w w1 ∧ Dout q (.bad er t) x q1) from ⟨hx, hD1, hT1, ho⟩
    clear hx hD1 hT1 ho K1
    go_wp2_with fail
    refine (is_bad X1.out.2.1 X1.out.2.2.2 ⟨#[60, 45, 62]⟩).mono ?_
    rintro e w2 ⟨rfl, hb2⟩
    have X2 := show Hid (Fm.i64 x ∧ Dw w0 w2 p C g cap ts q1 ∧ Tf w w2 ∧ Dout q (.bad er t) x q1) from ⟨X1.out.1, X1.out.2.1.later hb2, X1.out.2.2.1.trans (Tf.of_below hb2), X1.out.2.2.2⟩
    clear hb2 X1
    go_wp2_with fail
    go_ret
    exact ⟨x, q1, rfl, X2.out⟩
  · have K1 := show Hid (Calls Tryz.prog 60 #[.pointer (some ⟨p, 0, none⟩)] w fun e w' => Dres w0 w p C g cap ts q (.ok a i1 n1) e w') from hj w q _ hD he hq hn hd hx (fun _ h => by cases h)
    have hf := Sx.rd_fine ts f .implied q.i q.n q.d _ hq hx _ _ _ rfl
    have HF := show Hid (i1 ≤ ts.length ∧ n1 ≤ 512 ∧ q.d ≤ 1024 ∧ q.e = 0) from ⟨hf.2.1, hf.2.2 hn, hd, he⟩
    have HI := show Hid (DCon w0 p C g cap ts 33 .formula f) from hi
    have H40 := show Hid (∀ x, o ≠ .bad 40 x) from h40
    clear hj hi hD he hq hn hd hr h40 hx hf
    go_enter Tryz.func33, Tryz.ntmps33
    go_wp2_with fail
    refine K1.out.mono ?_
    rintro e w1 ⟨x, q1, rfl, hx, hD1, hT1, rfl, rfl⟩
    have X1 := show Hid (Fm.i64 (Dp.str a (q.t, q.fl)).1 ∧ Dw w0 w1 p C g cap ts (q.to i1 n1 (Dp.str a (q.t, q.fl)).2) ∧ Tf w w1) from ⟨hx, hD1, hT1⟩
    clear hx hD1 hT1 K1
    have KI := show Hid (Calls Tryz.prog 61 #[.pointer (some ⟨p, 0, none⟩), .string ⟨#[60, 45, 62]⟩] w1 fun e w' => e = .returned (.bool (Sx.sgn (Sx.tk ts i1) [60, 45, 62])) ∧ Below w1.heap.size w1 w') from is_ok X1.out.2.1 HF.out.2.2.2 ⟨#[60, 45, 62]⟩
    cases hs : Sx.sgn (Sx.tk ts i1) [60, 45, 62]
    · rw [hs] at KI
      have hk' : (if Sx.sgn (Sx.tk ts i1) [60, 45, 62] then _ else some (Sx.Out.ok a i1 n1)) = some o := hk
      rw [hs] at hk'
      have ho : Sx.Out.ok a i1 n1 = o := by simpa using hk'
      subst ho
      clear hs hk hk'
      go_wp2_with fail
      refine KI.out.mono ?_
      rintro e w2 ⟨rfl, hb2⟩
      have X2 := show Hid (Dw w0 w2 p C g cap ts (q.to i1 n1 (Dp.str a (q.t, q.fl)).2) ∧ Tf w w2) from ⟨X1.out.2.1.later hb2, X1.out.2.2.trans (Tf.of_below hb2)⟩
      clear hb2 KI
      go_wp2_with fail
      go_ret
      exact ⟨_, _, rfl, X1.out.1, X2.out.1, X2.out.2, rfl, rfl⟩
    · rw [hs] at KI
      have hlt := Sx.sgn_lt hs
      have hk' : (if Sx.sgn (Sx.tk ts i1) [60, 45, 62] then Sx.stp ts i1 n1 fun n => Sx.bnd (Sx.rd ts f .formula (i1 + 1) n q.d) fun b i n => some (.ok (.iff a b) i n) else some (Sx.Out.ok a i1 n1)) = some o := hk
      rw [hs, if_pos rfl] at hk'
      clear hs hk
      rcases Sx.stp_cases hk' with ⟨_, ho⟩ | ⟨hu, hk⟩
      · exact absurd ho (H40.out _)
      clear hk'
      go_wp2_with fail
      refine KI.out.mono ?_
      rintro e w2 ⟨rfl, hb2⟩
      have X2 := show Hid (Dw w0 w2 p C g cap ts (q.to i1 n1 (Dp.str a (q.t, q.fl)).2) ∧ Tf w w2) from ⟨X1.out.2.1.later hb2, X1.out.2.2.trans (Tf.of_below hb2)⟩
      clear hb2 KI
      go_wp2_with fail
      refine (dtake_any w2 X2.out.1 HF.out.2.2.2 HF.out.1 hu).mono ?_
      rintro e w3 ⟨rfl, hD3, hT3⟩
      have X3 := show Hid (Dw w0 w3 p C g cap ts (q.to (i1 + 1) (Sx.up ts i1 n1) (Dp.str a (q.t, q.fl)).2) ∧ Tf w w3) from ⟨hD3, X2.out.2.trans hT3⟩
      clear hD3 hT3 X2
      rcases Sx.bnd_cases hk with ⟨er, t, hx, rfl⟩ | ⟨b, i2, n2, hx, hk2⟩
      · have K2 := show Hid (Calls Tryz.prog 33 #[.pointer (some ⟨p, 0, none⟩)] w3 fun e w' => Dres w0 w3 p C g cap ts (q.to (i1 + 1) (Sx.up ts i1 n1) (Dp.str a (q.t, q.fl)).2) (.bad er t) e w') from HI.out w3 _ _ X3.out.1 HF.out.2.2.2 hlt hu HF.out.2.2.1 hx H40.out
        clear hk hx hu hlt
        go_wp2_with fail
        refine K2.out.mono ?_
        rintro e w4 ⟨y, q4, rfl, hy, hD4, hT4, ho⟩
        have X4 := show Hid (Fm.i64 y ∧ Dw w0 w4 p C g cap ts q4 ∧ Tf w w4 ∧ Dout (q.to (i1 + 1) (Sx.up ts i1 n1) (Dp.str a (q.t, q.fl)).2) (.bad er t) y q4) from ⟨hy, hD4, X3.out.2.trans hT4, ho⟩
        clear hy hD4 hT4 ho K2 X3
        generalize (Dp.str a (q.t, q.fl)).1 = x at *
        go_wp2_with fail
        refine (two_bad X4.out.2.1 X4.out.2.2.2 5 x y (Dp.i64_k (by omega)) X1.out.1 X4.out.1).mono ?_
        rintro e w5 ⟨rfl, hD5, hT5⟩
        have X5 := show Hid (Dw w0 w5 p C g cap ts q4 ∧ Tf w w5) from ⟨hD5, X4.out.2.2.1.trans hT5⟩
        clear hD5 hT5
        go_wp2_with fail
        refine (two_bad X5.out.1 X4.out.2.2.2 5 y x (Dp.i64_k (by omega)) X4.out.1 X1.out.1).mono ?_
        rintro e w6 ⟨rfl, hD6, hT6⟩
        have X6 := show Hid (Dw w0 w6 p C g cap ts q4 ∧ Tf w w6) from ⟨hD6, X5.out.2.trans hT6⟩
        clear hD6 hT6
        go_wp2_with fail
        refine (two_bad X6.out.1 X4.out.2.2.2 3 0 0 (Dp.i64_k (by omega)) Dp.i64_0 Dp.i64_0).mono ?_
        rintro e w7 ⟨rfl, hD7, hT7⟩
        have X7 := show Hid (Dw w0 w7 p C g cap ts q4 ∧ Tf w w7) from ⟨hD7, X6.out.2.trans hT7⟩
        clear hD7 hT7
        go_wp2_with fail
        go_ret
        exact ⟨_, q4, rfl, Dp.i64_0, X7.out.1, X7.out.2, X4.out.2.2.2⟩
      · have K2 := show Hid (Calls Tryz.prog 33 #[.pointer (some ⟨p, 0, none⟩)] w3 fun e w' => Dres w0 w3 p C g cap ts (q.to (i1 + 1) (Sx.up ts i1 n1) (Dp.str a (q.t, q.fl)).2) (.ok b i2 n2) e w') from HI.out w3 _ _ X3.out.1 HF.out.2.2.2 hlt hu HF.out.2.2.1 hx (fun _ h => by cases h)
        have ho : Sx.Out.ok (.iff a b) i2 n2 = o := by simpa using hk2
        subst ho
        clear hk hx hu hlt hk2
        go_wp2_with fail
        refine K2.out.mono ?_
        rintro e w4 ⟨y, q4, rfl, hy, hD4, hT4, hyy, hq4⟩
        have HE := show Hid (q.e = 0) from HF.out.2.2.2
        have HOK := show Hid (Dp.str (.iff a b) (q.t, q.fl) = Dp.sput (Dp.sput (Dp.sput (Dp.str b (Dp.str a (q.t, q.fl)).2).2 (Dp.jn 5 (Dp.str a (q.t, q.fl)).1 (Dp.str b (Dp.str a (q.t, q.fl)).2).1)).2 (Dp.jn 5 (Dp.str b (Dp.str a (q.t, q.fl)).2).1 (Dp.str a (q.t, q.fl)).1)).2 (Dp.jn 3 (Dp.sput (Dp.str b (Dp.str a (q.t, q.fl)).2).2 (Dp.jn 5 (Dp.str a (q.t, q.fl)).1 (Dp.str b (Dp.str a (q.t, q.fl)).2).1)).1 (Dp.sput (Dp.sput (Dp.str b (Dp.str a (q.t, q.fl)).2).2 (Dp.jn 5 (Dp.str a (q.t, q.fl)).1 (Dp.str b (Dp.str a (q.t, q.fl)).2).1)).2 (Dp.jn 5 (Dp.str b (Dp.str a (q.t, q.fl)).2).1 (Dp.str a (q.t, q.fl)).1)).1)) from rfl
        have X4 := show Hid (Fm.i64 (Dp.str b (Dp.str a (q.t, q.fl)).2).1 ∧ Dw w0 w4 p C g cap ts (q.to i2 n2 (Dp.str b (Dp.str a (q.t, q.fl)).2).2) ∧ Tf w w4) from by
          subst hyy
          subst hq4
          exact ⟨hy, hD4, X3.out.2.trans hT4⟩
        have hyy2 : y = (Dp.str b (Dp.str a (q.t, q.fl)).2).1 := hyy
        clear hy hD4 hT4 hyy hq4 K2 X3
        subst hyy2
        generalize Dp.str b (Dp.str a (q.t, q.fl)).2 = zb at *
        generalize Dp.str a (q.t, q.fl) = za at *
        go_wp2_with fail
        refine (two_ok X4.out.2.1 HE.out 5 za.1 zb.1 (Dp.i64_k (by omega)) X1.out.1 X4.out.1).mono ?_
        rintro e w5 ⟨rfl, hD5, hT5⟩
        have X5 := show Hid (Fm.i64 (Dp.sput zb.2 (Dp.jn 5 za.1 zb.1)).1 ∧ Dw w0 w5 p C g cap ts (q.to i2 n2 (Dp.sput zb.2 (Dp.jn 5 za.1 zb.1)).2) ∧ Tf w w5) from ⟨(Dp.sput_gd X4.out.2.1.ok (Dp.jn_good (Dp.i64_k (by omega)) X1.out.1 X4.out.1)).2, hD5, X4.out.2.2.trans hT5⟩
        clear hD5 hT5
        simp only [Ds.to]
        go_wp2_with fail
        refine (two_ok X5.out.2.1 HE.out 5 zb.1 za.1 (Dp.i64_k (by omega)) X4.out.1 X1.out.1).mono ?_
        rintro e w6 ⟨rfl, hD6, hT6⟩
        have X6 := show Hid (Fm.i64 (Dp.sput (Dp.sput zb.2 (Dp.jn 5 za.1 zb.1)).2 (Dp.jn 5 zb.1 za.1)).1 ∧ Dw w0 w6 p C g cap ts (q.to i2 n2 (Dp.sput (Dp.sput zb.2 (Dp.jn 5 za.1 zb.1)).2 (Dp.jn 5 zb.1 za.1)).2) ∧ Tf w w6) from ⟨(Dp.sput_gd X5.out.2.1.ok (Dp.jn_good (Dp.i64_k (by omega)) X4.out.1 X1.out.1)).2, hD6, X5.out.2.2.trans hT6⟩
        clear hD6 hT6
        simp only [Ds.to]
        go_wp2_with fail
        refine (two_ok X6.out.2.1 HE.out 3 (Dp.sput zb.2 (Dp.jn 5 za.1 zb.1)).1 (Dp.sput (Dp.sput zb.2 (Dp.jn 5 za.1 zb.1)).2 (Dp.jn 5 zb.1 za.1)).1 (Dp.i64_k (by omega)) X5.out.1 X6.out.1).mono ?_
        rintro e w7 ⟨rfl, hD7, hT7⟩
        have X7 := show Hid (Fm.i64 (Dp.sput (Dp.sput (Dp.sput zb.2 (Dp.jn 5 za.1 zb.1)).2 (Dp.jn 5 zb.1 za.1)).2 (Dp.jn 3 (Dp.sput zb.2 (Dp.jn 5 za.1 zb.1)).1 (Dp.sput (Dp.sput zb.2 (Dp.jn 5 za.1 zb.1)).2 (Dp.jn 5 zb.1 za.1)).1)).1 ∧ Dw w0 w7 p C g cap ts (q.to i2 n2 (Dp.sput (Dp.sput (Dp.sput zb.2 (Dp.jn 5 za.1 zb.1)).2 (Dp.jn 5 zb.1 za.1)).2 (Dp.jn 3 (Dp.sput zb.2 (Dp.jn 5 za.1 zb.1)).1 (Dp.sput (Dp.sput zb.2 (Dp.jn 5 za.1 zb.1)).2 (Dp.jn 5 zb.1 za.1)).1)).2) ∧ Tf w w7) from ⟨(Dp.sput_gd X6.out.2.1.ok (Dp.jn_good (Dp.i64_k (by omega)) X5.out.1 X6.out.1)).2, hD7, X6.out.2.2.trans hT7⟩
        clear hD7 hT7
        simp only [Ds.to]
        go_wp2_with fail
        go_ret
        exact ⟨_, _, rfl, X7.out.1, X7.out.2.1, X7.out.2.2, (congrArg Prod.fst HOK.out).symm, by rw [HOK.out]⟩
end
end Go.Proofs.YtcidldgenogdkaaGreatDoor
/-
  The document's parser: its calls joined and both: what is read and put of every list of tokens. No other condition.
-/
namespace Go.Proofs.YtcidldgenogdkaaGreatDoor
open Go.RowKit Go.Maps
open Fm (Nd)
open Sx (Tn T Lv)

/-- Where a loop of the document's parser stands: so much is read and put, or there is a fault. -/
def Lp (ts : List Tn) (f : Nat) (lc : T → Lv) (q : Ds) (o : Sx.Out) (x : Int) (q1 : Ds) : Prop :=
  (∃ acc f' i n, f' ≤ f ∧ Sx.rd ts f' (lc acc) i n q.d = some o ∧ x = (Dp.str acc (q.t, q.fl)).1 ∧ q1 = q.to i n (Dp.str acc (q.t, q.fl)).2 ∧ i ≤ ts.length ∧ n ≤ 512) ∨ (∃ er t, o = .bad er t ∧ Dout q (.bad er t) x q1)
def dms (p : Nat) (len : Nat) (w : World) : Nat := if intOf ((w.cell? ⟨p, 6, none⟩).getD (.bool false)) = 0 then 1 + (len - (intOf ((w.cell? ⟨p, 2, none⟩).getD (.bool false))).toNat) else 0
section
variable {w0 : World} {p C g cap : Nat} {ts : List Tn}
theorem dms_of {w : World} {q : Ds} (h : Dw w0 w p C g cap ts q) (len : Nat) : dms p len w = if q.e = 0 then 1 + (len - q.i) else 0 := by
  unfold dms
  rw [h.pb.c6, h.pb.c2]
  rfl
set_option maxRecDepth 100000 in
set_option maxHeartbeats 4000000 in
theorem djoined (f : Nat) (hj : ∀ f' ≤ f, DCon w0 p C g cap ts 124 .both f') : DCon w0 p C g cap ts 94 .joined (f + 1) := by
  intro w q o hD he hq hn hd hr h40
  have K1 := show Hid (Calls Tryz.prog 124 #[.pointer (some ⟨p, 0, none⟩)] w fun e w' => ∃ x q1, e = .returned (.int .i64 x) ∧ (Fm.i64 x ∧ Dw w0 w' p C g cap ts q1 ∧ Tf w w') ∧ Lp ts f .ors q o x q1) from by
    rcases Sx.bnd_cases hr with ⟨er, t, hx, rfl⟩ | ⟨a, i1, n1, hx, hk⟩
    · exact (hj f (Nat.le_refl _) w q _ hD he hq hn hd hx h40).mono fun e w' ⟨x, q1, h1, h2, h3, h4, h5⟩ => ⟨x, q1, h1, ⟨h2, h3, h4⟩, Or.inr ⟨er, t, rfl, h5⟩⟩
    · have hf := Sx.rd_fine ts f .both q.i q.n q.d _ hq hx _ _ _ rfl
      exact (hj f (Nat.le_refl _) w q _ hD he hq hn hd hx (fun _ h => by cases h)).mono fun e w' ⟨x, q1, h1, h2, h3, h4, h5⟩ => ⟨x, q1, h1, ⟨h2, h3, h4⟩, Or.inl ⟨a, f, i1, n1, Nat.le_refl _, hk, h5.1, h5.2, hf.2.1, hf.2.2 hn⟩⟩
  have HF := show Hid (q.d ≤ 1024 ∧ q.e = 0) from ⟨hd, he⟩
  have HJ := show Hid (∀ f' ≤ f, DCon w0 p C g cap ts 124 .both f') from hj
  have H40 := show Hid (∀ x, o ≠ .bad 40 x) from h40
  clear hj hD he hq hn hd hr h40
  go_enter Tryz.func94, Tryz.ntmps94
  go_wp2_with fail
  refine K1.out.mono ?_
  rintro e w1 ⟨x1, q1, rfl, hX1, hL1⟩
  have X1 := show Hid ((Fm.i64 x1 ∧ Dw w0 w1 p C g cap ts q1 ∧ Tf w w1) ∧ Lp ts f .ors q o x1 q1) from ⟨hX1, hL1⟩
  clear hX1 hL1 K1
  go_wp2_with fail
  go_loopw [3] (fun v wr => ∃ x q1, v = .int .i64 x ∧ Hid (Fm.i64 x ∧ Dw w0 wr p C g cap ts q1 ∧ Tf w wr) ∧ Hid (Lp ts f .ors q o x q1)) (fun _ wr => dms p ts.length wr)
  case atStart => exact ⟨x1, q1, rfl, X1.out.1, X1.out.2⟩
  case round =>
    clear X1
    obtain ⟨x, q1, rfl, X, HL⟩ := hrel
    have HM := show Hid (dms p ts.length wr = if q1.e = 0 then 1 + (ts.length - q1.i) else 0) from dms_of X.out.2.1 _
    rcases HL.out with ⟨acc, f', i, n, hf', hrd, hxx, hq1, hi, hn⟩ | ⟨er, t, ho, hb⟩
    · subst hxx
      subst hq1
      obtain ⟨f'', rfl⟩ : ∃ f'', f' = f'' + 1 := by
        cases f' with
        | zero => exact absurd hrd (by simp [Sx.rd])
        | succ f'' => exact ⟨f'', rfl⟩
      have KI := show Hid (Calls Tryz.prog 61 #[.pointer (some ⟨p, 0, none⟩), .string ⟨#[124]⟩] wr fun e w' => e = .returned (.bool (Sx.sgn (Sx.tk ts i) [124])) ∧ Below wr.heap.size wr w') from is_ok X.out.2.1 HF.out.2 ⟨#[124]⟩
      have hk : (if Sx.sgn (Sx.tk ts i) [124] then Sx.stp ts i n fun n => Sx.bnd (Sx.rd ts f'' .both (i + 1) n q.d) fun b i n => Sx.rd ts f'' (.ors (.bin 4 acc b)) i n q.d else some (Sx.Out.ok acc i n)) = some o := hrd
      clear hrd HL
      cases hs : Sx.sgn (Sx.tk ts i) [124]
      · rw [hs] at KI hk
        have ho : Sx.Out.ok acc i n = o := by simpa using hk
        subst ho
        clear hs hk
        go_wp2_with fail
        refine KI.out.mono ?_
        rintro e w2 ⟨rfl, hb2⟩
        have X2 := show Hid (Fm.i64 (Dp.str acc (q.t, q.fl)).1 ∧ Dw w0 w2 p C g cap ts (q.to i n (Dp.str acc (q.t, q.fl)).2) ∧ Tf w w2) from ⟨X.out.1, X.out.2.1.later hb2, X.out.2.2.trans (Tf.of_below hb2)⟩
        clear hb2 KI
        go_wp2_with fail
        go_ret
        exact ⟨_, _, rfl, X2.out.1, X2.out.2.1, X2.out.2.2, rfl, rfl⟩
      · have hlt := Sx.sgn_lt hs
        rw [hs] at KI hk
        rw [if_pos rfl] at hk
        clear hs
        rcases Sx.stp_cases hk with ⟨_, ho⟩ | ⟨hu, hk2⟩
        · exact absurd ho (H40.out _)
        clear hk
        go_wp2_with fail
        refine KI.out.mono ?_
        rintro e w2 ⟨rfl, hb2⟩
        have X2 := show Hid (Fm.i64 (Dp.str acc (q.t, q.fl)).1 ∧ Dw w0 w2 p C g cap ts (q.to i n (Dp.str acc (q.t, q.fl)).2) ∧ Tf w w2) from ⟨X.out.1, X.out.2.1.later hb2, X.out.2.2.trans (Tf.of_below hb2)⟩
        clear hb2 KI
        go_wp2_with fail
        refine (dtake_any w2 X2.out.2.1 HF.out.2 hi hu).mono ?_
        rintro e w3 ⟨rfl, hD3, hT3⟩
        have X3 := show Hid (Fm.i64 (Dp.str acc (q.t, q.fl)).1 ∧ Dw w0 w3 p C g cap ts (q.to (i + 1) (Sx.up ts i n) (Dp.str acc (q.t, q.fl)).2) ∧ Tf w w3) from ⟨X2.out.1, hD3, X2.out.2.2.trans hT3⟩
        clear hD3 hT3 X2
        rcases Sx.bnd_cases hk2 with ⟨er, t, hx, ho⟩ | ⟨b, i2, n2, hx, hk3⟩
        · have K2 := show Hid (Calls Tryz.prog 124 #[.pointer (some ⟨p, 0, none⟩)] w3 fun e w' => Dres w0 w3 p C g cap ts (q.to (i + 1) (Sx.up ts i n) (Dp.str acc (q.t, q.fl)).2) (.bad er t) e w') from HJ.out f'' (by omega) w3 _ _ X3.out.2.1 HF.out.2 hlt hu HF.out.1 hx (by rw [← ho]; exact H40.out)
          have HO := show Hid (o = .bad er t) from ho
          clear hk2 hx hu ho
          go_wp2_with fail
          refine K2.out.mono ?_
          rintro e w4 ⟨y, q4, rfl, hy, hD4, hT4, ho⟩
          have X4 := show Hid (Fm.i64 y ∧ Dw w0 w4 p C g cap ts q4 ∧ Tf w w4 ∧ Dout (q.to (i + 1) (Sx.up ts i n) (Dp.str acc (q.t, q.fl)).2) (.bad er t) y q4) from ⟨hy, hD4, X3.out.2.2.trans hT4, ho⟩
          clear hy hD4 hT4 ho K2
          go_wp2_with fail
          refine (two_bad X4.out.2.1 X4.out.2.2.2 4 (Dp.str acc (q.t, q.fl)).1 y (Dp.i64_k (by omega)) X3.out.1 X4.out.1).mono ?_
          rintro e w5 ⟨rfl, hD5, hT5⟩
          have X5 := show Hid (Fm.i64 0 ∧ Dw w0 w5 p C g cap ts q4 ∧ Tf w w5) from ⟨Dp.i64_0, hD5, X4.out.2.2.1.trans hT5⟩
          have HM2 := show Hid (dms p ts.length w5 = if q4.e = 0 then 1 + (ts.length - q4.i) else 0) from dms_of hD5 _
          have HQ4 := show Hid (q4.e ≠ 0) from by
            show q4.e ≠ 0
            have h := X4.out.2.2.2
            rw [h.2.1]; exact h.1
          clear hD5 hT5
          go_wp2_with fail
          go_roundw
          case rel => exact ⟨0, q4, rfl, X5, Or.inr ⟨er, t, HO.out, X4.out.2.2.2⟩⟩
          case measure =>
            have h1 : dms p ts.length wr = 1 + (ts.length - i) := HM.out.trans (if_pos HF.out.2)
            have h2 : dms p ts.length w5 = 0 := HM2.out.trans (if_neg HQ4.out)
            show dms p ts.length w5 < dms p ts.length wr
            rw [h1, h2]
            omega
        · have K2 := show Hid (Calls Tryz.prog 124 #[.pointer (some ⟨p, 0, none⟩)] w3 fun e w' => Dres w0 w3 p C g cap ts (q.to (i + 1) (Sx.up ts i n) (Dp.str acc (q.t, q.fl)).2) (.ok b i2 n2) e w') from HJ.out f'' (by omega) w3 _ _ X3.out.2.1 HF.out.2 hlt hu HF.out.1 hx (fun _ h => by cases h)
          have hf := Sx.rd_fine ts f'' .both (i + 1) _ q.d _ hlt hx _ _ _ rfl
          have HK := show Hid (f'' ≤ f ∧ Sx.rd ts f'' (.ors (.bin 4 acc b)) i2 n2 q.d = some o ∧ i2 ≤ ts.length ∧ n2 ≤ 512 ∧ i < i2 ∧ i < ts.length) from ⟨by omega, hk3, hf.2.1, hf.2.2 hu, by have := hf.1; simp only [Sx.adv] at this; omega, hlt⟩
          clear hk2 hx hu hf hk3
          go_wp2_with fail
          refine K2.out.mono ?_
          rintro e w4 ⟨y, q4, rfl, hy, hD4, hT4, hyy, hq4⟩
          have X4 := show Hid (Fm.i64 (Dp.str b (Dp.str acc (q.t, q.fl)).2).1 ∧ Dw w0 w4 p C g cap ts (q.to i2 n2 (Dp.str b (Dp.str acc (q.t, q.fl)).2).2) ∧ Tf w w4) from by
            subst hyy
            subst hq4
            exact ⟨hy, hD4, X3.out.2.2.trans hT4⟩
          have hyy2 : y = (Dp.str b (Dp.str acc (q.t, q.fl)).2).1 := hyy
          clear hy hD4 hT4 hyy hq4 K2
          subst hyy2
          go_wp2_with fail
          refine (two_ok X4.out.2.1 HF.out.2 4 (Dp.str acc (q.t, q.fl)).1 (Dp.str b (Dp.str acc (q.t, q.fl)).2).1 (Dp.i64_k (by omega)) X3.out.1 X4.out.1).mono ?_
          rintro e w5 ⟨rfl, hD5, hT5⟩
          have X5 := show Hid (Fm.i64 (Dp.str (.bin 4 acc b) (q.t, q.fl)).1 ∧ Dw w0 w5 p C g cap ts (q.to i2 n2 (Dp.str (.bin 4 acc b) (q.t, q.fl)).2) ∧ Tf w w5) from ⟨(Dp.sput_gd X4.out.2.1.ok (Dp.jn_good (Dp.i64_k (by omega)) X3.out.1 X4.out.1)).2, hD5, X4.out.2.2.trans hT5⟩
          have HM2 := show Hid (dms p ts.length w5 = if q.e = 0 then 1 + (ts.length - i2) else 0) from dms_of X5.out.2.1 _
          clear hD5 hT5
          go_wp2_with fail
          go_roundw
          case rel => exact ⟨_, _, rfl, X5, Or.inl ⟨.bin 4 acc b, f'', i2, n2, HK.out.1, HK.out.2.1, rfl, rfl, HK.out.2.2.1, HK.out.2.2.2.1⟩⟩
          case measure =>
            have h1 : dms p ts.length wr = 1 + (ts.length - i) := HM.out.trans (if_pos HF.out.2)
            have h2 : dms p ts.length w5 = 1 + (ts.length - i2) := HM2.out.trans (if_pos HF.out.2)
            have := HK.out.2.2.2.2
            show dms p ts.length w5 < dms p ts.length wr
            rw [h1, h2]
            omega
    · have HB := show Hid (o = .bad er t ∧ Dout q (.bad er t) x q1) from ⟨ho, hb⟩
      clear ho hb HL
      go_wp2_with fail
      refine (is_bad X.out.2.1 HB.out.2 ⟨#[124]⟩).mono ?_
      rintro e w2 ⟨rfl, hb2⟩
      have X2 := show Hid (Dw w0 w2 p C g cap ts q1 ∧ Tf w w2) from ⟨X.out.2.1.later hb2, X.out.2.2.trans (Tf.of_below hb2)⟩
      clear hb2
      go_wp2_with fail
      go_ret
      exact ⟨x, q1, rfl, X.out.1, X2.out.1, X2.out.2, by rw [HB.out.1]; exact HB.out.2⟩
set_option maxRecDepth 100000 in
set_option maxHeartbeats 4000000 in
theorem dboth (f : Nat) (hj : ∀ f' ≤ f, DCon w0 p C g cap ts 138 .single f') : DCon w0 p C g cap ts 124 .both (f + 1) := by
  intro w q o hD he hq hn hd hr h40
  have K1 := show Hid (Calls Tryz.prog 138 #[.pointer (some ⟨p, 0, none⟩)] w fun e w' => ∃ x q1, e = .returned (.int .i64 x) ∧ (Fm.i64 x ∧ Dw w0 w' p C g cap ts q1 ∧ Tf w w') ∧ Lp ts f .ands q o x q1) from by
    rcases Sx.bnd_cases hr with ⟨er, t, hx, rfl⟩ | ⟨a, i1, n1, hx, hk⟩
    · exact (hj f (Nat.le_refl _) w q _ hD he hq hn hd hx h40).mono fun e w' ⟨x, q1, h1, h2, h3, h4, h5⟩ => ⟨x, q1, h1, ⟨h2, h3, h4⟩, Or.inr ⟨er, t, rfl, h5⟩⟩
    · have hf := Sx.rd_fine ts f .single q.i q.n q.d _ hq hx _ _ _ rfl
      exact (hj f (Nat.le_refl _) w q _ hD he hq hn hd hx (fun _ h => by cases h)).mono fun e w' ⟨x, q1, h1, h2, h3, h4, h5⟩ => ⟨x, q1, h1, ⟨h2, h3, h4⟩, Or.inl ⟨a, f, i1, n1, Nat.le_refl _, hk, h5.1, h5.2, hf.2.1, hf.2.2 hn⟩⟩
  have HF := show Hid (q.d ≤ 1024 ∧ q.e = 0) from ⟨hd, he⟩
  have HJ := show Hid (∀ f' ≤ f, DCon w0 p C g cap ts 138 .single f') from hj
  have H40 := show Hid (∀ x, o ≠ .bad 40 x) from h40
  clear hj hD he hq hn hd hr h40
  go_enter Tryz.func124, Tryz.ntmps124
  go_wp2_with fail
  refine K1.out.mono ?_
  rintro e w1 ⟨x1, q1, rfl, hX1, hL1⟩
  have X1 := show Hid ((Fm.i64 x1 ∧ Dw w0 w1 p C g cap ts q1 ∧ Tf w w1) ∧ Lp ts f .ands q o x1 q1) from ⟨hX1, hL1⟩
  clear hX1 hL1 K1
  go_wp2_with fail
  go_loopw [3] (fun v wr => ∃ x q1, v = .int .i64 x ∧ Hid (Fm.i64 x ∧ Dw w0 wr p C g cap ts q1 ∧ Tf w wr) ∧ Hid (Lp ts f .ands q o x q1)) (fun _ wr => dms p ts.length wr)
  case atStart => exact ⟨x1, q1, rfl, X1.out.1, X1.out.2⟩
  case round =>
    clear X1
    obtain ⟨x, q1, rfl, X, HL⟩ := hrel
    have HM := show Hid (dms p ts.length wr = if q1.e = 0 then 1 + (ts.length - q1.i) else 0) from dms_of X.out.2.1 _
    rcases HL.out with ⟨acc, f', i, n, hf', hrd, hxx, hq1, hi, hn⟩ | ⟨er, t, ho, hb⟩
    · subst hxx
      subst hq1
      obtain ⟨f'', rfl⟩ : ∃ f'', f' = f'' + 1 := by
        cases f' with
        | zero => exact absurd hrd (by simp [Sx.rd])
        | succ f'' => exact ⟨f'', rfl⟩
      have KI := show Hid (Calls Tryz.prog 61 #[.pointer (some ⟨p, 0, none⟩), .string ⟨#[38]⟩] wr fun e w' => e = .returned (.bool (Sx.sgn (Sx.tk ts i) [38])) ∧ Below wr.heap.size wr w') from is_ok X.out.2.1 HF.out.2 ⟨#[38]⟩
      have hk : (if Sx.sgn (Sx.tk ts i) [38] then Sx.stp ts i n fun n => Sx.bnd (Sx.rd ts f'' .single (i + 1) n q.d) fun b i n => Sx.rd ts f'' (.ands (.bin 3 acc b)) i n q.d else some (Sx.Out.ok acc i n)) = some o := hrd
      clear hrd HL
      cases hs : Sx.sgn (Sx.tk ts i) [38]
      · rw [hs] at KI hk
        have ho : Sx.Out.ok acc i n = o := by simpa using hk
        subst ho
        clear hs hk
        go_wp2_with fail
        refine KI.out.mono ?_
        rintro e w2 ⟨rfl, hb2⟩
        have X2 := show Hid (Fm.i64 (Dp.str acc (q.t, q.fl)).1 ∧ Dw w0 w2 p C g cap ts (q.to i n (Dp.str acc (q.t, q.fl)).2) ∧ Tf w w2) from ⟨X.out.1, X.out.2.1.later hb2, X.out.2.2.trans (Tf.of_below hb2)⟩
        clear hb2 KI
        go_wp2_with fail
        go_ret
        exact ⟨_, _, rfl, X2.out.1, X2.out.2.1, X2.out.2.2, rfl, rfl⟩
      · have hlt := Sx.sgn_lt hs
        rw [hs] at KI hk
        rw [if_pos rfl] at hk
        clear hs
        rcases Sx.stp_cases hk with ⟨_, ho⟩ | ⟨hu, hk2⟩
        · exact absurd ho (H40.out _)
        clear hk
        go_wp2_with fail
        refine KI.out.mono ?_
        rintro e w2 ⟨rfl, hb2⟩
        have X2 := show Hid (Fm.i64 (Dp.str acc (q.t, q.fl)).1 ∧ Dw w0 w2 p C g cap ts (q.to i n (Dp.str acc (q.t, q.fl)).2) ∧ Tf w w2) from ⟨X.out.1, X.out.2.1.later hb2, X.out.2.2.trans (Tf.of_below hb2)⟩
        clear hb2 KI
        go_wp2_with fail
        refine (dtake_any w2 X2.out.2.1 HF.out.2 hi hu).mono ?_
        rintro e w3 ⟨rfl, hD3, hT3⟩
        have X3 := show Hid (Fm.i64 (Dp.str acc (q.t, q.fl)).1 ∧ Dw w0 w3 p C g cap ts (q.to (i + 1) (Sx.up ts i n) (Dp.str acc (q.t, q.fl)).2) ∧ Tf w w3) from ⟨X2.out.1, hD3, X2.out.2.2.trans hT3⟩
        clear hD3 hT3 X2
        rcases Sx.bnd_cases hk2 with ⟨er, t, hx, ho⟩ | ⟨b, i2, n2, hx, hk3⟩
        · have K2 := show Hid (Calls Tryz.prog 138 #[.pointer (some ⟨p, 0, none⟩)] w3 fun e w' => Dres w0 w3 p C g cap ts (q.to (i + 1) (Sx.up ts i n) (Dp.str acc (q.t, q.fl)).2) (.bad er t) e w') from HJ.out f'' (by omega) w3 _ _ X3.out.2.1 HF.out.2 hlt hu HF.out.1 hx (by rw [← ho]; exact H40.out)
          have HO := show Hid (o = .bad er t) from ho
          clear hk2 hx hu ho
          go_wp2_with fail
          refine K2.out.mono ?_
          rintro e w4 ⟨y, q4, rfl, hy, hD4, hT4, ho⟩
          have X4 := show Hid (Fm.i64 y ∧ Dw w0 w4 p C g cap ts q4 ∧ Tf w w4 ∧ Dout (q.to (i + 1) (Sx.up ts i n) (Dp.str acc (q.t, q.fl)).2) (.bad er t) y q4) from ⟨hy, hD4, X3.out.2.2.trans hT4, ho⟩
          clear hy hD4 hT4 ho K2
          go_wp2_with fail
          refine (two_bad X4.out.2.1 X4.out.2.2.2 3 (Dp.str acc (q.t, q.fl)).1 y (Dp.i64_k (by omega)) X3.out.1 X4.out.1).mono ?_
          rintro e w5 ⟨rfl, hD5, hT5⟩
          have X5 := show Hid (Fm.i64 0 ∧ Dw w0 w5 p C g cap ts q4 ∧ Tf w w5) from ⟨Dp.i64_0, hD5, X4.out.2.2.1.trans hT5⟩
          have HM2 := show Hid (dms p ts.length w5 = if q4.e = 0 then 1 + (ts.length - q4.i) else 0) from dms_of hD5 _
          have HQ4 := show Hid (q4.e ≠ 0) from by
            show q4.e ≠ 0
            have h := X4.out.2.2.2
            rw [h.2.1]; exact h.1
          clear hD5 hT5
          go_wp2_with fail
          go_roundw
          case rel => exact ⟨0, q4, rfl, X5, Or.inr ⟨er, t, HO.out, X4.out.2.2.2⟩⟩
          case measure =>
            have h1 : dms p ts.length wr = 1 + (ts.length - i) := HM.out.trans (if_pos HF.out.2)
            have h2 : dms p ts.length w5 = 0 := HM2.out.trans (if_neg HQ4.out)
            show dms p ts.length w5 < dms p ts.length wr
            rw [h1, h2]
            omega
        · have K2 := show Hid (Calls Tryz.prog 138 #[.pointer (some ⟨p, 0, none⟩)] w3 fun e w' => Dres w0 w3 p C g cap ts (q.to (i + 1) (Sx.up ts i n) (Dp.str acc (q.t, q.fl)).2) (.ok b i2 n2) e w') from HJ.out f'' (by omega) w3 _ _ X3.out.2.1 HF.out.2 hlt hu HF.out.1 hx (fun _ h => by cases h)
          have hf := Sx.rd_fine ts f'' .single (i + 1) _ q.d _ hlt hx _ _ _ rfl
          have HK := show Hid (f'' ≤ f ∧ Sx.rd ts f'' (.ands (.bin 3 acc b)) i2 n2 q.d = some o ∧ i2 ≤ ts.length ∧ n2 ≤ 512 ∧ i < i2 ∧ i < ts.length) from ⟨by omega, hk3, hf.2.1, hf.2.2 hu, by have := hf.1; simp only [Sx.adv] at this; omega, hlt⟩
          clear hk2 hx hu hf hk3
          go_wp2_with fail
          refine K2.out.mono ?_
          rintro e w4 ⟨y, q4, rfl, hy, hD4, hT4, hyy, hq4⟩
          have X4 := show Hid (Fm.i64 (Dp.str b (Dp.str acc (q.t, q.fl)).2).1 ∧ Dw w0 w4 p C g cap ts (q.to i2 n2 (Dp.str b (Dp.str acc (q.t, q.fl)).2).2) ∧ Tf w w4) from by
            subst hyy
            subst hq4
            exact ⟨hy, hD4, X3.out.2.2.trans hT4⟩
          have hyy2 : y = (Dp.str b (Dp.str acc (q.t, q.fl)).2).1 := hyy
          clear hy hD4 hT4 hyy hq4 K2
          subst hyy2
          go_wp2_with fail
          refine (two_ok X4.out.2.1 HF.out.2 3 (Dp.str acc (q.t, q.fl)).1 (Dp.str b (Dp.str acc (q.t, q.fl)).2).1 (Dp.i64_k (by omega)) X3.out.1 X4.out.1).mono ?_
          rintro e w5 ⟨rfl, hD5, hT5⟩
          have X5 := show Hid (Fm.i64 (Dp.str (.bin 3 acc b) (q.t, q.fl)).1 ∧ Dw w0 w5 p C g cap ts (q.to i2 n2 (Dp.str (.bin 3 acc b) (q.t, q.fl)).2) ∧ Tf w w5) from ⟨(Dp.sput_gd X4.out.2.1.ok (Dp.jn_good (Dp.i64_k (by omega)) X3.out.1 X4.out.1)).2, hD5, X4.out.2.2.trans hT5⟩
          have HM2 := show Hid (dms p ts.length w5 = if q.e = 0 then 1 + (ts.length - i2) else 0) from dms_of X5.out.2.1 _
          clear hD5 hT5
          go_wp2_with fail
          go_roundw
          case rel => exact ⟨_, _, rfl, X5, Or.inl ⟨.bin 3 acc b, f'', i2, n2, HK.out.1, HK.out.2.1, rfl, rfl, HK.out.2.2.1, HK.out.2.2.2.1⟩⟩
          case measure =>
            have h1 : dms p ts.length wr = 1 + (ts.length - i) := HM.out.trans (if_pos HF.out.2)
            have h2 : dms p ts.length w5 = 1 + (ts.length - i2) := HM2.out.trans (if_pos HF.out.2)
            have := HK.out.2.2.2.2
            show dms p ts.length w5 < dms p ts.length wr
            rw [h1, h2]
            omega
    · have HB := show Hid (o = .bad er t ∧ Dout q (.bad er t) x q1) from ⟨ho, hb⟩
      clear ho hb HL
      go_wp2_with fail
      refine (is_bad X.out.2.1 HB.out.2 ⟨#[38]⟩).mono ?_
      rintro e w2 ⟨rfl, hb2⟩
      have X2 := show Hid (Dw w0 w2 p C g cap ts q1 ∧ Tf w w2) from ⟨X.out.2.1.later hb2, X.out.2.2.trans (Tf.of_below hb2)⟩
      clear hb2
      go_wp2_with fail
      go_ret
      exact ⟨x, q1, rfl, X.out.1, X2.out.1, X2.out.2, by rw [HB.out.1]; exact HB.out.2⟩
end
end Go.Proofs.YtcidldgenogdkaaGreatDoor
