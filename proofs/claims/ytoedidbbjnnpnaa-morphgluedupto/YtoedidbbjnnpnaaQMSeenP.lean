/-
  Going up from each world once, plain: which numbers the worlds above one have. No condition.
-/
import Derived.Test.YtoedidbbjnnpnaaTH7
import Derived.Test.YtoedidbbjnnpnaaQWUp
namespace Go.Proofs.Ytoedidbbjnnpnaa.Wm
open Wd (Md Good Rc Ed upd vl)
set_option linter.unusedVariables false
theorem bit_putC (ws:Nat→Nat) (x c a b:Nat) (hc:c<512) (hb:b<512):bit (upd ws (x * 8+c / 64) (ws (x * 8+c / 64) ||| 2 ^ (c % 64))) (a * 8) b=if a=x then bit ws (x * 8) b || decide (b=c) else bit ws (a * 8) b:=by
 unfold bit
 by_cases e:a * 8+b / 64=x * 8+c / 64
 ·rw [e,Wd.upd_same,Nat.testBit_or,Nat.testBit_two_pow]
  have ea:a=x:=by omega
  subst ea
  have eb:b / 64=c / 64:=by omega
  rw [if_pos rfl,eb]
  congr 1
  exact decide_eq_decide.2 (by omega)
 ·rw [Wd.upd_other _ _ _ e]
  by_cases ea:a=x
  ·subst ea
   rw [if_pos rfl,decide_eq_false (by intro h;subst h;exact e rfl),Bool.or_false]
  ·rw [if_neg ea]
theorem abW_putC (ws:Nat→Nat) {x c:Nat} (hc:c<512):abW (upd ws (x * 8+c / 64) (ws (x * 8+c / 64) ||| 2 ^ (c % 64)))=upd (abW ws) x (fun b=>abW ws x b || decide (b=c)):=by
 funext a b
 unfold abW
 by_cases hb:b<512
 ·rw [bit_putC ws x c a b hc hb,decide_eq_true hb]
  by_cases ea:a=x
  ·rw [if_pos ea,ea,Wd.upd_same];simp [hb]
  ·rw [if_neg ea,Wd.upd_other _ _ _ ea];simp [hb]
 ·rw [decide_eq_false hb]
  by_cases ea:a=x
  ·rw [ea,Wd.upd_same,decide_eq_false (show ¬ b=c by omega)];simp [hb]
  ·rw [Wd.upd_other _ _ _ ea];simp [hb]
theorem abW_has (ws:Nat→Nat) (a:Nat) {c:Nat} (hc:c<512):abW ws a c=bit ws (a * 8) c:=by
 unfold abW;rw [decide_eq_true hc];rfl
theorem abW_zero:abW (fun _=>0)=fun _ _=>false:=by
 funext a b
 unfold abW bit
 simp
structure SI (u:List (List Int)) (num:Nat→Nat) (st:Nat→Nat) (ab:Nat→Nat→Bool):Prop where
 new:∀ a,st a=0→∀ c,ab a c=false
 on:∀ a,st a≠0→ab a (num a)=true
 snd:∀ a c,ab a c=true→∃ b,Rc u a b∧num b=c
 cmp:∀ a,st a=2→∀ b,Rc u a b→ab a (num b)=true
 up:∀ a b,st a=2→Ed u a b→st b=2
theorem SI.start (u:List (List Int)) (num:Nat→Nat):SI u num (fun _=>0) (fun _ _=>false) :=
 ⟨fun _ _ _=>rfl,fun a h=>absurd rfl h,fun a c h=>(by cases h),fun a h=>(by cases h),fun a b h=>(by cases h)⟩
structure SM (u:List (List Int)) (num:Nat→Nat) (st:Nat→Nat) (ab:Nat→Nat→Bool) (x:Nat) (row:List Int) (j:Nat):Prop where
 inv:SI u num st ab
 way:st x=1
 hrow:u[x]?=some row
 onw:∀ g,st g=1→Rc u g x
 has:∀ (i b:Nat),i<j→row[i]?=some (b:Int)→b=x∨(st b=2∧∀ d,Rc u b d→ab x (num d)=true)
theorem SM.start {u:List (List Int)} {num st:Nat→Nat} {ab:Nat→Nat→Bool} {x:Nat} {row:List Int} (h:SI u num st ab) (h0:st x=0) (hr:u[x]?=some row) (hon:∀ g,st g=1→Rc u g x):SM u num (upd st x 1) (upd ab x fun b=>ab x b || decide (b=num x)) x row 0:=by
 refine ⟨⟨fun a ha c => ?_,fun a ha => ?_,fun a c hc => ?_,fun a ha b hb => ?_,fun a b ha hb => ?_⟩,Wd.upd_same _ _ _,hr,fun g hg => ?_,fun i b hi=>absurd hi (Nat.not_lt_zero _)⟩
 ·by_cases e:a=x
  ·rw [e,Wd.upd_same] at ha;cases ha
  ·rw [Wd.upd_other _ _ _ e] at ha ⊢;exact h.new a ha c
 ·by_cases e:a=x
  ·rw [e,Wd.upd_same];simp
  ·rw [Wd.upd_other _ _ _ e] at ha ⊢;exact h.on a ha
 ·by_cases e:a=x
  ·rw [e,Wd.upd_same] at hc
   rw [h.new x h0 c,Bool.false_or,decide_eq_true_eq] at hc
   exact ⟨x,by rw [e];exact .refl _,hc.symm⟩
  ·rw [Wd.upd_other _ _ _ e] at hc;exact h.snd a c hc
 ·by_cases e:a=x
  ·rw [e,Wd.upd_same] at ha;cases ha
  ·rw [Wd.upd_other _ _ _ e] at ha ⊢;exact h.cmp a ha b hb
 ·by_cases e:a=x
  ·rw [e,Wd.upd_same] at ha;cases ha
  ·rw [Wd.upd_other _ _ _ e] at ha
   have h2:=h.up a b ha hb
   by_cases e2:b=x
   ·rw [e2,h0] at h2;cases h2
   ·rw [Wd.upd_other _ _ _ e2];exact h2
 ·by_cases e:g=x
  ·rw [e];exact .refl _
  ·rw [Wd.upd_other _ _ _ e] at hg;exact hon g hg
theorem SM.edge {u:List (List Int)} {num st:Nat→Nat} {ab:Nat→Nat→Bool} {x:Nat} {row:List Int} {j v:Nat} (h:SM u num st ab x row j) (hv:row[j]?=some (v:Int)):Ed u x v:=⟨row,h.hrow,List.mem_of_getElem? hv⟩
theorem SM.after {u:List (List Int)} {num st st':Nat→Nat} {ab ab':Nat→Nat→Bool} {x:Nat} {row:List Int} {j:Nat} (h:SM u num st ab x row j) (hI:SI u num st' ab') (hA:Aft st ab st' ab'):SM u num st' ab' x row j:=by
 have hx:st x≠0:=by rw [h.way];decide
 refine ⟨hI,(hA.hst x hx).trans h.way,h.hrow,fun g hg => ?_,fun i b hi hb => ?_⟩
 ·by_cases e:st g=0
  ·rcases hA.hz g e with h1 | h1 <;> rw [h1] at hg <;> cases hg
  ·rw [hA.hst g e] at hg;exact h.onw g hg
 ·rcases h.has i b hi hb with h1 | ⟨h1,h2⟩
  ·exact Or.inl h1
  ·refine Or.inr ⟨(hA.hst b (by rw [h1];decide)).trans h1,fun d hd => ?_⟩
   rw [hA.hab x hx];exact h2 d hd
theorem SM.join {u:List (List Int)} {num st:Nat→Nat} {ab:Nat→Nat→Bool} {x:Nat} {row:List Int} {j v:Nat} (h:SM u num st ab x row j) (hv:row[j]?=some (v:Int)) (hn:st v≠0) (hle:st v≤2) (anti:∀ a b,Rc u a b→Rc u b a→a=b):SM u num st (upd ab x fun b=>ab x b || ab v b) x row (j+1):=by
 have hE:=h.edge hv
 have h2:v=x∨st v=2:=by
  by_cases e:st v=2
  ·exact Or.inr e
  ·exact Or.inl (anti v x (h.onw v (by omega)) (.one hE))
 have hx:st x≠0:=by rw [h.way];decide
 refine ⟨⟨fun a ha c => ?_,fun a ha => ?_,fun a c hc => ?_,fun a ha b hb => ?_,h.inv.up⟩,h.way,h.hrow,h.onw,fun i b hi hb => ?_⟩
 ·rw [Wd.upd_other _ _ _ (show a≠x from fun e=>hx (by rw [← e];exact ha))];exact h.inv.new a ha c
 ·by_cases e:a=x
  ·rw [e,Wd.upd_same,h.inv.on x hx];rfl
  ·rw [Wd.upd_other _ _ _ e];exact h.inv.on a ha
 ·by_cases e:a=x
  ·rw [e,Wd.upd_same,Bool.or_eq_true] at hc
   rw [e]
   rcases hc with hc | hc
   ·exact h.inv.snd x c hc
   ·obtain ⟨b,h3,h4⟩:=h.inv.snd v c hc
    exact ⟨b,.step hE h3,h4⟩
  ·rw [Wd.upd_other _ _ _ e] at hc;exact h.inv.snd a c hc
 ·rw [Wd.upd_other _ _ _ (show a≠x from fun e=>by rw [e,h.way] at ha;cases ha)];exact h.inv.cmp a ha b hb
 ·by_cases e:i=j
  ·subst e
   rw [hv] at hb
   obtain rfl:v=b:=by have:=Option.some.inj hb;omega
   rcases h2 with h2 | h2
   ·exact Or.inl h2
   ·refine Or.inr ⟨h2,fun d hd => ?_⟩
    rw [Wd.upd_same,h.inv.cmp v h2 d hd,Bool.or_true]
  ·rcases h.has i b (by omega) hb with h3 | ⟨h3,h4⟩
   ·exact Or.inl h3
   ·refine Or.inr ⟨h3,fun d hd => ?_⟩
    rw [Wd.upd_same,h4 d hd,Bool.true_or]
theorem SM.finish {u:List (List Int)} {num st:Nat→Nat} {ab:Nat→Nat→Bool} {x:Nat} {row:List Int} (h:SM u num st ab x row row.length):SI u num (upd st x 2) ab:=by
 have hx:st x≠0:=by rw [h.way];decide
 have hmem:∀ b,Ed u x b→b=x∨(st b=2∧∀ d,Rc u b d→ab x (num d)=true):=fun b hb=>by
  obtain ⟨r,h1,h2⟩:=hb
  rw [h.hrow] at h1
  obtain rfl:=Option.some.inj h1
  obtain ⟨i,hi,he⟩:=List.mem_iff_getElem.1 h2
  exact h.has i b hi (by rw [List.getElem?_eq_getElem hi,he])
 have hself:∀ b,Rc u x b→ab x (num b)=true:=by
  have:∀ a b,Rc u a b→a=x→ab x (num b)=true:=by
   intro a b hr
   induction hr with
   | refl a=>intro e;rw [e];exact h.inv.on x hx
   | step he hr ih =>
    intro e
    rw [e] at he
    rcases hmem _ he with h1 | ⟨_,h2⟩
    ·exact ih h1
    ·exact h2 _ hr
  exact fun b hb=>this x b hb rfl
 refine ⟨fun a ha c => ?_,fun a ha => ?_,h.inv.snd,fun a ha b hb => ?_,fun a b ha hb => ?_⟩
 ·by_cases e:a=x
  ·rw [e,Wd.upd_same] at ha;cases ha
  ·rw [Wd.upd_other _ _ _ e] at ha;exact h.inv.new a ha c
 ·by_cases e:a=x
  ·rw [e];exact h.inv.on x hx
  ·rw [Wd.upd_other _ _ _ e] at ha;exact h.inv.on a ha
 ·by_cases e:a=x
  ·rw [e] at hb ⊢;exact hself b hb
  ·rw [Wd.upd_other _ _ _ e] at ha;exact h.inv.cmp a ha b hb
 ·by_cases e2:b=x
  ·rw [e2,Wd.upd_same]
  ·rw [Wd.upd_other _ _ _ e2]
   by_cases e:a=x
   ·rw [e] at hb
    rcases hmem b hb with h1 | ⟨h1,_⟩
    ·exact absurd h1 e2
    ·exact h1
   ·rw [Wd.upd_other _ _ _ e] at ha;exact h.inv.up a b ha hb
end Go.Proofs.Ytoedidbbjnnpnaa.Wm
