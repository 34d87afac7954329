import Derived.Test.YtbnkpnllgoghnaaGreatPe
import Derived.Deep.Slices
import Derived.Deep.Fields
import Derived.ChangeSame
import Derived.ProofKit
set_option linter.unusedVariables false
namespace Go.Proofs.YtbnkpnllgoghnaaGreat
open Go.Lib (hid)
namespace Trees
open Go Stages
inductive Tr
 | last (e : Bool) (q : List Nat)
 | look (e : Bool) (q : List Nat) (t : Tr)
 | one (e : Bool) (q : List Nat) (c : Nat) (t : Tr)
 | two (e : Bool) (q : List Nat) (c1 : Nat) (t1 : Tr) (c2 : Nat) (t2 : Tr)
section
variable {P : Program} {ops : Array Oper} {R R' : World → World → Prop} {late : List Nat}
def Lr (late : List Nat) (R R' : World → World → Prop) (c : Nat) : World → World → Prop := if late.contains c then R' else R
def Er (e : Bool) (R R' : World → World → Prop) : World → World → Prop := if e then R else R'
def wpAnyL (P : Program) (ops : Array Oper) (L : Nat → World → World → Prop) (Qn : Act → World → Prop) : Nat → Array Bool → Act → World → Prop
 | 0,listed,a,w => Region.ready .any ops listed = [] ∧ Qn a w
 | fuel + 1,listed,a,w =>
  (Region.ready .any ops listed = [] → Qn a w) ∧
  ∀ i ∈ Region.ready .any ops listed,wpOp P ops (Norm fun _ _ => False) i (fun a' w' => L i w w' ∧ wpAnyL P ops L Qn fuel (listed.setIfInBounds i true) a' w') a w
theorem wpAny_of_L {L : Nat → World → World → Prop} {Q : Exit → Act → World → Prop} : ∀ (fuel : Nat) (listed : Array Bool) (a : Act) (w : World),wpAnyL P ops L (Q .normal) fuel listed a w → wpAny P .any ops Q fuel listed a w
 | 0,_,_,_,h => h
 | fuel + 1,_,_,_,h => ⟨h.1,fun i hi => wpOp_turn (fun _ _ _ hh => hh.elim) (fun ⟨_,_,hh⟩ => hh.elim) (wpOp_mono (fun a' w' hh => wpAny_of_L fuel _ a' w' hh.2) (h.2 i hi))⟩
theorem wpAnyL_first {L : Nat → World → World → Prop} {Ri : World → World → Prop} {Qn : Act → World → Prop} {i : Nat} {oi : Oper} {v : Value} (hr : ∀ a,Ri a a) (hl : ∀ j a,L j a a) (ht : ∀ a b c,Ri a b → Ri b c → Ri a c) (hi : ops[i]? = some oi) (hsel : ∀ (j : Nat) (o : Oper) cs b,ops[j]? = some o → o.op ≠ .select cs b) :
  ∀ (fuel : Nat) (listed : Array Bool) (a : Act) (w : World),
   (∀ j oj,ops[j]? = some oj → j ≠ i → listed.getD j true = false → (∀ e ∈ oj.after,Region.binds .any e = true → e.on ≠ i) → oi.apart ops oj = true ∧ ∀ u u',L j u u' → Ri u u') →
   i ∈ Region.ready .any ops listed → SureIn P ops Ri oi v a w →
   wpAnyL P ops L Qn fuel (listed.setIfInBounds i true) (a.put oi.dst v) w → wpAnyL P ops L Qn (fuel + 1) listed a w := by
 intro fuel
 induction fuel with
 | zero =>
  intro listed a w _ hrd hy H
  refine ⟨fun h => (by rw [h] at hrd;cases hrd),fun j hj => ?_⟩
  by_cases hji : j = i
  ·subst hji;exact hy.wpOp hr hi ⟨hl j w,H⟩
  ·have := ready_mono hj hji
   rw [H.1] at this
   cases this
 | succ fuel ih =>
  intro listed a w hfree hrd hy H
  refine ⟨fun h => (by rw [h] at hrd;cases hrd),fun j hj => ?_⟩
  by_cases hji : j = i
  ·subst hji;exact hy.wpOp hr hi ⟨hl j w,H⟩
  ·have h1 := H.2 j (ready_mono hj hji)
   obtain ⟨hjun,oj,hoj,hall⟩ := mem_ready.1 hj
   have hnot : ∀ e ∈ oj.after,Region.binds .any e = true → e.on ≠ i := fun e he hb heq => by
    have h1 := hall e he hb
    have h0 := (mem_ready.1 hrd).1
    rw [heq] at h1
    rcases Nat.lt_or_ge i listed.size with h' | h'
    ·simp [h'] at h0 h1;rw [h0] at h1;cases h1
    ·simp [Array.getElem?_eq_none h'] at h1
   obtain ⟨hap,hsub⟩ := hfree j oj hoj hji hjun hnot
   have h1' : wpOp P ops (Norm fun _ _ => False) j (fun a' w' => Ri w w' ∧ (L j w w' ∧ wpAnyL P ops L Qn fuel ((listed.setIfInBounds i true).setIfInBounds j true) a' w')) (a.put oi.dst v) w := wpOp_mono (fun _ _ hk => ⟨hsub _ _ hk.1,hk⟩) h1
   have h2 := wpOp_putR (K := fun a' w' => L j w w' ∧ wpAnyL P ops L Qn fuel ((listed.setIfInBounds i true).setIfInBounds j true) a' w') ht hoj hap (fun cs b => hsel i oi cs b hi) (fun cs b => hsel j oj cs b hoj) hy h1'
   have hfree' : ∀ k ok,ops[k]? = some ok → k ≠ i → (listed.setIfInBounds j true).getD k true = false →
     (∀ e ∈ ok.after,Region.binds .any e = true → e.on ≠ i) → oi.apart ops ok = true ∧ ∀ u u',L k u u' → Ri u u' := fun k ok hk hki hun hno => by
    refine hfree k ok hk hki ?_ hno
    by_cases hjk : j = k
    ·subst hjk;exact hjun
    ·rw [getD_set_ne true hjk] at hun;exact hun
   refine wpOp_mono (fun a' w' h3 => ⟨h3.2.2.1,ih (listed.setIfInBounds j true) a' w' hfree' (ready_mono hrd (Ne.symm hji)) h3.1 ?_⟩) h2
   rw [Array.setIfInBounds_comm _ _ hji]
   exact h3.2.2.2
def earlyB (ops : Array Oper) (late : List Nat) (e : Bool) (q : List Nat) : Bool :=
 !e || q.all fun i => late.all fun j => match ops[j]? with | some o => o.after.any fun x => Region.binds .any x && x.on == i | none => true
def trB (ops : Array Oper) (late : List Nat) : Tr → Array Bool → Bool
 | .last e q,listed => quietB ops q listed && earlyB ops late e q && (Region.ready .any ops (listAll q listed)).isEmpty
 | .look e q t,listed => quietB ops q listed && earlyB ops late e q && trB ops late t (listAll q listed)
 | .one e q c t,listed => quietB ops q listed && earlyB ops late e q && Region.ready .any ops (listAll q listed) == [c] && trB ops late t ((listAll q listed).setIfInBounds c true)
 | .two e q c1 t1 c2 t2,listed => quietB ops q listed && earlyB ops late e q && Region.ready .any ops (listAll q listed) == [c1,c2] && trB ops late t1 ((listAll q listed).setIfInBounds c1 true) && trB ops late t2 ((listAll q listed).setIfInBounds c2 true)
def trFuel : Tr → Nat
 | .last _ q => q.length
 | .look _ q t => q.length + trFuel t
 | .one _ q _ t => q.length + (trFuel t + 1)
 | .two _ q _ t1 _ _ => q.length + (trFuel t1 + 1)
def trEven : Tr → Bool
 | .last _ _ => true
 | .look _ _ t => trEven t
 | .one _ _ _ t => trEven t
 | .two _ _ _ t1 _ t2 => trEven t1 && trEven t2 && trFuel t1 == trFuel t2
def wpTr (P : Program) (ops : Array Oper) (late : List Nat) (R R' : World → World → Prop) (Qn : Act → World → Prop) : Tr → Act → World → Prop
 | .last e q,a,w => wpQuiet P ops (Cls (Er e R R') w) (fun a' => Qn a' w) (sel ops q) a
 | .look e q t,a,w => wpQuiet P ops (Cls (Er e R R') w) (fun a' => wpTr P ops late R R' Qn t a' w) (sel ops q) a
 | .one e q c t,a,w => wpQuiet P ops (Cls (Er e R R') w) (fun a' => wpList P ops (Norm fun a'' w'' => Lr late R R' c w w'' ∧ wpTr P ops late R R' Qn t a'' w'') (sel ops [c]) a' w) (sel ops q) a
 | .two e q c1 t1 c2 t2,a,w => wpQuiet P ops (Cls (Er e R R') w) (fun a' => wpList P ops (Norm fun a'' w'' => Lr late R R' c1 w w'' ∧ wpTr P ops late R R' Qn t1 a'' w'') (sel ops [c1]) a' w ∧ wpList P ops (Norm fun a'' w'' => Lr late R R' c2 w w'' ∧ wpTr P ops late R R' Qn t2 a'' w'') (sel ops [c2]) a' w) (sel ops q) a
theorem quiet_walkL {L : Nat → World → World → Prop} {Ri : World → World → Prop} {Qn : Act → World → Prop} (hr : ∀ a,Ri a a) (hl : ∀ j a,L j a a) (ht : ∀ a b c,Ri a b → Ri b c → Ri a c) (hs : Region.noSelect ops = true) (n : Nat) (w : World) :
  ∀ (l : List Nat) (listed : Array Bool) (a : Act),quietB ops l listed = true →
  (∀ i ∈ l,∀ j oj,ops[j]? = some oj → (∀ e ∈ oj.after,Region.binds .any e = true → e.on ≠ i) → ∀ u u',L j u u' → Ri u u') →
  wpQuiet P ops (Cls Ri w) (fun a' => wpAnyL P ops L Qn n (listAll l listed) a' w) (sel ops l) a → wpAnyL P ops L Qn (l.length + n) listed a w
 | [],listed,a,_,_,h => by simpa [sel,wpQuiet,listAll] using h
 | k :: l,listed,a,hB,hsub,h => by
  simp only [quietB,Bool.and_eq_true] at hB
  obtain ⟨⟨⟨hrd,hf⟩,hp⟩,hB'⟩ := hB
  cases ho : ops[k]? with
  | none => rw [ho] at hp;cases hp
  | some o =>
   rw [ho] at hp
   have hp' : plain o.op = true := hp
   have hsel : sel ops (k :: l) = o :: sel ops l := sel_cons ho _
   rw [hsel] at h
   have e : (k :: l).length + n = (l.length + n) + 1 := by simp only [List.length_cons];omega
   rw [e]
   have key : ∃ v,SureIn P ops Ri o v a w ∧ wpQuiet P ops (Cls Ri w) (fun a' => wpAnyL P ops L Qn n (listAll l (listed.setIfInBounds k true)) a' w) (sel ops l) (a.put o.dst v) := by
    unfold wpQuiet at h
    by_cases hw : Region.wanted o (yielded ops a.tmps) = true
    ·rw [if_pos hw] at h
     obtain ⟨v,h1,h2⟩ := h
     refine ⟨v,.inl ⟨hw,fun w' hR => ?_⟩,h2⟩
     have h3 := h1 w' (cls_of hR)
     unfold Oper.quietAt at h3
     unfold SureAt
     cases hrun : (execOp a.eval o).run P w' with
     | ok x w1 =>
      obtain ⟨u,rfl⟩ := plain_run hp' hrun
      rw [hrun] at h3
      simp only [Oper.quietUpon] at h3
      rw [h3.1,h3.2]
     | halt x w1 => rw [hrun] at h3;simp only [Oper.quietUpon] at h3
    ·rw [if_neg hw] at h
     exact ⟨undef,.inr ⟨by simpa using hw,rfl⟩,h⟩
   obtain ⟨v,hy,hK⟩ := key
   exact wpAnyL_first hr hl ht ho (Region.noSelect_spec hs) (l.length + n) listed a w (fun j oj hoj hji hun hno => ⟨Region.free_spec ho hf j oj hoj hji hun hno,hsub k (List.mem_cons_self ..) j oj hoj hno⟩) (by simpa using hrd) hy
    (quiet_walkL hr hl ht hs n w l _ _ hB' (fun i hi => hsub i (List.mem_cons_of_mem _ hi)) hK)
theorem early_spec {e : Bool} {q : List Nat} (h : earlyB ops late e q = true) (hsub : ∀ a b,R a b → R' a b) : ∀ i ∈ q,∀ j oj,ops[j]? = some oj → (∀ x ∈ oj.after,Region.binds .any x = true → x.on ≠ i) → ∀ u u',Lr late R R' j u u' → Er e R R' u u' := by
 intro i hi j oj hoj hno u u' hL
 unfold Lr at hL
 unfold Er
 cases e with
 | false =>
  simp only [Bool.false_eq_true,if_false]
  split at hL
  ·exact hL
  ·exact hsub _ _ hL
 | true =>
  simp only [if_true]
  split at hL
  ·rename_i hc
   exfalso
   simp only [earlyB,Bool.not_true,Bool.false_or,List.all_eq_true] at h
   have h1 := h i hi j (by simpa using hc)
   rw [hoj] at h1
   obtain ⟨x,hx,hb⟩ := Array.any_eq_true'.1 h1
   simp only [Bool.and_eq_true,beq_iff_eq] at hb
   exact hno x hx hb.1 hb.2
  ·exact hL
theorem tr_walk {Qn : Act → World → Prop} (hr : ∀ a,R a a) (ht : ∀ a b c,R a b → R b c → R a c) (hr' : ∀ a,R' a a) (ht' : ∀ a b c,R' a b → R' b c → R' a c) (hsub : ∀ a b,R a b → R' a b) (hs : Region.noSelect ops = true) :
  ∀ (t : Tr) (listed : Array Bool) (a : Act) (w : World),trB ops late t listed = true → trEven t = true → wpTr P ops late R R' Qn t a w → wpAnyL P ops (Lr late R R') Qn (trFuel t) listed a w := by
 have er : ∀ e a,Er e R R' a a := fun e a => by cases e <;> simp [Er,hr,hr']
 have et : ∀ e a b c,Er e R R' a b → Er e R R' b c → Er e R R' a c := fun e a b c => by
  cases e
  ·exact ht' a b c
  ·exact ht a b c
 have hl : ∀ j a,Lr late R R' j a a := fun j a => by unfold Lr;split <;> first | exact hr' a | exact hr a
 -- one operation that acts,at the list of them alone
 have act : ∀ (i : Nat) (rs : List Nat) (listed : Array Bool) (a : Act) (w : World) (t : Tr),i ∈ Region.ready .any ops listed →
   (∀ (a : Act) (w : World),wpTr P ops late R R' Qn t a w → wpAnyL P ops (Lr late R R') Qn (trFuel t) (listed.setIfInBounds i true) a w) →
   wpList P ops (Norm fun a'' w'' => Lr late R R' i w w'' ∧ wpTr P ops late R R' Qn t a'' w'') (sel ops [i]) a w →
   wpOp P ops (Norm fun _ _ => False) i (fun a' w' => Lr late R R' i w w' ∧ wpAnyL P ops (Lr late R R') Qn (trFuel t) (listed.setIfInBounds i true) a' w') a w := by
  intro i rs listed a w t hmem hgo ha
  obtain ⟨o,ho,_⟩ := (mem_ready.1 hmem).2
  have hsel : sel ops [i] = [o] := sel_cons ho _
  rw [hsel] at ha
  unfold wpOp
  simp only [ho]
  unfold wpList at ha
  split
  ·rename_i hw
   rw [if_pos hw] at ha
   rcases ha with ha | ⟨_,hlo⟩
   ·refine .inl ?_
    have h1 := Oper.wp_mono (K' := fun a' w' => Lr late R R' i w w' ∧ wpAnyL P ops (Lr late R R') Qn (trFuel t) (listed.setIfInBounds i true) a' w') (fun a'' w'' (hk : wpList P ops (Norm fun a'' w'' => Lr late R R' i w w'' ∧ wpTr P ops late R R' Qn t a'' w'') [] a'' w'') => ⟨hk.1,hgo a'' w'' hk.2⟩) ha
    exact upon_turn (fun _ _ _ hh => hh.elim) (fun ⟨_,_,hh⟩ => hh.elim) h1
   ·exact (norm_lets hlo).elim
  ·rename_i hw
   rw [if_neg hw] at ha
   have hk : Lr late R R' i w w ∧ _ := ha
   exact ⟨hk.1,hgo _ _ hk.2⟩
 intro t
 induction t with
 | last e q =>
  intro listed a w hB _ h
  simp only [trB,Bool.and_eq_true] at hB
  have := quiet_walkL (Qn := Qn) (er e) hl (et e) hs 0 w q listed a hB.1.1 (early_spec hB.1.2 hsub) (wpQuiet_mono (fun a' ha' => ⟨by simpa using hB.2,ha'⟩) _ _ h)
  simpa [trFuel] using this
 | look e q t ih =>
  intro listed a w hB hE h
  simp only [trB,Bool.and_eq_true] at hB
  exact quiet_walkL (Qn := Qn) (er e) hl (et e) hs _ w q listed a hB.1.1 (early_spec hB.1.2 hsub) (wpQuiet_mono (fun a' ha' => ih _ a' w hB.2 hE ha') _ _ h)
 | one e q c t ih =>
  intro listed a w hB hE h
  simp only [trB,Bool.and_eq_true,beq_iff_eq] at hB
  obtain ⟨⟨⟨hq,he⟩,hc⟩,hrest⟩ := hB
  refine quiet_walkL (Qn := Qn) (er e) hl (et e) hs _ w q listed a hq (early_spec he hsub) (wpQuiet_mono (fun a' ha' => ?_) _ _ h)
  refine ⟨(fun h0 => by rw [hc] at h0;cases h0),fun i hi => ?_⟩
  have hi0 := hi
  rw [hc] at hi
  have hic : i = c := by simpa using hi
  subst hic
  exact act i [] _ a' w t hi0 (fun a'' w'' hk => ih _ a'' w'' hrest hE hk) ha'
 | two e q c1 t1 c2 t2 ih1 ih2 =>
  intro listed a w hB hE h
  simp only [trB,Bool.and_eq_true,beq_iff_eq] at hB
  obtain ⟨⟨⟨⟨hq,he⟩,hc⟩,hrest1⟩,hrest2⟩ := hB
  simp only [trEven,Bool.and_eq_true,beq_iff_eq] at hE
  obtain ⟨⟨hE1,hE2⟩,hEE⟩ := hE
  refine quiet_walkL (Qn := Qn) (er e) hl (et e) hs _ w q listed a hq (early_spec he hsub) (wpQuiet_mono (fun a' ha' => ?_) _ _ h)
  refine ⟨(fun h0 => by rw [hc] at h0;cases h0),fun i hi => ?_⟩
  have hi0 := hi
  rw [hc] at hi
  have hic : i = c1 ∨ i = c2 := by simpa using hi
  rcases hic with rfl | rfl
  ·exact act i [] _ a' w t1 hi0 (fun a'' w'' hk => ih1 _ a'' w'' hrest1 hE1 hk) ha'.1
  ·rw [hEE]
   exact act i [] _ a' w t2 hi0 (fun a'' w'' hk => ih2 _ a'' w'' hrest2 hE2 hk) ha'.2
end
theorem wp_region_tree {P : Program} {id : Nat} {Q : Exit → Act → World → Prop} {a : Act} {w : World} {l : List Oper} (R R' : World → World → Prop) (hr : ∀ a,R a a) (ht : ∀ a b c,R a b → R b c → R a c) (hr' : ∀ a,R' a a) (ht' : ∀ a b c,R' a b → R' b c → R' a c) (hsub : ∀ a b,R a b → R' a b)
  (late : List Nat) (t : Tr) (hm : P.follows .mixedOrders = true) (hB : (Region.noSelect l.toArray && trB l.toArray late t (Array.replicate l.length false) && trEven t && trFuel t == l.length) = true)
  (h : wpTr P l.toArray late R R' (fun a' w' => Q .normal a' w') t a w.drew) : (Code.region id l.toArray true).wp P Q a w := by
 simp only [Bool.and_eq_true,beq_iff_eq] at hB
 obtain ⟨⟨⟨hs,hb⟩,he⟩,hf⟩ := hB
 refine wp_region_any hm (wpAny_of_L (L := Lr late R R') _ _ _ _ ?_)
 have := tr_walk (P := P) (Qn := fun a' w' => Q .normal a' w') hr ht hr' ht' hsub hs t _ a _ hb he h
 rw [hf] at this
 simpa using this
section
variable {P : Program} {ops : Array Oper} {R R' : World → World → Prop} {late : List Nat} {Qn : Act → World → Prop} {a : Act} {w : World}
theorem Lr_early {c : Nat} {w w' : World} (hc : late.contains c = false) (h : R w w') : Lr late R R' c w w' := by unfold Lr;rw [hc];exact h
theorem Lr_late {c : Nat} {w w' : World} (hc : late.contains c = true) (h : R' w w') : Lr late R R' c w w' := by unfold Lr;rw [hc];exact h
theorem tr_last {e : Bool} {q : List Nat} (h : ∀ K : Act → Prop,(∀ a',Qn a' w → K a') → wpQuiet P ops (fun w' => ∃ p : Up (Er e R R') w,w' = p.u) K (sel ops q) a) : wpTr P ops late R R' Qn (.last e q) a w := h _ fun _ h => h
theorem tr_one {e : Bool} {q : List Nat} {c : Nat} {t : Tr}
  (h : ∀ K : Act → World → Prop,(∀ a'' w'',Lr late R R' c w w'' → wpTr P ops late R R' Qn t a'' w'' → K a'' w'') → wpQuiet P ops (fun w' => ∃ p : Up (Er e R R') w,w' = p.u) (fun a' => wpList P ops (Norm K) (sel ops [c]) a' w) (sel ops q) a) : wpTr P ops late R R' Qn (.one e q c t) a w :=
 h _ fun _ _ h1 h2 => ⟨h1,h2⟩
theorem tr_two {e : Bool} {q : List Nat} {c1 c2 : Nat} {t1 t2 : Tr}
  (h : ∀ K1 : Act → World → Prop,(∀ a'' w'',Lr late R R' c1 w w'' → wpTr P ops late R R' Qn t1 a'' w'' → K1 a'' w'') → ∀ K2 : Act → World → Prop,(∀ a'' w'',Lr late R R' c2 w w'' → wpTr P ops late R R' Qn t2 a'' w'' → K2 a'' w'') →
    wpQuiet P ops (fun w' => ∃ p : Up (Er e R R') w,w' = p.u) (fun a' => wpList P ops (Norm K1) (sel ops [c1]) a' w ∧ wpList P ops (Norm K2) (sel ops [c2]) a' w) (sel ops q) a) : wpTr P ops late R R' Qn (.two e q c1 t1 c2 t2) a w :=
 h _ (fun _ _ h1 h2 => ⟨h1,h2⟩) _ (fun _ _ h1 h2 => ⟨h1,h2⟩)
theorem tr_oneE {q : List Nat} {c : Nat} {t : Tr}
  (h : ∀ K : Act → World → Prop,(∀ a'' w'',Lr late R R' c w w'' → wpTr P ops late R R' Qn t a'' w'' → K a'' w'') → wpQuiet P ops (fun w' => ∃ p : Up R w,w' = p.u) (fun a' => wpList P ops (Norm K) (sel ops [c]) a' w) (sel ops q) a) : wpTr P ops late R R' Qn (.one true q c t) a w :=
 tr_one (e := true) h
theorem tr_oneL {q : List Nat} {c : Nat} {t : Tr}
  (h : ∀ K : Act → World → Prop,(∀ a'' w'',Lr late R R' c w w'' → wpTr P ops late R R' Qn t a'' w'' → K a'' w'') → wpQuiet P ops (fun w' => ∃ p : Up R' w,w' = p.u) (fun a' => wpList P ops (Norm K) (sel ops [c]) a' w) (sel ops q) a) : wpTr P ops late R R' Qn (.one false q c t) a w :=
 tr_one (e := false) h
theorem tr_lastL {q : List Nat} (h : ∀ K : Act → Prop,(∀ a',Qn a' w → K a') → wpQuiet P ops (fun w' => ∃ p : Up R' w,w' = p.u) K (sel ops q) a) : wpTr P ops late R R' Qn (.last false q) a w := tr_last (e := false) h
theorem tr_lookE {q : List Nat} {t : Tr} (h : ∀ K : Act → Prop,(∀ a',wpTr P ops late R R' Qn t a' w → K a') → wpQuiet P ops (fun w' => ∃ p : Up R w,w' = p.u) K (sel ops q) a) : wpTr P ops late R R' Qn (.look true q t) a w := h _ fun _ h => h
theorem tr_lookL {q : List Nat} {t : Tr} (h : ∀ K : Act → Prop,(∀ a',wpTr P ops late R R' Qn t a' w → K a') → wpQuiet P ops (fun w' => ∃ p : Up R' w,w' = p.u) K (sel ops q) a) : wpTr P ops late R R' Qn (.look false q t) a w := h _ fun _ h => h
theorem tr_twoE {q : List Nat} {c1 c2 : Nat} {t1 t2 : Tr}
  (h : ∀ K1 : Act → World → Prop,(∀ a'' w'',Lr late R R' c1 w w'' → wpTr P ops late R R' Qn t1 a'' w'' → K1 a'' w'') → ∀ K2 : Act → World → Prop,(∀ a'' w'',Lr late R R' c2 w w'' → wpTr P ops late R R' Qn t2 a'' w'' → K2 a'' w'') →
    wpQuiet P ops (fun w' => ∃ p : Up R w,w' = p.u) (fun a' => wpList P ops (Norm K1) (sel ops [c1]) a' w ∧ wpList P ops (Norm K2) (sel ops [c2]) a' w) (sel ops q) a) : wpTr P ops late R R' Qn (.two true q c1 t1 c2 t2) a w :=
 tr_two (e := true) h
end
end Trees
namespace RefN
open Go.ChangeShapes Go.WideShapes Go.ChangeAt Go.RowKit
open SumM Mem Blk PageM Str Dev LibC DevC RefD Stages Trees
theorem infoS : (Tryz.prog.info? 9).map (fun i => (i.zero,i.size,i.bytes)) = some (some (.string ⟨#[]⟩),1,16) := by kernel_rfl
theorem infoB : (Tryz.prog.info? 4).map (fun i => (i.zero,i.size,i.bytes)) = some (some (.bool false),1,1) := by kernel_rfl
def z0 : Value := strV (zeros 24)
structure Tri (u : World) (B : Nat) (xA xT xV : Value) (nA nT nV : Nat) : Prop where
 a : u.ownsRow B 9 1 xA nA (List.replicate nA z0)
 t : u.ownsRow B 9 1 xT nT (List.replicate nT z0)
 v : u.ownsRow B 4 1 xV nV (List.replicate nV (.bool false))
 at_ : ∀ k,xA.ownBlock = some k → xT.ownBlock ≠ some k
 av : ∀ k,xA.ownBlock = some k → xV.ownBlock ≠ some k
 tv : ∀ k,xT.ownBlock = some k → xV.ownBlock ≠ some k
section
variable {u u' : World} {B nA nT nV : Nat} {xA xT xV : Value}
theorem grown_of {F : Nat → Prop} (h : Kept F u u') (hF : ∀ k,¬ F k) : u.grownBy u' none := ⟨h.os,h.tape,h.output,h.size,fun k hk _ => h.block k hk (hF k)⟩
theorem Tri.grow (h : Tri u B xA xT xV nA nT nV) (hg : Grow u u') : Tri u' B xA xT xV nA nT nV :=
 ⟨h.a.kept (grown_of hg fun _ x => x) (by cases xA.ownBlock <;> simp),h.t.kept (grown_of hg fun _ x => x) (by cases xT.ownBlock <;> simp),h.v.kept (grown_of hg fun _ x => x) (by cases xV.ownBlock <;> simp),h.at_,h.av,h.tv⟩
theorem apart_of {x y : Value} (h : ∀ k,x.ownBlock = some k → y.ownBlock ≠ some k) : y.ownBlock = none ∨ y.ownBlock ≠ x.ownBlock := by
 cases hy : y.ownBlock with
 | none => exact .inl rfl
 | some k => exact .inr fun e => h k e.symm hy
theorem apart_of' {x y : Value} (h : ∀ k,x.ownBlock = some k → y.ownBlock ≠ some k) : x.ownBlock = none ∨ x.ownBlock ≠ y.ownBlock := by
 cases hx : x.ownBlock with
 | none => exact .inl rfl
 | some k => exact .inr fun e => h k hx e.symm
theorem Tri.appA {g c : Nat} (h : Tri u B xA xT xV nA nT nV) (ho : u'.ownsRow B 9 1 (.slice (some ⟨g,0,none⟩) (nA + 1) c) (nA + 1) (List.replicate nA z0 ++ [z0])) (hg : u.grownBy u' xA.ownBlock) (hor : xA.ownBlock = some g ∨ g = u.heap.size) : Tri u' B (.slice (some ⟨g,0,none⟩) (nA + 1) c) xT xV (nA + 1) nT nV := by
 refine ⟨by rw [List.replicate_succ'];exact ho,h.t.kept hg (apart_of h.at_),h.v.kept hg (apart_of h.av),fun k hk e => ?_,fun k hk e => ?_,h.tv⟩
 ·have hk' : g = k := by simpa [Value.ownBlock] using hk
  subst hk'
  rcases hor with h1 | h1
  ·exact h.at_ g h1 e
  ·have := (h.t.lt g e).2;omega
 ·have hk' : g = k := by simpa [Value.ownBlock] using hk
  subst hk'
  rcases hor with h1 | h1
  ·exact h.av g h1 e
  ·have := (h.v.lt g e).2;omega
theorem Tri.appT {g c : Nat} (h : Tri u B xA xT xV nA nT nV) (ho : u'.ownsRow B 9 1 (.slice (some ⟨g,0,none⟩) (nT + 1) c) (nT + 1) (List.replicate nT z0 ++ [z0])) (hg : u.grownBy u' xT.ownBlock) (hor : xT.ownBlock = some g ∨ g = u.heap.size) : Tri u' B xA (.slice (some ⟨g,0,none⟩) (nT + 1) c) xV nA (nT + 1) nV := by
 refine ⟨h.a.kept hg (apart_of' h.at_),by rw [List.replicate_succ'];exact ho,h.v.kept hg (apart_of h.tv),fun k hk e => ?_,h.av,fun k hk e => ?_⟩
 ·have hk' : g = k := by simpa [Value.ownBlock] using e
  subst hk'
  rcases hor with h1 | h1
  ·exact h.at_ g hk h1
  ·have := (h.a.lt g hk).2;omega
 ·have hk' : g = k := by simpa [Value.ownBlock] using hk
  subst hk'
  rcases hor with h1 | h1
  ·exact h.tv g h1 e
  ·have := (h.v.lt g e).2;omega
theorem Tri.appV {g c : Nat} (h : Tri u B xA xT xV nA nT nV) (ho : u'.ownsRow B 4 1 (.slice (some ⟨g,0,none⟩) (nV + 1) c) (nV + 1) (List.replicate nV (.bool false) ++ [.bool false])) (hg : u.grownBy u' xV.ownBlock) (hor : xV.ownBlock = some g ∨ g = u.heap.size) : Tri u' B xA xT (.slice (some ⟨g,0,none⟩) (nV + 1) c) nA nT (nV + 1) := by
 refine ⟨h.a.kept hg (apart_of' h.av),h.t.kept hg (apart_of' h.tv),by rw [List.replicate_succ'];exact ho,h.at_,fun k hk e => ?_,fun k hk e => ?_⟩
 ·have hk' : g = k := by simpa [Value.ownBlock] using e
  subst hk'
  rcases hor with h1 | h1
  ·exact h.av g hk h1
  ·have := (h.a.lt g hk).2;omega
 ·have hk' : g = k := by simpa [Value.ownBlock] using e
  subst hk'
  rcases hor with h1 | h1
  ·exact h.tv g hk h1
  ·have := (h.t.lt g hk).2;omega
theorem Tri.set {m i : Nat} {x : Value} (h : Tri u B xA xT xV nA nT nV) (hm : m < B) : Tri (u.setCell ⟨m,i,none⟩ x) B xA xT xV nA nT nV := by
 have hg : u.grownBy (u.setCell ⟨m,i,none⟩ x) (some m) := ⟨rfl,rfl,rfl,by simp [World.setCell],fun k _ hk => Below.heap_setCell _ _ _ _ (fun e => hk (by rw [e]))⟩
 have ap : ∀ {e : TypeId} {y : Value} {n : Nat} {xs : List Value},u.ownsRow B e 1 y n xs → y.ownBlock = none ∨ y.ownBlock ≠ some m := fun {e y n xs} hy => by
  cases hb : y.ownBlock with
  | none => exact .inl rfl
  | some k => exact .inr fun e => by have := (hy.lt k hb).1;injection e with e;omega
 exact ⟨h.a.kept hg (ap h.a),h.t.kept hg (ap h.t),h.v.kept hg (ap h.v),h.at_,h.av,h.tv⟩
end
def Fr3 (xA xT xV : Value) (k : Nat) : Prop := xA.ownBlock = some k ∨ xT.ownBlock = some k ∨ xV.ownBlock = some k
def NInv (w wr : World) (N g : Nat) (i : Value) : Prop :=
 ∃ (j : Nat) (vA vT vV : Value),j + g = N ∧ i = .int .i64 (j : Int) ∧ Blk wr w.heap.size 101 [vA,vT,vV,.int .i64 0,.int .i64 0,.bool false] ∧ Tri wr (w.heap.size + 1) vA vT vV j j j ∧ Grow w wr
theorem one_new {u : World} {b : Nat} {x : Value} (h : u.cell? ⟨b,0,none⟩ = some x) : ∀ j v,([x] : List Value)[j]? = some v → u.cell? ((⟨b,0,none⟩ : Addr).add j) = some v := by
 intro j v hj
 cases j with
 | zero => simp at hj;subst hj;simpa [Addr.add] using h
 | succ j => simp at hj
theorem one_cell {x : Value} (h : x.oneCell' = true) : ∀ v ∈ ([x] : List Value),v.oneCell' = true := by
 intro v hv
 simp at hv
 subst hv
 exact h
theorem new_apart {u : World} {B nA nT nV b : Nat} {xA xT xV : Value} (h : Tri u B xA xT xV nA nT nV) (hb : u.heap.size ≤ b) : ¬ Fr3 xA xT xV b := fun hf => by
 rcases hf with hf | hf | hf
 ·have := (h.a.lt _ hf).2;omega
 ·have := (h.t.lt _ hf).2;omega
 ·have := (h.v.lt _ hf).2;omega
theorem grow_of {w u0 u : World} {j : Nat} {xA xT xV : Value} (h0 : Grow w u0) (h : Kept (fun k => Fr3 xA xT xV k ∨ k = w.heap.size) u0 u) (ht : Tri u0 (w.heap.size + 1) xA xT xV j j j) : Grow w u :=
 h0.then h fun k hk hf => by
  rcases hf with (hf | hf | hf) | hf
  ·have := (ht.a.lt _ hf).1;omega
  ·have := (ht.t.lt _ hf).1;omega
  ·have := (ht.v.lt _ hf).1;omega
  ·omega
theorem row_of {u : World} {B n : Nat} {e : TypeId} {x y : Value} (h : u.ownsRow B e 1 x n (List.replicate n y)) (hn : 0 < n) : ∃ A c,x = .slice (some ⟨A,0,none⟩) n c ∧ B ≤ A ∧ Row u A n fun _ => y := by
 obtain ⟨g,c,rfl,_,_⟩ := h.form hn
 obtain ⟨g',e1,h1,h2,_,_⟩ := Row.of_own (f := fun _ => y) h hn (fun i hi => by rw [List.getElem?_replicate,if_pos hi])
 injection e1 with e1
 injection e1 with e1
 subst e1
 exact ⟨g,c,rfl,h1,h2⟩
def RNewPost (w : World) (N : Nat) (e : Ending) (w' : World) : Prop :=
 ∃ r : Rf,e = .returned (.pointer (some ⟨r.m,0,none⟩)) ∧ RefAt w' r (newS N) ∧ (∀ k,POwn r k → w.heap.size ≤ k) ∧ Grow w w'
theorem rnew_bad {w : World} (p : Int) (h : ¬ (1 ≤ p ∧ p ≤ 48)) : Calls Tryz.prog 50 #[.int .i64 p] w fun e w' => e = .returned (.pointer none) ∧ w = w' := by
 by_cases h0 : p < 1
 ·clear h
  go_enter Tryz.func50,Tryz.ntmps50
  go_wp2
  go_ret
  exact ⟨rfl,rfl⟩
 ·have h1 : 48 < p := by omega
  clear h
  go_enter Tryz.func50,Tryz.ntmps50
  go_wp2
  go_ret
  exact ⟨rfl,rfl⟩
set_option maxHeartbeats 8000000 in
set_option maxRecDepth 100000 in
theorem rnew_good {w : World} (N : Nat) (h1 : 1 ≤ N) (h48 : N ≤ 48) : Calls Tryz.prog 50 #[.int .i64 (N : Int)] w (RNewPost w N) := by
 obtain ⟨i0,hi,hz0,hz1,hz2⟩ := info_parts infoS
 obtain ⟨i1,hj0,hy0,hy1,hy2⟩ := info_parts infoB
 have hzz0 : ¬ ((N : Int) < 1) := by omega
 have hzz1 : (N : Int) ≤ 48 := by omega
 have HI := hid (And.intro hi (And.intro hz0 (And.intro hz1 hz2)))
 have HJ := hid (And.intro hj0 (And.intro hy0 (And.intro hy1 hy2)))
 clear hi hz0 hz1 hz2 hj0 hy0 hy1 hy2
 have CB := hid refBlank_any
 go_enter Tryz.func50,Tryz.ntmps50
 go_wp2
 have H0 : Hid (NInv w (w.alloc (.cells #[.slice none 0 0,.slice none 0 0,.slice none 0 0,.int .i64 0,.int .i64 0,.bool false] 101)) N N (.int .i64 0)) :=
  ⟨0,.slice none 0 0,.slice none 0 0,.slice none 0 0,by omega,rfl,Blk.new w _ _,⟨World.ownsRow_nil _ _ _ _,World.ownsRow_nil _ _ _ _,World.ownsRow_nil _ _ _ _,fun k hk => (by simp [Value.ownBlock] at hk),fun k hk => (by simp [Value.ownBlock] at hk),fun k hk => (by simp [Value.ownBlock] at hk)⟩,(Kept.refl _ _).alloc _⟩
 clear hzz0 hzz1
 go_loopg [4] N (fun g i wr => NInv w wr N g i)
 case atStart => exact H0.out
 case round =>
  obtain ⟨j,vA,vT,vV,hg,rfl,hblk,htri,hgr⟩ := hrel
  have HBLK := hid hblk
  have HTRI := hid htri
  have HGR := hid hgr
  have HG := hid hg
  by_cases hj : j < N
  ·have hjz : (j : Int) < (N : Int) := by omega
   have c0 : wr.cell? ⟨w.heap.size,0,none⟩ = some vA := by rw [hblk.cell];rfl
   have c1 : wr.cell? ⟨w.heap.size,1,none⟩ = some vT := by rw [hblk.cell];rfl
   have c2 : wr.cell? ⟨w.heap.size,2,none⟩ = some vV := by rw [hblk.cell];rfl
   have hfm : ¬ Fr3 vA vT vV w.heap.size := fun h => by
    rcases h with h | h | h
    ·have := (htri.a.lt _ h).1;omega
    ·have := (htri.t.lt _ h).1;omega
    ·have := (htri.v.lt _ h).1;omega
   have HFM := hid hfm
   have q0 := up_cell (F := Fr3 vA vT vV) (w := wr.drew) c0 hfm
   have q1 := up_cell (F := Fr3 vA vT vV) (w := wr.drew) c1 hfm
   have q2 := up_cell (F := Fr3 vA vT vV) (w := wr.drew) c2 hfm
   have HB0 : Hid (Blk wr.drew w.heap.size 101 [vA,vT,vV,.int .i64 0,.int .i64 0,.bool false]) := hblk.drew
   have HT0 : Hid (Tri wr.drew (w.heap.size + 1) vA vT vV j j j) := htri.grow (Kept.drew' wr)
   have HS0 : Hid (w.heap.size + 1 ≤ wr.drew.heap.size) := by have := hblk.lt;show w.heap.size + 1 ≤ wr.heap.size;omega
   have HW0 : Hid (Grow w wr.drew) := hgr.drew
   have hjN : j ≤ 48 := by omega
   clear hblk htri hgr hg c0 c1 c2 hfm HBLK HTRI HGR hj
   go_upto_region 7 with (fail)
   refine wp_region_tree (Kept (Fr3 vA vT vV)) (Kept fun k => Fr3 vA vT vV k ∨ k = w.heap.size) (kept_refl _) (kept_trans _) (kept_refl _) (kept_trans _) (fun _ _ h => h.mono fun _ _ x => .inl x) [25,28,31]
    (.look false [0,1,2,3,4,5,10,11,12,17,18,19] (.two true [6,13,20] 7 (.two true [] 8 (.two true [] 9 (.two true [] 14 (.two true [] 15 (.two true [] 16 (.one true [] 21 (.one true [] 22 (.one false [23,24] 25 (.one false [26,27] 28 (.one false [29,30] 31 (.last false [])))))) 21 (.one true [] 16 (.one true [] 22 (.one false [23,24] 25 (.one false [26,27] 28 (.one false [29,30] 31 (.last false []))))))) 21 (.one true [] 15 (.one true [] 16 (.one true [] 22 (.one false [23,24] 25 (.one false [26,27] 28 (.one false [29,30] 31 (.last false [])))))))) 21 (.one true [] 14 (.one true [] 15 (.one true [] 16 (.one true [] 22 (.one false [23,24] 25 (.one false [26,27] 28 (.one false [29,30] 31 (.last false []))))))))) 21 (.one true [] 9 (.one true [] 14 (.one true [] 15 (.one true [] 16 (.one true [] 22 (.one false [23,24] 25 (.one false [26,27] 28 (.one false [29,30] 31 (.last false [])))))))))) 21 (.one true [] 8 (.one true [] 9 (.one true [] 14 (.one true [] 15 (.one true [] 16 (.one true [] 22 (.one false [23,24] 25 (.one false [26,27] 28 (.one false [29,30] 31 (.last false []))))))))))) 21 (.one true [] 7 (.one true [] 8 (.one true [] 9 (.one true [] 14 (.one true [] 15 (.one true [] 16 (.one true [] 22 (.one false [23,24] 25 (.one false [26,27] 28 (.one false [29,30] 31 (.last false []))))))))))))) (by kernel_rfl) (by kernel_rfl) ?_
   generalize wr.drew = u0 at *
   have HR00 : Hid (Kept (Fr3 vA vT vV) u0 u0) := Kept.refl _ _
   refine tr_lookL fun K hK => ?_
   simp only [sel,ZmC,ZmN,ZgS,ZgZ]
   repeat (go_big_quiet_step (fail))
   refine wpQuiet_nil (hK _ ?_)
   clear hK K
   refine tr_twoE fun Ka hKa Kb hKb => ?_
   simp only [sel,ZmC,ZmN,ZgS,ZgZ]
   repeat (go_big_quiet_step (fail))
   refine wpQuiet_nil ?_
   refine ⟨?_,?_⟩
   ·clear hKb Kb
    go_wp2_with (go_at_call 110;(with_reducible refine (CB.out _).mono ?_);rintro e u1 ⟨rfl,hgr⟩;have G1 := hid hgr;clear hgr)
    refine norm_up (hKa _ _ (Lr_early (by decide)  G1.out.kept) ?_)
    have T1 := hid (HT0.out.grow G1.out)
    have S1 : Hid (w.heap.size + 1 ≤ u1.heap.size) := Nat.le_trans HS0.out G1.out.size
    have R1 : Hid (Kept (Fr3 vA vT vV) u0 u1) := HR00.out.then G1.out (fun _ _ x => x.elim)
    refine tr_twoE fun Ka hKa Kb hKb => ?_
    simp only [sel,ZmC,ZmN,ZgS,ZgZ]
    refine wpQuiet_nil ?_
    refine ⟨?_,?_⟩
    ·clear hKb Kb
     go_wp2
     refine norm_up (hKa _ _ (Lr_early (by decide)  ((Kept.refl _ _).alloc _)) ?_)
     have G2 : Hid (Grow u1 (u1.alloc (.cells #[(.string (strOfNums (zeros 24)))] 9))) := (Kept.refl _ _).alloc _
     have N2 : Hid ((u1.alloc (.cells #[(.string (strOfNums (zeros 24)))] 9)).cell? ⟨u1.heap.size,0,none⟩ = some (.string (strOfNums (zeros 24)))) := cell_new1 _ _ _
     generalize u1.alloc (.cells #[(.string (strOfNums (zeros 24)))] 9) = u2 at G2 N2 ⊢
     have T2 := hid (T1.out.grow G2.out)
     have S2 : Hid (w.heap.size + 1 ≤ u2.heap.size) := Nat.le_trans S1.out G2.out.size
     have R2 : Hid (Kept (Fr3 vA vT vV) u0 u2) := R1.out.then G2.out (fun _ _ x => x.elim)
     refine tr_twoE fun Ka hKa Kb hKb => ?_
     simp only [sel,ZmC,ZmN,ZgS,ZgZ]
     refine wpQuiet_nil ?_
     refine ⟨?_,?_⟩
     ·clear hKb Kb
      go_wp2_with (at_builtin;refine wpList_append_lies _ rfl (.tmp 24) (.tmp 26) 47 rfl (w.heap.size + 1) 9 i0 (.string ⟨#[]⟩) 1 16 Tryz.underlying47 HI.out.1 HI.out.2.1 HI.out.2.2.1 HI.out.2.2.2 rfl (by decide) _ j (List.replicate j z0) rfl T2.out.a ⟨u1.heap.size,0,none⟩ 1 1 [z0] rfl rfl ?qa3 ?qb3 (by omega) ?qc3 ?qd3 ?qe3 _ rfl ?_)
      case qa3 => exact one_new N2.out
      case qb3 => exact one_cell rfl
      case qc3 => unfold maxLen;omega
      case qd3 => omega
      case qe3 => exact S2.out
      intro g3 c3 u3 ho hgb hor _
      have T3 := hid (T2.out.appA ho hgb hor)
      have K3 : Hid (Kept (Fr3 vA vT vV) u2 u3) := (Kept.refl _ _).grown hgb (fun k hk _ => .inl hk)
      have S3 : Hid (w.heap.size + 1 ≤ u3.heap.size) := Nat.le_trans S2.out K3.out.size
      have R3 : Hid (Kept (Fr3 vA vT vV) u0 u3) := R2.out.trans K3.out
      clear ho hgb hor
      refine norm_up (hKa _ _ (Lr_early (by decide)  K3.out) ?_)
      refine tr_twoE fun Ka hKa Kb hKb => ?_
      simp only [sel,ZmC,ZmN,ZgS,ZgZ]
      refine wpQuiet_nil ?_
      refine ⟨?_,?_⟩
      ·clear hKb Kb
       go_wp2_with (go_at_call 110;(with_reducible refine (CB.out _).mono ?_);rintro e u4 ⟨rfl,hgr⟩;have G4 := hid hgr;clear hgr)
       refine norm_up (hKa _ _ (Lr_early (by decide)  G4.out.kept) ?_)
       have T4 := hid (T3.out.grow G4.out)
       have S4 : Hid (w.heap.size + 1 ≤ u4.heap.size) := Nat.le_trans S3.out G4.out.size
       have R4 : Hid (Kept (Fr3 vA vT vV) u0 u4) := R3.out.then G4.out (fun _ _ x => x.elim)
       refine tr_twoE fun Ka hKa Kb hKb => ?_
       simp only [sel,ZmC,ZmN,ZgS,ZgZ]
       refine wpQuiet_nil ?_
       refine ⟨?_,?_⟩
       ·clear hKb Kb
        go_wp2
        refine norm_up (hKa _ _ (Lr_early (by decide)  ((Kept.refl _ _).alloc _)) ?_)
        have G5 : Hid (Grow u4 (u4.alloc (.cells #[(.string (strOfNums (zeros 24)))] 9))) := (Kept.refl _ _).alloc _
        have N5 : Hid ((u4.alloc (.cells #[(.string (strOfNums (zeros 24)))] 9)).cell? ⟨u4.heap.size,0,none⟩ = some (.string (strOfNums (zeros 24)))) := cell_new1 _ _ _
        generalize u4.alloc (.cells #[(.string (strOfNums (zeros 24)))] 9) = u5 at G5 N5 ⊢
        have T5 := hid (T4.out.grow G5.out)
        have S5 : Hid (w.heap.size + 1 ≤ u5.heap.size) := Nat.le_trans S4.out G5.out.size
        have R5 : Hid (Kept (Fr3 vA vT vV) u0 u5) := R4.out.then G5.out (fun _ _ x => x.elim)
        refine tr_twoE fun Ka hKa Kb hKb => ?_
        simp only [sel,ZmC,ZmN,ZgS,ZgZ]
        refine wpQuiet_nil ?_
        refine ⟨?_,?_⟩
        ·clear hKb Kb
         go_wp2_with (at_builtin;refine wpList_append_lies _ rfl (.tmp 31) (.tmp 33) 47 rfl (w.heap.size + 1) 9 i0 (.string ⟨#[]⟩) 1 16 Tryz.underlying47 HI.out.1 HI.out.2.1 HI.out.2.2.1 HI.out.2.2.2 rfl (by decide) _ j (List.replicate j z0) rfl T5.out.t ⟨u4.heap.size,0,none⟩ 1 1 [z0] rfl rfl ?qa6 ?qb6 (by omega) ?qc6 ?qd6 ?qe6 _ rfl ?_)
         case qa6 => exact one_new N5.out
         case qb6 => exact one_cell rfl
         case qc6 => unfold maxLen;omega
         case qd6 => omega
         case qe6 => exact S5.out
         intro g6 c6 u6 ho hgb hor _
         have T6 := hid (T5.out.appT ho hgb hor)
         have K6 : Hid (Kept (Fr3 vA vT vV) u5 u6) := (Kept.refl _ _).grown hgb (fun k hk _ => .inr (.inl hk))
         have S6 : Hid (w.heap.size + 1 ≤ u6.heap.size) := Nat.le_trans S5.out K6.out.size
         have R6 : Hid (Kept (Fr3 vA vT vV) u0 u6) := R5.out.trans K6.out
         clear ho hgb hor
         refine norm_up (hKa _ _ (Lr_early (by decide)  K6.out) ?_)
         refine tr_oneE fun K hK => ?_
         simp only [sel,ZmC,ZmN,ZgS,ZgZ]
         refine wpQuiet_nil ?_
         go_wp2
         refine norm_up (hK _ _ (Lr_early (by decide)  ((Kept.refl _ _).alloc _)) ?_)
         have G7 : Hid (Grow u6 (u6.alloc (.cells #[(.bool false)] 4))) := (Kept.refl _ _).alloc _
         have N7 : Hid ((u6.alloc (.cells #[(.bool false)] 4)).cell? ⟨u6.heap.size,0,none⟩ = some (.bool false)) := cell_new1 _ _ _
         generalize u6.alloc (.cells #[(.bool false)] 4) = u7 at G7 N7 ⊢
         have T7 := hid (T6.out.grow G7.out)
         have S7 : Hid (w.heap.size + 1 ≤ u7.heap.size) := Nat.le_trans S6.out G7.out.size
         have R7 : Hid (Kept (Fr3 vA vT vV) u0 u7) := R6.out.then G7.out (fun _ _ x => x.elim)
         refine tr_oneE fun K hK => ?_
         simp only [sel,ZmC,ZmN,ZgS,ZgZ]
         refine wpQuiet_nil ?_
         go_wp2_with (at_builtin;refine wpList_append_lies _ rfl (.tmp 38) (.tmp 39) 46 rfl (w.heap.size + 1) 4 i1 (.bool false) 1 1 Tryz.underlying46 HJ.out.1 HJ.out.2.1 HJ.out.2.2.1 HJ.out.2.2.2 rfl (by decide) _ j (List.replicate j (Value.bool false)) rfl T7.out.v ⟨u6.heap.size,0,none⟩ 1 1 [(Value.bool false)] rfl rfl ?qa8 ?qb8 (by omega) ?qc8 ?qd8 ?qe8 _ rfl ?_)
         case qa8 => exact one_new N7.out
         case qb8 => exact one_cell rfl
         case qc8 => unfold maxLen;omega
         case qd8 => omega
         case qe8 => exact S7.out
         intro g8 c8 u8 ho hgb hor _
         have T8 := hid (T7.out.appV ho hgb hor)
         have K8 : Hid (Kept (Fr3 vA vT vV) u7 u8) := (Kept.refl _ _).grown hgb (fun k hk _ => .inr (.inr hk))
         have S8 : Hid (w.heap.size + 1 ≤ u8.heap.size) := Nat.le_trans S7.out K8.out.size
         have R8 : Hid (Kept (Fr3 vA vT vV) u0 u8) := R7.out.trans K8.out
         clear ho hgb hor
         refine norm_up (hK _ _ (Lr_early (by decide)  K8.out) ?_)
         have BM := hid (HB0.out.kept R8.out HFM.out)
         refine tr_oneL fun K hK => ?_
         simp only [sel,ZmC,ZmN,ZgS,ZgZ]
         repeat (go_big_quiet_step (fail))
         refine wpQuiet_nil ?_
         have e9 := BM.out.cell 0
         simp only [ZeZ] at e9
         have f9 := BM.out.frozen 0
         go_wp2
         refine norm_up (hK _ _ (Lr_late (by decide) ((kept_set _ _ _ _).mono fun _ _ e => .inr e)) ?_)
         have B9 := hid (BM.out.set 0 (Value.slice (some ⟨g3,0,none⟩) (j + 1) c3))
         simp only [List.set_cons_zero] at B9
         have T9 := hid (T8.out.set (m := w.heap.size) (i := 0) (x := (Value.slice (some ⟨g3,0,none⟩) (j + 1) c3)) (by omega))
         have R9 : Hid (Kept (fun k => Fr3 vA vT vV k ∨ k = w.heap.size) u0 (u8.setCell ⟨w.heap.size,0,none⟩ (Value.slice (some ⟨g3,0,none⟩) (j + 1) c3))) := (R8.out.mono fun _ _ x => .inl x).trans ((kept_set _ _ _ _).mono fun _ _ e => .inr e)
         clear e9 f9
         generalize u8.setCell ⟨w.heap.size,0,none⟩ (Value.slice (some ⟨g3,0,none⟩) (j + 1) c3) = u9 at B9 T9 R9 ⊢
         refine tr_oneL fun K hK => ?_
         simp only [sel,ZmC,ZmN,ZgS,ZgZ]
         repeat (go_big_quiet_step (fail))
         refine wpQuiet_nil ?_
         have e10 := B9.out.cell 1
         simp only [ZeZ,ZeS] at e10
         have f10 := B9.out.frozen 1
         go_wp2
         refine norm_up (hK _ _ (Lr_late (by decide) ((kept_set _ _ _ _).mono fun _ _ e => .inr e)) ?_)
         have B10 := hid (B9.out.set 1 (Value.slice (some ⟨g6,0,none⟩) (j + 1) c6))
         simp only [List.set_cons_zero,List.set_cons_succ] at B10
         have T10 := hid (T9.out.set (m := w.heap.size) (i := 1) (x := (Value.slice (some ⟨g6,0,none⟩) (j + 1) c6)) (by omega))
         have R10 : Hid (Kept (fun k => Fr3 vA vT vV k ∨ k = w.heap.size) u0 (u9.setCell ⟨w.heap.size,1,none⟩ (Value.slice (some ⟨g6,0,none⟩) (j + 1) c6))) := R9.out.trans ((kept_set _ _ _ _).mono fun _ _ e => .inr e)
         clear e10 f10
         generalize u9.setCell ⟨w.heap.size,1,none⟩ (Value.slice (some ⟨g6,0,none⟩) (j + 1) c6) = u10 at B10 T10 R10 ⊢
         refine tr_oneL fun K hK => ?_
         simp only [sel,ZmC,ZmN,ZgS,ZgZ]
         repeat (go_big_quiet_step (fail))
         refine wpQuiet_nil ?_
         have e11 := B10.out.cell 2
         simp only [ZeZ,ZeS] at e11
         have f11 := B10.out.frozen 2
         go_wp2
         refine norm_up (hK _ _ (Lr_late (by decide) ((kept_set _ _ _ _).mono fun _ _ e => .inr e)) ?_)
         have B11 := hid (B10.out.set 2 (Value.slice (some ⟨g8,0,none⟩) (j + 1) c8))
         simp only [List.set_cons_zero,List.set_cons_succ] at B11
         have T11 := hid (T10.out.set (m := w.heap.size) (i := 2) (x := (Value.slice (some ⟨g8,0,none⟩) (j + 1) c8)) (by omega))
         have R11 : Hid (Kept (fun k => Fr3 vA vT vV k ∨ k = w.heap.size) u0 (u10.setCell ⟨w.heap.size,2,none⟩ (Value.slice (some ⟨g8,0,none⟩) (j + 1) c8))) := R10.out.trans ((kept_set _ _ _ _).mono fun _ _ e => .inr e)
         clear e11 f11
         generalize u10.setCell ⟨w.heap.size,2,none⟩ (Value.slice (some ⟨g8,0,none⟩) (j + 1) c8) = u11 at B11 T11 R11 ⊢
         refine tr_lastL fun K hK => ?_
         simp only [sel,ZmN]
         refine wpQuiet_nil (hK _ ?_)
         have HFG : Hid (Grow w u11) := grow_of HW0.out R11.out HT0.out
         go_wp2
         go_roundg (N - (j + 1))
         case measure => have := HG.out;omega
         case rel => exact ⟨j + 1,_,_,_,by have := HG.out;omega,by go_num,B11.out,T11.out,HFG.out⟩
        ·clear hKa Ka
         go_wp2
         refine norm_up (hKb _ _ (Lr_early (by decide)  ((Kept.refl _ _).alloc _)) ?_)
         have G12 : Hid (Grow u5 (u5.alloc (.cells #[(.bool false)] 4))) := (Kept.refl _ _).alloc _
         have N12 : Hid ((u5.alloc (.cells #[(.bool false)] 4)).cell? ⟨u5.heap.size,0,none⟩ = some (.bool false)) := cell_new1 _ _ _
         generalize u5.alloc (.cells #[(.bool false)] 4) = u12 at G12 N12 ⊢
         have T12 := hid (T5.out.grow G12.out)
         have S12 : Hid (w.heap.size + 1 ≤ u12.heap.size) := Nat.le_trans S5.out G12.out.size
         have R12 : Hid (Kept (Fr3 vA vT vV) u0 u12) := R5.out.then G12.out (fun _ _ x => x.elim)
         have P12 : Hid (u12.cell? ⟨u4.heap.size,0,none⟩ = some (.string (strOfNums (zeros 24)))) := G12.out.cellN N5.out id
         refine tr_oneE fun K hK => ?_
         simp only [sel,ZmC,ZmN,ZgS,ZgZ]
         refine wpQuiet_nil ?_
         go_wp2_with (at_builtin;refine wpList_append_lies _ rfl (.tmp 31) (.tmp 33) 47 rfl (w.heap.size + 1) 9 i0 (.string ⟨#[]⟩) 1 16 Tryz.underlying47 HI.out.1 HI.out.2.1 HI.out.2.2.1 HI.out.2.2.2 rfl (by decide) _ j (List.replicate j z0) rfl T12.out.t ⟨u4.heap.size,0,none⟩ 1 1 [z0] rfl rfl ?qa13 ?qb13 (by omega) ?qc13 ?qd13 ?qe13 _ rfl ?_)
         case qa13 => exact one_new P12.out
         case qb13 => exact one_cell rfl
         case qc13 => unfold maxLen;omega
         case qd13 => omega
         case qe13 => exact S12.out
         intro g13 c13 u13 ho hgb hor _
         have T13 := hid (T12.out.appT ho hgb hor)
         have K13 : Hid (Kept (Fr3 vA vT vV) u12 u13) := (Kept.refl _ _).grown hgb (fun k hk _ => .inr (.inl hk))
         have S13 : Hid (w.heap.size + 1 ≤ u13.heap.size) := Nat.le_trans S12.out K13.out.size
         have R13 : Hid (Kept (Fr3 vA vT vV) u0 u13) := R12.out.trans K13.out
         have N13 : Hid (u13.cell? ⟨u5.heap.size,0,none⟩ = some (.bool false)) := K13.out.cellN N12.out (new_apart HT0.out (R5.out.size))
         clear ho hgb hor
         refine norm_up (hK _ _ (Lr_early (by decide)  K13.out) ?_)
         refine tr_oneE fun K hK => ?_
         simp only [sel,ZmC,ZmN,ZgS,ZgZ]
         refine wpQuiet_nil ?_
         go_wp2_with (at_builtin;refine wpList_append_lies _ rfl (.tmp 38) (.tmp 39) 46 rfl (w.heap.size + 1) 4 i1 (.bool false) 1 1 Tryz.underlying46 HJ.out.1 HJ.out.2.1 HJ.out.2.2.1 HJ.out.2.2.2 rfl (by decide) _ j (List.replicate j (Value.bool false)) rfl T13.out.v ⟨u5.heap.size,0,none⟩ 1 1 [(Value.bool false)] rfl rfl ?qa14 ?qb14 (by omega) ?qc14 ?qd14 ?qe14 _ rfl ?_)
         case qa14 => exact one_new N13.out
         case qb14 => exact one_cell rfl
         case qc14 => unfold maxLen;omega
         case qd14 => omega
         case qe14 => exact S13.out
         intro g14 c14 u14 ho hgb hor _
         have T14 := hid (T13.out.appV ho hgb hor)
         have K14 : Hid (Kept (Fr3 vA vT vV) u13 u14) := (Kept.refl _ _).grown hgb (fun k hk _ => .inr (.inr hk))
         have S14 : Hid (w.heap.size + 1 ≤ u14.heap.size) := Nat.le_trans S13.out K14.out.size
         have R14 : Hid (Kept (Fr3 vA vT vV) u0 u14) := R13.out.trans K14.out
         clear ho hgb hor
         refine norm_up (hK _ _ (Lr_early (by decide)  K14.out) ?_)
         have BM := hid (HB0.out.kept R14.out HFM.out)
         refine tr_oneL fun K hK => ?_
         simp only [sel,ZmC,ZmN,ZgS,ZgZ]
         repeat (go_big_quiet_step (fail))
         refine wpQuiet_nil ?_
         have e15 := BM.out.cell 0
         simp only [ZeZ] at e15
         have f15 := BM.out.frozen 0
         go_wp2
         refine norm_up (hK _ _ (Lr_late (by decide) ((kept_set _ _ _ _).mono fun _ _ e => .inr e)) ?_)
         have B15 := hid (BM.out.set 0 (Value.slice (some ⟨g3,0,none⟩) (j + 1) c3))
         simp only [List.set_cons_zero] at B15
         have T15 := hid (T14.out.set (m := w.heap.size) (i := 0) (x := (Value.slice (some ⟨g3,0,none⟩) (j + 1) c3)) (by omega))
         have R15 : Hid (Kept (fun k => Fr3 vA vT vV k ∨ k = w.heap.size) u0 (u14.setCell ⟨w.heap.size,0,none⟩ (Value.slice (some ⟨g3,0,none⟩) (j + 1) c3))) := (R14.out.mono fun _ _ x => .inl x).trans ((kept_set _ _ _ _).mono fun _ _ e => .inr e)
         clear e15 f15
         generalize u14.setCell ⟨w.heap.size,0,none⟩ (Value.slice (some ⟨g3,0,none⟩) (j + 1) c3) = u15 at B15 T15 R15 ⊢
         refine tr_oneL fun K hK => ?_
         simp only [sel,ZmC,ZmN,ZgS,ZgZ]
         repeat (go_big_quiet_step (fail))
         refine wpQuiet_nil ?_
         have e16 := B15.out.cell 1
         simp only [ZeZ,ZeS] at e16
         have f16 := B15.out.frozen 1
         go_wp2
         refine norm_up (hK _ _ (Lr_late (by decide) ((kept_set _ _ _ _).mono fun _ _ e => .inr e)) ?_)
         have B16 := hid (B15.out.set 1 (Value.slice (some ⟨g13,0,none⟩) (j + 1) c13))
         simp only [List.set_cons_zero,List.set_cons_succ] at B16
         have T16 := hid (T15.out.set (m := w.heap.size) (i := 1) (x := (Value.slice (some ⟨g13,0,none⟩) (j + 1) c13)) (by omega))
         have R16 : Hid (Kept (fun k => Fr3 vA vT vV k ∨ k = w.heap.size) u0 (u15.setCell ⟨w.heap.size,1,none⟩ (Value.slice (some ⟨g13,0,none⟩) (j + 1) c13))) := R15.out.trans ((kept_set _ _ _ _).mono fun _ _ e => .inr e)
         clear e16 f16
         generalize u15.setCell ⟨w.heap.size,1,none⟩ (Value.slice (some ⟨g13,0,none⟩) (j + 1) c13) = u16 at B16 T16 R16 ⊢
         refine tr_oneL fun K hK => ?_
         simp only [sel,ZmC,ZmN,ZgS,ZgZ]
         repeat (go_big_quiet_step (fail))
         refine wpQuiet_nil ?_
         have e17 := B16.out.cell 2
         simp only [ZeZ,ZeS] at e17
         have f17 := B16.out.frozen 2
         go_wp2
         refine norm_up (hK _ _ (Lr_late (by decide) ((kept_set _ _ _ _).mono fun _ _ e => .inr e)) ?_)
         have B17 := hid (B16.out.set 2 (Value.slice (some ⟨g14,0,none⟩) (j + 1) c14))
         simp only [List.set_cons_zero,List.set_cons_succ] at B17
         have T17 := hid (T16.out.set (m := w.heap.size) (i := 2) (x := (Value.slice (some ⟨g14,0,none⟩) (j + 1) c14)) (by omega))
         have R17 : Hid (Kept (fun k => Fr3 vA vT vV k ∨ k = w.heap.size) u0 (u16.setCell ⟨w.heap.size,2,none⟩ (Value.slice (some ⟨g14,0,none⟩) (j + 1) c14))) := R16.out.trans ((kept_set _ _ _ _).mono fun _ _ e => .inr e)
         clear e17 f17
         generalize u16.setCell ⟨w.heap.size,2,none⟩ (Value.slice (some ⟨g14,0,none⟩) (j + 1) c14) = u17 at B17 T17 R17 ⊢
         refine tr_lastL fun K hK => ?_
         simp only [sel,ZmN]
         refine wpQuiet_nil (hK _ ?_)
         have HFG : Hid (Grow w u17) := grow_of HW0.out R17.out HT0.out
         go_wp2
         go_roundg (N - (j + 1))
         case measure => have := HG.out;omega
         case rel => exact ⟨j + 1,_,_,_,by have := HG.out;omega,by go_num,B17.out,T17.out,HFG.out⟩
       ·clear hKa Ka
        go_wp2
        refine norm_up (hKb _ _ (Lr_early (by decide)  ((Kept.refl _ _).alloc _)) ?_)
        have G18 : Hid (Grow u4 (u4.alloc (.cells #[(.bool false)] 4))) := (Kept.refl _ _).alloc _
        have N18 : Hid ((u4.alloc (.cells #[(.bool false)] 4)).cell? ⟨u4.heap.size,0,none⟩ = some (.bool false)) := cell_new1 _ _ _
        generalize u4.alloc (.cells #[(.bool false)] 4) = u18 at G18 N18 ⊢
        have T18 := hid (T4.out.grow G18.out)
        have S18 : Hid (w.heap.size + 1 ≤ u18.heap.size) := Nat.le_trans S4.out G18.out.size
        have R18 : Hid (Kept (Fr3 vA vT vV) u0 u18) := R4.out.then G18.out (fun _ _ x => x.elim)
        refine tr_oneE fun K hK => ?_
        simp only [sel,ZmC,ZmN,ZgS,ZgZ]
        refine wpQuiet_nil ?_
        go_wp2
        refine norm_up (hK _ _ (Lr_early (by decide)  ((Kept.refl _ _).alloc _)) ?_)
        have G19 : Hid (Grow u18 (u18.alloc (.cells #[(.string (strOfNums (zeros 24)))] 9))) := (Kept.refl _ _).alloc _
        have N19 : Hid ((u18.alloc (.cells #[(.string (strOfNums (zeros 24)))] 9)).cell? ⟨u18.heap.size,0,none⟩ = some (.string (strOfNums (zeros 24)))) := cell_new1 _ _ _
        generalize u18.alloc (.cells #[(.string (strOfNums (zeros 24)))] 9) = u19 at G19 N19 ⊢
        have T19 := hid (T18.out.grow G19.out)
        have S19 : Hid (w.heap.size + 1 ≤ u19.heap.size) := Nat.le_trans S18.out G19.out.size
        have R19 : Hid (Kept (Fr3 vA vT vV) u0 u19) := R18.out.then G19.out (fun _ _ x => x.elim)
        have Q19 : Hid (u19.cell? ⟨u4.heap.size,0,none⟩ = some (.bool false)) := G19.out.cellN N18.out id
        refine tr_oneE fun K hK => ?_
        simp only [sel,ZmC,ZmN,ZgS,ZgZ]
        refine wpQuiet_nil ?_
        go_wp2_with (at_builtin;refine wpList_append_lies _ rfl (.tmp 31) (.tmp 33) 47 rfl (w.heap.size + 1) 9 i0 (.string ⟨#[]⟩) 1 16 Tryz.underlying47 HI.out.1 HI.out.2.1 HI.out.2.2.1 HI.out.2.2.2 rfl (by decide) _ j (List.replicate j z0) rfl T19.out.t ⟨u18.heap.size,0,none⟩ 1 1 [z0] rfl rfl ?qa20 ?qb20 (by omega) ?qc20 ?qd20 ?qe20 _ rfl ?_)
        case qa20 => exact one_new N19.out
        case qb20 => exact one_cell rfl
        case qc20 => unfold maxLen;omega
        case qd20 => omega
        case qe20 => exact S19.out
        intro g20 c20 u20 ho hgb hor _
        have T20 := hid (T19.out.appT ho hgb hor)
        have K20 : Hid (Kept (Fr3 vA vT vV) u19 u20) := (Kept.refl _ _).grown hgb (fun k hk _ => .inr (.inl hk))
        have S20 : Hid (w.heap.size + 1 ≤ u20.heap.size) := Nat.le_trans S19.out K20.out.size
        have R20 : Hid (Kept (Fr3 vA vT vV) u0 u20) := R19.out.trans K20.out
        have N20 : Hid (u20.cell? ⟨u4.heap.size,0,none⟩ = some (.bool false)) := K20.out.cellN Q19.out (new_apart HT0.out (R4.out.size))
        clear ho hgb hor
        refine norm_up (hK _ _ (Lr_early (by decide)  K20.out) ?_)
        refine tr_oneE fun K hK => ?_
        simp only [sel,ZmC,ZmN,ZgS,ZgZ]
        refine wpQuiet_nil ?_
        go_wp2_with (at_builtin;refine wpList_append_lies _ rfl (.tmp 38) (.tmp 39) 46 rfl (w.heap.size + 1) 4 i1 (.bool false) 1 1 Tryz.underlying46 HJ.out.1 HJ.out.2.1 HJ.out.2.2.1 HJ.out.2.2.2 rfl (by decide) _ j (List.replicate j (Value.bool false)) rfl T20.out.v ⟨u4.heap.size,0,none⟩ 1 1 [(Value.bool false)] rfl rfl ?qa21 ?qb21 (by omega) ?qc21 ?qd21 ?qe21 _ rfl ?_)
        case qa21 => exact one_new N20.out
        case qb21 => exact one_cell rfl
        case qc21 => unfold maxLen;omega
        case qd21 => omega
        case qe21 => exact S20.out
        intro g21 c21 u21 ho hgb hor _
        have T21 := hid (T20.out.appV ho hgb hor)
        have K21 : Hid (Kept (Fr3 vA vT vV) u20 u21) := (Kept.refl _ _).grown hgb (fun k hk _ => .inr (.inr hk))
        have S21 : Hid (w.heap.size + 1 ≤ u21.heap.size) := Nat.le_trans S20.out K21.out.size
        have R21 : Hid (Kept (Fr3 vA vT vV) u0 u21) := R20.out.trans K21.out
        clear ho hgb hor
        refine norm_up (hK _ _ (Lr_early (by decide)  K21.out) ?_)
        have BM := hid (HB0.out.kept R21.out HFM.out)
        refine tr_oneL fun K hK => ?_
        simp only [sel,ZmC,ZmN,ZgS,ZgZ]
        repeat (go_big_quiet_step (fail))
        refine wpQuiet_nil ?_
        have e22 := BM.out.cell 0
        simp only [ZeZ] at e22
        have f22 := BM.out.frozen 0
        go_wp2
        refine norm_up (hK _ _ (Lr_late (by decide) ((kept_set _ _ _ _).mono fun _ _ e => .inr e)) ?_)
        have B22 := hid (BM.out.set 0 (Value.slice (some ⟨g3,0,none⟩) (j + 1) c3))
        simp only [List.set_cons_zero] at B22
        have T22 := hid (T21.out.set (m := w.heap.size) (i := 0) (x := (Value.slice (some ⟨g3,0,none⟩) (j + 1) c3)) (by omega))
        have R22 : Hid (Kept (fun k => Fr3 vA vT vV k ∨ k = w.heap.size) u0 (u21.setCell ⟨w.heap.size,0,none⟩ (Value.slice (some ⟨g3,0,none⟩) (j + 1) c3))) := (R21.out.mono fun _ _ x => .inl x).trans ((kept_set _ _ _ _).mono fun _ _ e => .inr e)
        clear e22 f22
        generalize u21.setCell ⟨w.heap.size,0,none⟩ (Value.slice (some ⟨g3,0,none⟩) (j + 1) c3) = u22 at B22 T22 R22 ⊢
        refine tr_oneL fun K hK => ?_
        simp only [sel,ZmC,ZmN,ZgS,ZgZ]
        repeat (go_big_quiet_step (fail))
        refine wpQuiet_nil ?_
        have e23 := B22.out.cell 1
        simp only [ZeZ,ZeS] at e23
        have f23 := B22.out.frozen 1
        go_wp2
        refine norm_up (hK _ _ (Lr_late (by decide) ((kept_set _ _ _ _).mono fun _ _ e => .inr e)) ?_)
        have B23 := hid (B22.out.set 1 (Value.slice (some ⟨g20,0,none⟩) (j + 1) c20))
        simp only [List.set_cons_zero,List.set_cons_succ] at B23
        have T23 := hid (T22.out.set (m := w.heap.size) (i := 1) (x := (Value.slice (some ⟨g20,0,none⟩) (j + 1) c20)) (by omega))
        have R23 : Hid (Kept (fun k => Fr3 vA vT vV k ∨ k = w.heap.size) u0 (u22.setCell ⟨w.heap.size,1,none⟩ (Value.slice (some ⟨g20,0,none⟩) (j + 1) c20))) := R22.out.trans ((kept_set _ _ _ _).mono fun _ _ e => .inr e)
        clear e23 f23
        generalize u22.setCell ⟨w.heap.size,1,none⟩ (Value.slice (some ⟨g20,0,none⟩) (j + 1) c20) = u23 at B23 T23 R23 ⊢
        refine tr_oneL fun K hK => ?_
        simp only [sel,ZmC,ZmN,ZgS,ZgZ]
        repeat (go_big_quiet_step (fail))
        refine wpQuiet_nil ?_
        have e24 := B23.out.cell 2
        simp only [ZeZ,ZeS] at e24
        have f24 := B23.out.frozen 2
        go_wp2
        refine norm_up (hK _ _ (Lr_late (by decide) ((kept_set _ _ _ _).mono fun _ _ e => .inr e)) ?_)
        have B24 := hid (B23.out.set 2 (Value.slice (some ⟨g21,0,none⟩) (j + 1) c21))
        simp only [List.set_cons_zero,List.set_cons_succ] at B24
        have T24 := hid (T23.out.set (m := w.heap.size) (i := 2) (x := (Value.slice (some ⟨g21,0,none⟩) (j + 1) c21)) (by omega))
        have R24 : Hid (Kept (fun k => Fr3 vA vT vV k ∨ k = w.heap.size) u0 (u23.setCell ⟨w.heap.size,2,none⟩ (Value.slice (some ⟨g21,0,none⟩) (j + 1) c21))) := R23.out.trans ((kept_set _ _ _ _).mono fun _ _ e => .inr e)
        clear e24 f24
        generalize u23.setCell ⟨w.heap.size,2,none⟩ (Value.slice (some ⟨g21,0,none⟩) (j + 1) c21) = u24 at B24 T24 R24 ⊢
        refine tr_lastL fun K hK => ?_
        simp only [sel,ZmN]
        refine wpQuiet_nil (hK _ ?_)
        have HFG : Hid (Grow w u24) := grow_of HW0.out R24.out HT0.out
        go_wp2
        go_roundg (N - (j + 1))
        case measure => have := HG.out;omega
        case rel => exact ⟨j + 1,_,_,_,by have := HG.out;omega,by go_num,B24.out,T24.out,HFG.out⟩
      ·clear hKa Ka
       go_wp2
       refine norm_up (hKb _ _ (Lr_early (by decide)  ((Kept.refl _ _).alloc _)) ?_)
       have G25 : Hid (Grow u3 (u3.alloc (.cells #[(.bool false)] 4))) := (Kept.refl _ _).alloc _
       have N25 : Hid ((u3.alloc (.cells #[(.bool false)] 4)).cell? ⟨u3.heap.size,0,none⟩ = some (.bool false)) := cell_new1 _ _ _
       generalize u3.alloc (.cells #[(.bool false)] 4) = u25 at G25 N25 ⊢
       have T25 := hid (T3.out.grow G25.out)
       have S25 : Hid (w.heap.size + 1 ≤ u25.heap.size) := Nat.le_trans S3.out G25.out.size
       have R25 : Hid (Kept (Fr3 vA vT vV) u0 u25) := R3.out.then G25.out (fun _ _ x => x.elim)
       refine tr_oneE fun K hK => ?_
       simp only [sel,ZmC,ZmN,ZgS,ZgZ]
       refine wpQuiet_nil ?_
       go_wp2_with (go_at_call 110;(with_reducible refine (CB.out _).mono ?_);rintro e u26 ⟨rfl,hgr⟩;have G26 := hid hgr;clear hgr)
       refine norm_up (hK _ _ (Lr_early (by decide)  G26.out.kept) ?_)
       have T26 := hid (T25.out.grow G26.out)
       have S26 : Hid (w.heap.size + 1 ≤ u26.heap.size) := Nat.le_trans S25.out G26.out.size
       have R26 : Hid (Kept (Fr3 vA vT vV) u0 u26) := R25.out.then G26.out (fun _ _ x => x.elim)
       have Q26 : Hid (u26.cell? ⟨u3.heap.size,0,none⟩ = some (.bool false)) := G26.out.cellN N25.out id
       refine tr_oneE fun K hK => ?_
       simp only [sel,ZmC,ZmN,ZgS,ZgZ]
       refine wpQuiet_nil ?_
       go_wp2
       refine norm_up (hK _ _ (Lr_early (by decide)  ((Kept.refl _ _).alloc _)) ?_)
       have G27 : Hid (Grow u26 (u26.alloc (.cells #[(.string (strOfNums (zeros 24)))] 9))) := (Kept.refl _ _).alloc _
       have N27 : Hid ((u26.alloc (.cells #[(.string (strOfNums (zeros 24)))] 9)).cell? ⟨u26.heap.size,0,none⟩ = some (.string (strOfNums (zeros 24)))) := cell_new1 _ _ _
       generalize u26.alloc (.cells #[(.string (strOfNums (zeros 24)))] 9) = u27 at G27 N27 ⊢
       have T27 := hid (T26.out.grow G27.out)
       have S27 : Hid (w.heap.size + 1 ≤ u27.heap.size) := Nat.le_trans S26.out G27.out.size
       have R27 : Hid (Kept (Fr3 vA vT vV) u0 u27) := R26.out.then G27.out (fun _ _ x => x.elim)
       have Q27 : Hid (u27.cell? ⟨u3.heap.size,0,none⟩ = some (.bool false)) := G27.out.cellN Q26.out id
       refine tr_oneE fun K hK => ?_
       simp only [sel,ZmC,ZmN,ZgS,ZgZ]
       refine wpQuiet_nil ?_
       go_wp2_with (at_builtin;refine wpList_append_lies _ rfl (.tmp 31) (.tmp 33) 47 rfl (w.heap.size + 1) 9 i0 (.string ⟨#[]⟩) 1 16 Tryz.underlying47 HI.out.1 HI.out.2.1 HI.out.2.2.1 HI.out.2.2.2 rfl (by decide) _ j (List.replicate j z0) rfl T27.out.t ⟨u26.heap.size,0,none⟩ 1 1 [z0] rfl rfl ?qa28 ?qb28 (by omega) ?qc28 ?qd28 ?qe28 _ rfl ?_)
       case qa28 => exact one_new N27.out
       case qb28 => exact one_cell rfl
       case qc28 => unfold maxLen;omega
       case qd28 => omega
       case qe28 => exact S27.out
       intro g28 c28 u28 ho hgb hor _
       have T28 := hid (T27.out.appT ho hgb hor)
       have K28 : Hid (Kept (Fr3 vA vT vV) u27 u28) := (Kept.refl _ _).grown hgb (fun k hk _ => .inr (.inl hk))
       have S28 : Hid (w.heap.size + 1 ≤ u28.heap.size) := Nat.le_trans S27.out K28.out.size
       have R28 : Hid (Kept (Fr3 vA vT vV) u0 u28) := R27.out.trans K28.out
       have N28 : Hid (u28.cell? ⟨u3.heap.size,0,none⟩ = some (.bool false)) := K28.out.cellN Q27.out (new_apart HT0.out (R3.out.size))
       clear ho hgb hor
       refine norm_up (hK _ _ (Lr_early (by decide)  K28.out) ?_)
       refine tr_oneE fun K hK => ?_
       simp only [sel,ZmC,ZmN,ZgS,ZgZ]
       refine wpQuiet_nil ?_
       go_wp2_with (at_builtin;refine wpList_append_lies _ rfl (.tmp 38) (.tmp 39) 46 rfl (w.heap.size + 1) 4 i1 (.bool false) 1 1 Tryz.underlying46 HJ.out.1 HJ.out.2.1 HJ.out.2.2.1 HJ.out.2.2.2 rfl (by decide) _ j (List.replicate j (Value.bool false)) rfl T28.out.v ⟨u3.heap.size,0,none⟩ 1 1 [(Value.bool false)] rfl rfl ?qa29 ?qb29 (by omega) ?qc29 ?qd29 ?qe29 _ rfl ?_)
       case qa29 => exact one_new N28.out
       case qb29 => exact one_cell rfl
       case qc29 => unfold maxLen;omega
       case qd29 => omega
       case qe29 => exact S28.out
       intro g29 c29 u29 ho hgb hor _
       have T29 := hid (T28.out.appV ho hgb hor)
       have K29 : Hid (Kept (Fr3 vA vT vV) u28 u29) := (Kept.refl _ _).grown hgb (fun k hk _ => .inr (.inr hk))
       have S29 : Hid (w.heap.size + 1 ≤ u29.heap.size) := Nat.le_trans S28.out K29.out.size
       have R29 : Hid (Kept (Fr3 vA vT vV) u0 u29) := R28.out.trans K29.out
       clear ho hgb hor
       refine norm_up (hK _ _ (Lr_early (by decide)  K29.out) ?_)
       have BM := hid (HB0.out.kept R29.out HFM.out)
       refine tr_oneL fun K hK => ?_
       simp only [sel,ZmC,ZmN,ZgS,ZgZ]
       repeat (go_big_quiet_step (fail))
       refine wpQuiet_nil ?_
       have e30 := BM.out.cell 0
       simp only [ZeZ] at e30
       have f30 := BM.out.frozen 0
       go_wp2
       refine norm_up (hK _ _ (Lr_late (by decide) ((kept_set _ _ _ _).mono fun _ _ e => .inr e)) ?_)
       have B30 := hid (BM.out.set 0 (Value.slice (some ⟨g3,0,none⟩) (j + 1) c3))
       simp only [List.set_cons_zero] at B30
       have T30 := hid (T29.out.set (m := w.heap.size) (i := 0) (x := (Value.slice (some ⟨g3,0,none⟩) (j + 1) c3)) (by omega))
       have R30 : Hid (Kept (fun k => Fr3 vA vT vV k ∨ k = w.heap.size) u0 (u29.setCell ⟨w.heap.size,0,none⟩ (Value.slice (some ⟨g3,0,none⟩) (j + 1) c3))) := (R29.out.mono fun _ _ x => .inl x).trans ((kept_set _ _ _ _).mono fun _ _ e => .inr e)
       clear e30 f30
       generalize u29.setCell ⟨w.heap.size,0,none⟩ (Value.slice (some ⟨g3,0,none⟩) (j + 1) c3) = u30 at B30 T30 R30 ⊢
       refine tr_oneL fun K hK => ?_
       simp only [sel,ZmC,ZmN,ZgS,ZgZ]
       repeat (go_big_quiet_step (fail))
       refine wpQuiet_nil ?_
       have e31 := B30.out.cell 1
       simp only [ZeZ,ZeS] at e31
       have f31 := B30.out.frozen 1
       go_wp2
       refine norm_up (hK _ _ (Lr_late (by decide) ((kept_set _ _ _ _).mono fun _ _ e => .inr e)) ?_)
       have B31 := hid (B30.out.set 1 (Value.slice (some ⟨g28,0,none⟩) (j + 1) c28))
       simp only [List.set_cons_zero,List.set_cons_succ] at B31
       have T31 := hid (T30.out.set (m := w.heap.size) (i := 1) (x := (Value.slice (some ⟨g28,0,none⟩) (j + 1) c28)) (by omega))
       have R31 : Hid (Kept (fun k => Fr3 vA vT vV k ∨ k = w.heap.size) u0 (u30.setCell ⟨w.heap.size,1,none⟩ (Value.slice (some ⟨g28,0,none⟩) (j + 1) c28))) := R30.out.trans ((kept_set _ _ _ _).mono fun _ _ e => .inr e)
       clear e31 f31
       generalize u30.setCell ⟨w.heap.size,1,none⟩ (Value.slice (some ⟨g28,0,none⟩) (j + 1) c28) = u31 at B31 T31 R31 ⊢
       refine tr_oneL fun K hK => ?_
       simp only [sel,ZmC,ZmN,ZgS,ZgZ]
       repeat (go_big_quiet_step (fail))
       refine wpQuiet_nil ?_
       have e32 := B31.out.cell 2
       simp only [ZeZ,ZeS] at e32
       have f32 := B31.out.frozen 2
       go_wp2
       refine norm_up (hK _ _ (Lr_late (by decide) ((kept_set _ _ _ _).mono fun _ _ e => .inr e)) ?_)
       have B32 := hid (B31.out.set 2 (Value.slice (some ⟨g29,0,none⟩) (j + 1) c29))
       simp only [List.set_cons_zero,List.set_cons_succ] at B32
       have T32 := hid (T31.out.set (m := w.heap.size) (i := 2) (x := (Value.slice (some ⟨g29,0,none⟩) (j + 1) c29)) (by omega))
       have R32 : Hid (Kept (fun k => Fr3 vA vT vV k ∨ k = w.heap.size) u0 (u31.setCell ⟨w.heap.size,2,none⟩ (Value.slice (some ⟨g29,0,none⟩) (j + 1) c29))) := R31.out.trans ((kept_set _ _ _ _).mono fun _ _ e => .inr e)
       clear e32 f32
       generalize u31.setCell ⟨w.heap.size,2,none⟩ (Value.slice (some ⟨g29,0,none⟩) (j + 1) c29) = u32 at B32 T32 R32 ⊢
       refine tr_lastL fun K hK => ?_
       simp only [sel,ZmN]
       refine wpQuiet_nil (hK _ ?_)
       have HFG : Hid (Grow w u32) := grow_of HW0.out R32.out HT0.out
       go_wp2
       go_roundg (N - (j + 1))
       case measure => have := HG.out;omega
       case rel => exact ⟨j + 1,_,_,_,by have := HG.out;omega,by go_num,B32.out,T32.out,HFG.out⟩
     ·clear hKa Ka
      go_wp2
      refine norm_up (hKb _ _ (Lr_early (by decide)  ((Kept.refl _ _).alloc _)) ?_)
      have G33 : Hid (Grow u2 (u2.alloc (.cells #[(.bool false)] 4))) := (Kept.refl _ _).alloc _
      have N33 : Hid ((u2.alloc (.cells #[(.bool false)] 4)).cell? ⟨u2.heap.size,0,none⟩ = some (.bool false)) := cell_new1 _ _ _
      generalize u2.alloc (.cells #[(.bool false)] 4) = u33 at G33 N33 ⊢
      have T33 := hid (T2.out.grow G33.out)
      have S33 : Hid (w.heap.size + 1 ≤ u33.heap.size) := Nat.le_trans S2.out G33.out.size
      have R33 : Hid (Kept (Fr3 vA vT vV) u0 u33) := R2.out.then G33.out (fun _ _ x => x.elim)
      have P33 : Hid (u33.cell? ⟨u1.heap.size,0,none⟩ = some (.string (strOfNums (zeros 24)))) := G33.out.cellN N2.out id
      refine tr_oneE fun K hK => ?_
      simp only [sel,ZmC,ZmN,ZgS,ZgZ]
      refine wpQuiet_nil ?_
      go_wp2_with (at_builtin;refine wpList_append_lies _ rfl (.tmp 24) (.tmp 26) 47 rfl (w.heap.size + 1) 9 i0 (.string ⟨#[]⟩) 1 16 Tryz.underlying47 HI.out.1 HI.out.2.1 HI.out.2.2.1 HI.out.2.2.2 rfl (by decide) _ j (List.replicate j z0) rfl T33.out.a ⟨u1.heap.size,0,none⟩ 1 1 [z0] rfl rfl ?qa34 ?qb34 (by omega) ?qc34 ?qd34 ?qe34 _ rfl ?_)
      case qa34 => exact one_new P33.out
      case qb34 => exact one_cell rfl
      case qc34 => unfold maxLen;omega
      case qd34 => omega
      case qe34 => exact S33.out
      intro g34 c34 u34 ho hgb hor _
      have T34 := hid (T33.out.appA ho hgb hor)
      have K34 : Hid (Kept (Fr3 vA vT vV) u33 u34) := (Kept.refl _ _).grown hgb (fun k hk _ => .inl hk)
      have S34 : Hid (w.heap.size + 1 ≤ u34.heap.size) := Nat.le_trans S33.out K34.out.size
      have R34 : Hid (Kept (Fr3 vA vT vV) u0 u34) := R33.out.trans K34.out
      have N34 : Hid (u34.cell? ⟨u2.heap.size,0,none⟩ = some (.bool false)) := K34.out.cellN N33.out (new_apart HT0.out (R2.out.size))
      clear ho hgb hor
      refine norm_up (hK _ _ (Lr_early (by decide)  K34.out) ?_)
      refine tr_oneE fun K hK => ?_
      simp only [sel,ZmC,ZmN,ZgS,ZgZ]
      refine wpQuiet_nil ?_
      go_wp2_with (go_at_call 110;(with_reducible refine (CB.out _).mono ?_);rintro e u35 ⟨rfl,hgr⟩;have G35 := hid hgr;clear hgr)
      refine norm_up (hK _ _ (Lr_early (by decide)  G35.out.kept) ?_)
      have T35 := hid (T34.out.grow G35.out)
      have S35 : Hid (w.heap.size + 1 ≤ u35.heap.size) := Nat.le_trans S34.out G35.out.size
      have R35 : Hid (Kept (Fr3 vA vT vV) u0 u35) := R34.out.then G35.out (fun _ _ x => x.elim)
      have Q35 : Hid (u35.cell? ⟨u2.heap.size,0,none⟩ = some (.bool false)) := G35.out.cellN N34.out id
      refine tr_oneE fun K hK => ?_
      simp only [sel,ZmC,ZmN,ZgS,ZgZ]
      refine wpQuiet_nil ?_
      go_wp2
      refine norm_up (hK _ _ (Lr_early (by decide)  ((Kept.refl _ _).alloc _)) ?_)
      have G36 : Hid (Grow u35 (u35.alloc (.cells #[(.string (strOfNums (zeros 24)))] 9))) := (Kept.refl _ _).alloc _
      have N36 : Hid ((u35.alloc (.cells #[(.string (strOfNums (zeros 24)))] 9)).cell? ⟨u35.heap.size,0,none⟩ = some (.string (strOfNums (zeros 24)))) := cell_new1 _ _ _
      generalize u35.alloc (.cells #[(.string (strOfNums (zeros 24)))] 9) = u36 at G36 N36 ⊢
      have T36 := hid (T35.out.grow G36.out)
      have S36 : Hid (w.heap.size + 1 ≤ u36.heap.size) := Nat.le_trans S35.out G36.out.size
      have R36 : Hid (Kept (Fr3 vA vT vV) u0 u36) := R35.out.then G36.out (fun _ _ x => x.elim)
      have Q36 : Hid (u36.cell? ⟨u2.heap.size,0,none⟩ = some (.bool false)) := G36.out.cellN Q35.out id
      refine tr_oneE fun K hK => ?_
      simp only [sel,ZmC,ZmN,ZgS,ZgZ]
      refine wpQuiet_nil ?_
      go_wp2_with (at_builtin;refine wpList_append_lies _ rfl (.tmp 31) (.tmp 33) 47 rfl (w.heap.size + 1) 9 i0 (.string ⟨#[]⟩) 1 16 Tryz.underlying47 HI.out.1 HI.out.2.1 HI.out.2.2.1 HI.out.2.2.2 rfl (by decide) _ j (List.replicate j z0) rfl T36.out.t ⟨u35.heap.size,0,none⟩ 1 1 [z0] rfl rfl ?qa37 ?qb37 (by omega) ?qc37 ?qd37 ?qe37 _ rfl ?_)
      case qa37 => exact one_new N36.out
      case qb37 => exact one_cell rfl
      case qc37 => unfold maxLen;omega
      case qd37 => omega
      case qe37 => exact S36.out
      intro g37 c37 u37 ho hgb hor _
      have T37 := hid (T36.out.appT ho hgb hor)
      have K37 : Hid (Kept (Fr3 vA vT vV) u36 u37) := (Kept.refl _ _).grown hgb (fun k hk _ => .inr (.inl hk))
      have S37 : Hid (w.heap.size + 1 ≤ u37.heap.size) := Nat.le_trans S36.out K37.out.size
      have R37 : Hid (Kept (Fr3 vA vT vV) u0 u37) := R36.out.trans K37.out
      have N37 : Hid (u37.cell? ⟨u2.heap.size,0,none⟩ = some (.bool false)) := K37.out.cellN Q36.out (new_apart HT0.out (R2.out.size))
      clear ho hgb hor
      refine norm_up (hK _ _ (Lr_early (by decide)  K37.out) ?_)
      refine tr_oneE fun K hK => ?_
      simp only [sel,ZmC,ZmN,ZgS,ZgZ]
      refine wpQuiet_nil ?_
      go_wp2_with (at_builtin;refine wpList_append_lies _ rfl (.tmp 38) (.tmp 39) 46 rfl (w.heap.size + 1) 4 i1 (.bool false) 1 1 Tryz.underlying46 HJ.out.1 HJ.out.2.1 HJ.out.2.2.1 HJ.out.2.2.2 rfl (by decide) _ j (List.replicate j (Value.bool false)) rfl T37.out.v ⟨u2.heap.size,0,none⟩ 1 1 [(Value.bool false)] rfl rfl ?qa38 ?qb38 (by omega) ?qc38 ?qd38 ?qe38 _ rfl ?_)
      case qa38 => exact one_new N37.out
      case qb38 => exact one_cell rfl
      case qc38 => unfold maxLen;omega
      case qd38 => omega
      case qe38 => exact S37.out
      intro g38 c38 u38 ho hgb hor _
      have T38 := hid (T37.out.appV ho hgb hor)
      have K38 : Hid (Kept (Fr3 vA vT vV) u37 u38) := (Kept.refl _ _).grown hgb (fun k hk _ => .inr (.inr hk))
      have S38 : Hid (w.heap.size + 1 ≤ u38.heap.size) := Nat.le_trans S37.out K38.out.size
      have R38 : Hid (Kept (Fr3 vA vT vV) u0 u38) := R37.out.trans K38.out
      clear ho hgb hor
      refine norm_up (hK _ _ (Lr_early (by decide)  K38.out) ?_)
      have BM := hid (HB0.out.kept R38.out HFM.out)
      refine tr_oneL fun K hK => ?_
      simp only [sel,ZmC,ZmN,ZgS,ZgZ]
      repeat (go_big_quiet_step (fail))
      refine wpQuiet_nil ?_
      have e39 := BM.out.cell 0
      simp only [ZeZ] at e39
      have f39 := BM.out.frozen 0
      go_wp2
      refine norm_up (hK _ _ (Lr_late (by decide) ((kept_set _ _ _ _).mono fun _ _ e => .inr e)) ?_)
      have B39 := hid (BM.out.set 0 (Value.slice (some ⟨g34,0,none⟩) (j + 1) c34))
      simp only [List.set_cons_zero] at B39
      have T39 := hid (T38.out.set (m := w.heap.size) (i := 0) (x := (Value.slice (some ⟨g34,0,none⟩) (j + 1) c34)) (by omega))
      have R39 : Hid (Kept (fun k => Fr3 vA vT vV k ∨ k = w.heap.size) u0 (u38.setCell ⟨w.heap.size,0,none⟩ (Value.slice (some ⟨g34,0,none⟩) (j + 1) c34))) := (R38.out.mono fun _ _ x => .inl x).trans ((kept_set _ _ _ _).mono fun _ _ e => .inr e)
      clear e39 f39
      generalize u38.setCell ⟨w.heap.size,0,none⟩ (Value.slice (some ⟨g34,0,none⟩) (j + 1) c34) = u39 at B39 T39 R39 ⊢
      refine tr_oneL fun K hK => ?_
      simp only [sel,ZmC,ZmN,ZgS,ZgZ]
      repeat (go_big_quiet_step (fail))
      refine wpQuiet_nil ?_
      have e40 := B39.out.cell 1
      simp only [ZeZ,ZeS] at e40
      have f40 := B39.out.frozen 1
      go_wp2
      refine norm_up (hK _ _ (Lr_late (by decide) ((kept_set _ _ _ _).mono fun _ _ e => .inr e)) ?_)
      have B40 := hid (B39.out.set 1 (Value.slice (some ⟨g37,0,none⟩) (j + 1) c37))
      simp only [List.set_cons_zero,List.set_cons_succ] at B40
      have T40 := hid (T39.out.set (m := w.heap.size) (i := 1) (x := (Value.slice (some ⟨g37,0,none⟩) (j + 1) c37)) (by omega))
      have R40 : Hid (Kept (fun k => Fr3 vA vT vV k ∨ k = w.heap.size) u0 (u39.setCell ⟨w.heap.size,1,none⟩ (Value.slice (some ⟨g37,0,none⟩) (j + 1) c37))) := R39.out.trans ((kept_set _ _ _ _).mono fun _ _ e => .inr e)
      clear e40 f40
      generalize u39.setCell ⟨w.heap.size,1,none⟩ (Value.slice (some ⟨g37,0,none⟩) (j + 1) c37) = u40 at B40 T40 R40 ⊢
      refine tr_oneL fun K hK => ?_
      simp only [sel,ZmC,ZmN,ZgS,ZgZ]
      repeat (go_big_quiet_step (fail))
      refine wpQuiet_nil ?_
      have e41 := B40.out.cell 2
      simp only [ZeZ,ZeS] at e41
      have f41 := B40.out.frozen 2
      go_wp2
      refine norm_up (hK _ _ (Lr_late (by decide) ((kept_set _ _ _ _).mono fun _ _ e => .inr e)) ?_)
      have B41 := hid (B40.out.set 2 (Value.slice (some ⟨g38,0,none⟩) (j + 1) c38))
      simp only [List.set_cons_zero,List.set_cons_succ] at B41
      have T41 := hid (T40.out.set (m := w.heap.size) (i := 2) (x := (Value.slice (some ⟨g38,0,none⟩) (j + 1) c38)) (by omega))
      have R41 : Hid (Kept (fun k => Fr3 vA vT vV k ∨ k = w.heap.size) u0 (u40.setCell ⟨w.heap.size,2,none⟩ (Value.slice (some ⟨g38,0,none⟩) (j + 1) c38))) := R40.out.trans ((kept_set _ _ _ _).mono fun _ _ e => .inr e)
      clear e41 f41
      generalize u40.setCell ⟨w.heap.size,2,none⟩ (Value.slice (some ⟨g38,0,none⟩) (j + 1) c38) = u41 at B41 T41 R41 ⊢
      refine tr_lastL fun K hK => ?_
      simp only [sel,ZmN]
      refine wpQuiet_nil (hK _ ?_)
      have HFG : Hid (Grow w u41) := grow_of HW0.out R41.out HT0.out
      go_wp2
      go_roundg (N - (j + 1))
      case measure => have := HG.out;omega
      case rel => exact ⟨j + 1,_,_,_,by have := HG.out;omega,by go_num,B41.out,T41.out,HFG.out⟩
    ·clear hKa Ka
     go_wp2
     refine norm_up (hKb _ _ (Lr_early (by decide)  ((Kept.refl _ _).alloc _)) ?_)
     have G42 : Hid (Grow u1 (u1.alloc (.cells #[(.bool false)] 4))) := (Kept.refl _ _).alloc _
     have N42 : Hid ((u1.alloc (.cells #[(.bool false)] 4)).cell? ⟨u1.heap.size,0,none⟩ = some (.bool false)) := cell_new1 _ _ _
     generalize u1.alloc (.cells #[(.bool false)] 4) = u42 at G42 N42 ⊢
     have T42 := hid (T1.out.grow G42.out)
     have S42 : Hid (w.heap.size + 1 ≤ u42.heap.size) := Nat.le_trans S1.out G42.out.size
     have R42 : Hid (Kept (Fr3 vA vT vV) u0 u42) := R1.out.then G42.out (fun _ _ x => x.elim)
     refine tr_oneE fun K hK => ?_
     simp only [sel,ZmC,ZmN,ZgS,ZgZ]
     refine wpQuiet_nil ?_
     go_wp2
     refine norm_up (hK _ _ (Lr_early (by decide)  ((Kept.refl _ _).alloc _)) ?_)
     have G43 : Hid (Grow u42 (u42.alloc (.cells #[(.string (strOfNums (zeros 24)))] 9))) := (Kept.refl _ _).alloc _
     have N43 : Hid ((u42.alloc (.cells #[(.string (strOfNums (zeros 24)))] 9)).cell? ⟨u42.heap.size,0,none⟩ = some (.string (strOfNums (zeros 24)))) := cell_new1 _ _ _
     generalize u42.alloc (.cells #[(.string (strOfNums (zeros 24)))] 9) = u43 at G43 N43 ⊢
     have T43 := hid (T42.out.grow G43.out)
     have S43 : Hid (w.heap.size + 1 ≤ u43.heap.size) := Nat.le_trans S42.out G43.out.size
     have R43 : Hid (Kept (Fr3 vA vT vV) u0 u43) := R42.out.then G43.out (fun _ _ x => x.elim)
     have Q43 : Hid (u43.cell? ⟨u1.heap.size,0,none⟩ = some (.bool false)) := G43.out.cellN N42.out id
     refine tr_oneE fun K hK => ?_
     simp only [sel,ZmC,ZmN,ZgS,ZgZ]
     refine wpQuiet_nil ?_
     go_wp2_with (at_builtin;refine wpList_append_lies _ rfl (.tmp 24) (.tmp 26) 47 rfl (w.heap.size + 1) 9 i0 (.string ⟨#[]⟩) 1 16 Tryz.underlying47 HI.out.1 HI.out.2.1 HI.out.2.2.1 HI.out.2.2.2 rfl (by decide) _ j (List.replicate j z0) rfl T43.out.a ⟨u42.heap.size,0,none⟩ 1 1 [z0] rfl rfl ?qa44 ?qb44 (by omega) ?qc44 ?qd44 ?qe44 _ rfl ?_)
     case qa44 => exact one_new N43.out
     case qb44 => exact one_cell rfl
     case qc44 => unfold maxLen;omega
     case qd44 => omega
     case qe44 => exact S43.out
     intro g44 c44 u44 ho hgb hor _
     have T44 := hid (T43.out.appA ho hgb hor)
     have K44 : Hid (Kept (Fr3 vA vT vV) u43 u44) := (Kept.refl _ _).grown hgb (fun k hk _ => .inl hk)
     have S44 : Hid (w.heap.size + 1 ≤ u44.heap.size) := Nat.le_trans S43.out K44.out.size
     have R44 : Hid (Kept (Fr3 vA vT vV) u0 u44) := R43.out.trans K44.out
     have N44 : Hid (u44.cell? ⟨u1.heap.size,0,none⟩ = some (.bool false)) := K44.out.cellN Q43.out (new_apart HT0.out (R1.out.size))
     clear ho hgb hor
     refine norm_up (hK _ _ (Lr_early (by decide)  K44.out) ?_)
     refine tr_oneE fun K hK => ?_
     simp only [sel,ZmC,ZmN,ZgS,ZgZ]
     refine wpQuiet_nil ?_
     go_wp2_with (go_at_call 110;(with_reducible refine (CB.out _).mono ?_);rintro e u45 ⟨rfl,hgr⟩;have G45 := hid hgr;clear hgr)
     refine norm_up (hK _ _ (Lr_early (by decide)  G45.out.kept) ?_)
     have T45 := hid (T44.out.grow G45.out)
     have S45 : Hid (w.heap.size + 1 ≤ u45.heap.size) := Nat.le_trans S44.out G45.out.size
     have R45 : Hid (Kept (Fr3 vA vT vV) u0 u45) := R44.out.then G45.out (fun _ _ x => x.elim)
     have Q45 : Hid (u45.cell? ⟨u1.heap.size,0,none⟩ = some (.bool false)) := G45.out.cellN N44.out id
     refine tr_oneE fun K hK => ?_
     simp only [sel,ZmC,ZmN,ZgS,ZgZ]
     refine wpQuiet_nil ?_
     go_wp2
     refine norm_up (hK _ _ (Lr_early (by decide)  ((Kept.refl _ _).alloc _)) ?_)
     have G46 : Hid (Grow u45 (u45.alloc (.cells #[(.string (strOfNums (zeros 24)))] 9))) := (Kept.refl _ _).alloc _
     have N46 : Hid ((u45.alloc (.cells #[(.string (strOfNums (zeros 24)))] 9)).cell? ⟨u45.heap.size,0,none⟩ = some (.string (strOfNums (zeros 24)))) := cell_new1 _ _ _
     generalize u45.alloc (.cells #[(.string (strOfNums (zeros 24)))] 9) = u46 at G46 N46 ⊢
     have T46 := hid (T45.out.grow G46.out)
     have S46 : Hid (w.heap.size + 1 ≤ u46.heap.size) := Nat.le_trans S45.out G46.out.size
     have R46 : Hid (Kept (Fr3 vA vT vV) u0 u46) := R45.out.then G46.out (fun _ _ x => x.elim)
     have Q46 : Hid (u46.cell? ⟨u1.heap.size,0,none⟩ = some (.bool false)) := G46.out.cellN Q45.out id
     refine tr_oneE fun K hK => ?_
     simp only [sel,ZmC,ZmN,ZgS,ZgZ]
     refine wpQuiet_nil ?_
     go_wp2_with (at_builtin;refine wpList_append_lies _ rfl (.tmp 31) (.tmp 33) 47 rfl (w.heap.size + 1) 9 i0 (.string ⟨#[]⟩) 1 16 Tryz.underlying47 HI.out.1 HI.out.2.1 HI.out.2.2.1 HI.out.2.2.2 rfl (by decide) _ j (List.replicate j z0) rfl T46.out.t ⟨u45.heap.size,0,none⟩ 1 1 [z0] rfl rfl ?qa47 ?qb47 (by omega) ?qc47 ?qd47 ?qe47 _ rfl ?_)
     case qa47 => exact one_new N46.out
     case qb47 => exact one_cell rfl
     case qc47 => unfold maxLen;omega
     case qd47 => omega
     case qe47 => exact S46.out
     intro g47 c47 u47 ho hgb hor _
     have T47 := hid (T46.out.appT ho hgb hor)
     have K47 : Hid (Kept (Fr3 vA vT vV) u46 u47) := (Kept.refl _ _).grown hgb (fun k hk _ => .inr (.inl hk))
     have S47 : Hid (w.heap.size + 1 ≤ u47.heap.size) := Nat.le_trans S46.out K47.out.size
     have R47 : Hid (Kept (Fr3 vA vT vV) u0 u47) := R46.out.trans K47.out
     have N47 : Hid (u47.cell? ⟨u1.heap.size,0,none⟩ = some (.bool false)) := K47.out.cellN Q46.out (new_apart HT0.out (R1.out.size))
     clear ho hgb hor
     refine norm_up (hK _ _ (Lr_early (by decide)  K47.out) ?_)
     refine tr_oneE fun K hK => ?_
     simp only [sel,ZmC,ZmN,ZgS,ZgZ]
     refine wpQuiet_nil ?_
     go_wp2_with (at_builtin;refine wpList_append_lies _ rfl (.tmp 38) (.tmp 39) 46 rfl (w.heap.size + 1) 4 i1 (.bool false) 1 1 Tryz.underlying46 HJ.out.1 HJ.out.2.1 HJ.out.2.2.1 HJ.out.2.2.2 rfl (by decide) _ j (List.replicate j (Value.bool false)) rfl T47.out.v ⟨u1.heap.size,0,none⟩ 1 1 [(Value.bool false)] rfl rfl ?qa48 ?qb48 (by omega) ?qc48 ?qd48 ?qe48 _ rfl ?_)
     case qa48 => exact one_new N47.out
     case qb48 => exact one_cell rfl
     case qc48 => unfold maxLen;omega
     case qd48 => omega
     case qe48 => exact S47.out
     intro g48 c48 u48 ho hgb hor _
     have T48 := hid (T47.out.appV ho hgb hor)
     have K48 : Hid (Kept (Fr3 vA vT vV) u47 u48) := (Kept.refl _ _).grown hgb (fun k hk _ => .inr (.inr hk))
     have S48 : Hid (w.heap.size + 1 ≤ u48.heap.size) := Nat.le_trans S47.out K48.out.size
     have R48 : Hid (Kept (Fr3 vA vT vV) u0 u48) := R47.out.trans K48.out
     clear ho hgb hor
     refine norm_up (hK _ _ (Lr_early (by decide)  K48.out) ?_)
     have BM := hid (HB0.out.kept R48.out HFM.out)
     refine tr_oneL fun K hK => ?_
     simp only [sel,ZmC,ZmN,ZgS,ZgZ]
     repeat (go_big_quiet_step (fail))
     refine wpQuiet_nil ?_
     have e49 := BM.out.cell 0
     simp only [ZeZ] at e49
     have f49 := BM.out.frozen 0
     go_wp2
     refine norm_up (hK _ _ (Lr_late (by decide) ((kept_set _ _ _ _).mono fun _ _ e => .inr e)) ?_)
     have B49 := hid (BM.out.set 0 (Value.slice (some ⟨g44,0,none⟩) (j + 1) c44))
     simp only [List.set_cons_zero] at B49
     have T49 := hid (T48.out.set (m := w.heap.size) (i := 0) (x := (Value.slice (some ⟨g44,0,none⟩) (j + 1) c44)) (by omega))
     have R49 : Hid (Kept (fun k => Fr3 vA vT vV k ∨ k = w.heap.size) u0 (u48.setCell ⟨w.heap.size,0,none⟩ (Value.slice (some ⟨g44,0,none⟩) (j + 1) c44))) := (R48.out.mono fun _ _ x => .inl x).trans ((kept_set _ _ _ _).mono fun _ _ e => .inr e)
     clear e49 f49
     generalize u48.setCell ⟨w.heap.size,0,none⟩ (Value.slice (some ⟨g44,0,none⟩) (j + 1) c44) = u49 at B49 T49 R49 ⊢
     refine tr_oneL fun K hK => ?_
     simp only [sel,ZmC,ZmN,ZgS,ZgZ]
     repeat (go_big_quiet_step (fail))
     refine wpQuiet_nil ?_
     have e50 := B49.out.cell 1
     simp only [ZeZ,ZeS] at e50
     have f50 := B49.out.frozen 1
     go_wp2
     refine norm_up (hK _ _ (Lr_late (by decide) ((kept_set _ _ _ _).mono fun _ _ e => .inr e)) ?_)
     have B50 := hid (B49.out.set 1 (Value.slice (some ⟨g47,0,none⟩) (j + 1) c47))
     simp only [List.set_cons_zero,List.set_cons_succ] at B50
     have T50 := hid (T49.out.set (m := w.heap.size) (i := 1) (x := (Value.slice (some ⟨g47,0,none⟩) (j + 1) c47)) (by omega))
     have R50 : Hid (Kept (fun k => Fr3 vA vT vV k ∨ k = w.heap.size) u0 (u49.setCell ⟨w.heap.size,1,none⟩ (Value.slice (some ⟨g47,0,none⟩) (j + 1) c47))) := R49.out.trans ((kept_set _ _ _ _).mono fun _ _ e => .inr e)
     clear e50 f50
     generalize u49.setCell ⟨w.heap.size,1,none⟩ (Value.slice (some ⟨g47,0,none⟩) (j + 1) c47) = u50 at B50 T50 R50 ⊢
     refine tr_oneL fun K hK => ?_
     simp only [sel,ZmC,ZmN,ZgS,ZgZ]
     repeat (go_big_quiet_step (fail))
     refine wpQuiet_nil ?_
     have e51 := B50.out.cell 2
     simp only [ZeZ,ZeS] at e51
     have f51 := B50.out.frozen 2
     go_wp2
     refine norm_up (hK _ _ (Lr_late (by decide) ((kept_set _ _ _ _).mono fun _ _ e => .inr e)) ?_)
     have B51 := hid (B50.out.set 2 (Value.slice (some ⟨g48,0,none⟩) (j + 1) c48))
     simp only [List.set_cons_zero,List.set_cons_succ] at B51
     have T51 := hid (T50.out.set (m := w.heap.size) (i := 2) (x := (Value.slice (some ⟨g48,0,none⟩) (j + 1) c48)) (by omega))
     have R51 : Hid (Kept (fun k => Fr3 vA vT vV k ∨ k = w.heap.size) u0 (u50.setCell ⟨w.heap.size,2,none⟩ (Value.slice (some ⟨g48,0,none⟩) (j + 1) c48))) := R50.out.trans ((kept_set _ _ _ _).mono fun _ _ e => .inr e)
     clear e51 f51
     generalize u50.setCell ⟨w.heap.size,2,none⟩ (Value.slice (some ⟨g48,0,none⟩) (j + 1) c48) = u51 at B51 T51 R51 ⊢
     refine tr_lastL fun K hK => ?_
     simp only [sel,ZmN]
     refine wpQuiet_nil (hK _ ?_)
     have HFG : Hid (Grow w u51) := grow_of HW0.out R51.out HT0.out
     go_wp2
     go_roundg (N - (j + 1))
     case measure => have := HG.out;omega
     case rel => exact ⟨j + 1,_,_,_,by have := HG.out;omega,by go_num,B51.out,T51.out,HFG.out⟩
   ·clear hKa Ka
    go_wp2
    refine norm_up (hKb _ _ (Lr_early (by decide)  ((Kept.refl _ _).alloc _)) ?_)
    have G52 : Hid (Grow u0 (u0.alloc (.cells #[(.bool false)] 4))) := (Kept.refl _ _).alloc _
    have N52 : Hid ((u0.alloc (.cells #[(.bool false)] 4)).cell? ⟨u0.heap.size,0,none⟩ = some (.bool false)) := cell_new1 _ _ _
    generalize u0.alloc (.cells #[(.bool false)] 4) = u52 at G52 N52 ⊢
    have T52 := hid (HT0.out.grow G52.out)
    have S52 : Hid (w.heap.size + 1 ≤ u52.heap.size) := Nat.le_trans HS0.out G52.out.size
    have R52 : Hid (Kept (Fr3 vA vT vV) u0 u52) := HR00.out.then G52.out (fun _ _ x => x.elim)
    refine tr_oneE fun K hK => ?_
    simp only [sel,ZmC,ZmN,ZgS,ZgZ]
    refine wpQuiet_nil ?_
    go_wp2_with (go_at_call 110;(with_reducible refine (CB.out _).mono ?_);rintro e u53 ⟨rfl,hgr⟩;have G53 := hid hgr;clear hgr)
    refine norm_up (hK _ _ (Lr_early (by decide)  G53.out.kept) ?_)
    have T53 := hid (T52.out.grow G53.out)
    have S53 : Hid (w.heap.size + 1 ≤ u53.heap.size) := Nat.le_trans S52.out G53.out.size
    have R53 : Hid (Kept (Fr3 vA vT vV) u0 u53) := R52.out.then G53.out (fun _ _ x => x.elim)
    have Q53 : Hid (u53.cell? ⟨u0.heap.size,0,none⟩ = some (.bool false)) := G53.out.cellN N52.out id
    refine tr_oneE fun K hK => ?_
    simp only [sel,ZmC,ZmN,ZgS,ZgZ]
    refine wpQuiet_nil ?_
    go_wp2
    refine norm_up (hK _ _ (Lr_early (by decide)  ((Kept.refl _ _).alloc _)) ?_)
    have G54 : Hid (Grow u53 (u53.alloc (.cells #[(.string (strOfNums (zeros 24)))] 9))) := (Kept.refl _ _).alloc _
    have N54 : Hid ((u53.alloc (.cells #[(.string (strOfNums (zeros 24)))] 9)).cell? ⟨u53.heap.size,0,none⟩ = some (.string (strOfNums (zeros 24)))) := cell_new1 _ _ _
    generalize u53.alloc (.cells #[(.string (strOfNums (zeros 24)))] 9) = u54 at G54 N54 ⊢
    have T54 := hid (T53.out.grow G54.out)
    have S54 : Hid (w.heap.size + 1 ≤ u54.heap.size) := Nat.le_trans S53.out G54.out.size
    have R54 : Hid (Kept (Fr3 vA vT vV) u0 u54) := R53.out.then G54.out (fun _ _ x => x.elim)
    have Q54 : Hid (u54.cell? ⟨u0.heap.size,0,none⟩ = some (.bool false)) := G54.out.cellN Q53.out id
    refine tr_oneE fun K hK => ?_
    simp only [sel,ZmC,ZmN,ZgS,ZgZ]
    refine wpQuiet_nil ?_
    go_wp2_with (at_builtin;refine wpList_append_lies _ rfl (.tmp 24) (.tmp 26) 47 rfl (w.heap.size + 1) 9 i0 (.string ⟨#[]⟩) 1 16 Tryz.underlying47 HI.out.1 HI.out.2.1 HI.out.2.2.1 HI.out.2.2.2 rfl (by decide) _ j (List.replicate j z0) rfl T54.out.a ⟨u53.heap.size,0,none⟩ 1 1 [z0] rfl rfl ?qa55 ?qb55 (by omega) ?qc55 ?qd55 ?qe55 _ rfl ?_)
    case qa55 => exact one_new N54.out
    case qb55 => exact one_cell rfl
    case qc55 => unfold maxLen;omega
    case qd55 => omega
    case qe55 => exact S54.out
    intro g55 c55 u55 ho hgb hor _
    have T55 := hid (T54.out.appA ho hgb hor)
    have K55 : Hid (Kept (Fr3 vA vT vV) u54 u55) := (Kept.refl _ _).grown hgb (fun k hk _ => .inl hk)
    have S55 : Hid (w.heap.size + 1 ≤ u55.heap.size) := Nat.le_trans S54.out K55.out.size
    have R55 : Hid (Kept (Fr3 vA vT vV) u0 u55) := R54.out.trans K55.out
    have N55 : Hid (u55.cell? ⟨u0.heap.size,0,none⟩ = some (.bool false)) := K55.out.cellN Q54.out (new_apart HT0.out (HR00.out.size))
    clear ho hgb hor
    refine norm_up (hK _ _ (Lr_early (by decide)  K55.out) ?_)
    refine tr_oneE fun K hK => ?_
    simp only [sel,ZmC,ZmN,ZgS,ZgZ]
    refine wpQuiet_nil ?_
    go_wp2_with (go_at_call 110;(with_reducible refine (CB.out _).mono ?_);rintro e u56 ⟨rfl,hgr⟩;have G56 := hid hgr;clear hgr)
    refine norm_up (hK _ _ (Lr_early (by decide)  G56.out.kept) ?_)
    have T56 := hid (T55.out.grow G56.out)
    have S56 : Hid (w.heap.size + 1 ≤ u56.heap.size) := Nat.le_trans S55.out G56.out.size
    have R56 : Hid (Kept (Fr3 vA vT vV) u0 u56) := R55.out.then G56.out (fun _ _ x => x.elim)
    have Q56 : Hid (u56.cell? ⟨u0.heap.size,0,none⟩ = some (.bool false)) := G56.out.cellN N55.out id
    refine tr_oneE fun K hK => ?_
    simp only [sel,ZmC,ZmN,ZgS,ZgZ]
    refine wpQuiet_nil ?_
    go_wp2
    refine norm_up (hK _ _ (Lr_early (by decide)  ((Kept.refl _ _).alloc _)) ?_)
    have G57 : Hid (Grow u56 (u56.alloc (.cells #[(.string (strOfNums (zeros 24)))] 9))) := (Kept.refl _ _).alloc _
    have N57 : Hid ((u56.alloc (.cells #[(.string (strOfNums (zeros 24)))] 9)).cell? ⟨u56.heap.size,0,none⟩ = some (.string (strOfNums (zeros 24)))) := cell_new1 _ _ _
    generalize u56.alloc (.cells #[(.string (strOfNums (zeros 24)))] 9) = u57 at G57 N57 ⊢
    have T57 := hid (T56.out.grow G57.out)
    have S57 : Hid (w.heap.size + 1 ≤ u57.heap.size) := Nat.le_trans S56.out G57.out.size
    have R57 : Hid (Kept (Fr3 vA vT vV) u0 u57) := R56.out.then G57.out (fun _ _ x => x.elim)
    have Q57 : Hid (u57.cell? ⟨u0.heap.size,0,none⟩ = some (.bool false)) := G57.out.cellN Q56.out id
    refine tr_oneE fun K hK => ?_
    simp only [sel,ZmC,ZmN,ZgS,ZgZ]
    refine wpQuiet_nil ?_
    go_wp2_with (at_builtin;refine wpList_append_lies _ rfl (.tmp 31) (.tmp 33) 47 rfl (w.heap.size + 1) 9 i0 (.string ⟨#[]⟩) 1 16 Tryz.underlying47 HI.out.1 HI.out.2.1 HI.out.2.2.1 HI.out.2.2.2 rfl (by decide) _ j (List.replicate j z0) rfl T57.out.t ⟨u56.heap.size,0,none⟩ 1 1 [z0] rfl rfl ?qa58 ?qb58 (by omega) ?qc58 ?qd58 ?qe58 _ rfl ?_)
    case qa58 => exact one_new N57.out
    case qb58 => exact one_cell rfl
    case qc58 => unfold maxLen;omega
    case qd58 => omega
    case qe58 => exact S57.out
    intro g58 c58 u58 ho hgb hor _
    have T58 := hid (T57.out.appT ho hgb hor)
    have K58 : Hid (Kept (Fr3 vA vT vV) u57 u58) := (Kept.refl _ _).grown hgb (fun k hk _ => .inr (.inl hk))
    have S58 : Hid (w.heap.size + 1 ≤ u58.heap.size) := Nat.le_trans S57.out K58.out.size
    have R58 : Hid (Kept (Fr3 vA vT vV) u0 u58) := R57.out.trans K58.out
    have N58 : Hid (u58.cell? ⟨u0.heap.size,0,none⟩ = some (.bool false)) := K58.out.cellN Q57.out (new_apart HT0.out (HR00.out.size))
    clear ho hgb hor
    refine norm_up (hK _ _ (Lr_early (by decide)  K58.out) ?_)
    refine tr_oneE fun K hK => ?_
    simp only [sel,ZmC,ZmN,ZgS,ZgZ]
    refine wpQuiet_nil ?_
    go_wp2_with (at_builtin;refine wpList_append_lies _ rfl (.tmp 38) (.tmp 39) 46 rfl (w.heap.size + 1) 4 i1 (.bool false) 1 1 Tryz.underlying46 HJ.out.1 HJ.out.2.1 HJ.out.2.2.1 HJ.out.2.2.2 rfl (by decide) _ j (List.replicate j (Value.bool false)) rfl T58.out.v ⟨u0.heap.size,0,none⟩ 1 1 [(Value.bool false)] rfl rfl ?qa59 ?qb59 (by omega) ?qc59 ?qd59 ?qe59 _ rfl ?_)
    case qa59 => exact one_new N58.out
    case qb59 => exact one_cell rfl
    case qc59 => unfold maxLen;omega
    case qd59 => omega
    case qe59 => exact S58.out
    intro g59 c59 u59 ho hgb hor _
    have T59 := hid (T58.out.appV ho hgb hor)
    have K59 : Hid (Kept (Fr3 vA vT vV) u58 u59) := (Kept.refl _ _).grown hgb (fun k hk _ => .inr (.inr hk))
    have S59 : Hid (w.heap.size + 1 ≤ u59.heap.size) := Nat.le_trans S58.out K59.out.size
    have R59 : Hid (Kept (Fr3 vA vT vV) u0 u59) := R58.out.trans K59.out
    clear ho hgb hor
    refine norm_up (hK _ _ (Lr_early (by decide)  K59.out) ?_)
    have BM := hid (HB0.out.kept R59.out HFM.out)
    refine tr_oneL fun K hK => ?_
    simp only [sel,ZmC,ZmN,ZgS,ZgZ]
    repeat (go_big_quiet_step (fail))
    refine wpQuiet_nil ?_
    have e60 := BM.out.cell 0
    simp only [ZeZ] at e60
    have f60 := BM.out.frozen 0
    go_wp2
    refine norm_up (hK _ _ (Lr_late (by decide) ((kept_set _ _ _ _).mono fun _ _ e => .inr e)) ?_)
    have B60 := hid (BM.out.set 0 (Value.slice (some ⟨g55,0,none⟩) (j + 1) c55))
    simp only [List.set_cons_zero] at B60
    have T60 := hid (T59.out.set (m := w.heap.size) (i := 0) (x := (Value.slice (some ⟨g55,0,none⟩) (j + 1) c55)) (by omega))
    have R60 : Hid (Kept (fun k => Fr3 vA vT vV k ∨ k = w.heap.size) u0 (u59.setCell ⟨w.heap.size,0,none⟩ (Value.slice (some ⟨g55,0,none⟩) (j + 1) c55))) := (R59.out.mono fun _ _ x => .inl x).trans ((kept_set _ _ _ _).mono fun _ _ e => .inr e)
    clear e60 f60
    generalize u59.setCell ⟨w.heap.size,0,none⟩ (Value.slice (some ⟨g55,0,none⟩) (j + 1) c55) = u60 at B60 T60 R60 ⊢
    refine tr_oneL fun K hK => ?_
    simp only [sel,ZmC,ZmN,ZgS,ZgZ]
    repeat (go_big_quiet_step (fail))
    refine wpQuiet_nil ?_
    have e61 := B60.out.cell 1
    simp only [ZeZ,ZeS] at e61
    have f61 := B60.out.frozen 1
    go_wp2
    refine norm_up (hK _ _ (Lr_late (by decide) ((kept_set _ _ _ _).mono fun _ _ e => .inr e)) ?_)
    have B61 := hid (B60.out.set 1 (Value.slice (some ⟨g58,0,none⟩) (j + 1) c58))
    simp only [List.set_cons_zero,List.set_cons_succ] at B61
    have T61 := hid (T60.out.set (m := w.heap.size) (i := 1) (x := (Value.slice (some ⟨g58,0,none⟩) (j + 1) c58)) (by omega))
    have R61 : Hid (Kept (fun k => Fr3 vA vT vV k ∨ k = w.heap.size) u0 (u60.setCell ⟨w.heap.size,1,none⟩ (Value.slice (some ⟨g58,0,none⟩) (j + 1) c58))) := R60.out.trans ((kept_set _ _ _ _).mono fun _ _ e => .inr e)
    clear e61 f61
    generalize u60.setCell ⟨w.heap.size,1,none⟩ (Value.slice (some ⟨g58,0,none⟩) (j + 1) c58) = u61 at B61 T61 R61 ⊢
    refine tr_oneL fun K hK => ?_
    simp only [sel,ZmC,ZmN,ZgS,ZgZ]
    repeat (go_big_quiet_step (fail))
    refine wpQuiet_nil ?_
    have e62 := B61.out.cell 2
    simp only [ZeZ,ZeS] at e62
    have f62 := B61.out.frozen 2
    go_wp2
    refine norm_up (hK _ _ (Lr_late (by decide) ((kept_set _ _ _ _).mono fun _ _ e => .inr e)) ?_)
    have B62 := hid (B61.out.set 2 (Value.slice (some ⟨g59,0,none⟩) (j + 1) c59))
    simp only [List.set_cons_zero,List.set_cons_succ] at B62
    have T62 := hid (T61.out.set (m := w.heap.size) (i := 2) (x := (Value.slice (some ⟨g59,0,none⟩) (j + 1) c59)) (by omega))
    have R62 : Hid (Kept (fun k => Fr3 vA vT vV k ∨ k = w.heap.size) u0 (u61.setCell ⟨w.heap.size,2,none⟩ (Value.slice (some ⟨g59,0,none⟩) (j + 1) c59))) := R61.out.trans ((kept_set _ _ _ _).mono fun _ _ e => .inr e)
    clear e62 f62
    generalize u61.setCell ⟨w.heap.size,2,none⟩ (Value.slice (some ⟨g59,0,none⟩) (j + 1) c59) = u62 at B62 T62 R62 ⊢
    refine tr_lastL fun K hK => ?_
    simp only [sel,ZmN]
    refine wpQuiet_nil (hK _ ?_)
    have HFG : Hid (Grow w u62) := grow_of HW0.out R62.out HT0.out
    go_wp2
    go_roundg (N - (j + 1))
    case measure => have := HG.out;omega
    case rel => exact ⟨j + 1,_,_,_,by have := HG.out;omega,by go_num,B62.out,T62.out,HFG.out⟩
  ·have hjN : j = N := by omega
   subst hjN
   have HFIN : Hid (∃ r : Rf,r.m = w.heap.size ∧ RefAt wr r (newS j) ∧ ∀ k,POwn r k → w.heap.size ≤ k) := by
    obtain ⟨A,cA,hA1,hA2,hA3⟩ : ∃ A c,vA = .slice (some ⟨A,0,none⟩) j c ∧ w.heap.size + 1 ≤ A ∧ Row wr A j fun _ => z0 := row_of htri.a (by omega)
    obtain ⟨T,cT,hT1,hT2,hT3⟩ : ∃ A c,vT = .slice (some ⟨A,0,none⟩) j c ∧ w.heap.size + 1 ≤ A ∧ Row wr A j fun _ => z0 := row_of htri.t (by omega)
    obtain ⟨V,cV,hV1,hV2,hV3⟩ : ∃ A c,vV = .slice (some ⟨A,0,none⟩) j c ∧ w.heap.size + 1 ≤ A ∧ Row wr A j fun _ => .bool false := row_of htri.v (by omega)
    have d1 := htri.at_ A (by rw [hA1];rfl)
    have d2 := htri.av A (by rw [hA1];rfl)
    have d3 := htri.tv T (by rw [hT1];rfl)
    rw [hT1] at d1
    rw [hV1] at d2 d3
    have e1 : A ≠ T := fun e => d1 (by rw [e];rfl)
    have e2 : A ≠ V := fun e => d2 (by rw [e];rfl)
    have e3 : T ≠ V := fun e => d3 (by rw [e];rfl)
    rw [hA1,hT1,hV1] at hblk
    refine ⟨⟨w.heap.size,A,T,V,cA,cT,cV⟩,rfl,⟨fun _ => zeros 24,⟨hblk,hA3,hT3,hV3,⟨by show w.heap.size ≠ A;omega,by show w.heap.size ≠ T;omega,by show w.heap.size ≠ V;omega,e1,e2,e3⟩,⟨h1,h48⟩,fun p _ => ⟨zeros_len 24,zeros_len 24⟩⟩,fun _ p _ => rfl⟩,fun k hk => ?_⟩
    rcases hk with hk | hk | hk | hk
    ·have hk' : k = w.heap.size := hk
     omega
    ·have hk' : k = A := hk
     omega
    ·have hk' : k = T := hk
     omega
    ·have hk' : k = V := hk
     omega
   clear hblk htri hgr hg
   go_wp2
   go_ret
   obtain ⟨r,hm,hr,hk⟩ := HFIN.out
   exact ⟨r,by rw [hm];rfl,hr,hk,HGR.out⟩
end RefN
namespace Plays
open Go.ChangeShapes Go.WideShapes Go.ChangeAt Go.RowKit
open SumM Mem Blk PageM Str Dev LibC DevC DevM DevY DevN DevS RefD RefM RefY RefN Stages
section
variable {w : World} {d D W : Nat} {G : Nat → Prop} {S : Dv}
theorem dwrite_any (h : DevAt w d D W G S) (p : Int) (A : Option Addr) (n cap B : Nat) (zs : List Int) (hlo : -9223372036854775808 ≤ p) (hhi : p < 9223372036854775808) (hm : n ≤ maxLen) (hs : ∀ w',Kept (Own d D W) w w' → Sl w' B .u8 A n zs) (hz : Bytes zs) (low : ∀ x,G x → x < w.heap.size)
  (hn : (S.n : Int) < 9223372036854775807) (hb : (S.bad : Int) < 9223372036854775807) :
  Calls Tryz.prog 155 #[.pointer (some ⟨d,0,none⟩),.int .i64 p,.slice A n cap] w (DevPost d D W G w (.int .i64 (writeC S p n)) (writeS S p zs)) := by
 have hl := (hs w (Kept.refl _ _)).len
 by_cases hc : writeC S p n = 0
 ·have hh : hasI S p = true ∧ n = 24 := by
   unfold writeC at hc
   cases hh : hasI S p with
   | false => rw [hh,Bool.false_and,if_neg (by decide)] at hc;exact absurd hc (by decide)
   | true =>
    rw [hh] at hc
    by_cases e : n = 24
    ·exact ⟨rfl,e⟩
    ·rw [show (n == 24) = false by simpa using e,Bool.and_false,if_neg (by decide)] at hc;exact absurd hc (by decide)
  obtain ⟨hh,rfl⟩ := hh
  have ha : accC S = 0 := by unfold writeC at hc;rw [hh] at hc;exact hc
  have hp0 : 0 ≤ p := by unfold hasI at hh;simp at hh;omega
  obtain ⟨k,rfl⟩ := Int.eq_ofNat_of_zero_le hp0
  have hk := hasI_nat hh
  have hws : writeS S (k : Int) zs = putS (accS S) k zs := by
   unfold writeS;rw [hh,hl]
   show (if accC S = 0 then putS (accS S) k zs else accS S) = _
   rw [if_pos ha]
  rw [hc,hws]
  exact write_good h k hk A cap B zs hs hz low hn hb ha
 ·have hws : writeS S p zs = badS S p n := by
   unfold writeS badS
   rw [hl]
   unfold writeC at hc
   split
   ·rename_i hx
    rw [hx] at hc
    have hc' : accC S ≠ 0 := hc
    rw [if_neg hc']
   ·rfl
  rw [hws]
  exact write_bad h p A n cap hlo hhi hm hn hb hc
theorem dsync_any (h : DevAt w d D W G S) (hn : (S.n : Int) < 9223372036854775807) (hb : (S.bad : Int) < 9223372036854775807) :
  Calls Tryz.prog 104 #[.pointer (some ⟨d,0,none⟩)] w (DevPost d D W G w (.int .i64 (accC S)) (syncS S)) := by
 by_cases hc : accC S = 0
 ·have hs : syncS S = flushS (accS S) := by unfold syncS;rw [if_pos hc]
  rw [hs]
  have := sync_good h hn hb hc
  rw [hc]
  exact this
 ·have hs : syncS S = accS S := by unfold syncS;rw [if_neg hc]
  rw [hs]
  exact sync_bad h hn hb hc
end
section
variable {w1 w w' : World} {d D W : Nat} {G : Nat → Prop} {r : Rf} {Sd Sr S' : Dv}
end
end Plays
namespace MdR
open Go.ChangeShapes Go.WideShapes Go.ChangeAt Go.RowKit
open Mem Blk Cells Orow GrC Txt MdM MdC Stages
open HdM (lst hnd cnt sum lst_eq hnd_at hnd_none hnd_cases cnt_yes cnt_no cnt_le sum_le)
section
variable {w w' : World} {G F X : Nat → Prop} {v : Value} {gT cT gB cB gH cH : Nat} {q cp : Nat → Nat} {a : Md}
theorem free_cases (a : Md) (k : Nat) : a.free k = -1 ∨ ∃ j : Nat,j < 6 ∧ a.free k = (j : Int) := by
 rcases hnd_cases (a.H k) 6 with ⟨e,_⟩ | ⟨j,hj,e,_⟩
 ·exact .inl e
 ·exact .inr ⟨j,hj,e⟩
theorem give_any (h : SAt w G v a) {k j p : Nat} (hk : k < a.N) (hf : a.free k = (j : Int)) (hp : p < a.n) (hT : a.T p = true) : Calls Tryz.prog 113 #[v,.int .i64 (k : Int),.int .i64 (p : Int)] w fun e w' => e = .returned (.int .i64 (j : Int)) ∧ SAt w' G v (a.putH k j p) ∧ Kept G w w' := by
 obtain ⟨gT,cT,gB,cB,gH,cH,q,cp,rfl,hm⟩ := h.mem
 have HGD := hid (h.good.putH k j (p := (p : Int)) (.inr ⟨p,rfl,hp,hT⟩))
 unfold sval
 have HC := hid (hm.client hk)
 have HG0 : Hid (Grow w (w.alloc (.cells #[.slice (some ⟨gT,0,none⟩) a.n cT,.slice (some ⟨gB,0,none⟩) a.n cB,.slice (some ⟨gH,0,none⟩) a.N cH] 50))) := (Kept.refl _ _).alloc _
 have HM := hid (hm.kept HG0.out fun _ _ x => x)
 have HLO := hid fun (j : Nat) (hj : j < 6) => h.good.lo hk hj
 have HK := hid hk
 have HF := hid hf
 have hkz : (k : Int) < (a.N : Int) := by omega
 clear hm h hk hf hp hT
 go_enter Tryz.func113,Tryz.ntmps113
 go_upto_region 1 with (fail)
 generalize w.alloc (.cells #[.slice (some ⟨gT,0,none⟩) a.n cT,.slice (some ⟨gB,0,none⟩) a.n cB,.slice (some ⟨gH,0,none⟩) a.N cH] 50) = w0 at HC HG0 HM ⊢
 generalize w.heap.size = s at HC ⊢
 have s2 := HC.out.s2
 have sl := HC.out.sl
 go_wp2
 go_loopg [7] 6 (fun gx i wr => ∃ t : Nat,t + gx = 6 ∧ i = .int .i64 (t : Int) ∧ w0 = wr ∧ ∀ x,x < t → a.H k x ≠ -1)
 case atStart => exact ⟨0,by omega,rfl,rfl,fun t h => absurd h (Nat.not_lt_zero t)⟩
 case round =>
  obtain ⟨t,hg,rfl,rfl,hno⟩ := hrel
  have HG := hid hg
  have HNO := hid hno
  clear hg hno
  by_cases ht : t < 6
  ·have htz : (t : Int) < 6 := by omega
   have r1 := hcell_get HC.out.row ht
   have rf := HC.out.row.frozen t
   have hlo := HLO.out t ht
   by_cases hx : a.H k t = -1
   ·have e1 : (t : Int) = (j : Int) := (hnd_at HNO.out ht hx).symm.trans HF.out
    have e2 : t = j := by omega
    subst e2
    rw [hx] at r1
    have HS : Hid (SM (w0.setCell ⟨q k,t,none⟩ (.int .i64 (p : Int))) G gT cT gB cB gH cH q cp (a.putH k t p)) := HM.out.putH HK.out t p
    have HQ := hid (HM.out.qG k HK.out)
    clear hx hlo ht e1
    go_wp2
    go_ret
    exact ⟨rfl,⟨HGD.out,gT,cT,gB,cB,gH,cH,q,cp,rfl,HS.out⟩,HG0.out.kept.trans ((kept_set w0 (q k) t _).mono fun x _ e => by rw [e];exact HQ.out)⟩
   ·have hx0 : 0 ≤ a.H k t := by omega
    have HX := hid hx
    clear hx hlo ht
    generalize a.H k t = x at r1 hx0
    go_wp2
    go_roundg (gk - 1)
    case measure => have := HG.out;omega
    case rel => exact ⟨t + 1,by have := HG.out;omega,by go_num,rfl,fun y hy => by
     by_cases e : y = t
     ·subst e;exact HX.out
     ·exact HNO.out y (by omega)⟩
  ·have ht6 : t = 6 := by have := HG.out;omega
   subst ht6
   have e1 : hnd (a.H k) 6 = -1 := hnd_none HNO.out
   have e2 : a.free k = -1 := e1
   have := HF.out
   omega
def pinsTo (a : Md) (p : Int) (m : Nat) : Nat := if p < 0 then 0 else sum (a.has p) m
def pinsAt (a : Md) (p : Int) (m t : Nat) : Nat := if p < 0 then 0 else sum (a.has p) m + cnt (a.H m) p t
theorem pinsAt_zero (a : Md) (p : Int) (m : Nat) : pinsAt a p m 0 = pinsTo a p m := by unfold pinsAt pinsTo;split <;> rfl
theorem pinsAt_six (a : Md) (p : Int) (m : Nat) : pinsAt a p m 6 = pinsTo a p (m + 1) := by unfold pinsAt pinsTo;split <;> rfl
theorem pinsAt_yes {a : Md} {p : Int} {m t : Nat} (h : a.H m t = p) (h0 : 0 ≤ p) : pinsAt a p m (t + 1) = pinsAt a p m t + 1 := by
 unfold pinsAt
 rw [if_neg (by omega),if_neg (by omega),cnt_yes h]
 omega
theorem pinsAt_no {a : Md} {p : Int} {m t : Nat} (h : a.H m t ≠ p ∨ p < 0) : pinsAt a p m (t + 1) = pinsAt a p m t := by
 unfold pinsAt
 by_cases h0 : p < 0
 ·rw [if_pos h0,if_pos h0]
 ·rw [if_neg h0,if_neg h0,cnt_no (h.resolve_right h0)]
theorem pinsAt_le {a : Md} (g : MdM.Good a) (p : Int) {m t : Nat} (hm : m < a.N) (ht : t ≤ 6) : pinsAt a p m t ≤ 42 := by
 unfold pinsAt
 have e1 := sum_le (g := a.has p) (b := 6) (fun i => cnt_le _ _ _) m
 have e2 := cnt_le (a.H m) p t
 have := g.N
 split <;> omega
set_option maxHeartbeats 2000000 in
theorem pins_any (h : SAt w G v a) (p : Int) : Calls Tryz.prog 114 #[v,.int .i64 p] w fun e w' => e = .returned (.int .i64 (a.pins p : Int)) ∧ Grow w w' := by
 obtain ⟨gT,cT,gB,cB,gH,cH,q,cp,rfl,hm⟩ := h.mem
 unfold sval
 have HG0 : Hid (Grow w (w.alloc (.cells #[.slice (some ⟨gT,0,none⟩) a.n cT,.slice (some ⟨gB,0,none⟩) a.n cB,.slice (some ⟨gH,0,none⟩) a.N cH] 50))) := (Kept.refl _ _).alloc _
 have HCL := hid fun (k : Nat) (hk : k < a.N) => hm.client hk
 have HGD := hid h.good
 have hnz : (a.N : Int) ≤ 6 := by have := HGD.out.N;omega
 have HEND : Hid (pinsTo a p a.N = a.pins p) := rfl
 have hN0 := HGD.out.N.1
 have s2 := (hm.client (k := 0) (by omega)).s2
 clear h hm hN0
 go_enter Tryz.func114,Tryz.ntmps114
 go_upto_region 1 with (fail)
 generalize w.alloc (.cells #[.slice (some ⟨gT,0,none⟩) a.n cT,.slice (some ⟨gB,0,none⟩) a.n cB,.slice (some ⟨gH,0,none⟩) a.N cH] 50) = w0 at HCL HG0 s2 ⊢
 generalize w.heap.size = s at HCL s2 ⊢
 go_wp2
 go_loopg [5,6] a.N (fun gx s i wr => ∃ j : Nat,j + gx = a.N ∧ i = .int .i64 (j : Int) ∧ s = .int .i64 ((pinsTo a p j : Nat) : Int) ∧ w0 = wr)
 case atStart => exact ⟨0,by omega,rfl,by unfold pinsTo;split <;> rfl,rfl⟩
 case round =>
  obtain ⟨j,hg,rfl,rfl,rfl⟩ := hrel
  have HG := hid hg
  clear hg
  by_cases hj : j < a.N
  ·have hjz : (j : Int) < (a.N : Int) := by omega
   have c1 := (HCL.out j hj).sl
   have HROW := hid (HCL.out j hj).row
   have HJ := hid hj
   clear hj
   generalize q j = b at c1 HROW
   generalize cp j = c at c1 HROW
   go_wp2
   go_loopg [5,7] 6 (fun gx s i wr => ∃ t : Nat,t + gx = 6 ∧ i = .int .i64 (t : Int) ∧ s = .int .i64 ((pinsAt a p j t : Nat) : Int) ∧ w0 = wr)
   case atStart => exact ⟨0,by omega,rfl,by rw [pinsAt_zero],rfl⟩
   case round =>
    obtain ⟨t,hg,rfl,rfl,rfl⟩ := hrel
    have HT := hid hg
    clear hg
    by_cases ht : t < 6
    ·have htz : (t : Int) < 6 := by omega
     have r1 := hcell_get HROW.out ht
     have hs42 : ((pinsAt a p j t : Nat) : Int) ≤ 42 := by have := pinsAt_le HGD.out p HJ.out (show t ≤ 6 by omega);omega
     have HY := hid fun h => pinsAt_yes (a := a) (p := p) (m := j) (t := t) h
     have HX := hid fun h => pinsAt_no (a := a) (p := p) (m := j) (t := t) h
     generalize a.H j t = x at r1 HY HX
     by_cases hx : x = p
     ·by_cases h0 : p < 0
      ·have hc := HX.out (.inr h0)
       have HC := hid hc
       clear hc HY HX
       subst hx
       go_wp2
       go_roundg (gk - 1)
       case measure => have := HT.out;omega
       case rel => exact ⟨t + 1,by have := HT.out;omega,by go_num,by rw [HC.out],rfl⟩
      ·have h1 : 0 ≤ p := by omega
       have hc := HY.out hx h1
       have HC := hid hc
       clear hc HY HX h0
       subst hx
       go_wp2
       go_roundg (gk - 1)
       case measure => have := HT.out;omega
       case rel => exact ⟨t + 1,by have := HT.out;omega,by go_num,by rw [HC.out];go_num,rfl⟩
     ·have hc := HX.out (.inl hx)
      have HC := hid hc
      have hx' : (x == p) = false := by simpa using hx
      clear hc HY HX hx
      go_wp2
      go_roundg (gk - 1)
      case measure => have := HT.out;omega
      case rel => exact ⟨t + 1,by have := HT.out;omega,by go_num,by rw [HC.out],rfl⟩
    ·obtain rfl : t = 6 := by have := HT.out;omega
     have hsix := hid (pinsAt_six a p j)
     clear ht
     go_wp2
     go_roundg (a.N - (j + 1))
     case measure => have := HG.out;have := HJ.out;omega
     case rel => exact ⟨j + 1,by have := HG.out;have := HJ.out;omega,by go_num,by rw [hsix.out],rfl⟩
  ·obtain rfl : j = a.N := by have := HG.out;omega
   rw [HEND.out]
   go_wp2
   go_ret
   exact ⟨rfl,HG0.out⟩
end
end MdR
end Go.Proofs.YtbnkpnllgoghnaaGreat
