/-
  A region that draws its order, more: where two operations that act may come up at once (each is walked), and where late operations turn what early ones have read. No program is named here.
-/
import Derived.Test.YtaehiglpoapkpaaDoorStages
namespace Go.Proofs.YtaehiglpoapkpaaDoor.Trees
open Go Go.Proofs.YtaehiglpoapkpaaDoor.Stages

/-- The order in which a region is walked: what looks first (e: it need not bear what late operations do), then what acts. -/
inductive Tr
  | last (e : Bool) (q : List Nat)
  | look (e : Bool) (q : List Nat) (t : Tr)
  | one (e : Bool) (q : List Nat) (c : Nat) (t : Tr)
  | two (e : Bool) (q : List Nat) (c1 : Nat) (t1 : Tr) (c2 : Nat) (t2 : Tr)

section
variable {P : Program} {ops : Array Oper} {R R' : World → World → Prop} {late : List Nat}

/-- What an operation may do. -/
def Lr (late : List Nat) (R R' : World → World → Prop) (c : Nat) : World → World → Prop := if late.contains c then R' else R
/-- What an operation that looks must bear. -/
def Er (e : Bool) (R R' : World → World → Prop) : World → World → Prop := if e then R else R'

def wpAnyL (P : Program) (ops : Array Oper) (L : Nat → World → World → Prop) (Qn : Act → World → Prop) : Nat → Array Bool → Act → World → Prop
  | 0, listed, a, w => Region.ready .any ops listed = [] ∧ Qn a w
  | fuel + 1, listed, a, w =>
    (Region.ready .any ops listed = [] → Qn a w) ∧
    ∀ i ∈ Region.ready .any ops listed, wpOp P ops (Norm fun _ _ => False) i (fun a' w' => L i w w' ∧ wpAnyL P ops L Qn fuel (listed.setIfInBounds i true) a' w') a w

theorem wpAny_of_L {L : Nat → World → World → Prop} {Q : Exit → Act → World → Prop} : ∀ (fuel : Nat) (listed : Array Bool) (a : Act) (w : World), wpAnyL P ops L (Q .normal) fuel listed a w → wpAny P .any ops Q fuel listed a w
  | 0, _, _, _, h => h
  | fuel + 1, _, _, _, h => ⟨h.1, fun i hi => wpOp_turn (fun _ _ _ hh => hh.elim) (fun ⟨_, _, hh⟩ => hh.elim) (wpOp_mono (fun a' w' hh => wpAny_of_L fuel _ a' w' hh.2) (h.2 i hi))⟩

theorem wpAnyL_first {L : Nat → World → World → Prop} {Ri : World → World → Prop} {Qn : Act → World → Prop} {i : Nat} {oi : Oper} {v : Value} (hr : ∀ a, Ri a a) (hl : ∀ j a, L j a a) (ht : ∀ a b c, Ri a b → Ri b c → Ri a c) (hi : ops[i]? = some oi) (hsel : ∀ (j : Nat) (o : Oper) cs b, ops[j]? = some o → o.op ≠ .select cs b) :
    ∀ (fuel : Nat) (listed : Array Bool) (a : Act) (w : World),
      (∀ j oj, ops[j]? = some oj → j ≠ i → listed.getD j true = false → (∀ e ∈ oj.after, Region.binds .any e = true → e.on ≠ i) → oi.apart ops oj = true ∧ ∀ u u', L j u u' → Ri u u') →
      i ∈ Region.ready .any ops listed → SureIn P ops Ri oi v a w →
      wpAnyL P ops L Qn fuel (listed.setIfInBounds i true) (a.put oi.dst v) w → wpAnyL P ops L Qn (fuel + 1) listed a w := by
  intro fuel
  induction fuel with
  | zero =>
    intro listed a w _ hrd hy H
    refine ⟨fun h => (by rw [h] at hrd; cases hrd), fun j hj => ?_⟩
    by_cases hji : j = i
    · subst hji; exact hy.wpOp hr hi ⟨hl j w, H⟩
    · have := ready_mono hj hji
      rw [H.1] at this
      cases this
  | succ fuel ih =>
    intro listed a w hfree hrd hy H
    refine ⟨fun h => (by rw [h] at hrd; cases hrd), fun j hj => ?_⟩
    by_cases hji : j = i
    · subst hji; exact hy.wpOp hr hi ⟨hl j w, H⟩
    · have h1 := H.2 j (ready_mono hj hji)
      obtain ⟨hjun, oj, hoj, hall⟩ := mem_ready.1 hj
      have hnot : ∀ e ∈ oj.after, Region.binds .any e = true → e.on ≠ i := fun e he hb heq => by
        have h1 := hall e he hb
        have h0 := (mem_ready.1 hrd).1
        rw [heq] at h1
        rcases Nat.lt_or_ge i listed.size with h' | h'
        · simp [h'] at h0 h1; rw [h0] at h1; cases h1
        · simp [Array.getElem?_eq_none h'] at h1
      obtain ⟨hap, hsub⟩ := hfree j oj hoj hji hjun hnot
      have h1' : wpOp P ops (Norm fun _ _ => False) j (fun a' w' => Ri w w' ∧ (L j w w' ∧ wpAnyL P ops L Qn fuel ((listed.setIfInBounds i true).setIfInBounds j true) a' w')) (a.put oi.dst v) w := wpOp_mono (fun _ _ hk => ⟨hsub _ _ hk.1, hk⟩) h1
      have h2 := wpOp_putR (K := fun a' w' => L j w w' ∧ wpAnyL P ops L Qn fuel ((listed.setIfInBounds i true).setIfInBounds j true) a' w') ht hoj hap (fun cs b => hsel i oi cs b hi) (fun cs b => hsel j oj cs b hoj) hy h1'
      have hfree' : ∀ k ok, ops[k]? = some ok → k ≠ i → (listed.setIfInBounds j true).getD k true = false →
          (∀ e ∈ ok.after, Region.binds .any e = true → e.on ≠ i) → oi.apart ops ok = true ∧ ∀ u u', L k u u' → Ri u u' := fun k ok hk hki hun hno => by
        refine hfree k ok hk hki ?_ hno
        by_cases hjk : j = k
        · subst hjk; exact hjun
        · rw [getD_set_ne true hjk] at hun; exact hun
      refine wpOp_mono (fun a' w' h3 => ⟨h3.2.2.1, ih (listed.setIfInBounds j true) a' w' hfree' (ready_mono hrd (Ne.symm hji)) h3.1 ?_⟩) h2
      rw [Array.setIfInBounds_comm _ _ hji]
      exact h3.2.2.2

/-- Every late operation that is still to come waits for these. -/
def earlyB (ops : Array Oper) (late : List Nat) (e : Bool) (q : List Nat) : Bool :=
  !e || q.all fun i => late.all fun j => match ops[j]? with | some o => o.after.any fun x => Region.binds .any x && x.on == i | none => true
def trB (ops : Array Oper) (late : List Nat) : Tr → Array Bool → Bool
  | .last e q, listed => quietB ops q listed && earlyB ops late e q && (Region.ready .any ops (listAll q listed)).isEmpty
  | .look e q t, listed => quietB ops q listed && earlyB ops late e q && trB ops late t (listAll q listed)
  | .one e q c t, listed => quietB ops q listed && earlyB ops late e q && Region.ready .any ops (listAll q listed) == [c] && trB ops late t ((listAll q listed).setIfInBounds c true)
  | .two e q c1 t1 c2 t2, listed => quietB ops q listed && earlyB ops late e q && Region.ready .any ops (listAll q listed) == [c1, c2] && trB ops late t1 ((listAll q listed).setIfInBounds c1 true) && trB ops late t2 ((listAll q listed).setIfInBounds c2 true)
def trFuel : Tr → Nat
  | .last _ q => q.length
  | .look _ q t => q.length + trFuel t
  | .one _ q _ t => q.length + (trFuel t + 1)
  | .two _ q _ t1 _ _ => q.length + (trFuel t1 + 1)
def trEven : Tr → Bool
  | .last _ _ => true
  | .look _ _ t => trEven t
  | .one _ _ _ t => trEven t
  | .two _ _ _ t1 _ t2 => trEven t1 && trEven t2 && trFuel t1 == trFuel t2

/-- What is to be shown. -/
def wpTr (P : Program) (ops : Array Oper) (late : List Nat) (R R' : World → World → Prop) (Qn : Act → World → Prop) : Tr → Act → World → Prop
  | .last e q, a, w => wpQuiet P ops (Cls (Er e R R') w) (fun a' => Qn a' w) (sel ops q) a
  | .look e q t, a, w => wpQuiet P ops (Cls (Er e R R') w) (fun a' => wpTr P ops late R R' Qn t a' w) (sel ops q) a
  | .one e q c t, a, w => wpQuiet P ops (Cls (Er e R R') w) (fun a' => wpList P ops (Norm fun a'' w'' => Lr late R R' c w w'' ∧ wpTr P ops late R R' Qn t a'' w'') (sel ops [c]) a' w) (sel ops q) a
  | .two e q c1 t1 c2 t2, a, w => wpQuiet P ops (Cls (Er e R R') w) (fun a' => wpList P ops (Norm fun a'' w'' => Lr late R R' c1 w w'' ∧ wpTr P ops late R R' Qn t1 a'' w'') (sel ops [c1]) a' w ∧ wpList P ops (Norm fun a'' w'' => Lr late R R' c2 w w'' ∧ wpTr P ops late R R' Qn t2 a'' w'') (sel ops [c2]) a' w) (sel ops q) a

theorem quiet_walkL {L : Nat → World → World → Prop} {Ri : World → World → Prop} {Qn : Act → World → Prop} (hr : ∀ a, Ri a a) (hl : ∀ j a, L j a a) (ht : ∀ a b c, Ri a b → Ri b c → Ri a c) (hs : Region.noSelect ops = true) (n : Nat) (w : World) :
    ∀ (l : List Nat) (listed : Array Bool) (a : Act), quietB ops l listed = true →
    (∀ i ∈ l, ∀ j oj, ops[j]? = some oj → (∀ e ∈ oj.after, Region.binds .any e = true → e.on ≠ i) → ∀ u u', L j u u' → Ri u u') →
    wpQuiet P ops (Cls Ri w) (fun a' => wpAnyL P ops L Qn n (listAll l listed) a' w) (sel ops l) a → wpAnyL P ops L Qn (l.length + n) listed a w
  | [], listed, a, _, _, h => by simpa [sel, wpQuiet, listAll] using h
  | k :: l, listed, a, hB, hsub, h => by
    simp only [quietB, Bool.and_eq_true] at hB
    obtain ⟨⟨⟨hrd, hf⟩, hp⟩, hB'⟩ := hB
    cases ho : ops[k]? with
    | none => rw [ho] at hp; cases hp
    | some o =>
      rw [ho] at hp
      have hp' : plain o.op = true := hp
      have hsel : sel ops (k :: l) = o :: sel ops l := sel_cons ho _
      rw [hsel] at h
      have e : (k :: l).length + n = (l.length + n) + 1 := by simp only [List.length_cons]; omega
      rw [e]
      have key : ∃ v, SureIn P ops Ri o v a w ∧ wpQuiet P ops (Cls Ri w) (fun a' => wpAnyL P ops L Qn n (listAll l (listed.setIfInBounds k true)) a' w) (sel ops l) (a.put o.dst v) := by
        unfold wpQuiet at h
        by_cases hw : Region.wanted o (yielded ops a.tmps) = true
        · rw [if_pos hw] at h
          obtain ⟨v, h1, h2⟩ := h
          refine ⟨v, .inl ⟨hw, fun w' hR => ?_⟩, h2⟩
          have h3 := h1 w' (cls_of hR)
          unfold Oper.quietAt at h3
          unfold SureAt
          cases hrun : (execOp a.eval o).run P w' with
          | ok x w1 =>
            obtain ⟨u, rfl⟩ := plain_run hp' hrun
            rw [hrun] at h3
            simp only [Oper.quietUpon] at h3
            rw [h3.1, h3.2]
          | halt x w1 => rw [hrun] at h3; simp only [Oper.quietUpon] at h3
        · rw [if_neg hw] at h
          exact ⟨undef, .inr ⟨by simpa using hw, rfl⟩, h⟩
      obtain ⟨v, hy, hK⟩ := key
      exact wpAnyL_first hr hl ht ho (Region.noSelect_spec hs) (l.length + n) listed a w (fun j oj hoj hji hun hno => ⟨Region.free_spec ho hf j oj hoj hji hun hno, hsub k (List.mem_cons_self ..) j oj hoj hno⟩) (by simpa using hrd) hy
        (quiet_walkL hr hl ht hs n w l _ _ hB' (fun i hi => hsub i (List.mem_cons_of_mem _ hi)) hK)

theorem early_spec {e : Bool} {q : List Nat} (h : earlyB ops late e q = true) (hsub : ∀ a b, R a b → R' a b) : ∀ i ∈ q, ∀ j oj, ops[j]? = some oj → (∀ x ∈ oj.after, Region.binds .any x = true → x.on ≠ i) → ∀ u u', Lr late R R' j u u' → Er e R R' u u' := by
  intro i hi j oj hoj hno u u' hL
  unfold Lr at hL
  unfold Er
  cases e with
  | false =>
    simp only [Bool.false_eq_true, if_false]
    split at hL
    · exact hL
    · exact hsub _ _ hL
  | true =>
    simp only [if_true]
    split at hL
    · rename_i hc
      exfalso
      simp only [earlyB, Bool.not_true, Bool.false_or, List.all_eq_true] at h
      have h1 := h i hi j (by simpa using hc)
      rw [hoj] at h1
      obtain ⟨x, hx, hb⟩ := Array.any_eq_true'.1 h1
      simp only [Bool.and_eq_true, beq_iff_eq] at hb
      exact hno x hx hb.1 hb.2
    · exact hL

theorem tr_walk {Qn : Act → World → Prop} (hr : ∀ a, R a a) (ht : ∀ a b c, R a b → R b c → R a c) (hr' : ∀ a, R' a a) (ht' : ∀ a b c, R' a b → R' b c → R' a c) (hsub : ∀ a b, R a b → R' a b) (hs : Region.noSelect ops = true) :
    ∀ (t : Tr) (listed : Array Bool) (a : Act) (w : World), trB ops late t listed = true → trEven t = true → wpTr P ops late R R' Qn t a w → wpAnyL P ops (Lr late R R') Qn (trFuel t) listed a w := by
  have er : ∀ e a, Er e R R' a a := fun e a => by cases e <;> simp [Er, hr, hr']
  have et : ∀ e a b c, Er e R R' a b → Er e R R' b c → Er e R R' a c := fun e a b c => by
    cases e
    · exact ht' a b c
    · exact ht a b c
  have hl : ∀ j a, Lr late R R' j a a := fun j a => by unfold Lr; split <;> first | exact hr' a | exact hr a
  -- one operation that acts, at the list of them alone
  have act : ∀ (i : Nat) (rs : List Nat) (listed : Array Bool) (a : Act) (w : World) (t : Tr), i ∈ Region.ready .any ops listed →
      (∀ (a : Act) (w : World), wpTr P ops late R R' Qn t a w → wpAnyL P ops (Lr late R R') Qn (trFuel t) (listed.setIfInBounds i true) a w) →
      wpList P ops (Norm fun a'' w'' => Lr late R R' i w w'' ∧ wpTr P ops late R R' Qn t a'' w'') (sel ops [i]) a w →
      wpOp P ops (Norm fun _ _ => False) i (fun a' w' => Lr late R R' i w w' ∧ wpAnyL P ops (Lr late R R') Qn (trFuel t) (listed.setIfInBounds i true) a' w') a w := by
    intro i rs listed a w t hmem hgo ha
    obtain ⟨o, ho, _⟩ := (mem_ready.1 hmem).2
    have hsel : sel ops [i] = [o] := sel_cons ho _
    rw [hsel] at ha
    unfold wpOp
    simp only [ho]
    unfold wpList at ha
    split
    · rename_i hw
      rw [if_pos hw] at ha
      rcases ha with ha | ⟨_, hlo⟩
      · refine .inl ?_
        have h1 := Oper.wp_mono (K' := fun a' w' => Lr late R R' i w w' ∧ wpAnyL P ops (Lr late R R') Qn (trFuel t) (listed.setIfInBounds i true) a' w') (fun a'' w'' (hk : wpList P ops (Norm fun a'' w'' => Lr late R R' i w w'' ∧ wpTr P ops late R R' Qn t a'' w'') [] a'' w'') => ⟨hk.1, hgo a'' w'' hk.2⟩) ha
        exact upon_turn (fun _ _ _ hh => hh.elim) (fun ⟨_, _, hh⟩ => hh.elim) h1
      · exact (norm_lets hlo).elim
    · rename_i hw
      rw [if_neg hw] at ha
      have hk : Lr late R R' i w w ∧ _ := ha
      exact ⟨hk.1, hgo _ _ hk.2⟩
  intro t
  induction t with
  | last e q =>
    intro listed a w hB _ h
    simp only [trB, Bool.and_eq_true] at hB
    have := quiet_walkL (Qn := Qn) (er e) hl (et e) hs 0 w q listed a hB.1.1 (early_spec hB.1.2 hsub) (wpQuiet_mono (fun a' ha' => ⟨by simpa using hB.2, ha'⟩) _ _ h)
    simpa [trFuel] using this
  | look e q t ih =>
    intro listed a w hB hE h
    simp only [trB, Bool.and_eq_true] at hB
    exact quiet_walkL (Qn := Qn) (er e) hl (et e) hs _ w q listed a hB.1.1 (early_spec hB.1.2 hsub) (wpQuiet_mono (fun a' ha' => ih _ a' w hB.2 hE ha') _ _ h)
  | one e q c t ih =>
    intro listed a w hB hE h
    simp only [trB, Bool.and_eq_true, beq_iff_eq] at hB
    obtain ⟨⟨⟨hq, he⟩, hc⟩, hrest⟩ := hB
    refine quiet_walkL (Qn := Qn) (er e) hl (et e) hs _ w q listed a hq (early_spec he hsub) (wpQuiet_mono (fun a' ha' => ?_) _ _ h)
    refine ⟨(fun h0 => by rw [hc] at h0; cases h0), fun i hi => ?_⟩
    have hi0 := hi
    rw [hc] at hi
    have hic : i = c := by simpa using hi
    subst hic
    exact act i [] _ a' w t hi0 (fun a'' w'' hk => ih _ a'' w'' hrest hE hk) ha'
  | two e q c1 t1 c2 t2 ih1 ih2 =>
    intro listed a w hB hE h
    simp only [trB, Bool.and_eq_true, beq_iff_eq] at hB
    obtain ⟨⟨⟨⟨hq, he⟩, hc⟩, hrest1⟩, hrest2⟩ := hB
    simp only [trEven, Bool.and_eq_true, beq_iff_eq] at hE
    obtain ⟨⟨hE1, hE2⟩, hEE⟩ := hE
    refine quiet_walkL (Qn := Qn) (er e) hl (et e) hs _ w q listed a hq (early_spec he hsub) (wpQuiet_mono (fun a' ha' => ?_) _ _ h)
    refine ⟨(fun h0 => by rw [hc] at h0; cases h0), fun i hi => ?_⟩
    have hi0 := hi
    rw [hc] at hi
    have hic : i = c1 ∨ i = c2 := by simpa using hi
    rcases hic with rfl | rfl
    · exact act i [] _ a' w t1 hi0 (fun a'' w'' hk => ih1 _ a'' w'' hrest1 hE1 hk) ha'.1
    · rw [hEE]
      exact act i [] _ a' w t2 hi0 (fun a'' w'' hk => ih2 _ a'' w'' hrest2 hE2 hk) ha'.2
end

/-- **The walk along a tree of orders serves every order.** -/
theorem wp_region_tree {P : Program} {id : Nat} {Q : Exit → Act → World → Prop} {a : Act} {w : World} {l : List Oper} (R R' : World → World → Prop) (hr : ∀ a, R a a) (ht : ∀ a b c, R a b → R b c → R a c) (hr' : ∀ a, R' a a) (ht' : ∀ a b c, R' a b → R' b c → R' a c) (hsub : ∀ a b, R a b → R' a b)
    (late : List Nat) (t : Tr) (hm : P.follows .mixedOrders = true) (hB : (Region.noSelect l.toArray && trB l.toArray late t (Array.replicate l.length false) && trEven t && trFuel t == l.length) = true)
    (h : wpTr P l.toArray late R R' (fun a' w' => Q .normal a' w') t a w.drew) : (Code.region id l.toArray true).wp P Q a w := by
  simp only [Bool.and_eq_true, beq_iff_eq] at hB
  obtain ⟨⟨⟨hs, hb⟩, he⟩, hf⟩ := hB
  refine wp_region_any hm (wpAny_of_L (L := Lr late R R') _ _ _ _ ?_)
  have := tr_walk (P := P) (Qn := fun a' w' => Q .normal a' w') hr ht hr' ht' hsub hs t _ a _ hb he h
  rw [hf] at this
  simpa using this
section
variable {P : Program} {ops : Array Oper} {R R' : World → World → Prop} {late : List Nat} {Qn : Act → World → Prop} {a : Act} {w : World}
theorem Lr_early {c : Nat} {w w' : World} (hc : late.contains c = false) (h : R w w') : Lr late R R' c w w' := by unfold Lr; rw [hc]; exact h
theorem Lr_late {c : Nat} {w w' : World} (hc : late.contains c = true) (h : R' w w') : Lr late R R' c w w' := by unfold Lr; rw [hc]; exact h
theorem tr_last {e : Bool} {q : List Nat} (h : ∀ K : Act → Prop, (∀ a', Qn a' w → K a') → wpQuiet P ops (fun w' => ∃ p : Up (Er e R R') w, w' = p.u) K (sel ops q) a) : wpTr P ops late R R' Qn (.last e q) a w := h _ fun _ h => h
theorem tr_one {e : Bool} {q : List Nat} {c : Nat} {t : Tr}
    (h : ∀ K : Act → World → Prop, (∀ a'' w'', Lr late R R' c w w'' → wpTr P ops late R R' Qn t a'' w'' → K a'' w'') → wpQuiet P ops (fun w' => ∃ p : Up (Er e R R') w, w' = p.u) (fun a' => wpList P ops (Norm K) (sel ops [c]) a' w) (sel ops q) a) : wpTr P ops late R R' Qn (.one e q c t) a w :=
  h _ fun _ _ h1 h2 => ⟨h1, h2⟩
theorem tr_two {e : Bool} {q : List Nat} {c1 c2 : Nat} {t1 t2 : Tr}
    (h : ∀ K1 : Act → World → Prop, (∀ a'' w'', Lr late R R' c1 w w'' → wpTr P ops late R R' Qn t1 a'' w'' → K1 a'' w'') → ∀ K2 : Act → World → Prop, (∀ a'' w'', Lr late R R' c2 w w'' → wpTr P ops late R R' Qn t2 a'' w'' → K2 a'' w'') →
      wpQuiet P ops (fun w' => ∃ p : Up (Er e R R') w, w' = p.u) (fun a' => wpList P ops (Norm K1) (sel ops [c1]) a' w ∧ wpList P ops (Norm K2) (sel ops [c2]) a' w) (sel ops q) a) : wpTr P ops late R R' Qn (.two e q c1 t1 c2 t2) a w :=
  h _ (fun _ _ h1 h2 => ⟨h1, h2⟩) _ (fun _ _ h1 h2 => ⟨h1, h2⟩)
theorem tr_oneE {q : List Nat} {c : Nat} {t : Tr}
    (h : ∀ K : Act → World → Prop, (∀ a'' w'', Lr late R R' c w w'' → wpTr P ops late R R' Qn t a'' w'' → K a'' w'') → wpQuiet P ops (fun w' => ∃ p : Up R w, w' = p.u) (fun a' => wpList P ops (Norm K) (sel ops [c]) a' w) (sel ops q) a) : wpTr P ops late R R' Qn (.one true q c t) a w :=
  tr_one (e := true) h
theorem tr_oneL {q : List Nat} {c : Nat} {t : Tr}
    (h : ∀ K : Act → World → Prop, (∀ a'' w'', Lr late R R' c w w'' → wpTr P ops late R R' Qn t a'' w'' → K a'' w'') → wpQuiet P ops (fun w' => ∃ p : Up R' w, w' = p.u) (fun a' => wpList P ops (Norm K) (sel ops [c]) a' w) (sel ops q) a) : wpTr P ops late R R' Qn (.one false q c t) a w :=
  tr_one (e := false) h
theorem tr_lastL {q : List Nat} (h : ∀ K : Act → Prop, (∀ a', Qn a' w → K a') → wpQuiet P ops (fun w' => ∃ p : Up R' w, w' = p.u) K (sel ops q) a) : wpTr P ops late R R' Qn (.last false q) a w := tr_last (e := false) h
theorem tr_lookE {q : List Nat} {t : Tr} (h : ∀ K : Act → Prop, (∀ a', wpTr P ops late R R' Qn t a' w → K a') → wpQuiet P ops (fun w' => ∃ p : Up R w, w' = p.u) K (sel ops q) a) : wpTr P ops late R R' Qn (.look true q t) a w := h _ fun _ h => h
theorem tr_lookL {q : List Nat} {t : Tr} (h : ∀ K : Act → Prop, (∀ a', wpTr P ops late R R' Qn t a' w → K a') → wpQuiet P ops (fun w' => ∃ p : Up R' w, w' = p.u) K (sel ops q) a) : wpTr P ops late R R' Qn (.look false q t) a w := h _ fun _ h => h
theorem tr_twoE {q : List Nat} {c1 c2 : Nat} {t1 t2 : Tr}
    (h : ∀ K1 : Act → World → Prop, (∀ a'' w'', Lr late R R' c1 w w'' → wpTr P ops late R R' Qn t1 a'' w'' → K1 a'' w'') → ∀ K2 : Act → World → Prop, (∀ a'' w'', Lr late R R' c2 w w'' → wpTr P ops late R R' Qn t2 a'' w'' → K2 a'' w'') →
      wpQuiet P ops (fun w' => ∃ p : Up R w, w' = p.u) (fun a' => wpList P ops (Norm K1) (sel ops [c1]) a' w ∧ wpList P ops (Norm K2) (sel ops [c2]) a' w) (sel ops q) a) : wpTr P ops late R R' Qn (.two true q c1 t1 c2 t2) a w :=
  tr_two (e := true) h
end
#print axioms wp_region_tree
end Go.Proofs.YtaehiglpoapkpaaDoor.Trees
