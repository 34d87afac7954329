/-
  A region that draws its order: walked in ONE order of the prover's choice, in which every operation that acts (a call, a store, an allocation) comes up alone, and every operation that only looks has one value in all worlds that may follow. No program is named here.
-/
import Derived.Orders
import Derived.Deep.Quiet
import Derived.Deep.QuietTactic
import Derived.BigQuiet
namespace Go.Proofs.Ytabmefffeafifaa.Stages
open Go

/-- A world that may follow w. -/
structure Up (R : World → World → Prop) (w : World) where
  u : World
  h : R w u

/-- The worlds that may follow w. -/
abbrev Cls (R : World → World → Prop) (w : World) : World → Prop := fun w' => ∃ p : Up R w, w' = p.u

theorem cls_of {R : World → World → Prop} {w w' : World} (h : R w w') : Cls R w w' := ⟨⟨w', h⟩, rfl⟩

/-- Operations that only look. -/
def plain : Op → Bool
  | .move _ | .assign _ | .pick .. | .load .. | .binOp .. | .unOp .. | .convert .. | .slice .. | .indexAddr .. | .fieldAddr .. | .field .. | .index .. | .extract .. | .lookup .. | .nilCheck .. | .build .. => true
  | .call { callee := .builtin .len, .. } | .call { callee := .builtin .cap, .. } | .call { callee := .builtin .min, .. } | .call { callee := .builtin .max, .. } => true
  | _ => false

theorem run_v {P : Program} {w : World} {s : Sem Value} {n : Next} {w' : World} (h : (do pure (Next.value (← s)) : Sem Next).run P w = .ok n w') : ∃ v, n = .value v := by
  simp only [Sem.run_bind] at h
  cases hs : s.run P w with
  | ok v w1 => rw [hs] at h; simp only [Result.andThen_ok, Sem.run_pure] at h; injection h with h1 h2; exact ⟨v, h1.symm⟩
  | halt x w1 => rw [hs] at h; simp [Result.andThen] at h

/-- A run that yields a value, if it comes to its end. -/
def Vals (P : Program) (s : Sem Next) : Prop := ∀ w n w', s.run P w = .ok n w' → ∃ v, n = .value v
theorem Vals.pure {P : Program} (v : Value) : Vals P (Pure.pure (Next.value v)) := fun w n w' h => by
  simp only [Sem.run_pure] at h; injection h with h1 h2; exact ⟨v, h1.symm⟩
theorem Vals.bind {P : Program} {α : Type} {s : Sem α} {f : α → Sem Next} (h : ∀ x, Vals P (f x)) : Vals P (s >>= f) := fun w n w' hr => by
  simp only [Sem.run_bind] at hr
  cases hs : s.run P w with
  | ok v w1 => rw [hs] at hr; simp only [Result.andThen_ok] at hr; exact h v _ _ _ hr
  | halt x w1 => rw [hs] at hr; simp [Result.andThen] at hr
theorem Vals.dies {P : Program} : Vals P (runtimePanic .nilDeref) := fun w n w' h => by
  simp [runtimePanic, goPanic] at h

theorem plain_run {P : Program} {o : Oper} {ρ : Operand → Value} (hp : plain o.op = true) {w w' : World} {n : Next} (h : (execOp ρ o).run P w = .ok n w') : ∃ v, n = .value v := by
  obtain ⟨dst, op, type, pos, after, guard⟩ := o
  cases op
  case move x => simp only [execOp, Sem.run_pure] at h; injection h with h1 h2; exact ⟨_, h1.symm⟩
  case assign x => simp only [execOp, Sem.run_pure] at h; injection h with h1 h2; exact ⟨_, h1.symm⟩
  case pick c a b =>
    simp only [execOp, Sem.run_bind] at h
    cases hs : (asBool (ρ c)).run P w with
    | ok v w1 => rw [hs] at h; simp only [Result.andThen_ok, Sem.run_pure] at h; injection h with h1 h2; exact ⟨_, h1.symm⟩
    | halt x w1 => rw [hs] at h; simp [Result.andThen] at h
  case nilCheck x =>
    simp only [execOp] at h
    revert h
    suffices hv : Vals P _ from fun h => hv _ _ _ h
    split
    · exact Vals.dies
    · exact Vals.dies
    · exact Vals.dies
    · split
      · exact Vals.dies
      · refine Vals.bind fun _ => Vals.bind fun r => ?_
        split
        · exact Vals.bind fun _ => Vals.pure _
        · exact Vals.pure _
      · exact Vals.pure _
    · exact Vals.pure _
  case call c =>
    obtain ⟨callee, args, argTypes⟩ := c
    cases callee with
    | builtin b =>
      cases b <;> first
        | (exfalso; revert hp; simp [plain]; done)
        | (simp only [execOp, resolve, invoke, builtin, Sem.run_bind, Sem.run_pure, Result.andThen_ok] at h
           generalize (Sem.run P _ w) = r at h
           cases r with
           | ok v w1 => simp only [Result.andThen_ok] at h; injection h with h1 h2; exact ⟨_, h1.symm⟩
           | halt x w1 => simp [Result.andThen] at h)
    | value f => exfalso; revert hp; simp [plain]
    | invoke r m => exfalso; revert hp; simp [plain]
  all_goals first
    | (exfalso; revert hp; simp [plain]; done)
    | (simp only [execOp] at h; exact run_v h)

/-- In the world w the operation yields v and leaves w. -/
def SureAt (P : Program) (o : Oper) (a : Act) (w : World) (v : Value) : Prop := (execOp a.eval o).run P w = .ok (.value v) w

def SureIn (P : Program) (ops : Array Oper) (R : World → World → Prop) (o : Oper) (v : Value) (a : Act) (w : World) : Prop :=
  (Region.wanted o (yielded ops a.tmps) = true ∧ ∀ w', R w w' → SureAt P o a w' v) ∨ (Region.wanted o (yielded ops a.tmps) = false ∧ v = undef)

/-- The post of an operation that must come to its end. -/
def Norm (K : Act → World → Prop) : Exit → Act → World → Prop
  | .normal, a, w => K a w
  | _, _, _ => False

theorem norm_lets {K : Act → World → Prop} : ¬ LetsOut (Norm K) := fun ⟨_, _, h⟩ => h

section
variable {P : Program} {ops : Array Oper} {R : World → World → Prop}

/-- Whatever order is picked from here on. -/
def wpAnyR (P : Program) (ops : Array Oper) (R : World → World → Prop) (Qn : Act → World → Prop) : Nat → Array Bool → Act → World → Prop
  | 0, listed, a, w => Region.ready .any ops listed = [] ∧ Qn a w
  | fuel + 1, listed, a, w =>
    (Region.ready .any ops listed = [] → Qn a w) ∧
    ∀ i ∈ Region.ready .any ops listed, wpOp P ops (Norm fun _ _ => False) i (fun a' w' => R w w' ∧ wpAnyR P ops R Qn fuel (listed.setIfInBounds i true) a' w') a w

theorem upon_turn {o : Oper} {a : Act} {K : Act → World → Prop} {Q Q' : Exit → Act → World → Prop} {r : Result Next}
    (hp : ∀ c a w, Q (.panic c) a w → Q' (.panic c) a w) (ho : LetsOut Q → LetsOut Q') (h : o.upon P a K Q r) : o.upon P a K Q' r := by
  cases r with
  | ok n w' =>
    cases n <;> simp only [Oper.upon] at h ⊢ <;> first
      | exact h
      | exact h.elim
      | exact Calls.mono h (fun e w'' he => by cases e <;> first | exact he | exact hp _ _ _ he | exact ho he)
  | halt x w' => cases x <;> simp only [Oper.upon] at h ⊢ <;> first | exact hp _ _ _ h | exact h.elim

theorem wpOp_turn {i : Nat} {a : Act} {w : World} {K : Act → World → Prop} {Q Q' : Exit → Act → World → Prop}
    (hp : ∀ c a w, Q (.panic c) a w → Q' (.panic c) a w) (ho : LetsOut Q → LetsOut Q') (h : wpOp P ops Q i K a w) : wpOp P ops Q' i K a w := by
  unfold wpOp at *
  split
  · simpa [*] using h
  · rename_i o ho'
    simp only [ho'] at h
    split
    · rename_i hw
      simp only [hw, if_true] at h
      exact h.imp (upon_turn hp ho) (fun hh => ⟨hh.1, ho hh.2⟩)
    · rename_i hw
      simp only [hw] at h
      exact h

theorem wpAny_of_R {Q : Exit → Act → World → Prop} : ∀ (fuel : Nat) (listed : Array Bool) (a : Act) (w : World), wpAnyR P ops R (Q .normal) fuel listed a w → wpAny P .any ops Q fuel listed a w
  | 0, _, _, _, h => h
  | fuel + 1, _, _, _, h => ⟨h.1, fun i hi => wpOp_turn (fun _ _ _ hh => hh.elim) (fun ⟨_, _, hh⟩ => hh.elim) (wpOp_mono (fun a' w' hh => wpAny_of_R fuel _ a' w' hh.2) (h.2 i hi))⟩

theorem SureIn.of_same {o : Oper} {v : Value} {a a' : Act} {w w' : World} (ht : ∀ a b c, R a b → R b c → R a c) (hy : SureIn P ops R o v a w) (hR : R w w') (he : execOp a'.eval o = execOp a.eval o)
    (hw : Region.wanted o (yielded ops a'.tmps) = Region.wanted o (yielded ops a.tmps)) : SureIn P ops R o v a' w' := by
  unfold SureIn SureAt at *
  rw [he, hw]
  exact hy.imp (fun h => ⟨h.1, fun u hu => h.2 u (ht _ _ _ hR hu)⟩) id

theorem SureIn.wpOp {i : Nat} {o : Oper} {v : Value} {a : Act} {w : World} (hr : ∀ a, R a a) (hi : ops[i]? = some o) (hy : SureIn P ops R o v a w) {K : Act → World → Prop} {Q : Exit → Act → World → Prop} (h : K (a.put o.dst v) w) : wpOp P ops Q i K a w := by
  unfold Go.wpOp
  simp only [hi]
  rcases hy with ⟨hw, hv⟩ | ⟨hw, rfl⟩
  · have hv' := hv w (hr w)
    unfold SureAt at hv'
    simp only [hw, if_true, Oper.wp, hv', Oper.upon]
    exact .inl h
  · simp only [hw, Bool.false_eq_true, if_false]; exact h

theorem wpOp_putR {j : Nat} {oi oj : Oper} {v : Value} (ht : ∀ a b c, R a b → R b c → R a c) (hj : ops[j]? = some oj) (hap : oi.apart ops oj = true)
    (hsi : ∀ cs b, oi.op ≠ .select cs b) (hsj : ∀ cs b, oj.op ≠ .select cs b) {K : Act → World → Prop} {a : Act} {w : World}
    (hy : SureIn P ops R oi v a w) (h : wpOp P ops (Norm fun _ _ => False) j (fun a' w' => R w w' ∧ K a' w') (a.put oi.dst v) w) :
    wpOp P ops (Norm fun _ _ => False) j (fun a' w' => SureIn P ops R oi v a' w' ∧ R w w' ∧ K (a'.put oi.dst v) w') a w := by
  obtain ⟨h1, h2, h3⟩ := Oper.apart_spec hap
  have keep : ∀ (u : Value) (w' : World), R w w' → SureIn P ops R oi v (a.put oj.dst u) w' := fun u w' hR =>
    hy.of_same ht hR (execOp_put oi hsi a oj.dst u h3) (wanted_put oi a oj.dst u h3)
  have keepD : ∀ (d : Deferred) (u : Value) (w' : World), R w w' → SureIn P ops R oi v ({ a with defers := d :: a.defers }.put oj.dst u) w' := fun d u w' hR => by
    have h0 : SureIn P ops R oi v { a with defers := d :: a.defers } w := hy
    exact h0.of_same ht hR (execOp_put oi hsi { a with defers := d :: a.defers } oj.dst u h3) (wanted_put oi { a with defers := d :: a.defers } oj.dst u h3)
  have hl : ¬ LetsOut (Norm fun _ _ => False) := norm_lets
  unfold Go.wpOp at *
  simp only [hj] at *
  rw [wanted_put oj a oi.dst v h1] at h
  split
  · rename_i hw
    simp only [hw, if_true] at h
    rcases h with h | ⟨hasks, hlets⟩
    case inr => exact (hl hlets).elim
    refine .inl ?_
    unfold Oper.wp at *
    rw [execOp_put oj hsj a oi.dst v h1] at h
    generalize (execOp a.eval oj).run P w = r at *
    cases r with
    | ok n w' =>
      cases n <;> simp only [Oper.upon] at h ⊢
      case value u => exact ⟨keep u _ h.1, h.1, by rw [← Act.put_comm a v u h2]; exact h.2⟩
      case skip => exact ⟨keep _ _ h.1, h.1, by rw [← Act.put_comm a v undef h2]; exact h.2⟩
      case defer d => exact ⟨keepD d _ _ h.1, h.1, by rw [← Act.put_comm _ v undef h2, ← Act.put_defers]; exact h.2⟩
      case enter f args =>
        refine Calls.mono h (fun e w'' he => ?_)
        cases e with
        | returned u => exact ⟨keep u _ he.1, he.1, by rw [← Act.put_comm a v u h2]; exact he.2⟩
        | panicked c => exact he
        | outgrown => exact (hl he).elim
      case row row args => exact Rows.mono h (fun u w'' he => ⟨keep u _ he.1, he.1, by rw [← Act.put_comm a v u h2]; exact he.2⟩)
      all_goals exact h.elim
    | halt x w' => cases x <;> simp only [Oper.upon] at h ⊢ <;> exact h
  · rename_i hw
    simp only [hw] at h
    exact ⟨keep _ _ h.1, h.1, by rw [← Act.put_comm a v undef h2]; exact h.2⟩

theorem wpAnyR_first {Qn : Act → World → Prop} {i : Nat} {oi : Oper} {v : Value} (hr : ∀ a, R a a) (ht : ∀ a b c, R a b → R b c → R a c) (hi : ops[i]? = some oi) (hsel : ∀ (j : Nat) (o : Oper) cs b, ops[j]? = some o → o.op ≠ .select cs b) :
    ∀ (fuel : Nat) (listed : Array Bool) (a : Act) (w : World),
      (∀ j oj, ops[j]? = some oj → j ≠ i → listed.getD j true = false → (∀ e ∈ oj.after, Region.binds .any e = true → e.on ≠ i) → oi.apart ops oj = true) →
      i ∈ Region.ready .any ops listed → SureIn P ops R oi v a w →
      wpAnyR P ops R Qn fuel (listed.setIfInBounds i true) (a.put oi.dst v) w → wpAnyR P ops R Qn (fuel + 1) listed a w := by
  intro fuel
  induction fuel with
  | zero =>
    intro listed a w _ hrd hy H
    refine ⟨fun h => (by rw [h] at hrd; cases hrd), fun j hj => ?_⟩
    by_cases hji : j = i
    · subst hji; exact hy.wpOp hr hi ⟨hr w, H⟩
    · have := ready_mono hj hji
      rw [H.1] at this
      cases this
  | succ fuel ih =>
    intro listed a w hfree hrd hy H
    refine ⟨fun h => (by rw [h] at hrd; cases hrd), fun j hj => ?_⟩
    by_cases hji : j = i
    · subst hji; exact hy.wpOp hr hi ⟨hr w, H⟩
    · have h1 := H.2 j (ready_mono hj hji)
      obtain ⟨hjun, oj, hoj, hall⟩ := mem_ready.1 hj
      have hnot : ∀ e ∈ oj.after, Region.binds .any e = true → e.on ≠ i := fun e he hb heq => by
        have h1 := hall e he hb
        have h0 := (mem_ready.1 hrd).1
        rw [heq] at h1
        rcases Nat.lt_or_ge i listed.size with h' | h'
        · simp [h'] at h0 h1; rw [h0] at h1; cases h1
        · simp [Array.getElem?_eq_none h'] at h1
      have h2 := wpOp_putR ht hoj (hfree j oj hoj hji hjun hnot) (fun cs b => hsel i oi cs b hi) (fun cs b => hsel j oj cs b hoj) hy h1
      have hfree' : ∀ k ok, ops[k]? = some ok → k ≠ i → (listed.setIfInBounds j true).getD k true = false →
          (∀ e ∈ ok.after, Region.binds .any e = true → e.on ≠ i) → oi.apart ops ok = true := fun k ok hk hki hun hno => by
        refine hfree k ok hk hki ?_ hno
        by_cases hjk : j = k
        · subst hjk; exact hjun
        · rw [getD_set_ne true hjk] at hun; exact hun
      refine wpOp_mono (fun a' w' h3 => ⟨h3.2.1, ih (listed.setIfInBounds j true) a' w' hfree' (ready_mono hrd (Ne.symm hji)) h3.1 ?_⟩) h2
      rw [Array.setIfInBounds_comm _ _ hji]
      exact h3.2.2

/-! ### The walk -/

/-- The operations of these places. -/
def sel (ops : Array Oper) (l : List Nat) : List Oper := l.map fun k => ops.toList.getD k default
theorem sel_cons {ops : Array Oper} {k : Nat} {o : Oper} (h : ops[k]? = some o) (l : List Nat) : sel ops (k :: l) = o :: sel ops l := by
  have e : ops.toList.getD k default = o := by rw [List.getD_eq_getElem?_getD, Array.getElem?_toList, h]; rfl
  show ops.toList.getD k default :: _ = _
  rw [e]; rfl
def selSt (ops : Array Oper) (l : List (List Nat × Nat)) : List (List Oper × List Oper) := l.map fun (q, c) => (sel ops q, sel ops [c])

def wpSt (P : Program) (ops : Array Oper) (R : World → World → Prop) (Qn : Act → World → Prop) (last : List Oper) : List (List Oper × List Oper) → Act → World → Prop
  | [], a, w => wpQuiet P ops (fun w' => ∃ p : Up R w, w' = p.u) (fun a' => Qn a' w) last a
  | (q, c) :: rest, a, w => wpQuiet P ops (fun w' => ∃ p : Up R w, w' = p.u) (fun a' => wpList P ops (Norm fun a'' w'' => R w w'' ∧ wpSt P ops R Qn last rest a'' w'') c a' w) q a

/-- The Bool over a list of operations that only look: each may come up, and what else may come up is apart from it. -/
def quietB (ops : Array Oper) : List Nat → Array Bool → Bool
  | [], _ => true
  | k :: l, listed => (Region.ready .any ops listed).contains k && Region.free .any ops listed k && (match ops[k]? with | some o => plain o.op | none => false) && quietB ops l (listed.setIfInBounds k true)
def listAll : List Nat → Array Bool → Array Bool
  | [], listed => listed
  | k :: l, listed => listAll l (listed.setIfInBounds k true)
def stB (ops : Array Oper) (last : List Nat) : List (List Nat × Nat) → Array Bool → Bool
  | [], listed => quietB ops last listed && (Region.ready .any ops (listAll last listed)).isEmpty
  | (q, c) :: rest, listed => quietB ops q listed && Region.ready .any ops (listAll q listed) == [c] && stB ops last rest ((listAll q listed).setIfInBounds c true)
def fuelOf (last : List Nat) : List (List Nat × Nat) → Nat
  | [] => last.length
  | (q, _) :: rest => q.length + (fuelOf last rest + 1)
def stagesB (ops : Array Oper) (idx : List (List Nat × Nat)) (last : List Nat) : Bool :=
  Region.noSelect ops && stB ops last idx (Array.replicate ops.size false) && fuelOf last idx == ops.size

theorem quiet_walk {Qn : Act → World → Prop} (hr : ∀ a, R a a) (ht : ∀ a b c, R a b → R b c → R a c) (hs : Region.noSelect ops = true) (n : Nat) (w : World) : ∀ (l : List Nat) (listed : Array Bool) (a : Act), quietB ops l listed = true →
    wpQuiet P ops (Cls R w) (fun a' => wpAnyR P ops R Qn n (listAll l listed) a' w) (sel ops l) a → wpAnyR P ops R Qn (l.length + n) listed a w
  | [], listed, a, _, h => by simpa [sel, wpQuiet, listAll] using h
  | k :: l, listed, a, hB, h => by
    simp only [quietB, Bool.and_eq_true] at hB
    obtain ⟨⟨⟨hrd, hf⟩, hp⟩, hB'⟩ := hB
    cases ho : ops[k]? with
    | none => rw [ho] at hp; cases hp
    | some o =>
      rw [ho] at hp
      have hp' : plain o.op = true := hp
      have hsel : sel ops (k :: l) = o :: sel ops l := sel_cons ho _
      rw [hsel] at h
      have e : (k :: l).length + n = (l.length + n) + 1 := by simp only [List.length_cons]; omega
      rw [e]
      have key : ∃ v, SureIn P ops R o v a w ∧ wpQuiet P ops (Cls R w) (fun a' => wpAnyR P ops R Qn n (listAll l (listed.setIfInBounds k true)) a' w) (sel ops l) (a.put o.dst v) := by
        unfold wpQuiet at h
        by_cases hw : Region.wanted o (yielded ops a.tmps) = true
        · rw [if_pos hw] at h
          obtain ⟨v, h1, h2⟩ := h
          refine ⟨v, .inl ⟨hw, fun w' hR => ?_⟩, h2⟩
          have h3 := h1 w' (cls_of hR)
          unfold Oper.quietAt at h3
          unfold SureAt
          cases hrun : (execOp a.eval o).run P w' with
          | ok x w1 =>
            obtain ⟨u, rfl⟩ := plain_run hp' hrun
            rw [hrun] at h3
            simp only [Oper.quietUpon] at h3
            rw [h3.1, h3.2]
          | halt x w1 => rw [hrun] at h3; simp only [Oper.quietUpon] at h3
        · rw [if_neg hw] at h
          exact ⟨undef, .inr ⟨by simpa using hw, rfl⟩, h⟩
      obtain ⟨v, hy, hK⟩ := key
      exact wpAnyR_first hr ht ho (Region.noSelect_spec hs) (l.length + n) listed a w (Region.free_spec ho hf) (by simpa using hrd) hy
        (quiet_walk hr ht hs n w l _ _ hB' hK)

theorem wpQuiet_mono {C : World → Prop} {Q Q' : Act → Prop} (hq : ∀ a, Q a → Q' a) : ∀ (l : List Oper) (a : Act), wpQuiet P ops C Q l a → wpQuiet P ops C Q' l a
  | [], a, h => hq a h
  | o :: l, a, h => by
    unfold wpQuiet at *
    split
    · rename_i hw; rw [if_pos hw] at h; exact Oper.quiet_mono (wpQuiet_mono hq l) h
    · rename_i hw; rw [if_neg hw] at h; exact wpQuiet_mono hq l _ h

theorem st_walk {Qn : Act → World → Prop} (hr : ∀ a, R a a) (ht : ∀ a b c, R a b → R b c → R a c) (hs : Region.noSelect ops = true) (last : List Nat) : ∀ (idx : List (List Nat × Nat)) (listed : Array Bool) (a : Act) (w : World), stB ops last idx listed = true →
    wpSt P ops R Qn (sel ops last) (selSt ops idx) a w → wpAnyR P ops R Qn (fuelOf last idx) listed a w
  | [], listed, a, w, hB, h => by
    simp only [stB, Bool.and_eq_true] at hB
    have := quiet_walk (Qn := Qn) hr ht hs 0 w last listed a hB.1 (wpQuiet_mono (fun a' ha' => ⟨by simpa using hB.2, ha'⟩) _ _ h)
    simpa [fuelOf] using this
  | (q, c) :: rest, listed, a, w, hB, h => by
    simp only [stB, Bool.and_eq_true, beq_iff_eq] at hB
    obtain ⟨⟨hq, hc⟩, hrest⟩ := hB
    refine quiet_walk (Qn := Qn) hr ht hs _ w q listed a hq (wpQuiet_mono (fun a' ha' => ?_) _ _ h)
    refine ⟨(fun h0 => by rw [hc] at h0; cases h0), fun i hi => ?_⟩
    rw [hc] at hi
    have hic : i = c := by simpa using hi
    subst hic
    have hmem : i ∈ Region.ready .any ops (listAll q listed) := by rw [hc]; simp
    have hmr := mem_ready.1 hmem
    obtain ⟨o, ho, _⟩ := hmr.2
    have hsel : sel ops [i] = [o] := sel_cons ho _
    rw [hsel] at ha'
    unfold wpOp
    simp only [ho]
    unfold wpList at ha'
    split
    · rename_i hw
      rw [if_pos hw] at ha'
      rcases ha' with ha' | ⟨_, hl⟩
      · refine .inl ?_
        have h1 := Oper.wp_mono (K' := fun a' w' => R w w' ∧ wpAnyR P ops R Qn (fuelOf last rest) ((listAll q listed).setIfInBounds i true) a' w') (fun a'' w'' (hk : wpList P ops (Norm fun a'' w'' => R w w'' ∧ wpSt P ops R Qn (sel ops last) (selSt ops rest) a'' w'') [] a'' w'') => ⟨hk.1, st_walk hr ht hs last rest _ a'' w'' hrest hk.2⟩) ha'
        exact upon_turn (fun _ _ _ hh => hh.elim) (fun ⟨_, _, hh⟩ => hh.elim) h1
      · exact (norm_lets hl).elim
    · rename_i hw
      rw [if_neg hw] at ha'
      have hk : R w w ∧ _ := ha'
      exact ⟨hk.1, st_walk hr ht hs last rest _ _ w hrest hk.2⟩

/-- One stage: what follows behind a variable. -/
theorem st_cons {Qn : Act → World → Prop} {last q c : List Oper} {rest : List (List Oper × List Oper)} {a : Act} {w : World}
    (h : ∀ K : Act → World → Prop, (∀ a'' w'', R w w'' → wpSt P ops R Qn last rest a'' w'' → K a'' w'') → wpQuiet P ops (fun w' => ∃ p : Up R w, w' = p.u) (fun a' => wpList P ops (Norm K) c a' w) q a) : wpSt P ops R Qn last ((q, c) :: rest) a w :=
  h _ fun _ _ h1 h2 => ⟨h1, h2⟩
theorem st_nil {Qn : Act → World → Prop} {last : List Oper} {a : Act} {w : World} (h : ∀ K : Act → Prop, (∀ a', Qn a' w → K a') → wpQuiet P ops (fun w' => ∃ p : Up R w, w' = p.u) K last a) : wpSt P ops R Qn last [] a w := h _ fun _ h => h
theorem norm_up {K : Act → World → Prop} {w : World} {a : Act} (h : K a w) : Norm K .normal a w := h

end

/-- **The walk in the prover's order serves every order.** -/
theorem wp_region_stages {P : Program} {id : Nat} {Q : Exit → Act → World → Prop} {a : Act} {w : World} {l : List Oper} (R : World → World → Prop) (hr : ∀ a, R a a) (ht : ∀ a b c, R a b → R b c → R a c)
    (idx : List (List Nat × Nat)) (last : List Nat) (hm : P.follows .mixedOrders = true) (hB : stagesB l.toArray idx last = true)
    (h : wpSt P l.toArray R (fun a' w' => Q .normal a' w') (sel l.toArray last) (selSt l.toArray idx) a w.drew) : (Code.region id l.toArray true).wp P Q a w := by
  simp only [stagesB, Bool.and_eq_true, beq_iff_eq] at hB
  refine wp_region_any hm (wpAny_of_R (R := R) _ _ _ _ ?_)
  have := st_walk hr ht hB.1.1 last idx _ a _ hB.1.2 h
  rwa [hB.2] at this
#print axioms wp_region_stages
end Go.Proofs.Ytabmefffeafifaa.Stages
