import Derived.Test.YtbnkpnllgoghnaaGreatPa
import Derived.Orders
import Derived.Deep.Quiet
import Derived.Deep.QuietTactic
import Derived.Laws.NewBlocks
import Derived.Laws.CopyOwn
import Derived.Lib.SlBytesConst
import Derived.Deep.OwnRows
import Derived.Test.YtbnkpnllgoghnaaGreatChecked
import Derived.Laws.IdiomCopy
import Derived.Lib.SliceRun
import Derived.Lib.AppendZeros
import Derived.Deep.Cut
import Derived.Deep.DeepCutAuto
import Derived.Deep.CutBlock
import Derived.WalkSpells
import Derived.RegionTactic
import Derived.Deep.CutRange
set_option linter.unusedVariables false
namespace Go.Proofs.YtbnkpnllgoghnaaGreat
open Go.Lib (hid)
namespace Stages
open Go
structure Up (R : World → World → Prop) (w : World) where
 u : World
 h : R w u
abbrev Cls (R : World → World → Prop) (w : World) : World → Prop := fun w' => ∃ p : Up R w,w' = p.u
theorem cls_of {R : World → World → Prop} {w w' : World} (h : R w w') : Cls R w w' := ⟨⟨w',h⟩,rfl⟩
def plain : Op → Bool
 | .move _ | .assign _ | .pick .. | .load .. | .binOp .. | .unOp .. | .convert .. | .slice .. | .indexAddr .. | .fieldAddr .. | .field .. | .index .. | .extract .. | .lookup .. | .nilCheck .. | .build .. => true
 | .call { callee := .builtin .len,.. } | .call { callee := .builtin .cap,.. } | .call { callee := .builtin .min,.. } | .call { callee := .builtin .max,.. } => true
 | _ => false
theorem run_v {P : Program} {w : World} {s : Sem Value} {n : Next} {w' : World} (h : (do pure (Next.value (← s)) : Sem Next).run P w = .ok n w') : ∃ v,n = .value v := by
 simp only [Sem.run_bind] at h
 cases hs : s.run P w with
 | ok v w1 => rw [hs] at h;simp only [Result.andThen_ok,Sem.run_pure] at h;injection h with h1 h2;exact ⟨v,h1.symm⟩
 | halt x w1 => rw [hs] at h;simp [Result.andThen] at h
def Vals (P : Program) (s : Sem Next) : Prop := ∀ w n w',s.run P w = .ok n w' → ∃ v,n = .value v
theorem Vals.pure {P : Program} (v : Value) : Vals P (Pure.pure (Next.value v)) := fun w n w' h => by
 simp only [Sem.run_pure] at h;injection h with h1 h2;exact ⟨v,h1.symm⟩
theorem Vals.bind {P : Program} {α : Type} {s : Sem α} {f : α → Sem Next} (h : ∀ x,Vals P (f x)) : Vals P (s >>= f) := fun w n w' hr => by
 simp only [Sem.run_bind] at hr
 cases hs : s.run P w with
 | ok v w1 => rw [hs] at hr;simp only [Result.andThen_ok] at hr;exact h v _ _ _ hr
 | halt x w1 => rw [hs] at hr;simp [Result.andThen] at hr
theorem Vals.dies {P : Program} : Vals P (runtimePanic .nilDeref) := fun w n w' h => by
 simp [runtimePanic,goPanic] at h
theorem plain_run {P : Program} {o : Oper} {ρ : Operand → Value} (hp : plain o.op = true) {w w' : World} {n : Next} (h : (execOp ρ o).run P w = .ok n w') : ∃ v,n = .value v := by
 obtain ⟨dst,op,type,pos,after,guard⟩ := o
 cases op
 case move x => simp only [execOp,Sem.run_pure] at h;injection h with h1 h2;exact ⟨_,h1.symm⟩
 case assign x => simp only [execOp,Sem.run_pure] at h;injection h with h1 h2;exact ⟨_,h1.symm⟩
 case pick c a b =>
  simp only [execOp,Sem.run_bind] at h
  cases hs : (asBool (ρ c)).run P w with
  | ok v w1 => rw [hs] at h;simp only [Result.andThen_ok,Sem.run_pure] at h;injection h with h1 h2;exact ⟨_,h1.symm⟩
  | halt x w1 => rw [hs] at h;simp [Result.andThen] at h
 case nilCheck x =>
  simp only [execOp] at h
  revert h
  suffices hv : Vals P _ from fun h => hv _ _ _ h
  split
  ·exact Vals.dies
  ·exact Vals.dies
  ·exact Vals.dies
  ·split
   ·exact Vals.dies
   ·refine Vals.bind fun _ => Vals.bind fun r => ?_
    split
    ·exact Vals.bind fun _ => Vals.pure _
    ·exact Vals.pure _
   ·exact Vals.pure _
  ·exact Vals.pure _
 case call c =>
  obtain ⟨callee,args,argTypes⟩ := c
  cases callee with
  | builtin b =>
   cases b <;> first
    | (exfalso;revert hp;simp [plain];done)
    | (simp only [execOp,resolve,invoke,builtin,Sem.run_bind,Sem.run_pure,Result.andThen_ok] at h
       generalize (Sem.run P _ w) = r at h
       cases r with
       | ok v w1 => simp only [Result.andThen_ok] at h;injection h with h1 h2;exact ⟨_,h1.symm⟩
       | halt x w1 => simp [Result.andThen] at h)
  | value f => exfalso;revert hp;simp [plain]
  | invoke r m => exfalso;revert hp;simp [plain]
 all_goals first
  | (exfalso;revert hp;simp [plain];done)
  | (simp only [execOp] at h;exact run_v h)
def SureAt (P : Program) (o : Oper) (a : Act) (w : World) (v : Value) : Prop := (execOp a.eval o).run P w = .ok (.value v) w
def SureIn (P : Program) (ops : Array Oper) (R : World → World → Prop) (o : Oper) (v : Value) (a : Act) (w : World) : Prop :=
 (Region.wanted o (yielded ops a.tmps) = true ∧ ∀ w',R w w' → SureAt P o a w' v) ∨ (Region.wanted o (yielded ops a.tmps) = false ∧ v = undef)
def Norm (K : Act → World → Prop) : Exit → Act → World → Prop
 | .normal,a,w => K a w
 | _,_,_ => False
theorem norm_lets {K : Act → World → Prop} : ¬ LetsOut (Norm K) := fun ⟨_,_,h⟩ => h
section
variable {P : Program} {ops : Array Oper} {R : World → World → Prop}
def wpAnyR (P : Program) (ops : Array Oper) (R : World → World → Prop) (Qn : Act → World → Prop) : Nat → Array Bool → Act → World → Prop
 | 0,listed,a,w => Region.ready .any ops listed = [] ∧ Qn a w
 | fuel + 1,listed,a,w =>
  (Region.ready .any ops listed = [] → Qn a w) ∧
  ∀ i ∈ Region.ready .any ops listed,wpOp P ops (Norm fun _ _ => False) i (fun a' w' => R w w' ∧ wpAnyR P ops R Qn fuel (listed.setIfInBounds i true) a' w') a w
theorem upon_turn {o : Oper} {a : Act} {K : Act → World → Prop} {Q Q' : Exit → Act → World → Prop} {r : Result Next}
  (hp : ∀ c a w,Q (.panic c) a w → Q' (.panic c) a w) (ho : LetsOut Q → LetsOut Q') (h : o.upon P a K Q r) : o.upon P a K Q' r := by
 cases r with
 | ok n w' =>
  cases n <;> simp only [Oper.upon] at h ⊢ <;> first
   | exact h
   | exact h.elim
   | exact Calls.mono h (fun e w'' he => by cases e <;> first | exact he | exact hp _ _ _ he | exact ho he)
 | halt x w' => cases x <;> simp only [Oper.upon] at h ⊢ <;> first | exact hp _ _ _ h | exact h.elim
theorem wpOp_turn {i : Nat} {a : Act} {w : World} {K : Act → World → Prop} {Q Q' : Exit → Act → World → Prop}
  (hp : ∀ c a w,Q (.panic c) a w → Q' (.panic c) a w) (ho : LetsOut Q → LetsOut Q') (h : wpOp P ops Q i K a w) : wpOp P ops Q' i K a w := by
 unfold wpOp at *
 split
 ·simpa [*] using h
 ·rename_i o ho'
  simp only [ho'] at h
  split
  ·rename_i hw
   simp only [hw,if_true] at h
   exact h.imp (upon_turn hp ho) (fun hh => ⟨hh.1,ho hh.2⟩)
  ·rename_i hw
   simp only [hw] at h
   exact h
theorem wpAny_of_R {Q : Exit → Act → World → Prop} : ∀ (fuel : Nat) (listed : Array Bool) (a : Act) (w : World),wpAnyR P ops R (Q .normal) fuel listed a w → wpAny P .any ops Q fuel listed a w
 | 0,_,_,_,h => h
 | fuel + 1,_,_,_,h => ⟨h.1,fun i hi => wpOp_turn (fun _ _ _ hh => hh.elim) (fun ⟨_,_,hh⟩ => hh.elim) (wpOp_mono (fun a' w' hh => wpAny_of_R fuel _ a' w' hh.2) (h.2 i hi))⟩
theorem SureIn.of_same {o : Oper} {v : Value} {a a' : Act} {w w' : World} (ht : ∀ a b c,R a b → R b c → R a c) (hy : SureIn P ops R o v a w) (hR : R w w') (he : execOp a'.eval o = execOp a.eval o)
  (hw : Region.wanted o (yielded ops a'.tmps) = Region.wanted o (yielded ops a.tmps)) : SureIn P ops R o v a' w' := by
 unfold SureIn SureAt at *
 rw [he,hw]
 exact hy.imp (fun h => ⟨h.1,fun u hu => h.2 u (ht _ _ _ hR hu)⟩) id
theorem SureIn.wpOp {i : Nat} {o : Oper} {v : Value} {a : Act} {w : World} (hr : ∀ a,R a a) (hi : ops[i]? = some o) (hy : SureIn P ops R o v a w) {K : Act → World → Prop} {Q : Exit → Act → World → Prop} (h : K (a.put o.dst v) w) : wpOp P ops Q i K a w := by
 unfold Go.wpOp
 simp only [hi]
 rcases hy with ⟨hw,hv⟩ | ⟨hw,rfl⟩
 ·have hv' := hv w (hr w)
  unfold SureAt at hv'
  simp only [hw,if_true,Oper.wp,hv',Oper.upon]
  exact .inl h
 ·simp only [hw,Bool.false_eq_true,if_false];exact h
theorem wpOp_putR {j : Nat} {oi oj : Oper} {v : Value} (ht : ∀ a b c,R a b → R b c → R a c) (hj : ops[j]? = some oj) (hap : oi.apart ops oj = true)
  (hsi : ∀ cs b,oi.op ≠ .select cs b) (hsj : ∀ cs b,oj.op ≠ .select cs b) {K : Act → World → Prop} {a : Act} {w : World}
  (hy : SureIn P ops R oi v a w) (h : wpOp P ops (Norm fun _ _ => False) j (fun a' w' => R w w' ∧ K a' w') (a.put oi.dst v) w) :
  wpOp P ops (Norm fun _ _ => False) j (fun a' w' => SureIn P ops R oi v a' w' ∧ R w w' ∧ K (a'.put oi.dst v) w') a w := by
 obtain ⟨h1,h2,h3⟩ := Oper.apart_spec hap
 have keep : ∀ (u : Value) (w' : World),R w w' → SureIn P ops R oi v (a.put oj.dst u) w' := fun u w' hR =>
  hy.of_same ht hR (execOp_put oi hsi a oj.dst u h3) (wanted_put oi a oj.dst u h3)
 have keepD : ∀ (d : Deferred) (u : Value) (w' : World),R w w' → SureIn P ops R oi v ({ a with defers := d :: a.defers }.put oj.dst u) w' := fun d u w' hR => by
  have h0 : SureIn P ops R oi v { a with defers := d :: a.defers } w := hy
  exact h0.of_same ht hR (execOp_put oi hsi { a with defers := d :: a.defers } oj.dst u h3) (wanted_put oi { a with defers := d :: a.defers } oj.dst u h3)
 have hl : ¬ LetsOut (Norm fun _ _ => False) := norm_lets
 unfold Go.wpOp at *
 simp only [hj] at *
 rw [wanted_put oj a oi.dst v h1] at h
 split
 ·rename_i hw
  simp only [hw,if_true] at h
  rcases h with h | ⟨hasks,hlets⟩
  case inr => exact (hl hlets).elim
  refine .inl ?_
  unfold Oper.wp at *
  rw [execOp_put oj hsj a oi.dst v h1] at h
  generalize (execOp a.eval oj).run P w = r at *
  cases r with
  | ok n w' =>
   cases n <;> simp only [Oper.upon] at h ⊢
   case value u => exact ⟨keep u _ h.1,h.1,by rw [← Act.put_comm a v u h2];exact h.2⟩
   case skip => exact ⟨keep _ _ h.1,h.1,by rw [← Act.put_comm a v undef h2];exact h.2⟩
   case defer d => exact ⟨keepD d _ _ h.1,h.1,by rw [← Act.put_comm _ v undef h2,← Act.put_defers];exact h.2⟩
   case enter f args =>
    refine Calls.mono h (fun e w'' he => ?_)
    cases e with
    | returned u => exact ⟨keep u _ he.1,he.1,by rw [← Act.put_comm a v u h2];exact he.2⟩
    | panicked c => exact he
    | outgrown => exact (hl he).elim
   case row row args => exact Rows.mono h (fun u w'' he => ⟨keep u _ he.1,he.1,by rw [← Act.put_comm a v u h2];exact he.2⟩)
   all_goals exact h.elim
  | halt x w' => cases x <;> simp only [Oper.upon] at h ⊢ <;> exact h
 ·rename_i hw
  simp only [hw] at h
  exact ⟨keep _ _ h.1,h.1,by rw [← Act.put_comm a v undef h2];exact h.2⟩
theorem wpAnyR_first {Qn : Act → World → Prop} {i : Nat} {oi : Oper} {v : Value} (hr : ∀ a,R a a) (ht : ∀ a b c,R a b → R b c → R a c) (hi : ops[i]? = some oi) (hsel : ∀ (j : Nat) (o : Oper) cs b,ops[j]? = some o → o.op ≠ .select cs b) :
  ∀ (fuel : Nat) (listed : Array Bool) (a : Act) (w : World),
   (∀ j oj,ops[j]? = some oj → j ≠ i → listed.getD j true = false → (∀ e ∈ oj.after,Region.binds .any e = true → e.on ≠ i) → oi.apart ops oj = true) →
   i ∈ Region.ready .any ops listed → SureIn P ops R oi v a w →
   wpAnyR P ops R Qn fuel (listed.setIfInBounds i true) (a.put oi.dst v) w → wpAnyR P ops R Qn (fuel + 1) listed a w := by
 intro fuel
 induction fuel with
 | zero =>
  intro listed a w _ hrd hy H
  refine ⟨fun h => (by rw [h] at hrd;cases hrd),fun j hj => ?_⟩
  by_cases hji : j = i
  ·subst hji;exact hy.wpOp hr hi ⟨hr w,H⟩
  ·have := ready_mono hj hji
   rw [H.1] at this
   cases this
 | succ fuel ih =>
  intro listed a w hfree hrd hy H
  refine ⟨fun h => (by rw [h] at hrd;cases hrd),fun j hj => ?_⟩
  by_cases hji : j = i
  ·subst hji;exact hy.wpOp hr hi ⟨hr w,H⟩
  ·have h1 := H.2 j (ready_mono hj hji)
   obtain ⟨hjun,oj,hoj,hall⟩ := mem_ready.1 hj
   have hnot : ∀ e ∈ oj.after,Region.binds .any e = true → e.on ≠ i := fun e he hb heq => by
    have h1 := hall e he hb
    have h0 := (mem_ready.1 hrd).1
    rw [heq] at h1
    rcases Nat.lt_or_ge i listed.size with h' | h'
    ·simp [h'] at h0 h1;rw [h0] at h1;cases h1
    ·simp [Array.getElem?_eq_none h'] at h1
   have h2 := wpOp_putR ht hoj (hfree j oj hoj hji hjun hnot) (fun cs b => hsel i oi cs b hi) (fun cs b => hsel j oj cs b hoj) hy h1
   have hfree' : ∀ k ok,ops[k]? = some ok → k ≠ i → (listed.setIfInBounds j true).getD k true = false →
     (∀ e ∈ ok.after,Region.binds .any e = true → e.on ≠ i) → oi.apart ops ok = true := fun k ok hk hki hun hno => by
    refine hfree k ok hk hki ?_ hno
    by_cases hjk : j = k
    ·subst hjk;exact hjun
    ·rw [getD_set_ne true hjk] at hun;exact hun
   refine wpOp_mono (fun a' w' h3 => ⟨h3.2.1,ih (listed.setIfInBounds j true) a' w' hfree' (ready_mono hrd (Ne.symm hji)) h3.1 ?_⟩) h2
   rw [Array.setIfInBounds_comm _ _ hji]
   exact h3.2.2
def sel (ops : Array Oper) (l : List Nat) : List Oper := l.map fun k => ops.toList.getD k default
theorem sel_cons {ops : Array Oper} {k : Nat} {o : Oper} (h : ops[k]? = some o) (l : List Nat) : sel ops (k :: l) = o :: sel ops l := by
 have e : ops.toList.getD k default = o := by rw [List.getD_eq_getElem?_getD,Array.getElem?_toList,h];rfl
 show ops.toList.getD k default :: _ = _
 rw [e];rfl
def selSt (ops : Array Oper) (l : List (List Nat × Nat)) : List (List Oper × List Oper) := l.map fun (q,c) => (sel ops q,sel ops [c])
def wpSt (P : Program) (ops : Array Oper) (R : World → World → Prop) (Qn : Act → World → Prop) (last : List Oper) : List (List Oper × List Oper) → Act → World → Prop
 | [],a,w => wpQuiet P ops (fun w' => ∃ p : Up R w,w' = p.u) (fun a' => Qn a' w) last a
 | (q,c) :: rest,a,w => wpQuiet P ops (fun w' => ∃ p : Up R w,w' = p.u) (fun a' => wpList P ops (Norm fun a'' w'' => R w w'' ∧ wpSt P ops R Qn last rest a'' w'') c a' w) q a
def quietB (ops : Array Oper) : List Nat → Array Bool → Bool
 | [],_ => true
 | k :: l,listed => (Region.ready .any ops listed).contains k && Region.free .any ops listed k && (match ops[k]? with | some o => plain o.op | none => false) && quietB ops l (listed.setIfInBounds k true)
def listAll : List Nat → Array Bool → Array Bool
 | [],listed => listed
 | k :: l,listed => listAll l (listed.setIfInBounds k true)
def stB (ops : Array Oper) (last : List Nat) : List (List Nat × Nat) → Array Bool → Bool
 | [],listed => quietB ops last listed && (Region.ready .any ops (listAll last listed)).isEmpty
 | (q,c) :: rest,listed => quietB ops q listed && Region.ready .any ops (listAll q listed) == [c] && stB ops last rest ((listAll q listed).setIfInBounds c true)
def fuelOf (last : List Nat) : List (List Nat × Nat) → Nat
 | [] => last.length
 | (q,_) :: rest => q.length + (fuelOf last rest + 1)
def stagesB (ops : Array Oper) (idx : List (List Nat × Nat)) (last : List Nat) : Bool :=
 Region.noSelect ops && stB ops last idx (Array.replicate ops.size false) && fuelOf last idx == ops.size
theorem quiet_walk {Qn : Act → World → Prop} (hr : ∀ a,R a a) (ht : ∀ a b c,R a b → R b c → R a c) (hs : Region.noSelect ops = true) (n : Nat) (w : World) : ∀ (l : List Nat) (listed : Array Bool) (a : Act),quietB ops l listed = true →
  wpQuiet P ops (Cls R w) (fun a' => wpAnyR P ops R Qn n (listAll l listed) a' w) (sel ops l) a → wpAnyR P ops R Qn (l.length + n) listed a w
 | [],listed,a,_,h => by simpa [sel,wpQuiet,listAll] using h
 | k :: l,listed,a,hB,h => by
  simp only [quietB,Bool.and_eq_true] at hB
  obtain ⟨⟨⟨hrd,hf⟩,hp⟩,hB'⟩ := hB
  cases ho : ops[k]? with
  | none => rw [ho] at hp;cases hp
  | some o =>
   rw [ho] at hp
   have hp' : plain o.op = true := hp
   have hsel : sel ops (k :: l) = o :: sel ops l := sel_cons ho _
   rw [hsel] at h
   have e : (k :: l).length + n = (l.length + n) + 1 := by simp only [List.length_cons];omega
   rw [e]
   have key : ∃ v,SureIn P ops R o v a w ∧ wpQuiet P ops (Cls R w) (fun a' => wpAnyR P ops R Qn n (listAll l (listed.setIfInBounds k true)) a' w) (sel ops l) (a.put o.dst v) := by
    unfold wpQuiet at h
    by_cases hw : Region.wanted o (yielded ops a.tmps) = true
    ·rw [if_pos hw] at h
     obtain ⟨v,h1,h2⟩ := h
     refine ⟨v,.inl ⟨hw,fun w' hR => ?_⟩,h2⟩
     have h3 := h1 w' (cls_of hR)
     unfold Oper.quietAt at h3
     unfold SureAt
     cases hrun : (execOp a.eval o).run P w' with
     | ok x w1 =>
      obtain ⟨u,rfl⟩ := plain_run hp' hrun
      rw [hrun] at h3
      simp only [Oper.quietUpon] at h3
      rw [h3.1,h3.2]
     | halt x w1 => rw [hrun] at h3;simp only [Oper.quietUpon] at h3
    ·rw [if_neg hw] at h
     exact ⟨undef,.inr ⟨by simpa using hw,rfl⟩,h⟩
   obtain ⟨v,hy,hK⟩ := key
   exact wpAnyR_first hr ht ho (Region.noSelect_spec hs) (l.length + n) listed a w (Region.free_spec ho hf) (by simpa using hrd) hy
    (quiet_walk hr ht hs n w l _ _ hB' hK)
theorem wpQuiet_mono {C : World → Prop} {Q Q' : Act → Prop} (hq : ∀ a,Q a → Q' a) : ∀ (l : List Oper) (a : Act),wpQuiet P ops C Q l a → wpQuiet P ops C Q' l a
 | [],a,h => hq a h
 | o :: l,a,h => by
  unfold wpQuiet at *
  split
  ·rename_i hw;rw [if_pos hw] at h;exact Oper.quiet_mono (wpQuiet_mono hq l) h
  ·rename_i hw;rw [if_neg hw] at h;exact wpQuiet_mono hq l _ h
theorem st_walk {Qn : Act → World → Prop} (hr : ∀ a,R a a) (ht : ∀ a b c,R a b → R b c → R a c) (hs : Region.noSelect ops = true) (last : List Nat) : ∀ (idx : List (List Nat × Nat)) (listed : Array Bool) (a : Act) (w : World),stB ops last idx listed = true →
  wpSt P ops R Qn (sel ops last) (selSt ops idx) a w → wpAnyR P ops R Qn (fuelOf last idx) listed a w
 | [],listed,a,w,hB,h => by
  simp only [stB,Bool.and_eq_true] at hB
  have := quiet_walk (Qn := Qn) hr ht hs 0 w last listed a hB.1 (wpQuiet_mono (fun a' ha' => ⟨by simpa using hB.2,ha'⟩) _ _ h)
  simpa [fuelOf] using this
 | (q,c) :: rest,listed,a,w,hB,h => by
  simp only [stB,Bool.and_eq_true,beq_iff_eq] at hB
  obtain ⟨⟨hq,hc⟩,hrest⟩ := hB
  refine quiet_walk (Qn := Qn) hr ht hs _ w q listed a hq (wpQuiet_mono (fun a' ha' => ?_) _ _ h)
  refine ⟨(fun h0 => by rw [hc] at h0;cases h0),fun i hi => ?_⟩
  rw [hc] at hi
  have hic : i = c := by simpa using hi
  subst hic
  have hmem : i ∈ Region.ready .any ops (listAll q listed) := by rw [hc];simp
  have hmr := mem_ready.1 hmem
  obtain ⟨o,ho,_⟩ := hmr.2
  have hsel : sel ops [i] = [o] := sel_cons ho _
  rw [hsel] at ha'
  unfold wpOp
  simp only [ho]
  unfold wpList at ha'
  split
  ·rename_i hw
   rw [if_pos hw] at ha'
   rcases ha' with ha' | ⟨_,hl⟩
   ·refine .inl ?_
    have h1 := Oper.wp_mono (K' := fun a' w' => R w w' ∧ wpAnyR P ops R Qn (fuelOf last rest) ((listAll q listed).setIfInBounds i true) a' w') (fun a'' w'' (hk : wpList P ops (Norm fun a'' w'' => R w w'' ∧ wpSt P ops R Qn (sel ops last) (selSt ops rest) a'' w'') [] a'' w'') => ⟨hk.1,st_walk hr ht hs last rest _ a'' w'' hrest hk.2⟩) ha'
    exact upon_turn (fun _ _ _ hh => hh.elim) (fun ⟨_,_,hh⟩ => hh.elim) h1
   ·exact (norm_lets hl).elim
  ·rename_i hw
   rw [if_neg hw] at ha'
   have hk : R w w ∧ _ := ha'
   exact ⟨hk.1,st_walk hr ht hs last rest _ _ w hrest hk.2⟩
theorem st_cons {Qn : Act → World → Prop} {last q c : List Oper} {rest : List (List Oper × List Oper)} {a : Act} {w : World}
  (h : ∀ K : Act → World → Prop,(∀ a'' w'',R w w'' → wpSt P ops R Qn last rest a'' w'' → K a'' w'') → wpQuiet P ops (fun w' => ∃ p : Up R w,w' = p.u) (fun a' => wpList P ops (Norm K) c a' w) q a) : wpSt P ops R Qn last ((q,c) :: rest) a w :=
 h _ fun _ _ h1 h2 => ⟨h1,h2⟩
theorem st_nil {Qn : Act → World → Prop} {last : List Oper} {a : Act} {w : World} (h : ∀ K : Act → Prop,(∀ a',Qn a' w → K a') → wpQuiet P ops (fun w' => ∃ p : Up R w,w' = p.u) K last a) : wpSt P ops R Qn last [] a w := h _ fun _ h => h
theorem norm_up {K : Act → World → Prop} {w : World} {a : Act} (h : K a w) : Norm K .normal a w := h
end
theorem wp_region_stages {P : Program} {id : Nat} {Q : Exit → Act → World → Prop} {a : Act} {w : World} {l : List Oper} (R : World → World → Prop) (hr : ∀ a,R a a) (ht : ∀ a b c,R a b → R b c → R a c)
  (idx : List (List Nat × Nat)) (last : List Nat) (hm : P.follows .mixedOrders = true) (hB : stagesB l.toArray idx last = true)
  (h : wpSt P l.toArray R (fun a' w' => Q .normal a' w') (sel l.toArray last) (selSt l.toArray idx) a w.drew) : (Code.region id l.toArray true).wp P Q a w := by
 simp only [stagesB,Bool.and_eq_true,beq_iff_eq] at hB
 refine wp_region_any hm (wpAny_of_R (R := R) _ _ _ _ ?_)
 have := st_walk hr ht hB.1.1 last idx _ a _ hB.1.2 h
 rwa [hB.2] at this
end Stages
namespace Blk
open Go.RowKit Mem Stages
structure Kept (F : Nat → Prop) (w w' : World) : Prop where
 os : w'.os = w.os
 tape : w'.tape = w.tape
 output : w'.output = w.output
 size : w.heap.size ≤ w'.heap.size
 block : ∀ k,k < w.heap.size → ¬ F k → w'.heap[k]? = w.heap[k]?
abbrev Grow : World → World → Prop := Kept fun _ => False
section
variable {F G : Nat → Prop} {a b c w w' : World}
theorem Kept.refl (F : Nat → Prop) (w : World) : Kept F w w := ⟨rfl,rfl,rfl,Nat.le_refl _,fun _ _ _ => rfl⟩
theorem Kept.trans (h : Kept F a b) (k : Kept F b c) : Kept F a c :=
 ⟨k.os.trans h.os,k.tape.trans h.tape,k.output.trans h.output,Nat.le_trans h.size k.size,fun i hi hf => (k.block i (Nat.lt_of_lt_of_le hi h.size) hf).trans (h.block i hi hf)⟩
theorem Kept.mono (h : Kept F a b) (hf : ∀ k,k < a.heap.size → F k → G k) : Kept G a b := ⟨h.os,h.tape,h.output,h.size,fun k hk hg => h.block k hk fun x => hg (hf k hk x)⟩
theorem Kept.then (h : Kept F a b) (k : Kept G b c) (hf : ∀ k,k < a.heap.size → G k → F k) : Kept F a c :=
 ⟨k.os.trans h.os,k.tape.trans h.tape,k.output.trans h.output,Nat.le_trans h.size k.size,fun i hi hi' => (k.block i (Nat.lt_of_lt_of_le hi h.size) fun x => hi' (hf i hi x)).trans (h.block i hi hi')⟩
theorem Kept.drew (h : Kept F a w) : Kept F a w.drew := ⟨h.os,h.tape,h.output,h.size,h.block⟩
theorem Kept.drew' (w : World) : Kept F w w.drew := (Kept.refl F w).drew
theorem Kept.alloc (h : Kept F a w) (o : Obj) : Kept F a (w.alloc o) :=
 h.trans ⟨rfl,rfl,rfl,by simp,fun k hk _ => Below.heap_alloc _ _ _ (by omega)⟩
theorem Kept.setCell (h : Kept F a w) {p : Addr} (hp : p.block < a.heap.size → F p.block) (u : Value) : Kept F a (w.setCell p u) :=
 ⟨h.os,h.tape,h.output,by simpa [World.setCell] using h.size,fun k hk hf => by
  rw [Below.heap_setCell _ _ _ _ (fun e => hf (by subst e;exact hp hk))];exact h.block k hk hf⟩
theorem Kept.grown (h : Kept F a w) {row : Option Nat} (hg : w.grownBy w' row) (hr : ∀ k,row = some k → k < a.heap.size → F k) : Kept F a w' :=
 ⟨hg.os.trans h.os,hg.tape.trans h.tape,hg.output.trans h.output,Nat.le_trans h.size hg.size,fun k hk hf => by
  rw [hg.block k (Nat.lt_of_lt_of_le hk h.size) (fun e => hf (hr k e.symm hk))];exact h.block k hk hf⟩
theorem Kept.cell (h : Kept F w w') {p : Addr} (hp : p.block < w.heap.size) (hf : ¬ F p.block) : w'.cell? p = w.cell? p := World.cell?_of_block (w := w) (h.block p.block hp hf)
theorem Kept.cellN (h : Kept F w w') {p : Addr} {v : Value} (hc : w.cell? p = some v) (hf : ¬ F p.block) : w'.cell? p = some v := (h.cell (block_lt_of_cell hc) hf).trans hc
theorem Kept.frozen (h : Kept F w w') {p : Addr} (hp : p.block < w.heap.size) (hf : ¬ F p.block) : w'.frozen? p = w.frozen? p := World.frozen?_of_block (w := w) (h.block p.block hp hf)
theorem Kept.of_below (h : Below w.heap.size w w') : Kept F w w' := ⟨h.os,h.tape,h.output,h.size,fun k hk _ => h.block k hk⟩
theorem Kept.below {B : Nat} (h : Kept F w w') (hF : ∀ k,F k → B ≤ k) (hB : B ≤ w.heap.size) : Below B w w' := ⟨h.os,h.tape,h.output,h.size,fun k hk => h.block k (by omega) fun x => by have := hF k x;omega⟩
theorem Grow.below (h : Grow w w') : Below w.heap.size w w' := Kept.below h (fun _ x => x.elim) (Nat.le_refl _)
theorem Grow.kept (h : Grow w w') : Kept F w w' := h.mono fun _ _ x => x.elim
theorem Sl.kept {B n : Nat} {k : IntKind} {A : Option Addr} {zs : List Int} (h : Sl w B k A n zs) (hk : Kept F w w') (hB : B ≤ w.heap.size) (hF : ∀ b,b < B → ¬ F b) : Sl w' B k A n zs :=
 h.keep fun b o hb => hk.cell (p := ⟨b,o,none⟩) (by show b < _;omega) (hF b hb)
end
theorem kept_refl (F : Nat → Prop) : ∀ a,Kept F a a := Kept.refl F
theorem kept_trans (F : Nat → Prop) : ∀ a b c,Kept F a b → Kept F b c → Kept F a c := fun _ _ _ h k => h.trans k
instance upInhabited (F : Nat → Prop) (w : World) : Inhabited (Up (Kept F) w) := ⟨⟨w,Kept.refl F w⟩⟩
theorem up_cell {F : Nat → Prop} {w : World} {p : Addr} {v : Value} (h : w.cell? p = some v) (hf : ¬ F p.block) (u : Up (Kept F) w) : u.u.cell? p = some v := u.h.cellN h hf
theorem up_run {F : Nat → Prop} {P : Program} {α : Type} {m : Sem α} {x : α} {w : World} (h : ∀ w',Kept F w w' → m.run P w' = .ok x w') (u : Up (Kept F) w) : m.run P u.u = .ok x u.u := h _ u.h
def Blk (w : World) (g : Nat) (t : TypeId) (cs : List Value) : Prop := w.heap[g]? = some (.cells cs.toArray t (0,0))
section
variable {w w' : World} {g : Nat} {t : TypeId} {cs : List Value} {F : Nat → Prop}
theorem Blk.lt (h : Blk w g t cs) : g < w.heap.size := (Array.getElem?_eq_some_iff.1 h).1
theorem Blk.cell (h : Blk w g t cs) (j : Nat) : w.cell? ⟨g,j,none⟩ = cs[j]? := by rw [cell_of_row w g j _ t _ h];simp
theorem Blk.frozen (h : Blk w g t cs) (j : Nat) : w.frozen? ⟨g,j,none⟩ = false := frozen_of_row w g j _ t h
theorem Blk.frozenAll (h : Blk w g t cs) : ∀ j,w.frozen? ⟨g,j,none⟩ = false := h.frozen
theorem Blk.new (w : World) (t : TypeId) (cs : List Value) : Blk (w.alloc (.cells cs.toArray t)) w.heap.size t cs := heap_alloc_new w _
theorem Blk.drew (h : Blk w g t cs) : Blk w.drew g t cs := h
theorem Blk.alloc (h : Blk w g t cs) (o : Obj) : Blk (w.alloc o) g t cs := by
 unfold Blk;rw [Below.heap_alloc w o g h.lt];exact h
theorem Blk.set (h : Blk w g t cs) (i : Nat) (v : Value) : Blk (w.setCell ⟨g,i,none⟩ v) g t (cs.set i v) := by
 have := heap_setCell_same w g i _ t v h
 unfold Blk
 rw [this]
 simp
theorem Blk.other (h : Blk w g t cs) {p : Addr} (hp : g ≠ p.block) (v : Value) : Blk (w.setCell p v) g t cs := by
 unfold Blk;rw [heap_setCell_other w p g v hp];exact h
theorem Blk.kept (h : Blk w g t cs) (hk : Kept F w w') (hf : ¬ F g) : Blk w' g t cs := by
 unfold Blk;rw [hk.block g h.lt hf];exact h
theorem Blk.grow (h : Blk w g t cs) (hk : Grow w w') : Blk w' g t cs := h.kept hk id
abbrev NBlk (w : World) (g : Nat) (t : TypeId) (k : IntKind) (zs : List Int) : Prop := Blk w g t (zs.map (Value.int k))
theorem NBlk.at_ {k : IntKind} {zs : List Int} (h : NBlk w g t k zs) {j : Nat} (hj : j < zs.length) : w.cell? ⟨g,j,none⟩ = some (.int k (zs.getD j 0)) := by
 rw [Blk.cell h]
 simp [List.getD_eq_getElem?_getD,List.getElem?_eq_getElem hj]
theorem NBlk.set {k : IntKind} {zs : List Int} (h : NBlk w g t k zs) (i : Nat) (v : Int) : NBlk (w.setCell ⟨g,i,none⟩ (.int k v)) g t k (zs.set i v) := by
 have := Blk.set h i (.int k v)
 rwa [← List.map_set] at this
theorem NBlk.new (w : World) (t : TypeId) (k : IntKind) (zs : List Int) : NBlk (w.alloc (.cells (zs.map (Value.int k)).toArray t)) w.heap.size t k zs := Blk.new w t _
theorem Sl.of_blk {k : IntKind} {zs : List Int} {B : Nat} (h : NBlk w g t k zs) (off n : Nat) (hn : off + n ≤ zs.length) (hB : g < B) : Sl w B k (some ⟨g,off,none⟩) n ((zs.drop off).take n) := by
 refine ⟨by rw [List.length_take,List.length_drop];omega,fun hpos => ⟨g,off,rfl,hB,fun j hj => ?_⟩⟩
 rw [NBlk.at_ h (by omega)]
 simp [List.getD_eq_getElem?_getD,hj]
theorem Sl.of_blk0 {k : IntKind} {zs : List Int} {B n : Nat} (h : NBlk w g t k zs) (hn : zs.length = n) (hB : g < B) : Sl w B k (some ⟨g,0,none⟩) n zs := by
 have := Sl.of_blk (B := B) h 0 n (by omega) hB
 rwa [List.drop_zero,List.take_of_length_le (by omega)] at this
end
theorem made_rep (k : IntKind) (n : Nat) : madeCells #[Value.int k 0] n = ((List.replicate n (0 : Int)).map (Value.int k)).toArray := by
 apply Array.ext'
 rw [toList_madeCells_one]
 simp
theorem NBlk.made (w : World) (t : TypeId) (k : IntKind) (n : Nat) : NBlk (w.alloc (.cells (madeCells #[Value.int k 0] n) t)) w.heap.size t k (List.replicate n 0) := by
 rw [made_rep];exact NBlk.new w t k _
theorem run_copy {P : Program} {w : World} (dT sT ty elem : TypeId) (hu : P.underlying dT = some (.slice elem)) (hs : (P.info? elem).map (·.size) = some 1)
  {g : Nat} {t : TypeId} {k : IntKind} {cur : List Int} (hg : NBlk w g t k cur) (off dLen dCap : Nat) {A : Option Addr} {sLen B : Nat} {src : List Int} (sCap : Nat) (hsl : Sl w B k A sLen src) (m : Nat) (hm : Nat.min sLen dLen = m) (hfit : off + m ≤ cur.length) :
  ∃ w',(Builtin.copy_ #[dT,sT] ty #[.slice (some ⟨g,off,none⟩) dLen dCap,.slice A sLen sCap]).run P w = .ok (.int .i64 (m : Int)) w' ∧ NBlk w' g t k (cur.take off ++ (src.take m ++ cur.drop (off + m))) ∧ Kept (· = g) w w' := by
 by_cases h0 : m = 0
 ·subst h0
  refine ⟨w,run_copy_none (P := P) w dT sT ty elem _ _ _ _ _ _ hu hs hm,?_,Kept.refl _ _⟩
  simpa using hg
 ·have hml : m ≤ sLen := by rw [← hm];exact Nat.min_le_left _ _
  obtain ⟨b,o,rfl,_,hc⟩ := hsl.at_ (by omega)
  have hlen : ((src.take m).map (Value.int k)).length = m := by rw [List.length_map,List.length_take,hsl.len];omega
  have hr := run_copy_row (P := P) w dT sT ty elem g off dLen dCap ⟨b,o,none⟩ sLen sCap _ t ((src.take m).map (Value.int k)) hu hs hg (by rw [hlen,hm]) (fun j v hv => by
   have hj : j < m := by
    rcases Nat.lt_or_ge j m with h | h
    ·exact h
    ·rw [List.getElem?_eq_none (by omega)] at hv;cases hv
   have e : (⟨b,o,none⟩ : Addr).add j = ⟨b,o + j,none⟩ := by unfold Addr.add;split <;> simp_all
   rw [e,hc j (by omega),← hv]
   simp [List.getD_eq_getElem?_getD,hj,List.getElem?_eq_getElem (show j < src.length by rw [hsl.len];omega)]) (by rw [hlen];simpa using hfit) (ints_oneCell _ _)
  rw [hlen] at hr
  refine ⟨_,hr,?_,⟨rfl,rfl,rfl,by simp,fun i hi hf => setRow_other w g i _ hf⟩⟩
  have := setRow_heap w g _ (((cur.map (Value.int k)).toArray.toList.take off ++ (src.take m).map (Value.int k) ++ (cur.map (Value.int k)).toArray.toList.drop (off + m)).toArray) t _ hg
  unfold NBlk Blk
  rw [this]
  simp [List.map_take,List.map_drop]
theorem cell_new1 (w : World) (x : Value) (t : TypeId) : (w.alloc (.cells #[x] t)).cell? ⟨w.heap.size,0,none⟩ = some x := by
 rw [cell_of_row _ _ 0 _ t _ (heap_alloc_new w _)];rfl
theorem wpList_append_one {P : Program} {w : World} {ops : Array Oper} {rest : List Oper} {o : Oper} {a : Act} {Q : Exit → Act → World → Prop} (hgd : o.guard = none) (s x : Operand) (t : TypeId)
  (ho : o.op = .call { callee := .builtin .append,args := #[s,x],argTypes := #[t,t] }) (base : Nat) (e : TypeId) (z : Value) (bytes : Nat) (ht : P.underlying t = some (.slice e))
  (hinfo : (P.info? e).map (fun i => (i.zero,i.size,i.bytes)) = some (some z,1,bytes)) (hzs : z.cells.size = 1)
  (v : Value) (n : Nat) (xs : List Value) (hs : a.eval s = v) (hown : w.ownsRow base e 1 v n xs) (b : Nat) (u : Value) (hx : a.eval x = .slice (some ⟨b,0,none⟩) 1 1) (hb : w.cell? ⟨b,0,none⟩ = some u) (hu : u.oneCell' = true)
  (h63 : n + 1 ≤ maxLen) (hbytes : (n + 1) * bytes ≤ 140737488355328) (hbase : base ≤ w.heap.size)
  (h : ∀ g cap w',w'.ownsRow base e 1 (.slice (some ⟨g,0,none⟩) (n + 1) cap) (n + 1) (xs ++ [u]) → Below base w w' → wpList P ops Q rest (a.put o.dst (.slice (some ⟨g,0,none⟩) (n + 1) cap)) w') : wpList P ops Q (o :: rest) a w := by
 obtain ⟨i,hi,hz,hsz,hby⟩ := info_parts hinfo
 refine wpList_append_lies w hgd s x t ho base e i z 1 bytes ht hi hz hsz hby hzs (by omega) v n xs hs hown ⟨b,0,none⟩ 1 1 [u] hx rfl ?_ ?_ (by omega) h63 hbytes hbase _ rfl ?_
 ·intro j x hj
  cases j with
  | zero => simp at hj;subst hj;simpa [Addr.add] using hb
  | succ j => simp at hj
 ·intro y hy
  simp at hy
  subst hy
  exact hu
 ·intro g cap w' h1 h2 h3 h4
  refine h g cap w' h1 ((Below.refl _ _).grown h2 hbase fun k hk => (hown.lt k hk).1)
theorem Sl.of_row1 {w : World} {base e n : Nat} {k : IntKind} {v : Value} {zs : List Int} (h : w.ownsRow base e 1 v n (zs.map (Value.int k))) : ∃ A c,v = .slice A n c ∧ Sl w w.heap.size k A n zs := by
 by_cases hn : 0 < n
 ·obtain ⟨g,cap,rfl,_,_⟩ := h.form hn
  exact ⟨_,_,rfl,Sl.of_own h⟩
 ·have h0 : n = 0 := by omega
  subst h0
  have hz : zs = [] := by
   have := h.1
   simpa using this
  subst hz
  rcases h.2 with ⟨hv,_⟩ | ⟨g,cap,cur,hv,_⟩
  ·exact ⟨none,0,hv,Sl.nil _ _ _ _⟩
  ·exact ⟨_,_,hv,Sl.nil _ _ _ _⟩
theorem tmod_nat (a : Int) (n : Nat) (hn : 0 < n) : ∃ K : Nat,(IntKind.u64.wrap a).tmod (n : Int) = (K : Int) ∧ K < n := by
 have hu := wrap_u64_nonneg a
 obtain ⟨K,hK⟩ : ∃ K : Nat,(IntKind.u64.wrap a).tmod (n : Int) = (K : Int) := Int.eq_ofNat_of_zero_le (by rw [IntWalk.rem_in _ _ hu];exact Int.emod_nonneg _ (by omega))
 refine ⟨K,hK,?_⟩
 have := Int.emod_lt_of_pos (IntKind.u64.wrap a) (show (0 : Int) < (n : Int) by omega)
 rw [IntWalk.rem_in _ _ hu] at hK
 omega
end Blk
namespace Dev
open Go.RowKit
open SumM Mem Blk PageM
def Row (w : World) (b n : Nat) (f : Nat → Value) : Prop := ∃ cur t,w.heap[b]? = some (.cells cur t (0,0)) ∧ n ≤ cur.size ∧ ∀ i,i < n → cur[i]? = some (f i)
section
variable {w w' : World} {b n : Nat} {f g : Nat → Value} {F : Nat → Prop}
theorem Row.lt (h : Row w b n f) : b < w.heap.size := by
 obtain ⟨c,t,hb,_,_⟩ := h
 exact (Array.getElem?_eq_some_iff.1 hb).1
theorem Row.cell (h : Row w b n f) {i : Nat} (hi : i < n) : w.cell? ⟨b,i,none⟩ = some (f i) := by
 obtain ⟨c,t,hb,_,hc⟩ := h
 simp [World.cell?,hb,hc i hi]
theorem Row.frozen (h : Row w b n f) (i : Nat) : w.frozen? ⟨b,i,none⟩ = false := by
 obtain ⟨c,t,hb,_,_⟩ := h
 simp [World.frozen?,hb]
theorem Row.congr (h : Row w b n f) (e : ∀ i,i < n → f i = g i) : Row w b n g := by
 obtain ⟨c,t,hb,hn,hc⟩ := h
 exact ⟨c,t,hb,hn,fun i hi => by rw [hc i hi,e i hi]⟩
theorem Row.of_block (h : Row w b n f) (e : w'.heap[b]? = w.heap[b]?) : Row w' b n f := by
 obtain ⟨c,t,hb,hn,hc⟩ := h
 exact ⟨c,t,e.trans hb,hn,hc⟩
theorem Row.kept (h : Row w b n f) (hk : Kept F w w') (hf : ¬ F b) : Row w' b n f := h.of_block (hk.block b h.lt hf)
theorem Row.grow (h : Row w b n f) (hk : Grow w w') : Row w' b n f := h.kept hk id
theorem Row.set (h : Row w b n f) (i : Nat) (v : Value) : Row (w.setCell ⟨b,i,none⟩ v) b n (fun j => if j = i then v else f j) := by
 obtain ⟨c,t,hb,hn,hc⟩ := h
 refine ⟨c.setIfInBounds i v,t,?_,by simpa using hn,fun j hj => ?_⟩
 ·simp [World.setCell,Array.getElem?_modify,hb]
 ·rw [Array.getElem?_setIfInBounds]
  by_cases e : j = i
  ·subst e
   simp [show j < c.size by omega]
  ·rw [if_neg (fun h => e h.symm)]
   show c[j]? = some (if j = i then v else f j)
   rw [if_neg e]
   exact hc j hj
theorem Row.other (h : Row w b n f) {p : Addr} (hp : b ≠ p.block) (v : Value) : Row (w.setCell p v) b n f := h.of_block (heap_setCell_other w p b v hp)
theorem Row.of_blk {t : TypeId} {cs : List Value} (h : Blk w b t cs) (hn : cs.length = n) (hf : ∀ i,i < n → cs[i]? = some (f i)) : Row w b n f :=
 ⟨cs.toArray,t,h,by simp [hn],fun i hi => by simpa using hf i hi⟩
theorem Row.of_own {base : Nat} {e : TypeId} {A : Option Addr} {c : Nat} {xs : List Value} (h : w.ownsRow base e 1 (.slice A n c) n xs) (hn : 0 < n) (hf : ∀ i,i < n → xs[i]? = some (f i)) :
  ∃ g,A = some ⟨g,0,none⟩ ∧ base ≤ g ∧ Row w g n f ∧ n ≤ c ∧ c ≤ maxLen := by
 rcases h.2 with ⟨_,h0⟩ | ⟨g,cap,cur,hv,hb,hg,hc,hm,hs,ht⟩
 ·omega
 ·injection hv with h1 h2 h3
  subst h1 h3
  refine ⟨g,rfl,hb,⟨cur,e,hg,by omega,fun i hi => ?_⟩,hc,hm⟩
  have := hf i hi
  rw [← ht,List.getElem?_take,if_pos (by omega)] at this
  simpa using this
end
theorem kept_set (w : World) (b i : Nat) (v : Value) : Kept (fun x => x = b) w (w.setCell ⟨b,i,none⟩ v) := (Kept.refl (fun x => x = b) w).setCell (p := ⟨b,i,none⟩) (fun _ => rfl) v
abbrev NRow (w : World) (g n : Nat) (k : IntKind) (zs : List Int) : Prop := Row w g n fun i => .int k (zs.getD i 0)
theorem Sl.of_row0 {w : World} {g n B : Nat} {k : IntKind} {zs : List Int} (h : NRow w g n k zs) (hl : zs.length = n) (hB : g < B) : Sl w B k (some ⟨g,0,none⟩) n zs :=
 ⟨hl,fun _ => ⟨g,0,rfl,hB,fun j hj => by rw [Nat.zero_add];exact Row.cell h hj⟩⟩
def Img (w : World) (G : Nat → Prop) (v : Value) (zs : List Int) : Prop :=
 ∃ b c,v = .slice (some ⟨b,0,none⟩) 24 c ∧ 24 ≤ c ∧ c ≤ maxLen ∧ ¬ G b ∧ b < w.heap.size ∧ zs.length = 24 ∧ Bytes zs ∧ ∀ j,j < 24 → w.cell? ⟨b,j,none⟩ = some (.int .u8 (zs.getD j 0))
def WImg (w : World) (G : Nat → Prop) (v : Value) : Option (List Int) → Prop
 | none => v = .slice none 0 0
 | some zs => Img w G v zs
section
variable {w w' : World} {G G' F : Nat → Prop} {v : Value} {zs : List Int} {o : Option (List Int)}
theorem Img.kept (h : Img w G v zs) (hk : Kept F w w') (hF : ∀ k,F k → G k) : Img w' G v zs := by
 obtain ⟨b,c,rfl,h1,h2,h3,h4,h5,h6,h7⟩ := h
 exact ⟨b,c,rfl,h1,h2,h3,Nat.lt_of_lt_of_le h4 hk.size,h5,h6,fun j hj => (hk.cell (p := ⟨b,j,none⟩) h4 (fun x => h3 (hF b x))).trans (h7 j hj)⟩
theorem Img.turn (h : Img w G v zs) (hg : ∀ k,k < w.heap.size → G' k → G k) : Img w G' v zs := by
 obtain ⟨b,c,rfl,h1,h2,h3,h4,h5⟩ := h
 exact ⟨b,c,rfl,h1,h2,fun x => h3 (hg b h4 x),h4,h5⟩
theorem WImg.kept (h : WImg w G v o) (hk : Kept F w w') (hF : ∀ k,F k → G k) : WImg w' G v o := by
 cases o with
 | none => exact h
 | some zs => exact Img.kept h hk hF
theorem WImg.turn (h : WImg w G v o) (hg : ∀ k,k < w.heap.size → G' k → G k) : WImg w G' v o := by
 cases o with
 | none => exact h
 | some zs => exact Img.turn h hg
theorem Img.bytes (h : Img w G v zs) : Bytes zs := by obtain ⟨b,c,rfl,_,_,_,_,_,h6,_⟩ := h;exact h6
theorem Img.len (h : Img w G v zs) : zs.length = 24 := by obtain ⟨b,c,rfl,_,_,_,_,h5,_⟩ := h;exact h5
theorem Img.sl (h : Img w G v zs) : ∃ b c,v = .slice (some ⟨b,0,none⟩) 24 c ∧ 24 ≤ c ∧ c ≤ maxLen ∧ Sl w w.heap.size .u8 (some ⟨b,0,none⟩) 24 zs := by
 obtain ⟨b,c,rfl,h1,h2,h3,h4,h5,h6,h7⟩ := h
 exact ⟨b,c,rfl,h1,h2,h5,fun _ => ⟨b,0,rfl,h4,fun j hj => by rw [Nat.zero_add];exact h7 j hj⟩⟩
theorem Img.of_row {g c : Nat} (h : NRow w g 24 .u8 zs) (hl : zs.length = 24) (hz : Bytes zs) (h1 : 24 ≤ c) (h2 : c ≤ maxLen) (hg : ¬ G g) : Img w G (.slice (some ⟨g,0,none⟩) 24 c) zs :=
 ⟨g,c,rfl,h1,h2,hg,Row.lt h,hl,hz,fun _ hj => Row.cell h hj⟩
end
def Own (d D W : Nat) (k : Nat) : Prop := k = d ∨ k = D ∨ k = W
structure DevAt (w : World) (d D W : Nat) (G : Nat → Prop) (S : Dv) : Prop where
 disk : Blk w d 99 [.slice (some ⟨D,0,none⟩) S.N S.N,.slice (some ⟨W,0,none⟩) S.N S.N,.int .i64 S.n,.int .i64 S.bad,.bool S.down]
 dur : ∃ dv,Row w D S.N dv ∧ ∀ p,p < S.N → Img w G (dv p) (S.dur p)
 wr : ∃ wv,Row w W S.N wv ∧ ∀ p,p < S.N → WImg w G (wv p) (S.wr p)
 ne : d ≠ D ∧ d ≠ W ∧ D ≠ W
 own : ∀ k,Own d D W k → G k
 size : 1 ≤ S.N ∧ S.N ≤ 48
section
variable {w w' : World} {d D W : Nat} {G G' F : Nat → Prop} {S : Dv}
theorem DevAt.kept (h : DevAt w d D W G S) (hk : Kept F w w') (hF : ∀ k,F k → G k) (hO : ∀ k,Own d D W k → ¬ F k) : DevAt w' d D W G S := by
 obtain ⟨dv,h1,h2⟩ := h.dur
 obtain ⟨wv,h3,h4⟩ := h.wr
 exact ⟨h.disk.kept hk (hO d (.inl rfl)),⟨dv,h1.kept hk (hO D (.inr (.inl rfl))),fun p hp => (h2 p hp).kept hk hF⟩,⟨wv,h3.kept hk (hO W (.inr (.inr rfl))),fun p hp => (h4 p hp).kept hk hF⟩,h.ne,h.own,h.size⟩
theorem DevAt.grow (h : DevAt w d D W G S) (hk : Grow w w') : DevAt w' d D W G S := h.kept hk (fun _ x => x.elim) (fun _ _ x => x)
theorem DevAt.drew (h : DevAt w d D W G S) : DevAt w.drew d D W G S := h.grow (Kept.drew' w)
theorem DevAt.turn (h : DevAt w d D W G S) (hg : ∀ k,k < w.heap.size → G' k → G k) (ho : ∀ k,Own d D W k → G' k) : DevAt w d D W G' S := by
 obtain ⟨dv,h1,h2⟩ := h.dur
 obtain ⟨wv,h3,h4⟩ := h.wr
 exact ⟨h.disk,⟨dv,h1,fun p hp => (h2 p hp).turn hg⟩,⟨wv,h3,fun p hp => (h4 p hp).turn hg⟩,h.ne,ho,h.size⟩
theorem DevAt.newer (h : DevAt w d D W G S) (hk : Grow w w') : DevAt w' d D W (fun k => G k ∨ w.heap.size ≤ k) S :=
 (h.turn (G' := fun k => G k ∨ w.heap.size ≤ k) (fun k hk hg => hg.elim id (fun x => absurd x (by omega))) (fun k x => .inl (h.own k x))).grow hk
theorem DevAt.c0 (h : DevAt w d D W G S) : w.cell? ⟨d,0,none⟩ = some (.slice (some ⟨D,0,none⟩) S.N S.N) := by rw [h.disk.cell];rfl
theorem DevAt.c1 (h : DevAt w d D W G S) : w.cell? ⟨d,1,none⟩ = some (.slice (some ⟨W,0,none⟩) S.N S.N) := by rw [h.disk.cell];rfl
theorem DevAt.c2 (h : DevAt w d D W G S) : w.cell? ⟨d,2,none⟩ = some (.int .i64 S.n) := by rw [h.disk.cell];rfl
theorem DevAt.c3 (h : DevAt w d D W G S) : w.cell? ⟨d,3,none⟩ = some (.int .i64 S.bad) := by rw [h.disk.cell];rfl
theorem DevAt.c4 (h : DevAt w d D W G S) : w.cell? ⟨d,4,none⟩ = some (.bool S.down) := by rw [h.disk.cell];rfl
theorem DevAt.fr (h : DevAt w d D W G S) (i : Nat) : w.frozen? ⟨d,i,none⟩ = false := h.disk.frozen i
theorem DevAt.field {S' : Dv} {i : Nat} {v : Value} (h : DevAt w d D W G S) (hN : S'.N = S.N) (hd : S'.dur = S.dur) (hw : S'.wr = S.wr)
  (hv : [.slice (some ⟨D,0,none⟩) S.N S.N,.slice (some ⟨W,0,none⟩) S.N S.N,.int .i64 S'.n,.int .i64 S'.bad,.bool S'.down] = ([.slice (some ⟨D,0,none⟩) S.N S.N,.slice (some ⟨W,0,none⟩) S.N S.N,.int .i64 S.n,.int .i64 S.bad,.bool S.down] : List Value).set i v) :
  DevAt (w.setCell ⟨d,i,none⟩ v) d D W G S' := by
 obtain ⟨N,du,wr,n,bad,down⟩ := S
 obtain ⟨N',du',wr',n',bad',down'⟩ := S'
 simp only at hN hd hw hv
 subst hN hd hw
 have hk : Kept (· = d) w (w.setCell ⟨d,i,none⟩ v) := (Kept.refl (fun x => x = d) w).setCell (p := ⟨d,i,none⟩) (fun _ => rfl) v
 obtain ⟨dv,h1,h2⟩ := h.dur
 obtain ⟨wv,h3,h4⟩ := h.wr
 refine ⟨?_,⟨dv,h1.kept hk (fun e => h.ne.1 e.symm),fun p hp => (h2 p hp).kept hk (fun k e => e ▸ h.own d (.inl rfl))⟩,⟨wv,h3.kept hk (fun e => h.ne.2.1 e.symm),fun p hp => (h4 p hp).kept hk (fun k e => e ▸ h.own d (.inl rfl))⟩,h.ne,h.own,h.size⟩
 show Blk _ _ _ _
 rw [hv]
 exact h.disk.set i v
theorem DevAt.putW {k : Nat} {v : Value} {zs : List Int} (h : DevAt w d D W G S) (hi : Img w G v zs) : DevAt (w.setCell ⟨W,k,none⟩ v) d D W G (putS S k zs) := by
 have hk : Kept (fun x => x = W) w (w.setCell ⟨W,k,none⟩ v) := (Kept.refl (fun x => x = W) w).setCell (p := ⟨W,k,none⟩) (fun _ => rfl) v
 have hG : ∀ x,x = W → G x := fun x e => e ▸ h.own W (.inr (.inr rfl))
 obtain ⟨dv,h1,h2⟩ := h.dur
 obtain ⟨wv,h3,h4⟩ := h.wr
 refine ⟨h.disk.kept hk h.ne.2.1,⟨dv,h1.kept hk h.ne.2.2,fun p hp => (h2 p hp).kept hk hG⟩,⟨_,h3.set k v,fun p hp => ?_⟩,h.ne,h.own,h.size⟩
 show WImg _ _ _ (if p = k then some zs else S.wr p)
 by_cases e : p = k
 ·rw [if_pos e,if_pos e]
  exact Img.kept hi hk hG
 ·rw [if_neg e,if_neg e]
  exact (h4 p hp).kept hk hG
theorem DevAt.putD {k : Nat} {v : Value} {zs : List Int} (h : DevAt w d D W G S) (hi : Img w G v zs) : DevAt (w.setCell ⟨D,k,none⟩ v) d D W G { S with dur := fun q => if q = k then zs else S.dur q } := by
 have hk : Kept (fun x => x = D) w (w.setCell ⟨D,k,none⟩ v) := (Kept.refl (fun x => x = D) w).setCell (p := ⟨D,k,none⟩) (fun _ => rfl) v
 have hG : ∀ x,x = D → G x := fun x e => e ▸ h.own D (.inr (.inl rfl))
 obtain ⟨dv,h1,h2⟩ := h.dur
 obtain ⟨wv,h3,h4⟩ := h.wr
 refine ⟨h.disk.kept hk h.ne.1,⟨_,h1.set k v,fun p hp => ?_⟩,⟨wv,h3.kept hk (fun e => h.ne.2.2 e.symm),fun p hp => (h4 p hp).kept hk hG⟩,h.ne,h.own,h.size⟩
 show Img _ _ _ (if p = k then zs else S.dur p)
 by_cases e : p = k
 ·rw [if_pos e,if_pos e]
  exact Img.kept hi hk hG
 ·rw [if_neg e,if_neg e]
  exact (h2 p hp).kept hk hG
theorem kept_setCells {b : Nat} : ∀ (vs : List Value) (o : Nat) (w : World),Kept (fun x => x = b) w (w.setCells b o vs)
 | [],_,w => Kept.refl _ w
 | v :: r,o,w => ((Kept.refl (fun x => x = b) w).setCell (p := ⟨b,o,none⟩) (fun _ => rfl) v).trans (kept_setCells r (o + 1) _)
theorem Row.clear {b n : Nat} {z : Value} : ∀ (m o : Nat) (w : World) (f : Nat → Value),Row w b n f → Row (w.setCells b o (List.replicate m z)) b n (fun j => if o ≤ j ∧ j < o + m then z else f j)
 | 0,o,w,f,h => h.congr fun i _ => by rw [if_neg (by omega)]
 | m + 1,o,w,f,h => by
  rw [List.replicate_succ,World.setCells]
  refine (Row.clear m (o + 1) _ _ (h.set o z)).congr fun i _ => ?_
  by_cases h1 : o + 1 ≤ i ∧ i < o + 1 + m
  ·rw [if_pos h1,if_pos (by omega)]
  ·rw [if_neg h1]
   by_cases h2 : i = o
   ·rw [if_pos h2,if_pos (by omega)]
   ·rw [if_neg h2,if_neg (by omega)]
theorem DevAt.clear (h : DevAt w d D W G S) : DevAt (w.setCells W 0 (List.replicate S.N (.slice none 0 0))) d D W G { S with wr := fun _ => none } := by
 have hk := kept_setCells (b := W) (List.replicate S.N (.slice none 0 0)) 0 w
 have hG : ∀ x,x = W → G x := fun x e => e ▸ h.own W (.inr (.inr rfl))
 obtain ⟨dv,h1,h2⟩ := h.dur
 obtain ⟨wv,h3,h4⟩ := h.wr
 refine ⟨h.disk.kept hk h.ne.2.1,⟨dv,h1.kept hk h.ne.2.2,fun p hp => (h2 p hp).kept hk hG⟩,⟨_,Row.clear S.N 0 w wv h3,fun p hp => ?_⟩,h.ne,h.own,h.size⟩
 show (if 0 ≤ p ∧ p < 0 + S.N then _ else _) = _
 rw [if_pos ⟨by omega,by simpa using hp⟩]
theorem DevAt.congr {S' : Dv} (h : DevAt w d D W G S) (hN : S'.N = S.N) (hn : S'.n = S.n) (hb : S'.bad = S.bad) (hd : S'.down = S.down) (h1 : ∀ p,p < S.N → S'.dur p = S.dur p) (h2 : ∀ p,p < S.N → S'.wr p = S.wr p) : DevAt w d D W G S' := by
 obtain ⟨dv,a1,a2⟩ := h.dur
 obtain ⟨wv,a3,a4⟩ := h.wr
 refine ⟨by rw [hN,hn,hb,hd];exact h.disk,⟨dv,by rw [hN];exact a1,fun p hp => ?_⟩,⟨wv,by rw [hN];exact a3,fun p hp => ?_⟩,h.ne,h.own,by rw [hN];exact h.size⟩
 ·rw [hN] at hp;rw [h1 p hp];exact a2 p hp
 ·rw [hN] at hp;rw [h2 p hp];exact a4 p hp
theorem DevAt.durOk (h : DevAt w d D W G S) {p : Nat} (hp : p < S.N) : (S.dur p).length = 24 ∧ Bytes (S.dur p) := by
 obtain ⟨dv,_,h2⟩ := h.dur
 exact ⟨(h2 p hp).len,(h2 p hp).bytes⟩
theorem DevAt.wrOk (h : DevAt w d D W G S) {p : Nat} {z : List Int} (hp : p < S.N) (hz : S.wr p = some z) : z.length = 24 ∧ Bytes z := by
 obtain ⟨wv,_,h4⟩ := h.wr
 have h5 := h4 p hp
 rw [hz] at h5
 have h6 : Img w G (wv p) z := h5
 exact ⟨h6.len,h6.bytes⟩
theorem DevAt.curOk (h : DevAt w d D W G S) {p : Nat} (hp : p < S.N) : (cur S p).length = 24 ∧ Bytes (cur S p) := by
 unfold cur
 cases e : S.wr p with
 | none => exact h.durOk hp
 | some z => exact h.wrOk hp e
end
end Dev
namespace Str
open Go.ChangeShapes Go.WideShapes Go.ChangeAt Go.RowKit
open SumM Mem Blk PageM
theorem infoU8 : (Tryz.prog.info? 5).map (fun i => (i.zero,i.size,i.bytes)) = some (some (.int .u8 0),1,1) := by kernel_rfl
def FreshBytes (w : World) (n : Nat) (zs : List Int) (e : Ending) (w' : World) : Prop :=
 ∃ g,e = .returned (.slice (some ⟨g,0,none⟩) n n) ∧ w.heap.size ≤ g ∧ NBlk w' g 5 .u8 zs ∧ Grow w w'
theorem blank_any (w : World) : Calls Tryz.prog 84 #[] w (FreshBytes w 24 (zeros 24)) := by
 have hmk := fun w => run_make_row' (P := Tryz.prog) 22 5 (.int .u8 0) 1 Tryz.underlying22 infoU8 rfl .i64 .i64 24 (by omega) (by omega) w
 simp only [Int.cast_ofNat_Int] at hmk
 go_enter Tryz.func84,Tryz.ntmps84
 go_wp2
 go_ret
 exact ⟨w.heap.size,rfl,Nat.le_refl _,NBlk.made w _ _ 24,(Kept.refl _ _).alloc _⟩
theorem refBlank_any (w : World) : Calls Tryz.prog 110 #[] w fun e w' => e = .returned (.string (strOfNums (zeros 24))) ∧ Grow w w' := by
 have hmk := fun w => run_make_row' (P := Tryz.prog) 22 5 (.int .u8 0) 1 Tryz.underlying22 infoU8 rfl .i64 .i64 24 (by omega) (by omega) w
 simp only [Int.cast_ofNat_Int] at hmk
 have hb := NBlk.made w 5 .u8 24
 have hbel : Grow w (w.alloc (.cells (madeCells #[Value.int .u8 0] 24) 5)) := (Kept.refl _ _).alloc _
 have hcv := (Sl.of_blk0 (B := w.heap.size + 1) hb (n := 24) (by simp) (by omega)).str (P := Tryz.prog) 22 9 5 Tryz.underlying22 Tryz.underlying5 Tryz.underlying9 24
 have HB := hid hbel
 clear hb hbel
 go_enter Tryz.func110,Tryz.ntmps110
 go_wp2
 go_ret
 exact ⟨rfl,HB.out⟩
end Str
namespace LibC
open Go.ChangeShapes Go.WideShapes Go.ChangeAt Go.RowKit
open SumM Mem Blk PageM Str Dev
theorem infoSl : (Tryz.prog.info? 22).map (fun i => (i.zero,i.size,i.bytes)) = some (some (.slice none 0 0),1,24) := by kernel_rfl
def CloneOf (w : World) (n : Nat) (zs : List Int) (e : Ending) (w' : World) : Prop :=
 ∃ g c,e = .returned (.slice (some ⟨g,0,none⟩) n c) ∧ w.heap.size ≤ g ∧ NRow w' g n .u8 zs ∧ n ≤ c ∧ c ≤ maxLen ∧ Grow w w'
set_option maxHeartbeats 1000000 in
theorem clone_any (A : Option Addr) (n cap B : Nat) (zs : List Int) (w : World) (h0 : 0 < n) (hn : n ≤ 1000000) (h : Sl w B .u8 A n zs) :
  Calls Tryz.prog 80 #[.slice A n cap] w (CloneOf w n zs) := by
 obtain ⟨i0,hi,hz0,hz1,hz2⟩ := info_parts infoU8
 obtain ⟨b,off,rfl,hb,hc⟩ := h.at_ h0
 have q22 : ∀ (w : World) (a : Option Addr) (n c n' c' : Nat),(binOp .eql 22 (.slice a n c) (.slice none n' c')).run Tryz.prog w = .ok (.bool a.isNone) w := fun w a n c n' c' => Lib.run_eql_slice_nil w _ _ a n c n' c' Tryz.underlying22
 have hl := h.len
 have HC := hid hc
 have HL := hid hl
 clear hc hl h
 go_enter Tryz.func80,Tryz.ntmps80
 go_wp2_with (at_builtin;refine wpList_append_lies _ rfl _ _ 22 rfl w.heap.size 5 i0 (.int .u8 0) 1 1 Tryz.underlying22 hi hz0 hz1 hz2 rfl (by decide) _ _ _ rfl (World.ownsRow_made w #[] 0 (Nat.le_refl _) (Nat.zero_le _) rfl) ⟨b,off,none⟩ n cap (zs.map (Value.int .u8)) rfl ?qc1 ?qc2 ?qc3 h0 ?qc4 ?qc5 ?qc6 _ rfl ?_)
 case qc1 => simp [HL.out]
 case qc2 =>
  intro j u hj
  have hl := HL.out
  have hjn : j < n := by
   have := (List.getElem?_eq_some_iff.1 hj).1
   simp at this
   omega
  have e : (⟨b,off,none⟩ : Addr).add j = ⟨b,off + j,none⟩ := by unfold Addr.add;split <;> simp_all
  rw [e]
  refine Lib.cell?_alloc_some _ ?_
  rw [HC.out j hjn,← hj]
  simp [List.getD,List.getElem?_eq_getElem (show j < zs.length by omega)]
 case qc3 => intro u hu;obtain ⟨x,_,rfl⟩ := List.mem_map.1 hu;rfl
 case qc4 => unfold maxLen;omega
 case qc5 => omega
 case qc6 => simp
 intro g c w1 hown hgrow hor hlt
 have hown' := hid hown
 have hgr' : Hid (Grow w w1) := ((Kept.refl _ w).alloc _).grown hgrow (by intro k hk;simp [Value.ownBlock] at hk;omega)
 clear hown hgrow hor hlt
 go_wp2
 go_ret
 have hz := HL.out
 have hown := hown'.out
 obtain ⟨g',e1,h1,h2,h3,h4⟩ := Row.of_own (f := fun i => .int .u8 (zs.getD i 0)) hown h0 (fun i hi => by simp [List.getD,List.getElem?_eq_getElem (show i < zs.length by omega)])
 injection e1 with e1
 injection e1 with e1
 subst e1
 exact ⟨g,c,rfl,h1,h2,h3,h4,hgr'.out⟩
def ListOf (w : World) (n : Nat) (f : Nat → Value) (e : Ending) (w' : World) : Prop :=
 ∃ g c,e = .returned (.slice (some ⟨g,0,none⟩) n c) ∧ w.heap.size ≤ g ∧ Row w' g n f ∧ Grow w w'
set_option maxHeartbeats 1000000 in
theorem cloneL_any (D n cap : Nat) (f : Nat → Value) (w : World) (h0 : 0 < n) (hn : n ≤ 1000000) (h : Row w D n f) (h1 : ∀ i,i < n → (f i).oneCell' = true) :
  Calls Tryz.prog 79 #[.slice (some ⟨D,0,none⟩) n cap] w (ListOf w n f) := by
 obtain ⟨i0,hi,hz0,hz1,hz2⟩ := info_parts infoSl
 have q22 : ∀ (w : World) (a : Option Addr) (n c n' c' : Nat),(binOp .eql 62 (.slice a n c) (.slice none n' c')).run Tryz.prog w = .ok (.bool a.isNone) w := fun w a n c n' c' => Lib.run_eql_slice_nil w _ _ a n c n' c' Tryz.underlying62
 have HC := hid h
 have H1 := hid h1
 clear h h1
 go_enter Tryz.func79,Tryz.ntmps79
 go_wp2_with (at_builtin;refine wpList_append_lies _ rfl _ _ 62 rfl w.heap.size 22 i0 (.slice none 0 0) 1 24 Tryz.underlying62 hi hz0 hz1 hz2 rfl (by decide) _ _ _ rfl (World.ownsRow_made w #[] 0 (Nat.le_refl _) (Nat.zero_le _) rfl) ⟨D,0,none⟩ n cap ((List.range n).map f) rfl ?qc1 ?qc2 ?qc3 h0 ?qc4 ?qc5 ?qc6 _ rfl ?_)
 case qc1 => simp
 case qc2 =>
  intro j u hj
  have hjn : j < n := by
   have := (List.getElem?_eq_some_iff.1 hj).1
   simp at this
   omega
  have e : (⟨D,0,none⟩ : Addr).add j = ⟨D,j,none⟩ := by unfold Addr.add;split <;> simp_all
  rw [e]
  refine Lib.cell?_alloc_some _ ?_
  rw [HC.out.cell hjn,← hj]
  simp [hjn]
 case qc3 =>
  intro u hu
  obtain ⟨i,hi,rfl⟩ := List.mem_map.1 hu
  exact H1.out i (List.mem_range.1 hi)
 case qc4 => unfold maxLen;omega
 case qc5 => omega
 case qc6 => simp
 intro g c w1 hown hgrow hor hlt
 have hown' := hid hown
 have hgr' : Hid (Grow w w1) := ((Kept.refl _ w).alloc _).grown hgrow (by intro k hk;simp [Value.ownBlock] at hk;omega)
 clear hown hgrow hor hlt
 go_wp2
 go_ret
 have hown := hown'.out
 obtain ⟨g',e1,h1,h2,h3,h4⟩ := Row.of_own (f := f) hown h0 (fun i hi => by simp [hi])
 injection e1 with e1
 injection e1 with e1
 subst e1
 exact ⟨g,c,rfl,h1,h2,hgr'.out⟩
end LibC
namespace DevC
open Go.ChangeShapes Go.WideShapes Go.ChangeAt Go.RowKit
open SumM Mem Blk PageM Str Dev LibC Stages
section
variable {w : World} {d D W : Nat} {G : Nat → Prop} {S : Dv}
theorem has_any (h : DevAt w d D W G S) (p : Int) (hlo : -9223372036854775808 ≤ p) (hhi : p < 9223372036854775808) :
  Calls Tryz.prog 184 #[.pointer (some ⟨d,0,none⟩),.int .i64 p] w fun e w' => e = .returned (.bool (hasI S p)) ∧ w = w' := by
 have c0 := h.c0
 have hN := h.size
 have HP : Hid (hasI S p = (decide (0 ≤ p) && decide (p < S.N))) := rfl
 clear h
 obtain ⟨N,du,wr,n,bad,down⟩ := S
 simp only at c0 hN HP
 by_cases h0 : 0 ≤ p
 ·by_cases h1 : p < (N : Int)
  ·go_enter Tryz.func184,Tryz.ntmps184
   go_wp2
   go_ret
   exact ⟨by rw [HP.out];simp [h0,h1],rfl⟩
  ·have h1' : (N : Int) ≤ p := by omega
   go_enter Tryz.func184,Tryz.ntmps184
   go_wp2
   go_ret
   exact ⟨by rw [HP.out];simp [h1],rfl⟩
 ·have h0' : p < 0 := by omega
  go_enter Tryz.func184,Tryz.ntmps184
  go_wp2
  go_ret
  exact ⟨by rw [HP.out,decide_eq_false (by omega)];rfl,rfl⟩
theorem accesses_any (h : DevAt w d D W G S) :
  Calls Tryz.prog 70 #[.pointer (some ⟨d,0,none⟩)] w fun e w' => e = .returned (.int .i64 (S.n : Int)) ∧ w = w' := by
 have c2 := h.c2
 clear h
 go_enter Tryz.func70,Tryz.ntmps70
 go_wp2
 go_ret
 exact ⟨rfl,rfl⟩
def DevPost (d D W : Nat) (G : Nat → Prop) (w : World) (v : Value) (S' : Dv) (e : Ending) (w' : World) : Prop :=
 e = .returned v ∧ DevAt w' d D W G S' ∧ Kept (Own d D W) w w'
theorem access_any (h : DevAt w d D W G S) (hn : (S.n : Int) < 9223372036854775807) (hb : (S.bad : Int) < 9223372036854775807) :
  Calls Tryz.prog 157 #[.pointer (some ⟨d,0,none⟩)] w fun e w' => DevPost d D W G w (.int .i64 (accC S)) (accS S) e w' ∧ w'.heap.size = w.heap.size := by
 have c2 := h.c2
 have c3 := h.c3
 have c4 := h.c4
 have f2 := h.fr 2
 have f3 := h.fr 3
 have H := hid h
 have HC : Hid (accC S = if S.down then 12 else if S.bad = 1 then 9 else 0) := rfl
 have HS : Hid (accS S = if S.down then S else { S with n := S.n + 1,bad := S.bad - 1 }) := rfl
 clear h
 obtain ⟨N,du,wr,n,bad,down⟩ := S
 simp only at c2 c3 c4 HC HS hn hb
 cases down with
 | true =>
  go_enter Tryz.func157,Tryz.ntmps157
  go_wp2
  go_ret
  exact ⟨⟨by rw [HC.out];rfl,by rw [HS.out];exact H.out,Kept.refl _ _⟩,rfl⟩
 | false =>
  have H1 : Hid (DevAt (w.setCell ⟨d,2,none⟩ (.int .i64 ((n + 1 : Nat) : Int))) d D W G ⟨N,du,wr,n + 1,bad,false⟩) := H.out.field rfl rfl rfl rfl
  have HK1 : Hid (Kept (Own d D W) w (w.setCell ⟨d,2,none⟩ (.int .i64 ((n + 1 : Nat) : Int)))) := (Kept.refl _ _).setCell (fun _ => .inl rfl) _
  have E1 : Hid (((n + 1 : Nat) : Int) = (n : Int) + 1) := by show _ = _;omega
  have H2 : Hid (DevAt ((w.setCell ⟨d,2,none⟩ (.int .i64 ((n + 1 : Nat) : Int))).setCell ⟨d,3,none⟩ (.int .i64 ((bad - 1 : Nat) : Int))) d D W G ⟨N,du,wr,n + 1,bad - 1,false⟩) := H1.out.field rfl rfl rfl rfl
  have HK2 : Hid (Kept (Own d D W) w ((w.setCell ⟨d,2,none⟩ (.int .i64 ((n + 1 : Nat) : Int))).setCell ⟨d,3,none⟩ (.int .i64 ((bad - 1 : Nat) : Int)))) := HK1.out.setCell (fun _ => .inl rfl) _
  rw [E1.out] at H1 HK1 H2 HK2
  by_cases h0 : bad = 0
  ·subst h0
   simp only [Int.cast_ofNat_Int] at c3
   go_enter Tryz.func157,Tryz.ntmps157
   go_wp2
   go_ret
   exact ⟨⟨by rw [HC.out];rfl,by rw [HS.out];exact H1.out,HK1.out⟩,by simp⟩
  ·have E2 : Hid (((bad - 1 : Nat) : Int) = (bad : Int) - 1) := by show _ = _;omega
   rw [E2.out] at H2 HK2
   have h0' : ((bad : Int) == 0) = false := by simpa using h0
   by_cases h1 : bad = 1
   ·subst h1
    simp only [Int.cast_ofNat_Int] at c3 H2 HK2
    go_enter Tryz.func157,Tryz.ntmps157
    go_wp2
    go_ret
    exact ⟨⟨by rw [HC.out];rfl,by rw [HS.out];exact H2.out,HK2.out⟩,by simp⟩
   ·have h1' : ((bad : Int) - 1 == 0) = false := by
     rw [beq_eq_false_iff_ne];omega
    have HC' : Hid (accC ⟨N,du,wr,n,bad,false⟩ = 0) := by
     show _ = _
     rw [HC.out,if_neg (by decide),if_neg h1]
    go_enter Tryz.func157,Tryz.ntmps157
    go_wp2
    go_ret
    exact ⟨⟨by rw [HC'.out];rfl,by rw [HS.out];exact H2.out,HK2.out⟩,by simp⟩
theorem fail_any (h : DevAt w d D W G S) (m : Int) :
  Calls Tryz.prog 19 #[.pointer (some ⟨d,0,none⟩),.int .i64 m] w (DevPost d D W G w (.bool (failB m)) (failS S m)) := by
 have f3 := h.fr 3
 have c3 := h.c3
 have H := hid h
 have HB : Hid (failB m = (decide (0 ≤ m) && decide (m ≤ 1000000))) := rfl
 have HS : Hid (failS S m = if failB m then { S with bad := m.toNat } else S) := rfl
 clear h
 by_cases h0 : 0 ≤ m
 ·by_cases h1 : m ≤ 1000000
  ·have H1 : Hid (DevAt (w.setCell ⟨d,3,none⟩ (.int .i64 ((m.toNat : Nat) : Int))) d D W G { S with bad := m.toNat }) := H.out.field rfl rfl rfl rfl
   rw [Int.toNat_of_nonneg h0] at H1
   have HB' : Hid (failB m = true) := by show _ = _;rw [HB.out];simp [h0,h1]
   have HK : Hid (Kept (Own d D W) w (w.setCell ⟨d,3,none⟩ (.int .i64 m))) := (Kept.refl _ _).setCell (fun _ => .inl rfl) _
   go_enter Tryz.func19,Tryz.ntmps19
   go_wp2
   go_ret
   exact ⟨by rw [HB'.out];rfl,by rw [HS.out,HB'.out];exact H1.out,HK.out⟩
  ·have h1' : 1000000 < m := by omega
   have HB' : Hid (failB m = false) := by show _ = _;rw [HB.out];simp [h1]
   go_enter Tryz.func19,Tryz.ntmps19
   go_wp2
   go_ret
   exact ⟨by rw [HB'.out];rfl,by rw [HS.out,HB'.out];exact H.out,Kept.refl _ _⟩
 ·have h0' : m < 0 := by omega
  have HB' : Hid (failB m = false) := by show _ = _;rw [HB.out];simp [h0]
  go_enter Tryz.func19,Tryz.ntmps19
  go_wp2
  go_ret
  exact ⟨by rw [HB'.out];rfl,by rw [HS.out,HB'.out];exact H.out,Kept.refl _ _⟩
theorem accS_N (S : Dv) : (accS S).N = S.N := by unfold accS;split <;> rfl
theorem accS_dur (S : Dv) : (accS S).dur = S.dur := by unfold accS;split <;> rfl
theorem accS_wr (S : Dv) : (accS S).wr = S.wr := by unfold accS;split <;> rfl
theorem hasI_nat {k : Nat} (h : hasI S (k : Int) = true) : k < S.N := by
 unfold hasI at h
 simp at h
 omega
theorem read_bad (h : DevAt w d D W G S) (p : Int) (hlo : -9223372036854775808 ≤ p) (hhi : p < 9223372036854775808) (hn : (S.n : Int) < 9223372036854775807) (hb : (S.bad : Int) < 9223372036854775807) (hc : readC S p ≠ 0) :
  Calls Tryz.prog 180 #[.pointer (some ⟨d,0,none⟩),.int .i64 p] w fun e w' => e = .returned (.tuple #[.slice none 0 0,.int .i64 (readC S p)]) ∧ DevAt w' d D W G (readS S p) ∧ Kept (Own d D W) w w' ∧ w'.heap.size = w.heap.size := by
 have HH := hid (has_any h p hlo hhi)
 have HA := hid (access_any h hn hb)
 have H := hid h
 have HC : Hid (readC S p = if hasI S p then accC S else 1) := rfl
 have HS : Hid (readS S p = if hasI S p then accS S else S) := rfl
 clear h
 cases hp : hasI S p with
 | false =>
  rw [hp] at HH HC HS
  clear hp hc
  go_enter Tryz.func180,Tryz.ntmps180
  go_wp2_with (go_at_call 184;(with_reducible refine HH.out.mono ?_);rintro e w' ⟨rfl,rfl⟩)
  go_ret2
  exact ⟨by rw [HC.out];rfl,by rw [HS.out];exact H.out,Kept.refl _ _,rfl⟩
 | true =>
  rw [hp] at HH HC HS
  rw [HC.out,if_pos rfl] at hc
  have hc' : (accC S == 0) = false := by simpa using hc
  have hc'' : (accC S != 0) = true := by simpa using hc
  clear hp hc
  generalize accC S = c at *
  go_enter Tryz.func180,Tryz.ntmps180
  go_wp2_with (first
   | (go_at_call 184;(with_reducible refine HH.out.mono ?_);rintro e w' ⟨rfl,rfl⟩)
   | (go_at_call 157;(with_reducible refine HA.out.mono ?_);rintro e w1 ⟨⟨rfl,hdev,hk⟩,hsz⟩;have HD := hid hdev;have HK := hid hk;have HZ := hid hsz;clear hdev hk hsz))
  go_ret2
  exact ⟨by rw [HC.out];rfl,by rw [HS.out];exact HD.out,HK.out,HZ.out⟩
end
end DevC
namespace DevM
open Go.ChangeShapes Go.WideShapes Go.ChangeAt Go.RowKit
open SumM Mem Blk PageM Str Dev LibC DevC Stages
section
variable {w : World} {d D W : Nat} {G : Nat → Prop} {S : Dv}
def badS (S : Dv) (p : Int) (n : Nat) : Dv := if hasI S p && n == 24 then accS S else S
theorem write_bad (h : DevAt w d D W G S) (p : Int) (A : Option Addr) (n cap : Nat) (hlo : -9223372036854775808 ≤ p) (hhi : p < 9223372036854775808) (hm : n ≤ maxLen) (hn : (S.n : Int) < 9223372036854775807) (hb : (S.bad : Int) < 9223372036854775807) (hc : writeC S p n ≠ 0) :
  Calls Tryz.prog 155 #[.pointer (some ⟨d,0,none⟩),.int .i64 p,.slice A n cap] w (DevPost d D W G w (.int .i64 (writeC S p n)) (badS S p n)) := by
 unfold maxLen at hm
 have HB : Hid (badS S p n = if hasI S p && n == 24 then accS S else S) := rfl
 have HH := hid (has_any h p hlo hhi)
 have HA := hid (access_any h hn hb)
 have H := hid h
 have HC : Hid (writeC S p n = if hasI S p && n == 24 then accC S else 1) := rfl
 clear h
 cases hp : hasI S p with
 | false =>
  rw [hp] at HH HC HB
  clear hp hc
  go_enter Tryz.func155,Tryz.ntmps155
  go_wp2_with (go_at_call 184;(with_reducible refine HH.out.mono ?_);rintro e w' ⟨rfl,rfl⟩)
  go_ret
  exact ⟨by rw [HC.out];rfl,by rw [HB.out];exact H.out,Kept.refl _ _⟩
 | true =>
  rw [hp] at HH HC HB
  by_cases h24 : n = 24
  ·subst h24
   rw [HC.out] at hc
   have hc0 : accC S ≠ 0 := hc
   have hc' : (accC S == 0) = false := by simpa using hc0
   have hc'' : (accC S != 0) = true := by simpa using hc0
   clear hp hc hc0
   generalize accC S = c at *
   go_enter Tryz.func155,Tryz.ntmps155
   go_wp2_with (first
    | (go_at_call 184;(with_reducible refine HH.out.mono ?_);rintro e w' ⟨rfl,rfl⟩)
    | (go_at_call 157;(with_reducible refine HA.out.mono ?_);rintro e w1 ⟨⟨rfl,hdev,hk⟩,hsz⟩;have HD := hid hdev;have HK := hid hk;clear hdev hk hsz))
   go_ret
   exact ⟨by rw [HC.out];rfl,by rw [HB.out];exact HD.out,HK.out⟩
  ·have hne : ((n : Int) != 24) = true := by simpa [bne_iff_ne] using (by omega : ¬ (n : Int) = 24)
   have HN : Hid ((n == 24) = false) := by show _ = _;simpa using h24
   rw [HN.out] at HC
   clear hp hc h24
   go_enter Tryz.func155,Tryz.ntmps155
   go_wp2_with (go_at_call 184;(with_reducible refine HH.out.mono ?_);rintro e w' ⟨rfl,rfl⟩)
   go_ret
   exact ⟨by rw [HC.out];rfl,by rw [HB.out,HN.out];exact H.out,Kept.refl _ _⟩
set_option maxHeartbeats 1000000 in
theorem write_good (h : DevAt w d D W G S) (k : Nat) (hk : k < S.N) (A : Option Addr) (cap B : Nat) (zs : List Int) (hs : ∀ w',Kept (Own d D W) w w' → Sl w' B .u8 A 24 zs) (hz : Bytes zs) (low : ∀ x,G x → x < w.heap.size)
  (hn : (S.n : Int) < 9223372036854775807) (hb : (S.bad : Int) < 9223372036854775807) (hc : accC S = 0) :
  Calls Tryz.prog 155 #[.pointer (some ⟨d,0,none⟩),.int .i64 (k : Int),.slice A 24 cap] w (DevPost d D W G w (.int .i64 0) (putS (accS S) k zs)) := by
 have hN := h.size
 have HH := hid (has_any h (k : Int) (by omega) (by omega))
 have hp : hasI S (k : Int) = true := by simp [hasI,hk]
 have HA := hid (access_any h hn hb)
 rw [hc] at HA
 rw [hp] at HH
 have HS := hid hs
 have HL := hid low
 clear hp hc h hs low
 go_enter Tryz.func155,Tryz.ntmps155
 go_upto_region 7 with (first
   | (go_at_call 184;(with_reducible refine HH.out.mono ?_);rintro e w' ⟨rfl,rfl⟩)
   | (go_at_call 157;(with_reducible refine HA.out.mono ?_);rintro e w1 ⟨⟨rfl,hdev,hk⟩,hsz⟩;have HD := hid hdev;have HK := hid hk;have HZ := hid hsz;clear hdev hk hsz))
 have hs1 : Sl w1.drew B .u8 A 24 zs := HS.out _ HK.out.drew
 have CL := hid (clone_any A 24 cap B zs w1.drew (by omega) (by omega) hs1)
 have c1 := HD.out.c1
 rw [accS_N] at c1
 have hdW : d ≠ W := HD.out.ne.2.1
 have hkz : (k : Int) < (S.N : Int) := by omega
 have q1 := up_cell (F := (· = W)) (w := w1.drew) c1 (fun e => hdW e)
 clear hs1 c1 HH HA
 refine wp_region_stages (Kept (· = W)) (kept_refl _) (kept_trans _) [([0,1,2,3,4,5],6),([7],8)] [] (by kernel_rfl) (by kernel_rfl) ?_
 simp only [selSt,sel,ZmC,ZmN,ZgS,ZgZ]
 refine st_cons fun K1 hK1 => ?_
 repeat (go_big_quiet_step (fail))
 refine wpQuiet_nil ?_
 clear q1
 go_wp2_with (go_at_call 80;(with_reducible refine CL.out.mono ?_);rintro e w2 ⟨g,c',rfl,hg,hrow,h1,h2,hgr⟩;have HG := hid hg;have HR := hid hrow;have HGR := hid hgr;clear hg hrow hgr)
 refine norm_up (hK1 _ _ (HGR.out.kept) ?_)
 clear hK1 K1 CL
 have HD2 : Hid (DevAt w2 d D W G (accS S)) := HD.out.drew.grow HGR.out
 have hwr := HD2.out.wr
 obtain ⟨wv,hrow,_⟩ := hwr
 have hcell := hrow.cell (i := k) (by rw [accS_N];exact hk)
 have hf := hrow.frozen k
 have hgG : ¬ G g := fun x => by have := HL.out g x;have := HZ.out;have := HG.out;simp at this;omega
 have HI : Hid (Img w2 G (.slice (some ⟨g,0,none⟩) 24 c') zs) := Img.of_row HR.out (HS.out _ (Kept.refl _ _)).len hz h1 h2 hgG
 clear hrow hgG
 refine st_cons fun K2 hK2 => ?_
 repeat (go_big_quiet_step (fail))
 refine wpQuiet_nil ?_
 go_wp2
 refine norm_up (hK2 _ _ (kept_set _ _ _ _) (st_nil fun K3 hK3 => wpQuiet_nil (hK3 _ ?_)))
 clear hK2 K2 K3 hK3
 have HF : Hid (DevAt (w2.setCell ⟨W,k,none⟩ (.slice (some ⟨g,0,none⟩) 24 c')) d D W G (putS (accS S) k zs)) := HD2.out.putW HI.out
 have HKF : Hid (Kept (Own d D W) w (w2.setCell ⟨W,k,none⟩ (.slice (some ⟨g,0,none⟩) 24 c'))) := ((HK.out.drew).then HGR.out (fun _ _ x => x.elim)).setCell (fun _ => .inr (.inr rfl)) _
 clear hcell hf
 go_wp2
 go_ret
 exact ⟨rfl,HF.out,HKF.out⟩
end
end DevM
namespace DevY
open Go.ChangeShapes Go.WideShapes Go.ChangeAt Go.RowKit
open SumM Mem Blk PageM Str Dev LibC DevC DevM Stages
section
variable {w : World} {d D W : Nat} {G : Nat → Prop} {S : Dv}
theorem sync_bad (h : DevAt w d D W G S) (hn : (S.n : Int) < 9223372036854775807) (hb : (S.bad : Int) < 9223372036854775807) (hc : accC S ≠ 0) :
  Calls Tryz.prog 104 #[.pointer (some ⟨d,0,none⟩)] w (DevPost d D W G w (.int .i64 (accC S)) (accS S)) := by
 have HA := hid (access_any h hn hb)
 have H := hid h
 have hc' : (accC S == 0) = false := by simpa using hc
 have hc'' : (accC S != 0) = true := by simpa using hc
 clear h hc
 generalize accC S = c at *
 go_enter Tryz.func104,Tryz.ntmps104
 go_wp2
 go_step3
 go_wp2_with (go_at_call 157;(with_reducible refine HA.out.mono ?_);rintro e w1 ⟨⟨rfl,hdev,hk⟩,hsz⟩;have HD := hid hdev;have HK := hid hk;clear hdev hk hsz)
 rw [Exit.noGoto_ret]
 go_ret
 exact ⟨rfl,HD.out,HK.out⟩
def mixS (S : Dv) (j : Nat) : Dv := { S with dur := fun q => if q < j then cur S q else S.dur q }
theorem zero_sl : ∀ w,(zeroValue 22).run Tryz.prog w = .ok (.slice none 0 0) w := by
 obtain ⟨i0,hi,hz0,hz1,hz2⟩ := info_parts infoSl
 intro w
 simp [zeroValue,typeInfo,hi,hz0]
set_option maxHeartbeats 1000000 in
theorem sync_good (h : DevAt w d D W G S) (hn : (S.n : Int) < 9223372036854775807) (hb : (S.bad : Int) < 9223372036854775807) (hc : accC S = 0) :
  Calls Tryz.prog 104 #[.pointer (some ⟨d,0,none⟩)] w (DevPost d D W G w (.int .i64 0) (flushS (accS S))) := by
 have q22 : ∀ (w : World) (a : Option Addr) (n c n' c' : Nat),(binOp .eql 22 (.slice a n c) (.slice none n' c')).run Tryz.prog w = .ok (.bool a.isNone) w := fun w a n c n' c' => Lib.run_eql_slice_nil w _ _ a n c n' c' Tryz.underlying22
 have HA := hid (access_any h hn hb)
 rw [hc] at HA
 have hN := h.size
 rw [← accS_N] at hN
 clear h hc
 generalize accS S = T at *
 go_enter Tryz.func104,Tryz.ntmps104
 go_wp2
 go_step3
 go_wp2_with (go_at_call 157;(with_reducible refine HA.out.mono ?_);rintro e w1 ⟨⟨rfl,hdev,hk⟩,hsz⟩;have HD := hid hdev;have HK := hid hk;have HZ := hid hsz;clear hdev hk hsz)
 have c1 := HD.out.c1
 go_step3
 go_wp2
 clear c1
 have HM0 : Hid (DevAt w1 d D W G (mixS T 0)) := HD.out.congr rfl rfl rfl rfl (fun p _ => by show (if p < 0 then cur T p else T.dur p) = T.dur p;rw [if_neg (by omega)]) (fun _ _ => rfl)
 have hNN := hN
 have HT : Hid (T.N = T.N) := rfl
 go_loopg [18] T.N (fun g i wr => ∃ j : Nat,j + g = T.N ∧ i = .int .i64 (j : Int) ∧ DevAt wr d D W G (mixS T j) ∧ Kept (Own d D W) w wr)
 case atStart => exact ⟨0,by omega,rfl,HM0.out,HK.out⟩
 case round =>
  obtain ⟨j,hg,rfl,hdev,hkk⟩ := hrel
  have HDJ := hid hdev
  have HKJ := hid hkk
  have HG := hid hg
  by_cases hj : j < T.N
  ·have hjz : (j : Int) < (T.N : Int) := by omega
   obtain ⟨wv,hwr,hwi⟩ := hdev.wr
   have hwk := hwi j hj
   have r1 := hwr.cell (i := j) hj
   have c0 := hdev.c0
   have c1 := hdev.c1
   obtain ⟨dv,hdr,_⟩ := hdev.dur
   have hcell := hdr.cell (i := j) hj
   have hf := hdr.frozen j
   have HCU : Hid (cur T j = (T.wr j).getD (T.dur j)) := rfl
   have c0' : wr.cell? ⟨d,0,none⟩ = some (.slice (some ⟨D,0,none⟩) T.N T.N) := c0
   clear hdev hwr hwi hdr hkk hg c0 c1
   generalize wv j = y at *
   cases ho : T.wr j with
   | none =>
    obtain rfl : y = .slice none 0 0 := by
     have : WImg wr G y (T.wr j) := hwk
     rw [ho] at this
     exact this
    rw [ho] at HCU
    have HNX : Hid (DevAt wr d D W G (mixS T (j + 1))) := HDJ.out.congr rfl rfl rfl rfl (fun p _ => by
     show (if p < j + 1 then cur T p else T.dur p) = (if p < j then cur T p else T.dur p)
     by_cases e : p = j
     ·subst e;rw [if_pos (by omega),if_neg (by omega)];exact HCU.out
     ·by_cases e2 : p < j
      ·rw [if_pos (by omega),if_pos e2]
      ·rw [if_neg (by omega),if_neg e2]) (fun _ _ => rfl)
    clear ho hwk
    go_wp2
    go_roundg (gk - 1)
    case measure => have := HG.out;omega
    case rel => exact ⟨j + 1,by have := HG.out;omega,by go_num,HNX.out,HKJ.out⟩
   | some z =>
    have hi : Img wr G y z := by
     have : WImg wr G y (T.wr j) := hwk
     rw [ho] at this
     exact this
    have HI := hid hi
    obtain ⟨b,c,rfl,h24,hm,hsl⟩ := hi.sl
    rw [ho] at HCU
    have HNX : Hid (DevAt (wr.setCell ⟨D,j,none⟩ (.slice (some ⟨b,0,none⟩) 24 c)) d D W G (mixS T (j + 1))) := (HDJ.out.putD (k := j) HI.out).congr rfl rfl rfl rfl (fun p _ => by
     show (if p < j + 1 then cur T p else T.dur p) = (if p = j then z else if p < j then cur T p else T.dur p)
     by_cases e : p = j
     ·subst e;rw [if_pos (by omega),if_pos rfl];exact HCU.out
     ·rw [if_neg e]
      by_cases e2 : p < j
      ·rw [if_pos (by omega),if_pos e2]
      ·rw [if_neg (by omega),if_neg e2]) (fun _ _ => rfl)
    have HKX : Hid (Kept (Own d D W) w (wr.setCell ⟨D,j,none⟩ (.slice (some ⟨b,0,none⟩) 24 c))) := HKJ.out.setCell (fun _ => .inr (.inl rfl)) _
    clear ho hwk hsl hi
    go_wp2
    go_roundg (gk - 1)
    case measure => have := HG.out;omega
    case rel => exact ⟨j + 1,by have := HG.out;omega,by go_num,HNX.out,HKX.out⟩
  ·have hjN : j = T.N := by omega
   subst hjN
   obtain ⟨wv,hwr,_⟩ := hdev.wr
   have hwr' : Row wr W T.N wv := hwr
   have hclr := fun ty => Lib.run_clear_slice (P := Tryz.prog) wr 62 22 ty (.slice none 0 0) Tryz.underlying62 zero_sl rfl rfl W 0 T.N T.N (by omega) (fun q hq => by rw [Nat.zero_add,hwr'.cell hq];rfl) (fun q _ => hwr'.frozen _)
   have c1 := hdev.c1
   have c1' : wr.cell? ⟨d,1,none⟩ = some (.slice (some ⟨W,0,none⟩) T.N T.N) := c1
   have HF : Hid (DevAt (wr.setCells W 0 (List.replicate T.N (.slice none 0 0))) d D W G (flushS T)) := (hdev.clear).congr rfl rfl rfl rfl (fun p hp => by
     show cur T p = (if p < T.N then cur T p else T.dur p)
     have hp' : p < T.N := hp
     rw [if_pos hp']) (fun _ _ => rfl)
   have HKF : Hid (Kept (Own d D W) w (wr.setCells W 0 (List.replicate T.N (.slice none 0 0)))) := hkk.trans ((kept_setCells _ _ _).mono fun _ _ e => .inr (.inr e))
   clear hwr hwr' hdev hkk hg c1
   go_wp2
   go_ret
   exact ⟨rfl,HF.out,HKF.out⟩
theorem infoI : (Tryz.prog.info? 3).map (fun i => (i.zero,i.size,i.bytes)) = some (some (.int .i64 0),1,8) := by kernel_rfl
def IntsOf (w : World) (zs : List Int) (e : Ending) (w' : World) : Prop :=
 ∃ A n c,e = .returned (.slice A n c) ∧ Sl w' w'.heap.size .i64 A n zs ∧ (∀ x,A = some x → w.heap.size ≤ x.block) ∧ Grow w w'
theorem waitL_le (S : Dv) : ∀ j,(waitL S j).length ≤ j
 | 0 => Nat.le_refl _
 | j + 1 => by
  have := waitL_le S j
  unfold waitL
  split
  ·simp;omega
  ·omega
set_option maxHeartbeats 1000000 in
theorem waits_any (h : DevAt w d D W G S) :
  Calls Tryz.prog 31 #[.pointer (some ⟨d,0,none⟩)] w (IntsOf w (waitL S S.N)) := by
 have q22 : ∀ (w : World) (a : Option Addr) (n c n' c' : Nat),(binOp .eql 22 (.slice a n c) (.slice none n' c')).run Tryz.prog w = .ok (.bool a.isNone) w := fun w a n c n' c' => Lib.run_eql_slice_nil w _ _ a n c n' c' Tryz.underlying22
 have hN := h.size
 have c1 := h.c1
 have H := hid h
 clear h
 go_enter Tryz.func31,Tryz.ntmps31
 go_wp2
 go_step3
 go_wp2
 go_step3
 go_wp2
 clear c1
 go_loopg [3,13] S.N (fun g v i wr => ∃ j : Nat,j + g = S.N ∧ i = .int .i64 (j : Int) ∧ wr.ownsRow w.heap.size 3 1 v (waitL S j).length ((waitL S j).map (Value.int .i64)) ∧ Below w.heap.size w wr)
 case atStart => exact ⟨0,by omega,rfl,World.ownsRow_nil _ _ _ _,Below.refl _ _⟩
 case round =>
  obtain ⟨j,hg,rfl,hown,hbel⟩ := hrel
  have HO := hid hown
  have HB := hid hbel
  have HG := hid hg
  have hdev := H.out.grow (Kept.of_below hbel)
  by_cases hj : j < S.N
  ·have hjz : (j : Int) < (S.N : Int) := by omega
   obtain ⟨wv,hwr,hwi⟩ := hdev.wr
   have hwk := hwi j hj
   have r1 := hwr.cell (i := j) hj
   have hle := waitL_le S j
   have hbs : w.heap.size ≤ wr.heap.size := hbel.size
   clear hdev hwr hwi hg hown hbel
   generalize wv j = y at *
   cases ho : S.wr j with
   | none =>
    obtain rfl : y = .slice none 0 0 := by
     have : WImg wr G y (S.wr j) := hwk
     rw [ho] at this
     exact this
    have HE : Hid (waitL S (j + 1) = waitL S j) := by
     show waitL S (j + 1) = waitL S j
     rw [waitL,ho];rfl
    clear ho hwk
    go_wp2
    go_roundg (gk - 1)
    case measure => have := HG.out;omega
    case rel => exact ⟨j + 1,by have := HG.out;omega,by go_num,by rw [HE.out];exact HO.out,HB.out⟩
   | some z =>
    obtain ⟨b,c,rfl,_⟩ : Img wr G y z := by
     have : WImg wr G y (S.wr j) := hwk
     rw [ho] at this
     exact this
    have HE : Hid (waitL S (j + 1) = waitL S j ++ [(j : Int)]) := by
     show waitL S (j + 1) = waitL S j ++ [(j : Int)]
     rw [waitL,ho];rfl
    clear ho hwk
    generalize waitL S j = l at *
    go_wp2_with (at_builtin;refine wpList_append_one rfl (.tmp 20) (.tmp 22) 33 rfl w.heap.size 3 (.int .i64 0) 8 Tryz.underlying33 infoI rfl _ l.length _ rfl (World.ownsRow.alloc HO.out _) wr.heap.size (.int .i64 (j : Int)) rfl (cell_new1 _ _ _) rfl (by unfold maxLen;omega) (by omega) (by simp;omega) ?_;intro g cap w2 hown hbel;have HOW := hid hown;have HBW := hid hbel;clear hown hbel)
    go_roundg (gk - 1)
    case measure => have := HG.out;omega
    case rel => exact ⟨j + 1,by have := HG.out;omega,by go_num,by rw [HE.out];simpa using HOW.out,(HB.out.alloc hbs _).trans HBW.out⟩
  ·have hjN : j = S.N := by omega
   subst hjN
   obtain ⟨A,c,rfl,hsl⟩ := Sl.of_row1 hown
   have HSL := hid hsl
   have HNEW : Hid (∀ x,A = some x → w.heap.size ≤ x.block) := fun x e => (World.ownsRow.lt hown x.block (by rw [e];rfl)).1
   clear hdev hown hbel hg hsl
   go_wp2
   rw [Exit.noGoto_ret]
   go_ret
   exact ⟨A,_,c,rfl,HSL.out,HNEW.out,Kept.of_below HB.out⟩
def Fr (g : Nat) (w' : World) (v : Value) (zs : List Int) : Prop := ∃ b c,v = .slice (some ⟨b,0,none⟩) 24 c ∧ 24 ≤ c ∧ c ≤ maxLen ∧ g < b ∧ NRow w' b 24 .u8 zs ∧ zs.length = 24 ∧ Bytes zs
theorem Fr.kept {g : Nat} {w w' : World} {v : Value} {zs : List Int} {F : Nat → Prop} (h : Fr g w v zs) (hk : Kept F w w') (hF : ∀ b,g < b → ¬ F b) : Fr g w' v zs := by
 obtain ⟨b,c,rfl,h1,h2,h3,h4,h5⟩ := h
 exact ⟨b,c,rfl,h1,h2,h3,Row.kept h4 hk (hF b h3),h5⟩
def DurOf (w : World) (n : Nat) (z : Nat → List Int) (e : Ending) (w' : World) : Prop :=
 ∃ g c f,e = .returned (.slice (some ⟨g,0,none⟩) n c) ∧ w.heap.size ≤ g ∧ Row w' g n f ∧ (∀ p,p < n → Fr g w' (f p) (z p)) ∧ Grow w w'
set_option maxHeartbeats 1000000 in
theorem durable_any (h : DevAt w d D W G S) :
  Calls Tryz.prog 29 #[.pointer (some ⟨d,0,none⟩)] w (DurOf w S.N S.dur) := by
 have hN := h.size
 have c0 := h.c0
 have H := hid h
 obtain ⟨dv,hdr,hdi⟩ := h.dur
 have CL := hid (cloneL_any D S.N S.N dv w (by omega) (by omega) hdr (fun p hp => by obtain ⟨b,c,e,_⟩ := hdi p hp;rw [e];rfl))
 have HDI := hid hdi
 clear h hdr hdi
 go_enter Tryz.func29,Tryz.ntmps29
 go_wp2_with (go_at_call 79;(with_reducible refine CL.out.mono ?_);rintro e w1 ⟨g,c,rfl,hg,hrow,hgr⟩;have HGG := hid hg;have HR := hid hrow;have HGR := hid hgr;clear hg hrow hgr)
 clear c0
 go_loopg [15] S.N (fun gx i wr => ∃ (j : Nat) (f : Nat → Value),j + gx = S.N ∧ i = .int .i64 (j : Int) ∧ Row wr g S.N f ∧ (∀ p,p < S.N → if p < j then Fr g wr (f p) (S.dur p) else f p = dv p) ∧ Grow w wr)
 case atStart => exact ⟨0,dv,by omega,rfl,HR.out,fun p _ => by rw [if_neg (by omega)],HGR.out⟩
 case round =>
  obtain ⟨j,f,hg,rfl,hrow,hall,hgr⟩ := hrel
  have HRW := hid hrow
  have HALL := hid hall
  have HGW := hid hgr
  have HG := hid hg
  by_cases hj : j < S.N
  ·have hjz : (j : Int) < (S.N : Int) := by omega
   have hfj := hall j hj
   rw [if_neg (by omega)] at hfj
   have r1 := hrow.cell (i := j) hj
   have hf := hrow.frozen j
   rw [hfj] at r1
   have hi := (HDI.out j hj).kept hgr (fun _ x => x.elim)
   obtain ⟨b,c',hb,h24,hm,hsl⟩ := hi.sl
   rw [hb] at r1
   have CB := hid (clone_any (some ⟨b,0,none⟩) 24 c' wr.heap.size (S.dur j) wr (by omega) (by omega) hsl)
   have HOK : Hid ((S.dur j).length = 24 ∧ Bytes (S.dur j)) := H.out.durOk hj
   clear hrow hall hgr hg hfj hi hb hsl
   go_wp2_with (go_at_call 80;(with_reducible refine CB.out.mono ?_);rintro e w2 ⟨g2,c2,rfl,hg2,hrow2,h1,h2,hgr2⟩;have hr2 := HRW.out.grow hgr2;have r2 := hr2.cell (i := j) hj;have f2 := hr2.frozen j;have HG2 := hid hg2;have HR2 := hid hrow2;have HGR2 := hid hgr2;clear hg2 hrow2 hgr2 hr2)
   have hgb : g < g2 := by have := HRW.out.lt;have := HG2.out;omega
   go_roundg (gk - 1)
   case measure => have := HG.out;omega
   case rel =>
    refine ⟨j + 1,_,by have := HG.out;omega,by go_num,(HRW.out.grow HGR2.out).set j _,fun p hp => ?_,(HGW.out.trans HGR2.out).setCell (fun x => absurd x (by have := HGG.out;show ¬ g < _;omega)) _⟩
    by_cases e : p = j
    ·subst e
     rw [if_pos (by omega),if_pos rfl]
     exact ⟨g2,c2,rfl,h1,h2,hgb,Row.kept HR2.out (kept_set _ _ _ _) (by omega),HOK.out.1,HOK.out.2⟩
    ·have := HALL.out p hp
     rw [if_neg e]
     by_cases e2 : p < j
     ·rw [if_pos (by omega)]
      rw [if_pos e2] at this
      exact (this.kept HGR2.out (fun _ _ x => x)).kept (kept_set _ _ _ _) (fun b hb => by omega)
     ·rw [if_neg (by omega)]
      rw [if_neg e2] at this
      exact this
  ·have hjN : j = S.N := by omega
   subst hjN
   clear hrow hall hgr hg
   go_wp2
   go_ret
   exact ⟨g,c,f,rfl,HGG.out,HRW.out,fun p hp => by have := HALL.out p hp;rw [if_pos hp] at this;exact this,HGW.out⟩
end
end DevY
namespace DevN
open Go.ChangeShapes Go.WideShapes Go.ChangeAt Go.RowKit
open SumM Mem Blk PageM Str Dev LibC DevC Stages
section
variable {w : World}
theorem new_bad (p : Int) (h : ¬ (1 ≤ p ∧ p ≤ 48)) : Calls Tryz.prog 35 #[.int .i64 p] w fun e w' => e = .returned (.pointer none) ∧ w = w' := by
 by_cases h0 : p < 1
 ·clear h
  go_enter Tryz.func35,Tryz.ntmps35
  go_wp2
  go_ret
  exact ⟨rfl,rfl⟩
 ·have h1 : 48 < p := by omega
  clear h
  go_enter Tryz.func35,Tryz.ntmps35
  go_wp2
  go_ret
  exact ⟨rfl,rfl⟩
structure NewAt (w wx : World) (d D W N : Nat) (dv : Nat → Value) : Prop where
 disk : Blk wx d 99 [.slice (some ⟨D,0,none⟩) N N,.slice (some ⟨W,0,none⟩) N N,.int .i64 0,.int .i64 0,.bool false]
 dur : Row wx D N dv
 wr : Row wx W N fun _ => .slice none 0 0
 ne : d ≠ D ∧ d ≠ W ∧ D ≠ W
 old : w.heap.size ≤ d ∧ w.heap.size ≤ D ∧ w.heap.size ≤ W
 grow : Grow w wx
def HalfNew (w : World) (N : Nat) (v : Value) (wx : World) : Prop := ∃ d D W,v = .pointer (some ⟨d,0,none⟩) ∧ NewAt w wx d D W N fun _ => .slice none 0 0
theorem row_made (w : World) (n : Nat) : Row (w.alloc (.cells (madeCells #[Value.slice none 0 0] n) 22)) w.heap.size n fun _ => .slice none 0 0 :=
 ⟨_,_,heap_alloc_new w _,by simp [size_madeCells],fun i hi => by simp [madeCells,hi,Nat.mod_one]⟩
theorem new_half (w : World) (N D W : Nat) (h : (D = w.heap.size ∧ W = w.heap.size + 1) ∨ (D = w.heap.size + 1 ∧ W = w.heap.size)) :
  NewAt w ((((w.alloc (.cells (madeCells #[Value.slice none 0 0] N) 22)).alloc (.cells (madeCells #[Value.slice none 0 0] N) 22)).alloc (.cells #[.slice (some ⟨D,0,none⟩) N N,.slice (some ⟨W,0,none⟩) N N,.int .i64 0,.int .i64 0,.bool false] 99)).drew) (w.heap.size + 1 + 1) D W N fun _ => .slice none 0 0 := by
 have hb := Blk.new ((w.alloc (.cells (madeCells #[Value.slice none 0 0] N) 22)).alloc (.cells (madeCells #[Value.slice none 0 0] N) 22)) 99 [.slice (some ⟨D,0,none⟩) N N,.slice (some ⟨W,0,none⟩) N N,.int .i64 0,.int .i64 0,.bool false]
 have g1 : Grow (w.alloc (.cells (madeCells #[Value.slice none 0 0] N) 22)) ((w.alloc (.cells (madeCells #[Value.slice none 0 0] N) 22)).alloc (.cells (madeCells #[Value.slice none 0 0] N) 22)) := (Kept.refl _ _).alloc _
 have g2 : Grow ((w.alloc (.cells (madeCells #[Value.slice none 0 0] N) 22)).alloc (.cells (madeCells #[Value.slice none 0 0] N) 22)) ((((w.alloc (.cells (madeCells #[Value.slice none 0 0] N) 22)).alloc (.cells (madeCells #[Value.slice none 0 0] N) 22)).alloc (.cells #[.slice (some ⟨D,0,none⟩) N N,.slice (some ⟨W,0,none⟩) N N,.int .i64 0,.int .i64 0,.bool false] 99)).drew) := ((Kept.refl _ _).alloc _).drew
 have r0 := ((row_made w N).grow g1).grow g2
 have r1 := (row_made (w.alloc (.cells (madeCells #[Value.slice none 0 0] N) 22)) N).grow g2
 have e2 : ((w.alloc (.cells (madeCells #[Value.slice none 0 0] N) 22)).alloc (.cells (madeCells #[Value.slice none 0 0] N) 22)).heap.size = w.heap.size + 1 + 1 := by simp
 have e1 : (w.alloc (.cells (madeCells #[Value.slice none 0 0] N) 22)).heap.size = w.heap.size + 1 := by simp
 rw [e2] at hb
 rw [e1] at r1
 have hgr : Grow w ((((w.alloc (.cells (madeCells #[Value.slice none 0 0] N) 22)).alloc (.cells (madeCells #[Value.slice none 0 0] N) 22)).alloc (.cells #[.slice (some ⟨D,0,none⟩) N N,.slice (some ⟨W,0,none⟩) N N,.int .i64 0,.int .i64 0,.bool false] 99)).drew) := (((Kept.refl _ w).alloc _).trans g1).trans g2
 rcases h with ⟨rfl,rfl⟩ | ⟨rfl,rfl⟩
 ·exact ⟨hb.drew,r0,r1,⟨by omega,by omega,by omega⟩,⟨by omega,by omega,by omega⟩,hgr⟩
 ·exact ⟨hb.drew,r1,r0,⟨by omega,by omega,by omega⟩,⟨by omega,by omega,by omega⟩,hgr⟩
def newG (w : World) (d D W k : Nat) : Prop := k < w.heap.size ∨ Own d D W k
def NewPost (w : World) (N : Nat) (e : Ending) (w' : World) : Prop :=
 ∃ d D W,e = .returned (.pointer (some ⟨d,0,none⟩)) ∧ DevAt w' d D W (newG w d D W) (newS N) ∧ (w.heap.size ≤ d ∧ w.heap.size ≤ D ∧ w.heap.size ≤ W) ∧ Grow w w'
set_option maxHeartbeats 1000000 in
theorem new_good (N : Nat) (h1 : 1 ≤ N) (h48 : N ≤ 48) : Calls Tryz.prog 35 #[.int .i64 (N : Int)] w (NewPost w N) := by
 have hmk := fun w => run_make_row' (P := Tryz.prog) 62 22 (.slice none 0 0) 24 Tryz.underlying62 infoSl rfl .i64 .i64 N (by omega) (by omega) w
 have hz0 : ¬ ((N : Int) < 1) := by omega
 have hz1 : (N : Int) ≤ 48 := by omega
 go_enter Tryz.func35,Tryz.ntmps35
 go_upto_region 3 with (fail)
 go_cut [3] from 11 to 16 (fun v wx => HalfNew w N v wx)
 case first =>
  have HN1 := hid (new_half w N w.heap.size (w.heap.size + 1) (.inl ⟨rfl,rfl⟩))
  have HN2 := hid (new_half w N (w.heap.size + 1) w.heap.size (.inr ⟨rfl,rfl⟩))
  go_region
  ·go_wp2_with fail
   go_meet
   exact ⟨_,_,_,rfl,HN1.out⟩
  ·go_wp2_with fail
   go_meet
   exact ⟨_,_,_,rfl,HN2.out⟩
 case rest =>
  obtain ⟨d,D,W,rfl,hnew⟩ := hcut
  clear hmk
  have HW := hid hnew
  have hc0 : wc.cell? ⟨d,0,none⟩ = some (.slice (some ⟨D,0,none⟩) N N) := by rw [hnew.disk.cell];rfl
  have hDl := hnew.dur.lt
  clear hnew
  go_wp2
  clear hc0
  go_loopg [22] N (fun g i wr => ∃ (j : Nat) (dv : Nat → Value),j + g = N ∧ i = .int .i64 (j : Int) ∧ NewAt w wr d D W N dv ∧ ∀ p,p < j → Img wr (newG w d D W) (dv p) (zeros 24))
  case atStart => exact ⟨0,_,by omega,rfl,HW.out,fun p hp => absurd hp (by omega)⟩
  case round =>
   obtain ⟨j,dv,hg,rfl,hnew,himg⟩ := hrel
   have HN := hid hnew
   have HI := hid himg
   have HG := hid hg
   by_cases hj : j < N
   ·have hjz : (j : Int) < (N : Int) := by omega
    have c0 : wr.cell? ⟨d,0,none⟩ = some (.slice (some ⟨D,0,none⟩) N N) := by rw [hnew.disk.cell];rfl
    have q0 := up_cell (F := (· = D)) (w := wr.drew) c0 hnew.ne.1
    clear hnew himg hg c0
    go_upto_region 7 with (fail)
    refine wp_region_stages (Kept (· = D)) (kept_refl _) (kept_trans _) [([0,1,2,3,4],5),([6],7)] [] (by kernel_rfl) (by kernel_rfl) ?_
    simp only [selSt,sel,ZmC,ZmN,ZgS,ZgZ]
    refine st_cons fun K1 hK1 => ?_
    repeat (go_big_quiet_step (fail))
    refine wpQuiet_nil ?_
    clear q0
    go_wp2_with (go_at_call 84;(with_reducible refine (blank_any _).mono ?_);rintro e w2 ⟨g,rfl,hg,hblk,hgr⟩;have HGG := hid hg;have HB := hid hblk;have HGR := hid hgr;clear hg hblk hgr)
    refine norm_up (hK1 _ _ HGR.out.kept ?_)
    clear hK1 K1
    have hG2 : Grow wr w2 := (Kept.drew' wr).trans HGR.out
    have hd2 := (HN.out.dur.grow hG2)
    have r2 := hd2.cell (i := j) hj
    have f2 := hd2.frozen j
    have HIM : Hid (Img w2 (newG w d D W) (.slice (some ⟨g,0,none⟩) 24 24) (zeros 24)) := by
     refine Img.of_row (Row.of_blk HB.out (by simp [zeros_len]) (fun i hi => ?_)) (zeros_len 24) (zeros_bytes 24) (Nat.le_refl _) (by unfold maxLen;omega) (fun x => ?_)
     ·have hi' : i < (zeros 24).length := by rw [zeros_len];exact hi
      simp [List.getD,List.getElem?_eq_getElem hi']
     ·have h1 := HGG.out
      simp at h1
      have h2 := HN.out.grow.size
      have h3 := HN.out.disk.lt
      have h4 := HN.out.dur.lt
      have h5 := HN.out.wr.lt
      rcases x with x | x | x | x <;> omega
    have HNX : Hid (NewAt w (w2.setCell ⟨D,j,none⟩ (.slice (some ⟨g,0,none⟩) 24 24)) d D W N (fun q => if q = j then .slice (some ⟨g,0,none⟩) 24 24 else dv q)) :=
     ⟨(HN.out.disk.grow hG2).other (by have := HN.out.ne.1;exact this) _,hd2.set j _,(HN.out.wr.grow hG2).other (by have := HN.out.ne.2.2;exact fun e => this e.symm) _,HN.out.ne,HN.out.old,
      (HN.out.grow.trans hG2).setCell (fun x => absurd x (by have := HN.out.old.2.1;show ¬ D < _;omega)) _⟩
    have HIX : Hid (∀ p,p < j + 1 → Img (w2.setCell ⟨D,j,none⟩ (.slice (some ⟨g,0,none⟩) 24 24)) (newG w d D W) (if p = j then .slice (some ⟨g,0,none⟩) 24 24 else dv p) (zeros 24)) := fun p hp => by
     have hDG : ∀ k,k = D → newG w d D W k := fun k e => .inr (.inr (.inl e))
     by_cases e : p = j
     ·rw [if_pos e];exact HIM.out.kept (kept_set _ _ _ _) hDG
     ·rw [if_neg e];exact ((HI.out p (by omega)).kept hG2 (fun _ x => x.elim)).kept (kept_set _ _ _ _) hDG
    clear hG2 hd2
    refine st_cons fun K2 hK2 => ?_
    repeat (go_big_quiet_step (fail))
    refine wpQuiet_nil ?_
    go_wp2
    refine norm_up (hK2 _ _ (kept_set _ _ _ _) (st_nil fun K3 hK3 => wpQuiet_nil (hK3 _ ?_)))
    clear hK2 K2 K3 hK3 r2 f2
    go_wp2
    go_roundg (gk - 1)
    case measure => have := HG.out;omega
    case rel => exact ⟨j + 1,_,by have := HG.out;omega,by go_num,HNX.out,HIX.out⟩
   ·have hjN : j = N := by omega
    subst hjN
    clear hnew himg hg
    go_wp2
    go_ret
    refine ⟨d,D,W,rfl,⟨HN.out.disk,⟨dv,HN.out.dur,fun p hp => HI.out p hp⟩,⟨_,HN.out.wr,fun p hp => rfl⟩,HN.out.ne,fun k hk => .inr hk,⟨h1,h48⟩⟩,HN.out.old,HN.out.grow⟩
end
end DevN
namespace DevS
open Go.ChangeShapes Go.WideShapes Go.ChangeAt Go.RowKit
open SumM Mem Blk PageM Str Dev LibC DevC DevM DevY DevN
theorem accS_up {S : Dv} (h : S.down = false) : (accS S).n = S.n + 1 ∧ (accS S).bad = S.bad - 1 ∧ (accS S).down = false := by
 unfold accS
 rw [h]
 exact ⟨rfl,rfl,rfl⟩
theorem accC_up {S : Dv} (h : S.down = false) : accC S = if S.bad = 1 then 9 else 0 := by
 unfold accC
 rw [h];rfl
theorem cur_acc (S : Dv) (p : Nat) : cur (accS S) p = cur S p := by unfold cur;rw [accS_wr,accS_dur]
theorem cur_put (S : Dv) (k : Nat) (z : List Int) (p : Nat) : cur (putS S k z) p = if p = k then z else cur S p := by
 unfold cur putS
 show ((if p = k then some z else S.wr p).getD (S.dur p)) = _
 split <;> rfl
end DevS
namespace RefD
open Go.ChangeShapes Go.WideShapes Go.ChangeAt Go.RowKit
open SumM Mem Blk PageM Str Dev LibC DevC DevM DevY DevN DevS Stages
structure Rf where
 m : Nat
 A : Nat
 T : Nat
 V : Nat
 cA : Nat
 cT : Nat
 cV : Nat
def POwn (r : Rf) (k : Nat) : Prop := k = r.m ∨ k = r.A ∨ k = r.T ∨ k = r.V
def strV (z : List Int) : Value := .string (strOfNums z)
structure Rows3 (w : World) (r : Rf) (n bad N : Nat) (down : Bool) (s t : Nat → List Int) (v : Nat → Bool) : Prop where
 blk : Blk w r.m 101 [.slice (some ⟨r.A,0,none⟩) N r.cA,.slice (some ⟨r.T,0,none⟩) N r.cT,.slice (some ⟨r.V,0,none⟩) N r.cV,.int .i64 n,.int .i64 bad,.bool down]
 safe : Row w r.A N fun p => strV (s p)
 tail : Row w r.T N fun p => strV (t p)
 wait : Row w r.V N fun p => .bool (v p)
 ne : r.m ≠ r.A ∧ r.m ≠ r.T ∧ r.m ≠ r.V ∧ r.A ≠ r.T ∧ r.A ≠ r.V ∧ r.T ≠ r.V
 size : 1 ≤ N ∧ N ≤ 48
 ok : ∀ p,p < N → (s p).length = 24 ∧ (t p).length = 24
def RefAt (w : World) (r : Rf) (S : Dv) : Prop := ∃ t : Nat → List Int,Rows3 w r S.n S.bad S.N S.down S.dur t (fun p => (S.wr p).isSome) ∧ (S.down = false → ∀ p,p < S.N → t p = cur S p)
section
variable {w w' : World} {r : Rf} {n bad N : Nat} {down : Bool} {s t : Nat → List Int} {v : Nat → Bool} {F : Nat → Prop} {S : Dv}
theorem Rows3.kept (h : Rows3 w r n bad N down s t v) (hk : Kept F w w') (hF : ∀ k,POwn r k → ¬ F k) : Rows3 w' r n bad N down s t v :=
 ⟨h.blk.kept hk (hF _ (.inl rfl)),h.safe.kept hk (hF _ (.inr (.inl rfl))),h.tail.kept hk (hF _ (.inr (.inr (.inl rfl)))),h.wait.kept hk (hF _ (.inr (.inr (.inr rfl)))),h.ne,h.size,h.ok⟩
theorem RefAt.kept (h : RefAt w r S) (hk : Kept F w w') (hF : ∀ k,POwn r k → ¬ F k) : RefAt w' r S := by
 obtain ⟨t,h1,h2⟩ := h
 exact ⟨t,h1.kept hk hF,h2⟩
theorem RefAt.grow (h : RefAt w r S) (hk : Grow w w') : RefAt w' r S := h.kept hk (fun _ _ x => x)
theorem Rows3.grow (h : Rows3 w r n bad N down s t v) (hk : Grow w w') : Rows3 w' r n bad N down s t v := h.kept hk (fun _ _ x => x)
theorem Rows3.lt (h : Rows3 w r n bad N down s t v) : ∀ k,POwn r k → k < w.heap.size := by
 intro k hk
 have h1 := h.blk.lt
 have h2 := h.safe.lt
 have h3 := h.tail.lt
 have h4 := h.wait.lt
 rcases hk with rfl | rfl | rfl | rfl <;> omega
theorem RefAt.lt (h : RefAt w r S) : ∀ k,POwn r k → k < w.heap.size := by
 obtain ⟨t,h1,_⟩ := h
 exact h1.lt
theorem Rows3.c0 (h : Rows3 w r n bad N down s t v) : w.cell? ⟨r.m,0,none⟩ = some (.slice (some ⟨r.A,0,none⟩) N r.cA) := by rw [h.blk.cell];rfl
theorem Rows3.c1 (h : Rows3 w r n bad N down s t v) : w.cell? ⟨r.m,1,none⟩ = some (.slice (some ⟨r.T,0,none⟩) N r.cT) := by rw [h.blk.cell];rfl
theorem Rows3.c2 (h : Rows3 w r n bad N down s t v) : w.cell? ⟨r.m,2,none⟩ = some (.slice (some ⟨r.V,0,none⟩) N r.cV) := by rw [h.blk.cell];rfl
theorem Rows3.c3 (h : Rows3 w r n bad N down s t v) : w.cell? ⟨r.m,3,none⟩ = some (.int .i64 n) := by rw [h.blk.cell];rfl
theorem Rows3.c4 (h : Rows3 w r n bad N down s t v) : w.cell? ⟨r.m,4,none⟩ = some (.int .i64 bad) := by rw [h.blk.cell];rfl
theorem Rows3.c5 (h : Rows3 w r n bad N down s t v) : w.cell? ⟨r.m,5,none⟩ = some (.bool down) := by rw [h.blk.cell];rfl
theorem Rows3.fr (h : Rows3 w r n bad N down s t v) (i : Nat) : w.frozen? ⟨r.m,i,none⟩ = false := h.blk.frozen i
theorem Rows3.field {n' bad' : Nat} {down' : Bool} {i : Nat} {x : Value} (h : Rows3 w r n bad N down s t v)
  (hv : [.slice (some ⟨r.A,0,none⟩) N r.cA,.slice (some ⟨r.T,0,none⟩) N r.cT,.slice (some ⟨r.V,0,none⟩) N r.cV,.int .i64 n',.int .i64 bad',.bool down'] = ([.slice (some ⟨r.A,0,none⟩) N r.cA,.slice (some ⟨r.T,0,none⟩) N r.cT,.slice (some ⟨r.V,0,none⟩) N r.cV,.int .i64 n,.int .i64 bad,.bool down] : List Value).set i x) :
  Rows3 (w.setCell ⟨r.m,i,none⟩ x) r n' bad' N down' s t v := by
 have hk := kept_set w r.m i x
 have hne := h.ne
 refine ⟨?_,h.safe.kept hk (fun e => hne.1 e.symm),h.tail.kept hk (fun e => hne.2.1 e.symm),h.wait.kept hk (fun e => hne.2.2.1 e.symm),hne,h.size,h.ok⟩
 show Blk _ _ _ _
 rw [hv]
 exact h.blk.set i x
theorem Rows3.setA {k : Nat} {z : List Int} (h : Rows3 w r n bad N down s t v) (hz : z.length = 24) : Rows3 (w.setCell ⟨r.A,k,none⟩ (strV z)) r n bad N down (fun p => if p = k then z else s p) t v := by
 have hk := kept_set w r.A k (strV z)
 have hne := h.ne
 refine ⟨h.blk.kept hk (fun e => hne.1 e),(h.safe.set k (strV z)).congr fun i _ => ?_,h.tail.kept hk (fun e => hne.2.2.2.1 e.symm),h.wait.kept hk (fun e => hne.2.2.2.2.1 e.symm),hne,h.size,fun p hp => ⟨?_,(h.ok p hp).2⟩⟩
 ·show (if i = k then strV z else strV (s i)) = strV (if i = k then z else s i)
  split <;> rfl
 ·show (if p = k then z else s p).length = 24
  split
  ·exact hz
  ·exact (h.ok p hp).1
theorem Rows3.setT {k : Nat} {z : List Int} (h : Rows3 w r n bad N down s t v) (hz : z.length = 24) : Rows3 (w.setCell ⟨r.T,k,none⟩ (strV z)) r n bad N down s (fun p => if p = k then z else t p) v := by
 have hk := kept_set w r.T k (strV z)
 have hne := h.ne
 refine ⟨h.blk.kept hk (fun e => hne.2.1 e),h.safe.kept hk (fun e => hne.2.2.2.1 e),(h.tail.set k (strV z)).congr fun i _ => ?_,h.wait.kept hk (fun e => hne.2.2.2.2.2 e.symm),hne,h.size,fun p hp => ⟨(h.ok p hp).1,?_⟩⟩
 ·show (if i = k then strV z else strV (t i)) = strV (if i = k then z else t i)
  split <;> rfl
 ·show (if p = k then z else t p).length = 24
  split
  ·exact hz
  ·exact (h.ok p hp).2
theorem Rows3.setV {k : Nat} {b : Bool} (h : Rows3 w r n bad N down s t v) : Rows3 (w.setCell ⟨r.V,k,none⟩ (.bool b)) r n bad N down s t (fun p => if p = k then b else v p) := by
 have hk := kept_set w r.V k (.bool b)
 have hne := h.ne
 refine ⟨h.blk.kept hk (fun e => hne.2.2.1 e),h.safe.kept hk (fun e => hne.2.2.2.2.1 e),h.tail.kept hk (fun e => hne.2.2.2.2.2 e),(h.wait.set k (.bool b)).congr fun i _ => ?_,hne,h.size,h.ok⟩
 show (if i = k then Value.bool b else .bool (v i)) = .bool (if i = k then b else v i)
 split <;> rfl
theorem Rows3.congr {s' t' : Nat → List Int} {v' : Nat → Bool} (h : Rows3 w r n bad N down s t v) (h1 : ∀ p,p < N → s' p = s p) (h2 : ∀ p,p < N → t' p = t p) (h3 : ∀ p,p < N → v' p = v p) : Rows3 w r n bad N down s' t' v' :=
 ⟨h.blk,h.safe.congr fun i hi => by show strV _ = strV _;rw [h1 i hi],h.tail.congr fun i hi => by show strV _ = strV _;rw [h2 i hi],h.wait.congr fun i hi => by show Value.bool _ = .bool _;rw [h3 i hi],h.ne,h.size,fun p hp => by rw [h1 p hp,h2 p hp];exact h.ok p hp⟩
def RefPost (r : Rf) (w : World) (x : Value) (S' : Dv) (e : Ending) (w' : World) : Prop := e = .returned x ∧ RefAt w' r S' ∧ Kept (POwn r) w w'
theorem racc_hit (h : RefAt w r S) (hd : S.down = false) (hn : (S.n : Int) < 9223372036854775807) (hb : S.bad = 1) :
  Calls Tryz.prog 122 #[.pointer (some ⟨r.m,0,none⟩)] w (RefPost r w (.bool false) (accS S)) := by
 obtain ⟨t,h3,h4⟩ := h
 have c3 := h3.c3
 have c4 := h3.c4
 have f3 := h3.fr 3
 have f4 := h3.fr 4
 rw [hb] at c4
 simp only [Int.cast_ofNat_Int] at c4
 have H1 := hid (h3.field (n' := S.n + 1) (bad' := S.bad) (down' := S.down) (i := 3) (x := .int .i64 ((S.n + 1 : Nat) : Int)) rfl)
 have H2 := hid (H1.out.field (n' := S.n + 1) (bad' := 0) (down' := S.down) (i := 4) (x := .int .i64 ((0 : Nat) : Int)) rfl)
 have HK : Hid (Kept (POwn r) w ((w.setCell ⟨r.m,3,none⟩ (.int .i64 ((S.n + 1 : Nat) : Int))).setCell ⟨r.m,4,none⟩ (.int .i64 ((0 : Nat) : Int)))) := ((kept_set _ _ _ _).mono fun _ _ e => .inl e).trans ((kept_set _ _ _ _).mono fun _ _ e => .inl e)
 have E1 : Hid (((S.n + 1 : Nat) : Int) = (S.n : Int) + 1) := by show _ = _;omega
 rw [E1.out] at H2 HK
 simp only [Int.natCast_zero] at H2 HK
 have HS : Hid (RefAt ((w.setCell ⟨r.m,3,none⟩ (.int .i64 ((S.n : Int) + 1))).setCell ⟨r.m,4,none⟩ (.int .i64 0)) r (accS S)) := by
  obtain ⟨a1,a2,a3⟩ := accS_up hd
  refine ⟨t,?_,fun _ p hp => ?_⟩
  ·rw [a1,a2,a3,accS_N,accS_dur,accS_wr,hb]
   have := H2.out
   rw [hd] at this
   exact this
  ·rw [cur_acc];rw [accS_N] at hp;exact h4 hd p hp
 clear h3 h4 H1 H2 hb hd
 go_enter Tryz.func122,Tryz.ntmps122
 go_wp2
 go_ret
 exact ⟨rfl,HS.out,HK.out⟩
theorem racc_miss (h : RefAt w r S) (hd : S.down = false) (hn : (S.n : Int) < 9223372036854775807) (hbb : (S.bad : Int) < 9223372036854775807) (hb : S.bad ≠ 1) :
  Calls Tryz.prog 122 #[.pointer (some ⟨r.m,0,none⟩)] w (RefPost r w (.bool true) (accS S)) := by
 obtain ⟨t,h3,h4⟩ := h
 have c3 := h3.c3
 have c4 := h3.c4
 have f3 := h3.fr 3
 have f4 := h3.fr 4
 have H1 := hid (h3.field (n' := S.n + 1) (bad' := S.bad) (down' := S.down) (i := 3) (x := .int .i64 ((S.n + 1 : Nat) : Int)) rfl)
 have H2 := hid (H1.out.field (n' := S.n + 1) (bad' := S.bad - 1) (down' := S.down) (i := 4) (x := .int .i64 ((S.bad - 1 : Nat) : Int)) rfl)
 have HK1 : Hid (Kept (POwn r) w (w.setCell ⟨r.m,3,none⟩ (.int .i64 ((S.n + 1 : Nat) : Int)))) := (kept_set _ _ _ _).mono fun _ _ e => .inl e
 have HK : Hid (Kept (POwn r) w ((w.setCell ⟨r.m,3,none⟩ (.int .i64 ((S.n + 1 : Nat) : Int))).setCell ⟨r.m,4,none⟩ (.int .i64 ((S.bad - 1 : Nat) : Int)))) := HK1.out.trans ((kept_set _ _ _ _).mono fun _ _ e => .inl e)
 have E1 : Hid (((S.n + 1 : Nat) : Int) = (S.n : Int) + 1) := by show _ = _;omega
 have HA : Hid (∀ wx,Rows3 wx r (S.n + 1) (S.bad - 1) S.N S.down S.dur t (fun p => (S.wr p).isSome) → RefAt wx r (accS S)) := by
  intro wx hx
  obtain ⟨a1,a2,a3⟩ := accS_up hd
  refine ⟨t,?_,fun _ p hp => ?_⟩
  ·rw [a1,a2,a3,accS_N,accS_dur,accS_wr]
   rw [hd] at hx
   exact hx
  ·rw [cur_acc];rw [accS_N] at hp;exact h4 hd p hp
 by_cases h0 : S.bad = 0
 ·have HS := hid (HA.out _ (by rw [h0];have := H1.out;rw [h0] at this;exact this))
  rw [h0] at c4
  simp only [Int.natCast_zero] at c4
  rw [E1.out] at HS HK1
  clear h3 h4 H1 H2 hb hd h0 HA HK
  go_enter Tryz.func122,Tryz.ntmps122
  go_wp2
  go_ret
  exact ⟨rfl,HS.out,HK1.out⟩
 ·have HS := hid (HA.out _ H2.out)
  have E2 : Hid (((S.bad - 1 : Nat) : Int) = (S.bad : Int) - 1) := by show _ = _;omega
  have hp0 : 0 < S.bad := by omega
  have hp1 : 1 < S.bad := by omega
  have hz2 : (1 : Int) < (S.bad : Int) := by omega
  have hz0 : (0 : Int) < (S.bad : Int) := by omega
  rw [E1.out,E2.out] at HS HK
  clear h3 h4 H1 H2 hb hd h0 HA HK1 hp0 hp1 E2
  generalize (S.bad : Int) = bz at *
  go_enter Tryz.func122,Tryz.ntmps122
  go_wp2
  go_ret
  exact ⟨rfl,HS.out,HK.out⟩
theorem rfail_any (h : RefAt w r S) (m : Int) :
  Calls Tryz.prog 20 #[.pointer (some ⟨r.m,0,none⟩),.int .i64 m] w (RefPost r w (.bool (failB m)) (failS S m)) := by
 have H := hid h
 obtain ⟨t,h3,h4⟩ := h
 have c4 := h3.c4
 have f4 := h3.fr 4
 have HB : Hid (failB m = (decide (0 ≤ m) && decide (m ≤ 1000000))) := rfl
 have HS : Hid (failS S m = if failB m then { S with bad := m.toNat } else S) := rfl
 by_cases h0 : 0 ≤ m
 ·by_cases h1 : m ≤ 1000000
  ·have H1 := hid (h3.field (n' := S.n) (bad' := m.toNat) (down' := S.down) (i := 4) (x := .int .i64 ((m.toNat : Nat) : Int)) rfl)
   have HR : Hid (RefAt (w.setCell ⟨r.m,4,none⟩ (.int .i64 ((m.toNat : Nat) : Int))) r { S with bad := m.toNat }) := ⟨t,H1.out,h4⟩
   rw [Int.toNat_of_nonneg h0] at HR
   have HB' : Hid (failB m = true) := by show _ = _;rw [HB.out];simp [h0,h1]
   have HK : Hid (Kept (POwn r) w (w.setCell ⟨r.m,4,none⟩ (.int .i64 m))) := (kept_set _ _ _ _).mono fun _ _ e => .inl e
   clear h3 h4 H1
   go_enter Tryz.func20,Tryz.ntmps20
   go_wp2
   go_ret
   exact ⟨by rw [HB'.out];rfl,by rw [HS.out,HB'.out];exact HR.out,HK.out⟩
  ·have h1' : 1000000 < m := by omega
   have HB' : Hid (failB m = false) := by show _ = _;rw [HB.out];simp [h1]
   clear h3 h4
   go_enter Tryz.func20,Tryz.ntmps20
   go_wp2
   go_ret
   exact ⟨by rw [HB'.out];rfl,by rw [HS.out,HB'.out];exact H.out,Kept.refl _ _⟩
 ·have h0' : m < 0 := by omega
  have HB' : Hid (failB m = false) := by show _ = _;rw [HB.out];simp [h0]
  clear h3 h4
  go_enter Tryz.func20,Tryz.ntmps20
  go_wp2
  go_ret
  exact ⟨by rw [HB'.out];rfl,by rw [HS.out,HB'.out];exact H.out,Kept.refl _ _⟩
end
end RefD
namespace Rowed
open Go.RowKit
open Mem Blk ListM
def Row (w : World) (b n : Nat) (f : Nat → Value) : Prop := ∃ cur t,w.heap[b]? = some (.cells cur t (0,0)) ∧ n ≤ cur.size ∧ ∀ i,i < n → cur[i]? = some (f i)
section
variable {w w' : World} {b n : Nat} {f g : Nat → Value} {F : Nat → Prop}
theorem Row.lt (h : Row w b n f) : b < w.heap.size := by
 obtain ⟨c,t,hb,_,_⟩ := h
 exact (Array.getElem?_eq_some_iff.1 hb).1
theorem Row.cell (h : Row w b n f) {i : Nat} (hi : i < n) : w.cell? ⟨b,i,none⟩ = some (f i) := by
 obtain ⟨c,t,hb,_,hc⟩ := h
 simp [World.cell?,hb,hc i hi]
theorem Row.frozen (h : Row w b n f) (i : Nat) : w.frozen? ⟨b,i,none⟩ = false := by
 obtain ⟨c,t,hb,_,_⟩ := h
 simp [World.frozen?,hb]
theorem Row.congr (h : Row w b n f) (e : ∀ i,i < n → f i = g i) : Row w b n g := by
 obtain ⟨c,t,hb,hn,hc⟩ := h
 exact ⟨c,t,hb,hn,fun i hi => by rw [hc i hi,e i hi]⟩
theorem Row.of_block (h : Row w b n f) (e : w'.heap[b]? = w.heap[b]?) : Row w' b n f := by
 obtain ⟨c,t,hb,hn,hc⟩ := h
 exact ⟨c,t,e.trans hb,hn,hc⟩
theorem Row.kept (h : Row w b n f) (hk : Kept F w w') (hf : ¬ F b) : Row w' b n f := h.of_block (hk.block b h.lt hf)
theorem Row.set (h : Row w b n f) (i : Nat) (v : Value) : Row (w.setCell ⟨b,i,none⟩ v) b n (fun j => if j = i then v else f j) := by
 obtain ⟨c,t,hb,hn,hc⟩ := h
 refine ⟨c.setIfInBounds i v,t,?_,by simpa using hn,fun j hj => ?_⟩
 ·simp [World.setCell,Array.getElem?_modify,hb]
 ·rw [Array.getElem?_setIfInBounds]
  by_cases e : j = i
  ·subst e
   simp [show j < c.size by omega]
  ·rw [if_neg (fun h => e h.symm)]
   show c[j]? = some (if j = i then v else f j)
   rw [if_neg e]
   exact hc j hj
theorem Row.other (h : Row w b n f) {p : Addr} (hp : b ≠ p.block) (v : Value) : Row (w.setCell p v) b n f := h.of_block (heap_setCell_other w p b v hp)
theorem Row.of_blk {t : TypeId} {cs : List Value} (h : Blk w b t cs) (hn : cs.length = n) (hf : ∀ i,i < n → cs[i]? = some (f i)) : Row w b n f :=
 ⟨cs.toArray,t,h,by simp [hn],fun i hi => by simpa using hf i hi⟩
end
def lcell (A B : Nat → Nat) (I : Nat → Bool) (j : Nat) : Value := if j % 3 = 0 then .int .i64 (A (j / 3) : Int) else if j % 3 = 1 then .int .i64 (B (j / 3) : Int) else .bool (I (j / 3))
theorem lcell0 (A B : Nat → Nat) (I : Nat → Bool) (p : Nat) : lcell A B I (p * 3) = .int .i64 (A p : Int) := by
 unfold lcell;rw [if_pos (by omega),show p * 3 / 3 = p by omega]
theorem lcell1 (A B : Nat → Nat) (I : Nat → Bool) (p : Nat) : lcell A B I (p * 3 + 1) = .int .i64 (B p : Int) := by
 unfold lcell;rw [if_neg (by omega),if_pos (by omega),show (p * 3 + 1) / 3 = p by omega]
theorem lcell2 (A B : Nat → Nat) (I : Nat → Bool) (p : Nat) : lcell A B I (p * 3 + 2) = .bool (I p) := by
 unfold lcell;rw [if_neg (by omega),if_neg (by omega),show (p * 3 + 2) / 3 = p by omega]
structure Lnk (w : World) (d D n : Nat) (c : Int) (A B : Nat → Nat) (I : Nat → Bool) : Prop where
 hd : Row w d 2 fun j => if j = 0 then .slice (some ⟨D,0,none⟩) (n + 1) (n + 1) else .int .i64 c
 ln : Row w D ((n + 1) * 3) (lcell A B I)
 ne : d ≠ D
def Own (d D k : Nat) : Prop := k = d ∨ k = D
section
variable {w w' : World} {d D n : Nat} {c : Int} {A B : Nat → Nat} {I : Nat → Bool} {F : Nat → Prop}
theorem Lnk.c0 (h : Lnk w d D n c A B I) : w.cell? ⟨d,0,none⟩ = some (.slice (some ⟨D,0,none⟩) (n + 1) (n + 1)) := h.hd.cell (i := 0) (by omega)
theorem Lnk.c1 (h : Lnk w d D n c A B I) : w.cell? ⟨d,1,none⟩ = some (.int .i64 c) := h.hd.cell (i := 1) (by omega)
theorem Lnk.f0 (h : Lnk w d D n c A B I) (j : Nat) : w.frozen? ⟨d,j,none⟩ = false := h.hd.frozen j
theorem Lnk.f1 (h : Lnk w d D n c A B I) (j : Nat) : w.frozen? ⟨D,j,none⟩ = false := h.ln.frozen j
theorem Lnk.a (h : Lnk w d D n c A B I) {p : Nat} (hp : p ≤ n) : w.cell? ⟨D,p * 3,none⟩ = some (.int .i64 (A p : Int)) := by rw [h.ln.cell (by omega),lcell0]
theorem Lnk.b (h : Lnk w d D n c A B I) {p : Nat} (hp : p ≤ n) : w.cell? ⟨D,p * 3 + 1,none⟩ = some (.int .i64 (B p : Int)) := by rw [h.ln.cell (by omega),lcell1]
theorem Lnk.i (h : Lnk w d D n c A B I) {p : Nat} (hp : p ≤ n) : w.cell? ⟨D,p * 3 + 2,none⟩ = some (.bool (I p)) := by rw [h.ln.cell (by omega),lcell2]
theorem Lnk.kept (h : Lnk w d D n c A B I) (hk : Kept F w w') (hF : ∀ k,F k → ¬ Own d D k) : Lnk w' d D n c A B I :=
 ⟨h.hd.kept hk fun x => hF _ x (.inl rfl),h.ln.kept hk fun x => hF _ x (.inr rfl),h.ne⟩
theorem Lnk.lt (h : Lnk w d D n c A B I) : d < w.heap.size ∧ D < w.heap.size := ⟨h.hd.lt,h.ln.lt⟩
theorem Lnk.count (h : Lnk w d D n c A B I) (c' : Int) : Lnk (w.setCell ⟨d,1,none⟩ (.int .i64 c')) d D n c' A B I :=
 ⟨(h.hd.set 1 _).congr fun i hi => by
  by_cases e : i = 1
  ·subst e;rfl
  ·have : i = 0 := by omega
   subst this;rfl,h.ln.other h.ne.symm _,h.ne⟩
theorem Lnk.setA (h : Lnk w d D n c A B I) (p v : Nat) : Lnk (w.setCell ⟨D,p * 3,none⟩ (.int .i64 (v : Int))) d D n c (upd A p v) B I :=
 ⟨h.hd.other h.ne _,(h.ln.set (p * 3) _).congr fun i hi => by
  by_cases e : i = p * 3
  ·rw [if_pos e,e,lcell0,upd_same]
  ·rw [if_neg e]
   unfold lcell
   by_cases e3 : i % 3 = 0
   ·rw [if_pos e3,if_pos e3,upd_other _ _ (by omega)]
   ·rw [if_neg e3,if_neg e3],h.ne⟩
theorem Lnk.setB (h : Lnk w d D n c A B I) (p v : Nat) : Lnk (w.setCell ⟨D,p * 3 + 1,none⟩ (.int .i64 (v : Int))) d D n c A (upd B p v) I :=
 ⟨h.hd.other h.ne _,(h.ln.set (p * 3 + 1) _).congr fun i hi => by
  by_cases e : i = p * 3 + 1
  ·rw [if_pos e,e,lcell1,upd_same]
  ·rw [if_neg e]
   unfold lcell
   by_cases e3 : i % 3 = 0
   ·rw [if_pos e3,if_pos e3]
   ·rw [if_neg e3,if_neg e3]
    by_cases e1 : i % 3 = 1
    ·rw [if_pos e1,if_pos e1,upd_other _ _ (by omega)]
    ·rw [if_neg e1,if_neg e1],h.ne⟩
theorem Lnk.setI (h : Lnk w d D n c A B I) (p : Nat) (v : Bool) : Lnk (w.setCell ⟨D,p * 3 + 2,none⟩ (.bool v)) d D n c A B (upd I p v) :=
 ⟨h.hd.other h.ne _,(h.ln.set (p * 3 + 2) _).congr fun i hi => by
  by_cases e : i = p * 3 + 2
  ·rw [if_pos e,e,lcell2,upd_same]
  ·rw [if_neg e]
   unfold lcell
   by_cases e3 : i % 3 = 0
   ·rw [if_pos e3,if_pos e3]
   ·rw [if_neg e3,if_neg e3]
    by_cases e1 : i % 3 = 1
    ·rw [if_pos e1,if_pos e1]
    ·rw [if_neg e1,if_neg e1,upd_other _ _ (by omega)],h.ne⟩
end
theorem kept_set (w : World) (b i : Nat) (v : Value) : Kept (fun x => x = b) w (w.setCell ⟨b,i,none⟩ v) := (Kept.refl (fun x => x = b) w).setCell (p := ⟨b,i,none⟩) (fun _ => rfl) v
structure ListAt (w : World) (d D n : Nat) (zs : List Nat) : Prop where
 lnk : ∃ A B I,Lnk w d D n (zs.length : Int) A B I ∧ Ring n A B I zs
 size : n ≤ 1024
section
variable {w w' : World} {d D n : Nat} {zs : List Nat} {F : Nat → Prop}
theorem ListAt.kept (h : ListAt w d D n zs) (hk : Kept F w w') (hF : ∀ k,F k → ¬ Own d D k) : ListAt w' d D n zs := by
 obtain ⟨A,B,I,h1,h2⟩ := h.lnk
 exact ⟨⟨A,B,I,h1.kept hk hF,h2⟩,h.size⟩
theorem ListAt.grow (h : ListAt w d D n zs) (hk : Grow w w') : ListAt w' d D n zs := h.kept hk fun _ x => x.elim
theorem ListAt.lt (h : ListAt w d D n zs) : d < w.heap.size ∧ D < w.heap.size := by
 obtain ⟨A,B,I,h1,_⟩ := h.lnk
 exact h1.lt
end
end Rowed
end Go.Proofs.YtbnkpnllgoghnaaGreat
