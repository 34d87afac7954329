/-
  A core as mathematics (chapter 11): its arena, its order, the touches that wait, the page of each frame of the order; what Hit, Room, Let and the like make of it.
-/
import Derived.Test.YtcmhkknoffeebaaArMath
import Derived.Test.YtcmhkknoffeebaaRingApply
namespace Go.Proofs.Ytcmhkknoffeebaa.CoM
open Go.Proofs.Ytcmhkknoffeebaa.TabM Go.Proofs.Ytcmhkknoffeebaa.ArM Go.Proofs.Ytcmhkknoffeebaa.ListM Go.Proofs.Ytcmhkknoffeebaa.RingA Go.Proofs.Ytcmhkknoffeebaa.RingT

abbrev updP (P : Nat → Int) (f : Nat) (p : Int) : Nat → Int := TabM.upd P f p

structure Co where
  a : Ar
  L : List Nat
  T : List Int
  P : Nat → Int
def fresh (n : Nat) : Co := ⟨ArM.fresh n, [], [], fun _ => 0⟩
/-- Has the frame f of the order the page that it came in with? -/
def Co.keep (c : Co) (f : Nat) : Bool := decide (c.a.find (c.P f) = (f : Int))
def Co.settle (c : Co) : Co := ⟨c.a, c.L.filter c.keep, c.T, c.P⟩
def Co.takeF (c : Co) (p : Int) (f : Nat) : Co := ⟨(c.a.take p).pin (f : Int), frontL 32 c.L (f : Int), c.T, updP c.P f p⟩
def Co.hitC (c : Co) (p : Int) : Int := if c.a.pinC (c.a.find p) = 0 then c.a.find p else -1
def Co.hit (c : Co) (p : Int) : Co := if c.a.pinC (c.a.find p) = 0 then ⟨c.a.pin (c.a.find p), applyL 32 c.L (toldBy c.T (c.a.find p)), waitBy c.T (c.a.find p), c.P⟩ else c
def Co.drain (c : Co) : Co := ⟨c.a, applyL 32 c.L c.T, [], c.P⟩
def free (a : Ar) (f : Nat) : Bool := decide ((a.F f).pn ≤ 0)
def Co.victim (c : Co) : Option Nat := c.L.reverse.find? (free c.a)
structure Ans where
  e : Int
  f : Int
  v : Int
def Co.drop (c : Co) (f : Nat) : Co := ⟨c.a.drop (f : Int), outL c.L (f : Int), c.T, c.P⟩
def Co.replC (c : Co) : Ans := match c.victim with
  | none => ⟨8, -1, -1⟩
  | some f => if (c.a.F f).di = true then ⟨12, (f : Int), (c.a.F f).pg⟩ else ⟨0, (f : Int), (c.a.F f).pg⟩
def Co.repl (c : Co) (p : Int) : Co := match c.victim with
  | none => c
  | some f => if (c.a.F f).di = true then c else (c.drop f).takeF p f
def Co.roomC (c : Co) (p : Int) : Ans :=
  if c.a.find p ≠ -1 then ⟨13, -1, -1⟩ else if p < 0 ∨ 48 ≤ p then ⟨1, -1, -1⟩ else match c.a.Q with
    | f :: _ => ⟨0, (f : Int), -1⟩
    | [] => c.drain.replC
def Co.room (c : Co) (p : Int) : Co :=
  if c.a.find p ≠ -1 then c else if p < 0 ∨ 48 ≤ p then c else match c.a.Q with
    | f :: _ => c.takeF p f
    | [] => c.drain.repl p
def Co.unpin (c : Co) (k : Int) : Co := ⟨c.a.unpin k, c.L, c.T, c.P⟩
def Co.mark (c : Co) (k : Int) (d : Bool) : Co := ⟨c.a.mark k d, c.L, c.T, c.P⟩

/-! ### Of arenas -/
section
variable {a b : Ar} {f x : Nat} {p k : Int}
theorem find_same (hn : b.n = a.n) (h : ∀ x, (b.F x).st = (a.F x).st ∧ (b.F x).pg = (a.F x).pg) (p : Int) : b.find p = a.find p := by
  have e : isP b p = isP a p := by
    funext x
    unfold isP
    rw [(h x).1, (h x).2]
  unfold Ar.find
  rw [e, hn]
theorem find_is (h : a.find p = (f : Int)) : f < a.n ∧ (a.F f).st = 1 ∧ (a.F f).pg = p := by
  rcases find_cases a p with ⟨e, _⟩ | ⟨x, hx, hs, hp, e⟩
  · omega
  · obtain rfl : x = f := by omega
    exact ⟨hx, hs, hp⟩
theorem find_neg (h : a.find p ≠ -1) : ∃ f : Nat, a.find p = (f : Int) ∧ f < a.n ∧ (a.F f).st = 1 ∧ (a.F f).pg = p := by
  rcases find_cases a p with ⟨e, _⟩ | ⟨x, hx, hs, hp, e⟩
  · exact absurd e h
  · exact ⟨x, e, hx, hs, hp⟩
theorem used_neg : a.used (-1) = false := by
  cases e : a.used (-1) with
  | false => rfl
  | true => obtain ⟨f, h, _⟩ := used_iff.1 e; omega
/-- Frames, but for their pins and marks. -/
def Like (a b : Ar) : Prop := b.n = a.n ∧ b.Q = a.Q ∧ ∀ x, (b.F x).st = (a.F x).st ∧ (b.F x).pg = (a.F x).pg
theorem like_refl (a : Ar) : Like a a := ⟨rfl, rfl, fun _ => ⟨rfl, rfl⟩⟩
theorem like_turn (a : Ar) (f : Nat) (v : Fr) (h1 : v.st = (a.F f).st) (h2 : v.pg = (a.F f).pg) : Like a (a.turn f v) := by
  refine ⟨rfl, rfl, fun x => ?_⟩
  show (TabM.upd a.F f v x).st = _ ∧ (TabM.upd a.F f v x).pg = _
  by_cases e : x = f
  · subst e; rw [TabM.upd_same]; exact ⟨h1, h2⟩
  · rw [TabM.upd_other _ _ e]; exact ⟨rfl, rfl⟩
theorem like_pin (a : Ar) (k : Int) : Like a (a.pin k) := by
  unfold Ar.pin
  split
  · exact like_turn _ _ _ rfl rfl
  · exact like_refl _
theorem like_unpin (a : Ar) (k : Int) : Like a (a.unpin k) := by
  unfold Ar.unpin
  split
  · exact like_turn _ _ _ rfl rfl
  · exact like_refl _
theorem like_mark (a : Ar) (k : Int) (d : Bool) : Like a (a.mark k d) := by
  unfold Ar.mark
  split
  · exact like_turn _ _ _ rfl rfl
  · exact like_refl _
theorem Like.find (h : Like a b) (p : Int) : b.find p = a.find p := find_same h.1 h.2.2 p
theorem can_of (h0 : 0 ≤ p) (h1 : p < 48) (h : a.find p = -1) : a.can p = true := by
  unfold Ar.can
  rw [h, decide_eq_true h0, decide_eq_true h1]
  rfl
theorem take_eq {q : List Nat} (hc : a.can p = true) (hq : a.Q = f :: q) : a.take p = ⟨a.n, TabM.upd a.F f (fUsed p), TabM.upd a.B f zeros, q⟩ := by
  unfold Ar.take
  rw [if_pos hc, hq]
  rfl
/-- A frame that has no pins is told so, dropped, and the only one that is free. -/
theorem drop_eq (hf : f < a.n) (hs : (a.F f).st = 1) (hp : (a.F f).pn ≤ 0) : a.dropC (f : Int) = 0 ∧ a.drop (f : Int) = a.dropF f := by
  have hu : a.used (f : Int) = true := used_iff.2 ⟨f, rfl, hf, hs⟩
  have e1 : a.dropC (f : Int) = 0 := by
    unfold Ar.dropC
    rw [if_pos hu, Int.toNat_natCast, if_neg (by omega)]
  exact ⟨e1, by unfold Ar.drop; rw [if_pos e1, Int.toNat_natCast]⟩
end

/-! ### A core all of whose used frames are in its order -/
structure Tidy (c : Co) : Prop where
  g : ArM.Good c.a
  L : Fine 32 c.L
  m : ∀ f, f ∈ c.L ↔ f < c.a.n ∧ (c.a.F f).st = 1
  p : ∀ f, f ∈ c.L → (c.a.F f).pg = c.P f
  T : c.T.length ≤ 7
theorem mem_mv {zs : List Nat} (h : Fine 32 zs) (k : Int) (x : Nat) : x ∈ mv 32 zs k ↔ x ∈ zs := by
  unfold mv
  cases hk : okO zs k with
  | false => simp
  | true =>
    rw [if_pos rfl]
    have hk' := hk
    simp only [okO, Bool.and_eq_true, decide_eq_true_eq] at hk'
    have hlt := h.2 _ hk'.2
    have ho : outL zs k = zs.erase k.toNat := by unfold outL; rw [if_pos hk]
    have hf : okF 32 (outL zs k) k = true := by
      unfold okF
      rw [ho, decide_eq_true hk'.1, decide_eq_true (show k < ((32 : Nat) : Int) by omega), decide_eq_false (fun hm => ((h.1.mem_erase_iff).1 hm).1 rfl)]
      rfl
    have e : frontL 32 (outL zs k) k = k.toNat :: zs.erase k.toNat := by unfold frontL; rw [if_pos hf, ho]
    rw [e, List.mem_cons, h.1.mem_erase_iff]
    by_cases ex : x = k.toNat
    · subst ex; simp [hk'.2]
    · simp [ex]
theorem mem_apply : ∀ {zs : List Nat}, Fine 32 zs → ∀ (ts : List Int) (x : Nat), x ∈ applyL 32 zs ts ↔ x ∈ zs
  | zs, h, [], x => Iff.rfl
  | zs, h, k :: l, x => by
    show x ∈ applyL 32 (mv 32 zs k) l ↔ _
    rw [mem_apply (h.mv k) l x, mem_mv h k x]
section
variable {c : Co} {f : Nat} {p k : Int}
theorem tidy_fresh {n : Nat} (h : n ≤ 32) : Tidy (fresh n) :=
  ⟨good_fresh h, ⟨List.nodup_nil, fun x hx => (by cases hx)⟩, fun f => ⟨fun hx => (by cases hx), fun ⟨_, hx⟩ => (by have hx : (0 : Int) = 1 := hx; omega)⟩, fun f hx => (by cases hx), Nat.zero_le _⟩
theorem Tidy.find (h : Tidy c) (hf : f ∈ c.L) : c.a.find (c.P f) = (f : Int) := by
  obtain ⟨h1, h2⟩ := (h.m f).1 hf
  exact find_at h.g h1 h2 (h.p f hf)
theorem Tidy.settle (h : Tidy c) : c.settle = c := by
  unfold Co.settle
  rw [List.filter_eq_self.2 fun f hf => by unfold Co.keep; exact decide_eq_true (h.find hf)]
/-- Frames that have turned their pins and marks alone; an order of the same members. -/
theorem Tidy.like (h : Tidy c) {a' : Ar} {L' : List Nat} {T' : List Int} (hl : Like c.a a') (hg : ArM.Good a') (hL : Fine 32 L') (hm : ∀ x, x ∈ L' ↔ x ∈ c.L) (hT : T'.length ≤ 7) : Tidy ⟨a', L', T', c.P⟩ := by
  refine ⟨hg, hL, fun f => ?_, fun f hf => ?_, hT⟩
  · show f ∈ L' ↔ f < a'.n ∧ (a'.F f).st = 1
    rw [hm f, h.m f, hl.1, (hl.2.2 f).1]
  · show (a'.F f).pg = c.P f
    rw [(hl.2.2 f).2]
    exact h.p f ((hm f).1 hf)
theorem Tidy.unpin (h : Tidy c) (k : Int) : Tidy (c.unpin k) := h.like (like_unpin _ _) (h.g.unpin k) h.L (fun _ => Iff.rfl) h.T
theorem Tidy.mark (h : Tidy c) (k : Int) (d : Bool) : Tidy (c.mark k d) := h.like (like_mark _ _ _) (h.g.mark k d) h.L (fun _ => Iff.rfl) h.T
theorem Tidy.hit (h : Tidy c) (p : Int) : Tidy (c.hit p) := by
  unfold Co.hit
  split
  · exact h.like (like_pin _ _) (h.g.pin _) (h.L.apply _) (mem_apply h.L _) (wait_len h.T _)
  · exact h
theorem Tidy.drain (h : Tidy c) : Tidy c.drain := h.like (like_refl _) h.g (h.L.apply _) (mem_apply h.L _) (Nat.zero_le _)
theorem okF_of {zs : List Nat} (hf : f < 32) (hz : f ∉ zs) : okF 32 zs (f : Int) = true := by
  unfold okF
  rw [Int.toNat_natCast, decide_eq_true (show (0 : Int) ≤ f by omega), decide_eq_true (show (f : Int) < ((32 : Nat) : Int) by omega), decide_eq_false hz]
  rfl
theorem front_eq {zs : List Nat} (hf : f < 32) (hz : f ∉ zs) : frontL 32 zs (f : Int) = f :: zs := by
  unfold frontL
  rw [if_pos (okF_of hf hz), Int.toNat_natCast]
theorem out_eq {zs : List Nat} (hz : f ∈ zs) : outL zs (f : Int) = zs.erase f := by
  unfold outL okO
  rw [Int.toNat_natCast, decide_eq_true (show (0 : Int) ≤ f by omega), decide_eq_true hz]
  rfl
/-- A frame that is free is taken. -/
theorem Tidy.takeF (h : Tidy c) {q : List Nat} (hc : c.a.can p = true) (hq : c.a.Q = f :: q) : Tidy (c.takeF p f) := by
  obtain ⟨h1, h2, _, _⟩ := h.g.head hq
  have hz : f ∉ c.L := fun hm => by have := ((h.m f).1 hm).2; omega
  have hn := h.g.n
  have hl := like_pin (c.a.take p) (f : Int)
  have e := take_eq hc hq
  have eF : ∀ x, (c.a.take p).F x = TabM.upd c.a.F f (fUsed p) x := fun x => by rw [e]
  have eN : (c.a.take p).n = c.a.n := by rw [e]
  refine ⟨(h.g.take p).pin _, h.L.front _, fun x => ?_, fun x hx => ?_, h.T⟩
  · show x ∈ frontL 32 c.L (f : Int) ↔ x < ((c.a.take p).pin (f : Int)).n ∧ (((c.a.take p).pin (f : Int)).F x).st = 1
    rw [front_eq (by omega) hz, hl.1, (hl.2.2 x).1, eN, eF, List.mem_cons, h.m x]
    by_cases ex : x = f
    · subst ex; rw [TabM.upd_same]; exact ⟨fun _ => ⟨h1, rfl⟩, fun _ => .inl rfl⟩
    · rw [TabM.upd_other _ _ ex]; simp [ex]
  · change x ∈ frontL 32 c.L (f : Int) at hx
    show (((c.a.take p).pin (f : Int)).F x).pg = TabM.upd c.P f p x
    rw [(hl.2.2 x).2, eF]
    by_cases ex : x = f
    · subst ex; rw [TabM.upd_same, TabM.upd_same]; rfl
    · rw [TabM.upd_other _ _ ex, TabM.upd_other _ _ ex]
      rw [front_eq (by omega) hz, List.mem_cons] at hx
      exact h.p x (hx.resolve_left ex)
theorem Tidy.drop (h : Tidy c) (hf : f ∈ c.L) (hp : (c.a.F f).pn ≤ 0) : Tidy (c.drop f) ∧ (c.drop f).a = c.a.dropF f ∧ (c.drop f).L = c.L.erase f := by
  obtain ⟨h1, h2⟩ := (h.m f).1 hf
  obtain ⟨_, e⟩ := drop_eq h1 h2 hp
  have eL := out_eq hf
  refine ⟨⟨h.g.drop _, h.L.out _, fun x => ?_, fun x hx => ?_, h.T⟩, e, eL⟩
  · show x ∈ outL c.L (f : Int) ↔ x < (c.a.drop (f : Int)).n ∧ ((c.a.drop (f : Int)).F x).st = 1
    rw [eL, e, h.L.1.mem_erase_iff, h.m x]
    show _ ↔ x < c.a.n ∧ (TabM.upd c.a.F f fFree x).st = 1
    by_cases ex : x = f
    · subst ex; rw [TabM.upd_same]; exact ⟨fun hx => absurd rfl hx.1, fun hx => by have : (0 : Int) = 1 := hx.2; omega⟩
    · rw [TabM.upd_other _ _ ex]; simp [ex]
  · change x ∈ outL c.L (f : Int) at hx
    show ((c.a.drop (f : Int)).F x).pg = c.P x
    rw [eL, h.L.1.mem_erase_iff] at hx
    rw [e]
    show (TabM.upd c.a.F f fFree x).pg = _
    rw [TabM.upd_other _ _ hx.1]
    exact h.p x hx.2
theorem victim_some (h : c.victim = some f) : f ∈ c.L ∧ (c.a.F f).pn ≤ 0 := by
  have h1 := List.find?_some h
  have h2 := List.mem_of_find?_eq_some h
  unfold free at h1
  exact ⟨by simpa using h2, of_decide_eq_true h1⟩
theorem victim_none (h : c.victim = none) {x : Nat} (hx : x ∈ c.L) : 0 < (c.a.F x).pn := by
  have := List.find?_eq_none.1 h x (by simpa using hx)
  unfold free at this
  simp at this
  exact this
/-- What stands behind a victim's going: it is the one that is free, and takes the page. -/
theorem Tidy.freed (h : Tidy c) (hq : c.a.Q = []) (hf : f ∈ c.L) (hp : (c.a.F f).pn ≤ 0) (hc : c.a.can p = true) : Tidy (c.drop f) ∧ (c.drop f).a.can p = true ∧ (c.drop f).a.Q = [f] := by
  obtain ⟨h1, h2, _⟩ := h.drop hf hp
  refine ⟨h1, ?_, by rw [h2]; show c.a.Q ++ [f] = [f]; rw [hq]; rfl⟩
  have hcc := hc
  simp only [Ar.can, Bool.and_eq_true, decide_eq_true_eq] at hcc
  refine can_of hcc.1.1 hcc.1.2 (find_none fun x hx hs hpx => ?_)
  rw [h2] at hx hs hpx
  change x < c.a.n at hx
  change (TabM.upd c.a.F f fFree x).st = 1 at hs
  change (TabM.upd c.a.F f fFree x).pg = p at hpx
  by_cases ex : x = f
  · subst ex; rw [TabM.upd_same] at hs; have : (0 : Int) = 1 := hs; omega
  · rw [TabM.upd_other _ _ ex] at hs hpx
    have := find_at h.g hx hs hpx
    omega
theorem Tidy.repl (h : Tidy c) (hq : c.a.Q = []) (hc : c.a.can p = true) : Tidy (c.repl p) := by
  unfold Co.repl
  cases hv : c.victim with
  | none => exact h
  | some f =>
    obtain ⟨hf, hp⟩ := victim_some hv
    dsimp only
    split
    · exact h
    · obtain ⟨h1, h2, h3⟩ := h.freed hq hf hp hc
      exact h1.takeF h2 h3
theorem Tidy.room (h : Tidy c) (p : Int) : Tidy (c.room p) := by
  unfold Co.room
  split
  · exact h
  · next h1 =>
    split
    · exact h
    · next h2 =>
      have hc : c.a.can p = true := can_of (by omega) (by omega) (by omega)
      split
      · next f q hq => exact h.takeF hc hq
      · next hq => exact h.drain.repl hq hc
end
#print axioms Tidy.room
end Go.Proofs.Ytcmhkknoffeebaa.CoM
