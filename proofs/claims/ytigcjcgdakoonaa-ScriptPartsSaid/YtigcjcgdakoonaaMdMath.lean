/-
  The model as mathematics (chapter 13): states that may be, calls, what a call makes and tells; no function is named here.
-/
import Derived.Test.YtigcjcgdakoonaaHdMath
namespace Go.Proofs.Ytigcjcgdakoonaa.MdM
open Go.Proofs.Ytigcjcgdakoonaa.HdM (lst hnd cnt sum)

def zeros : List Int := List.replicate 16 0
theorem zeros_len : zeros.length = 16 := rfl
/-- A state: so many pages, so many clients; which pages are there, their bodies, the page of each handle of each client. -/
structure Md where
  n : Nat
  N : Nat
  T : Nat → Bool
  B : Nat → List Int
  H : Nat → Nat → Int
/-- A call: kind, page, handle, offset, number, data. -/
structure MdOp where
  k : Int
  p : Int
  h : Int
  o : Int
  n : Int
  d : List Int
/-- What came of it. -/
structure Re where
  c : Int
  p : Int
  h : Int
  d : List Int
def err (c : Int) : Re := ⟨c, 0, 0, []⟩
def Bytes (zs : List Int) : Prop := ∀ c ∈ zs, 0 ≤ c ∧ c < 256
theorem zeros_bytes : Bytes zeros := fun c hc => by
  have := (List.mem_replicate.1 hc).2
  omega
structure Good (a : Md) : Prop where
  n : 1 ≤ a.n ∧ a.n ≤ 48
  N : 1 ≤ a.N ∧ a.N ≤ 6
  len : ∀ i, (a.B i).length = 16
  byt : ∀ i, Bytes (a.B i)
  zer : ∀ i, i < a.n → a.T i = false → a.B i = zeros
  hnd : ∀ c j, c < a.N → j < 6 → a.H c j = -1 ∨ ∃ p : Nat, a.H c j = (p : Int) ∧ p < a.n ∧ a.T p = true
/-- A text written into another one. -/
def splice (b : List Int) (o : Nat) (d : List Int) : List Int := b.take o ++ d ++ b.drop (o + d.length)
theorem splice_len {b d : List Int} {o : Nat} (hb : b.length = 16) (h : o + d.length ≤ 16) : (splice b o d).length = 16 := by
  unfold splice
  simp only [List.length_append, List.length_take, List.length_drop, hb]
  omega
theorem splice_bytes {b d : List Int} {o : Nat} (hb : Bytes b) (hd : Bytes d) : Bytes (splice b o d) := fun c hc => by
  unfold splice at hc
  rcases List.mem_append.1 hc with h | h
  · rcases List.mem_append.1 h with h | h
    · exact hb c (List.mem_of_mem_take h)
    · exact hd c h
  · exact hb c (List.mem_of_mem_drop h)
def upd {α : Type} (f : Nat → α) (i : Nat) (x : α) (j : Nat) : α := if j = i then x else f j
theorem upd_same {α : Type} (f : Nat → α) (i : Nat) (x : α) : upd f i x i = x := if_pos rfl
theorem upd_other {α : Type} (f : Nat → α) {i j : Nat} (x : α) (h : j ≠ i) : upd f i x j = f j := if_neg h

namespace Md
variable (a : Md)
/-- One handle has another page. -/
def putH (c j : Nat) (p : Int) : Md := ⟨a.n, a.N, a.T, a.B, fun x y => if x = c ∧ y = j then p else a.H x y⟩
/-- One body is another. -/
def putB (p : Nat) (b : List Int) : Md := ⟨a.n, a.N, a.T, upd a.B p b, a.H⟩
/-- One page is there, or not, with zeros. -/
def putT (p : Nat) (t : Bool) : Md := ⟨a.n, a.N, upd a.T p t, upd a.B p zeros, a.H⟩
def isC (c : Int) : Prop := 0 ≤ c ∧ c < (a.N : Int)
def held (c h : Int) : Int := if (0 ≤ c ∧ c < (a.N : Int)) ∧ (0 ≤ h ∧ h < 6) then a.H c.toNat h.toNat else -1
def free (c : Nat) : Int := hnd (a.H c) 6
def gap : Nat := lst (fun i => if a.T i then 0 else -1) a.n
def has (p : Int) (c : Nat) : Nat := cnt (a.H c) p 6
def pins (p : Int) : Nat := if p < 0 then 0 else sum (a.has p) a.N
/-- What is asked of a page that must be there. -/
def onPage (p : Int) (f : Nat → Re × Md) : Re × Md := if ¬ (0 ≤ p ∧ p < (a.n : Int)) then (err 1, a) else if a.T p.toNat = false then (err 2, a) else f p.toNat
/-- What is asked of a handle that must have a page. -/
def onHand (c h : Int) (f : Nat → Re × Md) : Re × Md := if a.held c h < 0 then (err 5, a) else f (a.held c h).toNat
def new (c : Nat) : Re × Md := if a.free c = -1 then (err 4, a) else if a.gap = a.n then (err 3, a) else (⟨0, a.gap, a.free c, []⟩, (a.putT a.gap true).putH c (a.free c).toNat a.gap)
def fetch (c : Nat) (p : Nat) : Re × Md := if a.free c = -1 then (err 4, a) else (⟨0, p, a.free c, []⟩, a.putH c (a.free c).toNat p)
def read (o n : Int) (p : Nat) : Re × Md := if o < 0 ∨ n < 0 ∨ 16 < o ∨ 16 - o < n then (err 6, a) else (⟨0, 0, 0, ((a.B p).drop o.toNat).take n.toNat⟩, a)
def write (o : Int) (d : List Int) (p : Nat) : Re × Md := if o < 0 ∨ 16 < o ∨ 16 - o < (d.length : Int) then (err 6, a) else (err 0, a.putB p (splice (a.B p) o.toNat d))
def del (p : Nat) : Re × Md := if 0 < a.pins p then (err 7, a) else (err 0, a.putT p false)
def run (c : Int) (o : MdOp) : Re × Md :=
  if ¬ (0 ≤ c ∧ c < (a.N : Int)) ∨ o.k < 1 ∨ 8 < o.k then (err 1, a)
  else if o.k = 1 then a.new c.toNat
  else if o.k = 2 then a.onPage o.p (a.fetch c.toNat)
  else if o.k = 3 then a.onHand c o.h (a.read o.o o.n)
  else if o.k = 4 then a.onHand c o.h (a.write o.o o.d)
  else if o.k = 5 then a.onHand c o.h fun _ => (err 0, a.putH c.toNat o.h.toNat (-1))
  else if o.k = 6 then a.onPage o.p fun _ => (err 0, a)
  else if o.k = 7 then (err 0, a)
  else a.onPage o.p a.del
end Md
/-- A new state. -/
def fresh (n N : Nat) : Md := ⟨n, N, fun _ => false, fun _ => zeros, fun _ _ => -1⟩
section
variable {a : Md} {c h p : Int}
theorem good_fresh {n N : Nat} (h1 : 1 ≤ n) (h2 : n ≤ 48) (h3 : 1 ≤ N) (h4 : N ≤ 6) : Good (fresh n N) := ⟨⟨h1, h2⟩, ⟨h3, h4⟩, fun _ => rfl, fun _ => zeros_bytes, fun _ _ _ => rfl, fun _ _ _ _ => .inl rfl⟩
theorem Good.lo (g : Good a) {c j : Nat} (hc : c < a.N) (hj : j < 6) : -1 ≤ a.H c j := by
  rcases g.hnd c j hc hj with e | ⟨p, e, _⟩ <;> omega
theorem Good.putH (g : Good a) (c j : Nat) (hp : p = -1 ∨ ∃ q : Nat, p = (q : Int) ∧ q < a.n ∧ a.T q = true) : Good (a.putH c j p) := ⟨g.n, g.N, g.len, g.byt, g.zer, fun x y hx hy => by
  show (if x = c ∧ y = j then p else a.H x y) = -1 ∨ ∃ q : Nat, (if x = c ∧ y = j then p else a.H x y) = (q : Int) ∧ q < a.n ∧ a.T q = true
  split
  · exact hp
  · exact g.hnd x y hx hy⟩
theorem Good.putB (g : Good a) {q : Nat} {b : List Int} (hq : a.T q = true) (hl : b.length = 16) (hb : Bytes b) : Good (a.putB q b) := by
  refine ⟨g.n, g.N, fun i => ?_, fun i => ?_, fun i hi ht => ?_, g.hnd⟩
  · show (upd a.B q b i).length = 16
    unfold upd
    split
    · exact hl
    · exact g.len i
  · show Bytes (upd a.B q b i)
    unfold upd
    split
    · exact hb
    · exact g.byt i
  · show upd a.B q b i = zeros
    have ht : a.T i = false := ht
    have hiq : i ≠ q := fun e => by rw [e, hq] at ht; cases ht
    rw [upd_other _ _ hiq]
    exact g.zer i hi ht
theorem Good.putT (g : Good a) (q : Nat) (t : Bool) (h : t = true ∨ ∀ c j, c < a.N → j < 6 → a.H c j ≠ (q : Int)) : Good (a.putT q t) := by
  refine ⟨g.n, g.N, fun i => ?_, fun i => ?_, fun i hi ht => ?_, fun c j hc hj => ?_⟩
  · show (upd a.B q zeros i).length = 16
    unfold upd
    split
    · rfl
    · exact g.len i
  · show Bytes (upd a.B q zeros i)
    unfold upd
    split
    · exact zeros_bytes
    · exact g.byt i
  · show upd a.B q zeros i = zeros
    by_cases e : i = q
    · rw [e, upd_same]
    · rw [upd_other _ _ e]
      have ht : upd a.T q t i = false := ht
      rw [upd_other _ _ e] at ht
      exact g.zer i hi ht
  · rcases g.hnd c j hc hj with e | ⟨p, e, hp, hT⟩
    · exact .inl e
    · refine .inr ⟨p, e, hp, ?_⟩
      show upd a.T q t p = true
      by_cases e2 : p = q
      · rcases h with h | h
        · rw [e2, upd_same, h]
        · exact absurd (e2 ▸ e) (h c j hc hj)
      · rw [upd_other _ _ e2]; exact hT
theorem held_cases (g : Good a) (c h : Int) : a.held c h = -1 ∨ ∃ k j q : Nat, c = (k : Int) ∧ h = (j : Int) ∧ k < a.N ∧ j < 6 ∧ a.held c h = (q : Int) ∧ a.H k j = (q : Int) ∧ q < a.n ∧ a.T q = true := by
  unfold Md.held
  split
  · rename_i hh
    obtain ⟨k, rfl⟩ := Int.eq_ofNat_of_zero_le hh.1.1
    obtain ⟨j, rfl⟩ := Int.eq_ofNat_of_zero_le hh.2.1
    rw [Int.toNat_natCast, Int.toNat_natCast]
    rcases g.hnd k j (by omega) (by omega) with e | ⟨q, e, hq, hT⟩
    · exact .inl e
    · exact .inr ⟨k, j, q, rfl, rfl, by omega, by omega, e, e, hq, hT⟩
  · exact .inl rfl
theorem held_in {k j : Nat} (hk : k < a.N) (hj : j < 6) : a.held (k : Int) (j : Int) = a.H k j := by
  unfold Md.held
  rw [if_pos (by omega), Int.toNat_natCast, Int.toNat_natCast]
theorem cnt_zero {f : Nat → Int} {p : Int} : ∀ m, cnt f p m = 0 → ∀ j, j < m → f j ≠ p
  | 0, _, j, hj => absurd hj (Nat.not_lt_zero j)
  | m + 1, h, j, hj => by
    have e : cnt f p (m + 1) = cnt f p m + if f m = p then 1 else 0 := rfl
    rw [e] at h
    by_cases hm : f m = p
    · rw [if_pos hm] at h; omega
    · by_cases ej : j = m
      · rw [ej]; exact hm
      · exact cnt_zero m (by omega) j (by omega)
theorem sum_zero {g : Nat → Nat} : ∀ m, sum g m = 0 → ∀ i, i < m → g i = 0
  | 0, _, i, hi => absurd hi (Nat.not_lt_zero i)
  | m + 1, h, i, hi => by
    have e : sum g (m + 1) = sum g m + g m := rfl
    rw [e] at h
    by_cases ei : i = m
    · rw [ei]; omega
    · exact sum_zero m (by omega) i (by omega)
theorem pins_zero {p : Nat} (h : a.pins (p : Int) = 0) (c j : Nat) (hc : c < a.N) (hj : j < 6) : a.H c j ≠ (p : Int) := by
  unfold Md.pins at h
  rw [if_neg (by omega)] at h
  exact cnt_zero 6 (sum_zero _ h c hc) j hj
theorem held_out (h' : ¬ ((0 ≤ c ∧ c < (a.N : Int)) ∧ (0 ≤ h ∧ h < 6))) : a.held c h = -1 := if_neg h'
end
end Go.Proofs.Ytigcjcgdakoonaa.MdM
