import Derived.Handy
import Derived.IntWalk
import Derived.RowKit
import Derived.WalkKit
import Derived.Below
import Derived.Lib.Hide
import Derived.Deep.LoopGhost
import Derived.Deep.Draws
import Derived.Deep.AppendLies
import Derived.Laws.Rows
import Derived.Laws.BytesArg
import Derived.Lib.QuietBelow
import Derived.BigQuiet
import Derived.Laws.OwnMore
set_option linter.unusedVariables false
namespace Go.Proofs.YtbnkpnllgoghnaaGreat
open Go.Lib (hid)
universe u v
theorem ZmC {A : Type u} {B : Type v} {f : A → B} {a : A} {l : List A} : List.map f (a :: l) = f a :: List.map f l := rfl
theorem ZmN {A : Type u} {B : Type v} {f : A → B} : List.map f [] = [] := rfl
theorem ZgS {A : Type u} {x : A} {l : List A} {n : Nat} {d : A} : (x :: l).getD (n + 1) d = l.getD n d := rfl
theorem ZgZ {A : Type u} {x : A} {l : List A} {d : A} : (x :: l).getD 0 d = x := rfl
theorem ZeZ {A : Type u} {x : A} {l : List A} : (x :: l)[0]? = some x := rfl
theorem ZeS {A : Type u} {x : A} {l : List A} {n : Nat} : (x :: l)[n + 1]? = l[n]? := rfl
namespace HdM
def lst (f : Nat → Int) : Nat → Nat
 | 0 => 0
 | m + 1 => if lst f m < m then lst f m else if f m = -1 then m else m + 1
theorem lst_le (f : Nat → Int) : ∀ m,lst f m ≤ m
 | 0 => Nat.le_refl _
 | m + 1 => by
  have := lst_le f m
  unfold lst
  split
  ·omega
  ·split <;> omega
theorem lst_free (f : Nat → Int) : ∀ m j,j < lst f m → f j ≠ -1
 | 0,j,h => absurd h (Nat.not_lt_zero j)
 | m + 1,j,h => by
  have ih := lst_free f m
  have hl := lst_le f m
  unfold lst at h
  split at h
  ·exact ih j h
  ·rename_i h1
   have e : lst f m = m := by omega
   split at h
   ·exact ih j (by omega)
   ·rename_i h2
    by_cases e2 : j = m
    ·subst e2;exact h2
    ·exact ih j (by omega)
theorem lst_at (f : Nat → Int) : ∀ m,lst f m < m → f (lst f m) = -1
 | 0,h => absurd h (Nat.not_lt_zero _)
 | m + 1,h => by
  have ih := lst_at f m
  unfold lst at h ⊢
  split
  ·rename_i h1;exact ih h1
  ·rename_i h1
   rw [if_neg h1] at h
   split
   ·assumption
   ·rename_i h2
    rw [if_neg h2] at h
    omega
theorem lst_eq {f : Nat → Int} {m k : Nat} (h : ∀ j,j < k → f j ≠ -1) (hk : k = m ∨ (k < m ∧ f k = -1)) : lst f m = k := by
 have hl := lst_le f m
 rcases Nat.lt_trichotomy (lst f m) k with h1 | h1 | h1
 ·exact absurd (lst_at f m (by omega)) (h _ h1)
 ·exact h1
 ·rcases hk with hk | ⟨_,hk⟩
  ·omega
  ·exact absurd hk (lst_free f m k h1)
def hnd (f : Nat → Int) (m : Nat) : Int := if lst f m < m then (lst f m : Int) else -1
theorem hnd_at {f : Nat → Int} {m k : Nat} (h : ∀ j,j < k → f j ≠ -1) (hk : k < m) (hf : f k = -1) : hnd f m = (k : Int) := by
 unfold hnd
 rw [lst_eq h (.inr ⟨hk,hf⟩),if_pos hk]
theorem hnd_none {f : Nat → Int} {m : Nat} (h : ∀ j,j < m → f j ≠ -1) : hnd f m = -1 := by
 unfold hnd
 rw [lst_eq h (.inl rfl),if_neg (Nat.lt_irrefl _)]
theorem hnd_zero (f : Nat → Int) : hnd f 0 = -1 := hnd_none fun j h => absurd h (Nat.not_lt_zero j)
theorem hnd_cases (f : Nat → Int) (m : Nat) : (hnd f m = -1 ∧ ∀ j,j < m → f j ≠ -1) ∨ ∃ k,k < m ∧ hnd f m = (k : Int) ∧ f k = -1 ∧ ∀ j,j < k → f j ≠ -1 := by
 by_cases h : lst f m < m
 ·exact .inr ⟨lst f m,h,by unfold hnd;rw [if_pos h],lst_at f m h,lst_free f m⟩
 ·have e : lst f m = m := by have := lst_le f m;omega
  have hf := lst_free f m
  rw [e] at hf
  exact .inl ⟨hnd_none hf,hf⟩
def cnt (f : Nat → Int) (p : Int) : Nat → Nat
 | 0 => 0
 | m + 1 => cnt f p m + if f m = p then 1 else 0
theorem cnt_le (f : Nat → Int) (p : Int) : ∀ m,cnt f p m ≤ m
 | 0 => Nat.le_refl _
 | m + 1 => by
  have := cnt_le f p m
  unfold cnt
  split <;> omega
theorem cnt_yes {f : Nat → Int} {p : Int} {m : Nat} (h : f m = p) : cnt f p (m + 1) = cnt f p m + 1 := by
 show cnt f p m + (if f m = p then 1 else 0) = _
 rw [if_pos h]
theorem cnt_no {f : Nat → Int} {p : Int} {m : Nat} (h : f m ≠ p) : cnt f p (m + 1) = cnt f p m := by
 show cnt f p m + (if f m = p then 1 else 0) = _
 rw [if_neg h];rfl
def sum (g : Nat → Nat) : Nat → Nat
 | 0 => 0
 | m + 1 => sum g m + g m
theorem sum_le {g : Nat → Nat} {b : Nat} (h : ∀ i,g i ≤ b) : ∀ m,sum g m ≤ m * b
 | 0 => by simp [sum]
 | m + 1 => by
  have h1 := sum_le h m
  have h2 := h m
  have e : (m + 1) * b = m * b + b := Nat.succ_mul m b
  show sum g m + g m ≤ _
  omega
structure Hs where
 n : Nat
 H : Nat → Nat → Int
namespace Hs
variable (a : Hs)
def put (c j : Nat) (p : Int) : Hs := ⟨a.n,fun x y => if x = c ∧ y = j then p else a.H x y⟩
def len (c : Int) : Nat := if 0 ≤ c ∧ c < (a.n : Int) then 6 else 0
def page (c h : Int) : Int := if 0 ≤ h ∧ h < (a.len c : Int) then a.H c.toNat h.toNat else -1
def give (c p : Int) : Int := if p < 0 then -1 else hnd (a.H c.toNat) (a.len c)
def gave (c p : Int) : Hs := if a.give c p = -1 then a else a.put c.toNat (a.give c p).toNat p
def back (c h : Int) : Hs := if a.page c h = -1 then a else a.put c.toNat h.toNat (-1)
def room (c : Int) : Bool := !decide (hnd (a.H c.toNat) (a.len c) = -1)
def has (p : Int) (c : Nat) : Nat := cnt (a.H c) p 6
def pins (p : Int) : Nat := if p < 0 then 0 else sum (a.has p) a.n
end Hs
def fresh (n : Nat) : Hs := ⟨n,fun _ _ => -1⟩
structure Good (a : Hs) : Prop where
 n : a.n ≤ 6
 h : ∀ c j,-1 ≤ a.H c j
section
variable {a : Hs} {c h p : Int}
theorem good_fresh {n : Nat} (h : n ≤ 6) : Good (fresh n) := ⟨h,fun _ _ => Int.le_refl _⟩
theorem Good.put (g : Good a) (c j : Nat) (hp : -1 ≤ p) : Good (a.put c j p) := ⟨g.n,fun x y => by
 show -1 ≤ if x = c ∧ y = j then p else a.H x y
 split
 ·exact hp
 ·exact g.h x y⟩
theorem len_in {k : Nat} (h : k < a.n) : a.len (k : Int) = 6 := if_pos ⟨by omega,by omega⟩
theorem len_out (h : ¬ (0 ≤ c ∧ c < (a.n : Int))) : a.len c = 0 := if_neg h
theorem page_out (h : ¬ (0 ≤ c ∧ c < (a.n : Int))) (k : Int) : a.page c k = -1 := by
 unfold Hs.page
 rw [len_out h,if_neg (by omega)]
theorem page_off {k : Nat} (hk : k < a.n) (hh : ¬ (0 ≤ h ∧ h < 6)) : a.page (k : Int) h = -1 := by
 unfold Hs.page
 rw [len_in hk,if_neg (by omega)]
theorem page_in {k j : Nat} (hk : k < a.n) (hj : j < 6) : a.page (k : Int) (j : Int) = a.H k j := by
 unfold Hs.page
 rw [len_in hk,if_pos (by omega),Int.toNat_natCast,Int.toNat_natCast]
theorem give_out (h : ¬ (0 ≤ c ∧ c < (a.n : Int))) (p : Int) : a.give c p = -1 := by
 unfold Hs.give
 rw [len_out h,hnd_zero]
 split <;> rfl
theorem give_low (h : p < 0) (c : Int) : a.give c p = -1 := by
 unfold Hs.give
 rw [if_pos h]
theorem give_in {k : Nat} (hk : k < a.n) (hp : ¬ p < 0) : a.give (k : Int) p = hnd (a.H k) 6 := by
 unfold Hs.give
 rw [len_in hk,if_neg hp,Int.toNat_natCast]
theorem gave_not (h : a.give c p = -1) : a.gave c p = a := if_pos h
theorem gave_at {k j : Nat} (h : a.give (k : Int) p = (j : Int)) : a.gave (k : Int) p = a.put k j p := by
 unfold Hs.gave
 rw [h,if_neg (by omega),Int.toNat_natCast,Int.toNat_natCast]
theorem back_not (h' : a.page c h = -1) : a.back c h = a := if_pos h'
theorem back_at {k j : Nat} (h : a.page (k : Int) (j : Int) ≠ -1) : a.back (k : Int) (j : Int) = a.put k j (-1) := by
 unfold Hs.back
 rw [if_neg h,Int.toNat_natCast,Int.toNat_natCast]
theorem room_out (h : ¬ (0 ≤ c ∧ c < (a.n : Int))) : a.room c = false := by
 unfold Hs.room
 rw [len_out h,hnd_zero];rfl
theorem room_in {k : Nat} (hk : k < a.n) : a.room (k : Int) = !decide (hnd (a.H k) 6 = -1) := by
 unfold Hs.room
 rw [len_in hk,Int.toNat_natCast]
theorem pins_low (h : p < 0) : a.pins p = 0 := if_pos h
theorem pins_up (h : ¬ p < 0) : a.pins p = sum (a.has p) a.n := if_neg h
end
end HdM
namespace MdM
open HdM (lst hnd cnt sum)
def zeros : List Int := List.replicate 16 0
structure Md where
 n : Nat
 N : Nat
 T : Nat → Bool
 B : Nat → List Int
 H : Nat → Nat → Int
structure MdOp where
 k : Int
 p : Int
 h : Int
 o : Int
 n : Int
 d : List Int
structure Re where
 c : Int
 p : Int
 h : Int
 d : List Int
def err (c : Int) : Re := ⟨c,0,0,[]⟩
def Bytes (zs : List Int) : Prop := ∀ c ∈ zs,0 ≤ c ∧ c < 256
theorem zeros_bytes : Bytes zeros := fun c hc => by
 have := (List.mem_replicate.1 hc).2
 omega
structure Good (a : Md) : Prop where
 n : 1 ≤ a.n ∧ a.n ≤ 48
 N : 1 ≤ a.N ∧ a.N ≤ 6
 len : ∀ i,(a.B i).length = 16
 byt : ∀ i,Bytes (a.B i)
 zer : ∀ i,i < a.n → a.T i = false → a.B i = zeros
 hnd : ∀ c j,c < a.N → j < 6 → a.H c j = -1 ∨ ∃ p : Nat,a.H c j = (p : Int) ∧ p < a.n ∧ a.T p = true
def splice (b : List Int) (o : Nat) (d : List Int) : List Int := b.take o ++ d ++ b.drop (o + d.length)
theorem splice_len {b d : List Int} {o : Nat} (hb : b.length = 16) (h : o + d.length ≤ 16) : (splice b o d).length = 16 := by
 unfold splice
 simp only [List.length_append,List.length_take,List.length_drop,hb]
 omega
theorem splice_bytes {b d : List Int} {o : Nat} (hb : Bytes b) (hd : Bytes d) : Bytes (splice b o d) := fun c hc => by
 unfold splice at hc
 rcases List.mem_append.1 hc with h | h
 ·rcases List.mem_append.1 h with h | h
  ·exact hb c (List.mem_of_mem_take h)
  ·exact hd c h
 ·exact hb c (List.mem_of_mem_drop h)
def upd {α : Type} (f : Nat → α) (i : Nat) (x : α) (j : Nat) : α := if j = i then x else f j
theorem upd_same {α : Type} (f : Nat → α) (i : Nat) (x : α) : upd f i x i = x := if_pos rfl
theorem upd_other {α : Type} (f : Nat → α) {i j : Nat} (x : α) (h : j ≠ i) : upd f i x j = f j := if_neg h
namespace Md
variable (a : Md)
def putH (c j : Nat) (p : Int) : Md := ⟨a.n,a.N,a.T,a.B,fun x y => if x = c ∧ y = j then p else a.H x y⟩
def putB (p : Nat) (b : List Int) : Md := ⟨a.n,a.N,a.T,upd a.B p b,a.H⟩
def putT (p : Nat) (t : Bool) : Md := ⟨a.n,a.N,upd a.T p t,upd a.B p zeros,a.H⟩
def held (c h : Int) : Int := if (0 ≤ c ∧ c < (a.N : Int)) ∧ (0 ≤ h ∧ h < 6) then a.H c.toNat h.toNat else -1
def free (c : Nat) : Int := hnd (a.H c) 6
def gap : Nat := lst (fun i => if a.T i then 0 else -1) a.n
def has (p : Int) (c : Nat) : Nat := cnt (a.H c) p 6
def pins (p : Int) : Nat := if p < 0 then 0 else sum (a.has p) a.N
def onPage (p : Int) (f : Nat → Re × Md) : Re × Md := if ¬ (0 ≤ p ∧ p < (a.n : Int)) then (err 1,a) else if a.T p.toNat = false then (err 2,a) else f p.toNat
def onHand (c h : Int) (f : Nat → Re × Md) : Re × Md := if a.held c h < 0 then (err 5,a) else f (a.held c h).toNat
def new (c : Nat) : Re × Md := if a.free c = -1 then (err 4,a) else if a.gap = a.n then (err 3,a) else (⟨0,a.gap,a.free c,[]⟩,(a.putT a.gap true).putH c (a.free c).toNat a.gap)
def fetch (c : Nat) (p : Nat) : Re × Md := if a.free c = -1 then (err 4,a) else (⟨0,p,a.free c,[]⟩,a.putH c (a.free c).toNat p)
def read (o n : Int) (p : Nat) : Re × Md := if o < 0 ∨ n < 0 ∨ 16 < o ∨ 16 - o < n then (err 6,a) else (⟨0,0,0,((a.B p).drop o.toNat).take n.toNat⟩,a)
def write (o : Int) (d : List Int) (p : Nat) : Re × Md := if o < 0 ∨ 16 < o ∨ 16 - o < (d.length : Int) then (err 6,a) else (err 0,a.putB p (splice (a.B p) o.toNat d))
def del (p : Nat) : Re × Md := if 0 < a.pins p then (err 7,a) else (err 0,a.putT p false)
def run (c : Int) (o : MdOp) : Re × Md :=
 if ¬ (0 ≤ c ∧ c < (a.N : Int)) ∨ o.k < 1 ∨ 8 < o.k then (err 1,a)
 else if o.k = 1 then a.new c.toNat
 else if o.k = 2 then a.onPage o.p (a.fetch c.toNat)
 else if o.k = 3 then a.onHand c o.h (a.read o.o o.n)
 else if o.k = 4 then a.onHand c o.h (a.write o.o o.d)
 else if o.k = 5 then a.onHand c o.h fun _ => (err 0,a.putH c.toNat o.h.toNat (-1))
 else if o.k = 6 then a.onPage o.p fun _ => (err 0,a)
 else if o.k = 7 then (err 0,a)
 else a.onPage o.p a.del
end Md
def fresh (n N : Nat) : Md := ⟨n,N,fun _ => false,fun _ => zeros,fun _ _ => -1⟩
section
variable {a : Md} {c h p : Int}
theorem good_fresh {n N : Nat} (h1 : 1 ≤ n) (h2 : n ≤ 48) (h3 : 1 ≤ N) (h4 : N ≤ 6) : Good (fresh n N) := ⟨⟨h1,h2⟩,⟨h3,h4⟩,fun _ => rfl,fun _ => zeros_bytes,fun _ _ _ => rfl,fun _ _ _ _ => .inl rfl⟩
theorem Good.lo (g : Good a) {c j : Nat} (hc : c < a.N) (hj : j < 6) : -1 ≤ a.H c j := by
 rcases g.hnd c j hc hj with e | ⟨p,e,_⟩ <;> omega
theorem Good.putH (g : Good a) (c j : Nat) (hp : p = -1 ∨ ∃ q : Nat,p = (q : Int) ∧ q < a.n ∧ a.T q = true) : Good (a.putH c j p) := ⟨g.n,g.N,g.len,g.byt,g.zer,fun x y hx hy => by
 show (if x = c ∧ y = j then p else a.H x y) = -1 ∨ ∃ q : Nat,(if x = c ∧ y = j then p else a.H x y) = (q : Int) ∧ q < a.n ∧ a.T q = true
 split
 ·exact hp
 ·exact g.hnd x y hx hy⟩
theorem Good.putB (g : Good a) {q : Nat} {b : List Int} (hq : a.T q = true) (hl : b.length = 16) (hb : Bytes b) : Good (a.putB q b) := by
 refine ⟨g.n,g.N,fun i => ?_,fun i => ?_,fun i hi ht => ?_,g.hnd⟩
 ·show (upd a.B q b i).length = 16
  unfold upd
  split
  ·exact hl
  ·exact g.len i
 ·show Bytes (upd a.B q b i)
  unfold upd
  split
  ·exact hb
  ·exact g.byt i
 ·show upd a.B q b i = zeros
  have ht : a.T i = false := ht
  have hiq : i ≠ q := fun e => by rw [e,hq] at ht;cases ht
  rw [upd_other _ _ hiq]
  exact g.zer i hi ht
theorem Good.putT (g : Good a) (q : Nat) (t : Bool) (h : t = true ∨ ∀ c j,c < a.N → j < 6 → a.H c j ≠ (q : Int)) : Good (a.putT q t) := by
 refine ⟨g.n,g.N,fun i => ?_,fun i => ?_,fun i hi ht => ?_,fun c j hc hj => ?_⟩
 ·show (upd a.B q zeros i).length = 16
  unfold upd
  split
  ·rfl
  ·exact g.len i
 ·show Bytes (upd a.B q zeros i)
  unfold upd
  split
  ·exact zeros_bytes
  ·exact g.byt i
 ·show upd a.B q zeros i = zeros
  by_cases e : i = q
  ·rw [e,upd_same]
  ·rw [upd_other _ _ e]
   have ht : upd a.T q t i = false := ht
   rw [upd_other _ _ e] at ht
   exact g.zer i hi ht
 ·rcases g.hnd c j hc hj with e | ⟨p,e,hp,hT⟩
  ·exact .inl e
  ·refine .inr ⟨p,e,hp,?_⟩
   show upd a.T q t p = true
   by_cases e2 : p = q
   ·rcases h with h | h
    ·rw [e2,upd_same,h]
    ·exact absurd (e2 ▸ e) (h c j hc hj)
   ·rw [upd_other _ _ e2];exact hT
theorem held_cases (g : Good a) (c h : Int) : a.held c h = -1 ∨ ∃ k j q : Nat,c = (k : Int) ∧ h = (j : Int) ∧ k < a.N ∧ j < 6 ∧ a.held c h = (q : Int) ∧ a.H k j = (q : Int) ∧ q < a.n ∧ a.T q = true := by
 unfold Md.held
 split
 ·rename_i hh
  obtain ⟨k,rfl⟩ := Int.eq_ofNat_of_zero_le hh.1.1
  obtain ⟨j,rfl⟩ := Int.eq_ofNat_of_zero_le hh.2.1
  rw [Int.toNat_natCast,Int.toNat_natCast]
  rcases g.hnd k j (by omega) (by omega) with e | ⟨q,e,hq,hT⟩
  ·exact .inl e
  ·exact .inr ⟨k,j,q,rfl,rfl,by omega,by omega,e,e,hq,hT⟩
 ·exact .inl rfl
theorem held_in {k j : Nat} (hk : k < a.N) (hj : j < 6) : a.held (k : Int) (j : Int) = a.H k j := by
 unfold Md.held
 rw [if_pos (by omega),Int.toNat_natCast,Int.toNat_natCast]
theorem cnt_zero {f : Nat → Int} {p : Int} : ∀ m,cnt f p m = 0 → ∀ j,j < m → f j ≠ p
 | 0,_,j,hj => absurd hj (Nat.not_lt_zero j)
 | m + 1,h,j,hj => by
  have e : cnt f p (m + 1) = cnt f p m + if f m = p then 1 else 0 := rfl
  rw [e] at h
  by_cases hm : f m = p
  ·rw [if_pos hm] at h;omega
  ·by_cases ej : j = m
   ·rw [ej];exact hm
   ·exact cnt_zero m (by omega) j (by omega)
theorem sum_zero {g : Nat → Nat} : ∀ m,sum g m = 0 → ∀ i,i < m → g i = 0
 | 0,_,i,hi => absurd hi (Nat.not_lt_zero i)
 | m + 1,h,i,hi => by
  have e : sum g (m + 1) = sum g m + g m := rfl
  rw [e] at h
  by_cases ei : i = m
  ·rw [ei];omega
  ·exact sum_zero m (by omega) i (by omega)
theorem pins_zero {p : Nat} (h : a.pins (p : Int) = 0) (c j : Nat) (hc : c < a.N) (hj : j < 6) : a.H c j ≠ (p : Int) := by
 unfold Md.pins at h
 rw [if_neg (by omega)] at h
 exact cnt_zero 6 (sum_zero _ h c hc) j hj
theorem held_out (h' : ¬ ((0 ≤ c ∧ c < (a.N : Int)) ∧ (0 ≤ h ∧ h < 6))) : a.held c h = -1 := if_neg h'
end
end MdM
namespace TabM
open Go.RowKit
def upd {α : Type} (f : Nat → α) (p : Nat) (v : α) : Nat → α := fun j => if j = p then v else f j
theorem upd_same {α : Type} (f : Nat → α) (p : Nat) (v : α) : upd f p v p = v := if_pos rfl
theorem upd_other {α : Type} (f : Nat → α) {p j : Nat} (v : α) (h : j ≠ p) : upd f p v j = f j := if_neg h
def placeI (key : Int) (n : Nat) : Int := key % 4294967296 * 2654435761 % 4294967296 / 65536 % (n : Int)
theorem place_ex (key : Int) (n : Nat) : ∃ j : Nat,1 ≤ n → (j : Int) = placeI key n ∧ j < n := by
 refine ⟨(placeI key n).toNat,fun h => ?_⟩
 have h1 : (((placeI key n).toNat : Nat) : Int) = placeI key n := Int.toNat_of_nonneg (Int.emod_nonneg _ (by omega))
 have h2 : placeI key n < (n : Int) := Int.emod_lt_of_pos _ (by omega)
 exact ⟨h1,by omega⟩
noncomputable def place (key : Int) (n : Nat) : Nat := (place_ex key n).choose
section
variable {key : Int} {n : Nat}
theorem place_int (h : 1 ≤ n) : ((place key n : Nat) : Int) = placeI key n := ((place_ex key n).choose_spec h).1
theorem place_lt (h : 1 ≤ n) : place key n < n := ((place_ex key n).choose_spec h).2
theorem place_wrap (h : 1 ≤ n) (h2 : n ≤ 1024) : wrap64 (key % 4294967296 * 2654435761 % 4294967296 / 65536 % (n : Int)) = ((place key n : Nat) : Int) := by
 have h1 := place_int (key := key) h
 have h3 := place_lt (key := key) h
 rw [← placeI.eq_def,← h1]
 exact Go.IntWalk.wrap64_in _ (by omega)
end
def cnt (f : Nat → Bool) : Nat → Nat
 | 0 => 0
 | n + 1 => cnt f n + if f n = true then 1 else 0
section
variable {f g : Nat → Bool} {n p : Nat}
theorem cnt_le (f : Nat → Bool) (n : Nat) : cnt f n ≤ n := by
 induction n with
 | zero => exact Nat.le_refl _
 | succ n ih => unfold cnt;split <;> omega
theorem cnt_congr (h : ∀ j,j < n → f j = g j) : cnt f n = cnt g n := by
 induction n with
 | zero => rfl
 | succ n ih => unfold cnt;rw [ih fun j hj => h j (by omega),h n (by omega)]
theorem cnt_none (h : ∀ j,j < n → f j = false) : cnt f n = 0 := by
 induction n with
 | zero => rfl
 | succ n ih => unfold cnt;rw [ih fun j hj => h j (by omega),h n (by omega)];rfl
theorem cnt_all (h : ∀ j,j < n → f j = true) : cnt f n = n := by
 induction n with
 | zero => rfl
 | succ n ih => unfold cnt;rw [ih fun j hj => h j (by omega),h n (by omega)];rfl
theorem cnt_on (hp : p < n) (hf : f p = false) : cnt (upd f p true) n = cnt f n + 1 := by
 induction n with
 | zero => omega
 | succ n ih =>
  unfold cnt
  by_cases e : p = n
  ·subst e
   rw [upd_same,cnt_congr (g := f) fun j hj => upd_other _ _ (by omega),hf]
   simp
  ·rw [upd_other _ _ (Ne.symm e),ih (by omega)]
   omega
theorem cnt_off (hp : p < n) (hf : f p = true) : cnt (upd f p false) n + 1 = cnt f n := by
 induction n with
 | zero => omega
 | succ n ih =>
  unfold cnt
  by_cases e : p = n
  ·subst e
   rw [upd_same,cnt_congr (g := f) fun j hj => upd_other _ _ (by omega),hf]
   simp
  ·rw [upd_other _ _ (Ne.symm e)]
   have := ih (by omega)
   omega
theorem cnt_pos (hp : p < n) (hf : f p = true) : 0 < cnt f n := by
 have := cnt_off hp hf
 omega
theorem cnt_zero (h : cnt f n = 0) {j : Nat} (hj : j < n) : f j = false := by
 cases e : f j with
 | false => rfl
 | true => have := cnt_pos hj e;omega
end
structure Tb where
 n : Nat
 K : Nat → Int
 V : Nat → Int
def used (T : Tb) : Nat → Bool := fun j => decide (0 ≤ T.K j)
def Tb.cnt (T : Tb) : Nat := TabM.cnt (used T) T.n
def fresh (n : Nat) : Tb := ⟨n,fun _ => -1,fun _ => 0⟩
def Tb.set (T : Tb) (j : Nat) (k v : Int) : Tb := ⟨T.n,upd T.K j k,upd T.V j v⟩
def scan (K : Nat → Int) (n p : Nat) (key : Int) : Nat → Nat → Int → Int × Int
 | 0,_,free => (-1,free)
 | g + 1,i,free =>
  if K ((p + i) % n) = key then ((((p + i) % n : Nat) : Int),-1)
  else if K ((p + i) % n) = -1 then (-1,if free < 0 then (((p + i) % n : Nat) : Int) else free)
  else if K ((p + i) % n) = -2 then scan K n p key g (i + 1) (if free < 0 then (((p + i) % n : Nat) : Int) else free)
  else scan K n p key g (i + 1) free
noncomputable def Tb.search (T : Tb) (key : Int) : Int × Int := scan T.K T.n (place key T.n) key T.n 0 (-1)
noncomputable def Tb.find (T : Tb) (key : Int) : Int := if key < 0 then -1 else (T.search key).1
noncomputable def Tb.get (T : Tb) (key : Int) : Int := if T.find key < 0 then -1 else T.V (T.find key).toNat
noncomputable def Tb.putC (T : Tb) (key : Int) : Int := if key < 0 then 1 else if 0 ≤ (T.search key).1 then 13 else if (T.search key).2 < 0 then 8 else 0
noncomputable def Tb.put (T : Tb) (key v : Int) : Tb := if T.putC key = 0 then T.set (T.search key).2.toNat key v else T
noncomputable def Tb.out (T : Tb) (key : Int) : Tb := if T.find key < 0 then T else if (T.set (T.find key).toNat (-2) 0).cnt = 0 then fresh T.n else T.set (T.find key).toNat (-2) 0
section
variable {T : Tb} {K : Nat → Int} {n p g i j : Nat} {key f : Int}
theorem scan_has (hn : 1 ≤ n) : (scan K n p key g i f).1 = -1 ∨ ∃ j,j < n ∧ scan K n p key g i f = ((j : Int),-1) ∧ K j = key := by
 induction g generalizing i f with
 | zero => exact .inl rfl
 | succ g ih =>
  unfold scan
  split
  ·next h => exact .inr ⟨_,Nat.mod_lt _ hn,rfl,h⟩
  ·split
   ·exact .inl rfl
   ·split
    ·exact ih
    ·exact ih
theorem scan_free (hn : 1 ≤ n) (hf : f = -1 ∨ ∃ j : Nat,j < n ∧ f = (j : Int) ∧ K j < 0) :
  (scan K n p key g i f).2 = -1 ∨ ∃ j : Nat,j < n ∧ (scan K n p key g i f).2 = (j : Int) ∧ K j < 0 := by
 induction g generalizing i f with
 | zero => exact hf
 | succ g ih =>
  have hm := Nat.mod_lt (p + i) hn
  unfold scan
  split
  ·exact .inl rfl
  ·split
   ·next h =>
    show (if f < 0 then _ else f) = -1 ∨ _
    split
    ·exact .inr ⟨_,hm,rfl,by omega⟩
    ·exact hf
   ·split
    ·next h =>
     refine ih ?_
     split
     ·exact .inr ⟨_,hm,rfl,by omega⟩
     ·exact hf
    ·exact ih hf
theorem search_has (hn : 1 ≤ T.n) : (T.search key).1 = -1 ∨ ∃ j,j < T.n ∧ T.search key = ((j : Int),-1) ∧ T.K j = key := scan_has hn
theorem search_free (hn : 1 ≤ T.n) : (T.search key).2 = -1 ∨ ∃ j : Nat,j < T.n ∧ (T.search key).2 = (j : Int) ∧ T.K j < 0 := scan_free hn (.inl rfl)
theorem find_has (hn : 1 ≤ T.n) : T.find key = -1 ∨ ∃ j,j < T.n ∧ T.find key = (j : Int) ∧ T.K j = key ∧ 0 ≤ key := by
 unfold Tb.find
 split
 ·exact .inl rfl
 ·next h =>
  rcases search_has (key := key) hn with e | ⟨j,hj,e,hk⟩
  ·exact .inl e
  ·exact .inr ⟨j,hj,by rw [e],hk,by omega⟩
theorem set_used (T : Tb) (j : Nat) (k v : Int) : used (T.set j k v) = upd (used T) j (decide (0 ≤ k)) := by
 funext i
 unfold used Tb.set upd
 dsimp only
 split <;> rfl
theorem cnt_set_on (hj : j < T.n) (h : T.K j < 0) {k v : Int} (hk : 0 ≤ k) : (T.set j k v).cnt = T.cnt + 1 := by
 show TabM.cnt (used (T.set j k v)) T.n = _
 rw [set_used,decide_eq_true hk]
 exact cnt_on hj (decide_eq_false (by omega))
theorem cnt_set_off (hj : j < T.n) (h : 0 ≤ T.K j) {k v : Int} (hk : k < 0) : (T.set j k v).cnt + 1 = T.cnt := by
 show TabM.cnt (used (T.set j k v)) T.n + 1 = _
 rw [set_used,decide_eq_false (show ¬ 0 ≤ k by omega)]
 exact cnt_off hj (decide_eq_true h)
theorem cnt_fresh (n : Nat) : (fresh n).cnt = 0 := cnt_none fun _ _ => rfl
theorem put_n (v : Int) : (T.put key v).n = T.n := by unfold Tb.put;split <;> rfl
theorem out_n : (T.out key).n = T.n := by
 unfold Tb.out
 split
 ·rfl
 ·split <;> rfl
end
structure Good (T : Tb) : Prop where
 pos : 1 ≤ T.n
 lo : ∀ j,j < T.n → -2 ≤ T.K j
 way : ∀ j,j < T.n → 0 ≤ T.K j → ∃ d,d < T.n ∧ (place (T.K j) T.n + d) % T.n = j ∧ ∀ e,e < d → T.K ((place (T.K j) T.n + e) % T.n) ≠ -1
 uniq : ∀ i j,i < T.n → j < T.n → 0 ≤ T.K i → T.K i = T.K j → i = j
theorem good_fresh {n : Nat} (h : 1 ≤ n) : Good (fresh n) :=
 ⟨h,fun _ _ => by show (-2 : Int) ≤ -1;omega,fun _ _ h => by have h : (0 : Int) ≤ -1 := h;omega,fun _ _ _ _ h => by have h : (0 : Int) ≤ -1 := h;omega⟩
section
variable {T : Tb} {K : Nat → Int} {n p g i j : Nat} {key f : Int}
theorem scan_found (hn : 1 ≤ n) (hg : i + g = n) (h : ∃ d,i ≤ d ∧ d < n ∧ K ((p + d) % n) = key ∧ ∀ e,i ≤ e → e < d → K ((p + e) % n) ≠ -1) :
  ∃ j,j < n ∧ scan K n p key g i f = ((j : Int),-1) ∧ K j = key := by
 induction g generalizing i f with
 | zero => obtain ⟨d,h1,h2,_⟩ := h;omega
 | succ g ih =>
  unfold scan
  split
  ·next h => exact ⟨_,Nat.mod_lt _ hn,rfl,h⟩
  ·next h1 =>
   obtain ⟨d,hd1,hd2,hd3,hd4⟩ := h
   have hidq : i ≠ d := fun e => by subst e;exact h1 hd3
   rw [if_neg (hd4 i (Nat.le_refl _) (by omega))]
   have hx : ∃ d,i + 1 ≤ d ∧ d < n ∧ K ((p + d) % n) = key ∧ ∀ e,i + 1 ≤ e → e < d → K ((p + e) % n) ≠ -1 := ⟨d,by omega,hd2,hd3,fun e he => hd4 e (by omega)⟩
   split
   ·exact ih (by omega) hx
   ·exact ih (by omega) hx
theorem scan_none (hn : 1 ≤ n) (hg : i + g = n) (hlo : ∀ j,j < n → -2 ≤ K j) (h : ∀ j,j < n → K j ≠ key) :
  (scan K n p key g i f).1 = -1 ∧ (0 ≤ f → (scan K n p key g i f).2 = f) ∧
    (f < 0 → ((scan K n p key g i f).2 < 0 ∧ ∀ e,i ≤ e → e < n → 0 ≤ K ((p + e) % n)) ∨
      ∃ d,i ≤ d ∧ d < n ∧ (scan K n p key g i f).2 = (((p + d) % n : Nat) : Int) ∧ K ((p + d) % n) < 0 ∧ ∀ e,i ≤ e → e < d → K ((p + e) % n) ≠ -1) := by
 induction g generalizing i f with
 | zero => exact ⟨rfl,fun _ => rfl,fun hf => .inl ⟨hf,fun e h1 h2 => by omega⟩⟩
 | succ g ih =>
  have hm := Nat.mod_lt (p + i) hn
  unfold scan
  rw [if_neg (h _ hm)]
  split
  ·next h1 =>
   refine ⟨rfl,fun hf => if_neg (by omega),fun hf => .inr ⟨i,Nat.le_refl _,by omega,if_pos hf,by omega,fun e h1 h2 => by omega⟩⟩
  ·next h1 =>
   split
   ·next h2 =>
    obtain ⟨a1,a2,a3⟩ := ih (i := i + 1) (f := if f < 0 then (((p + i) % n : Nat) : Int) else f) (by omega)
    refine ⟨a1,fun hf => ?_,fun hf => .inr ⟨i,Nat.le_refl _,by omega,?_,by omega,fun e h1 h2 => by omega⟩⟩
    ·rw [if_neg (show ¬ f < 0 by omega)] at a2 ⊢
     exact a2 hf
    ·rw [if_pos hf] at a2 ⊢
     exact a2 (by omega)
   ·next h2 =>
    obtain ⟨a1,a2,a3⟩ := ih (i := i + 1) (f := f) (by omega)
    refine ⟨a1,a2,fun hf => ?_⟩
    rcases a3 hf with ⟨b1,b2⟩ | ⟨d,b1,b2,b3,b4,b5⟩
    ·refine .inl ⟨b1,fun e h3 h4 => ?_⟩
     by_cases he : e = i
     ·subst he
      have := hlo _ hm
      omega
     ·exact b2 e (by omega) h4
    ·refine .inr ⟨d,by omega,b2,b3,b4,fun e h3 h4 => ?_⟩
     by_cases he : e = i
     ·subst he;exact h1
     ·exact b5 e (by omega) h4
theorem onto (hp : p < n) (hj : j < n) : ∃ e,e < n ∧ (p + e) % n = j := by
 by_cases h : p ≤ j
 ·exact ⟨j - p,by omega,by rw [show p + (j - p) = j by omega];exact Nat.mod_eq_of_lt hj⟩
 ·exact ⟨n + j - p,by omega,by rw [show p + (n + j - p) = j + n by omega,Nat.add_mod_right];exact Nat.mod_eq_of_lt hj⟩
theorem Good.search_in (h : Good T) (hk : 0 ≤ key) (hj : j < T.n) (hK : T.K j = key) : T.search key = ((j : Int),-1) := by
 obtain ⟨d,h1,h2,h3⟩ := h.way j hj (by omega)
 rw [hK] at h2 h3
 obtain ⟨i,hi,e,hKi⟩ := scan_found (K := T.K) (p := place key T.n) (key := key) (g := T.n) (i := 0) (f := -1) h.pos (by omega) ⟨d,by omega,h1,by rw [h2];exact hK,fun e _ he => h3 e he⟩
 have : i = j := h.uniq i j hi hj (by omega) (by omega)
 subst this
 exact e
theorem Good.search_out (h : Good T) (hK : ∀ j,j < T.n → T.K j ≠ key) :
  (T.search key).1 = -1 ∧ (((T.search key).2 < 0 ∧ T.cnt = T.n) ∨
    ∃ d,d < T.n ∧ (T.search key).2 = (((place key T.n + d) % T.n : Nat) : Int) ∧ T.K ((place key T.n + d) % T.n) < 0 ∧ ∀ e,e < d → T.K ((place key T.n + e) % T.n) ≠ -1) := by
 obtain ⟨a1,_,a3⟩ := scan_none (K := T.K) (p := place key T.n) (key := key) (g := T.n) (i := 0) (f := -1) h.pos (by omega) h.lo hK
 refine ⟨a1,?_⟩
 rcases a3 (by omega) with ⟨b1,b2⟩ | ⟨d,b1,b2,b3,b4,b5⟩
 ·refine .inl ⟨b1,cnt_all fun j hj => decide_eq_true ?_⟩
  obtain ⟨e,he,rfl⟩ := onto (place_lt (key := key) h.pos) hj
  exact b2 e (by omega) he
 ·exact .inr ⟨d,b2,b3,b4,fun e he => b5 e (by omega) he⟩
structure Abs (T : Tb) (I : Nat → Bool) (W : Nat → Int) : Prop where
 good : Good T
 inn : ∀ k : Nat,I k = true ↔ ∃ j,j < T.n ∧ T.K j = (k : Int)
 val : ∀ j,j < T.n → ∀ k : Nat,T.K j = (k : Int) → T.V j = W k
theorem abs_fresh (h : 1 ≤ n) (W : Nat → Int) : Abs (fresh n) (fun _ => false) W :=
 ⟨good_fresh h,fun k => ⟨fun x => (by cases x),fun ⟨j,_,x⟩ => by have x : (-1 : Int) = (k : Int) := x;omega⟩,fun j _ k x => by have x : (-1 : Int) = (k : Int) := x;omega⟩
variable {I : Nat → Bool} {W : Nat → Int} {k : Nat}
theorem Abs.find_in (h : Abs T I W) (hk : I k = true) : ∃ j,j < T.n ∧ T.find (k : Int) = (j : Int) ∧ T.search (k : Int) = ((j : Int),-1) ∧ T.K j = (k : Int) := by
 obtain ⟨j,hj,e⟩ := (h.inn k).1 hk
 have hs := h.good.search_in (by omega) hj e
 refine ⟨j,hj,?_,hs,e⟩
 unfold Tb.find
 rw [if_neg (by omega),hs]
theorem Abs.absent (h : Abs T I W) (hk : I k = false) : ∀ j,j < T.n → T.K j ≠ (k : Int) := fun j hj e => by
 rw [(h.inn k).2 ⟨j,hj,e⟩] at hk
 cases hk
theorem Abs.find_out (h : Abs T I W) (hk : I k = false) : T.find (k : Int) = -1 := by
 unfold Tb.find
 rw [if_neg (by omega)]
 exact (h.good.search_out (h.absent hk)).1
theorem Abs.get (h : Abs T I W) (k : Nat) : T.get (k : Int) = if I k = true then W k else -1 := by
 cases hk : I k with
 | true =>
  obtain ⟨j,hj,e,_,eK⟩ := h.find_in hk
  unfold Tb.get
  rw [e,if_neg (by omega),Int.toNat_natCast,h.val j hj k eK]
  rfl
 | false =>
  unfold Tb.get
  rw [h.find_out hk]
  rfl
theorem Abs.put_new (h : Abs T I W) (hk : I k = false) (hc : T.cnt < T.n) (v : Int) :
  T.putC (k : Int) = 0 ∧ Abs (T.put (k : Int) v) (upd I k true) (upd W k v) ∧ (T.put (k : Int) v).cnt = T.cnt + 1 := by
 have hab := h.absent hk
 obtain ⟨e1,e2⟩ := h.good.search_out hab
 rcases e2 with ⟨_,e2⟩ | ⟨d,hd,e2,e3,e4⟩
 ·omega
 have hp := h.good.pos
 have hm : (place (k : Int) T.n + d) % T.n < T.n := Nat.mod_lt _ hp
 generalize hJ : (place (k : Int) T.n + d) % T.n = J at *
 have h1 : T.putC (k : Int) = 0 := by
  unfold Tb.putC
  rw [if_neg (by omega),e1,if_neg (by omega),e2,if_neg (by omega)]
 have h2 : T.put (k : Int) v = T.set J (k : Int) v := by
  unfold Tb.put
  rw [h1,e2]
  rfl
 rw [h2]
 have hne : ∀ x : Nat,T.K x ≠ -1 → upd T.K J (k : Int) x ≠ -1 := fun x hx => by
  by_cases e : x = J
  ·subst e;rw [upd_same];omega
  ·rw [upd_other _ _ e];exact hx
 refine ⟨h1,⟨⟨hp,fun j hj => ?_,fun j hj hK => ?_,fun i j hi hj h0 hK => ?_⟩,fun m => ?_,fun j hj m hK => ?_⟩,cnt_set_on hm e3 (by omega)⟩
 ·show -2 ≤ upd T.K J (k : Int) j
  by_cases e : j = J
  ·subst e;rw [upd_same];omega
  ·rw [upd_other _ _ e];exact h.good.lo j hj
 ·change 0 ≤ upd T.K J (k : Int) j at hK
  show ∃ d,d < T.n ∧ (place (upd T.K J (k : Int) j) T.n + d) % T.n = j ∧ ∀ e,e < d → upd T.K J (k : Int) ((place (upd T.K J (k : Int) j) T.n + e) % T.n) ≠ -1
  by_cases e : j = J
  ·subst e
   rw [upd_same]
   exact ⟨d,hd,hJ,fun e he => hne _ (e4 e he)⟩
  ·rw [upd_other _ _ e] at hK ⊢
   obtain ⟨d',a1,a2,a3⟩ := h.good.way j hj hK
   exact ⟨d',a1,a2,fun e he => hne _ (a3 e he)⟩
 ·change 0 ≤ upd T.K J (k : Int) i at h0
  change upd T.K J (k : Int) i = upd T.K J (k : Int) j at hK
  by_cases ei : i = J
  ·by_cases ej : j = J
   ·omega
   ·subst ei
    rw [upd_same,upd_other _ _ ej] at hK
    exact absurd hK.symm (hab j hj)
  ·by_cases ej : j = J
   ·subst ej
    rw [upd_same,upd_other _ _ ei] at hK
    exact absurd hK (hab i hi)
   ·rw [upd_other _ _ ei] at h0 hK
    rw [upd_other _ _ ej] at hK
    exact h.good.uniq i j hi hj h0 hK
 ·show upd I k true m = true ↔ ∃ j,j < T.n ∧ upd T.K J (k : Int) j = (m : Int)
  by_cases em : m = k
  ·subst em
   rw [upd_same]
   exact ⟨fun _ => ⟨J,hm,upd_same _ _ _⟩,fun _ => rfl⟩
  ·rw [upd_other _ _ em,h.inn m]
   constructor
   ·rintro ⟨j,hj,e⟩
    refine ⟨j,hj,?_⟩
    rw [upd_other _ _ (fun x => by subst x;omega)]
    exact e
   ·rintro ⟨j,hj,e⟩
    by_cases ej : j = J
    ·subst ej;rw [upd_same] at e;omega
    ·rw [upd_other _ _ ej] at e;exact ⟨j,hj,e⟩
 ·change upd T.K J (k : Int) j = (m : Int) at hK
  show upd T.V J v j = upd W k v m
  by_cases ej : j = J
  ·subst ej
   rw [upd_same] at hK ⊢
   have : m = k := by omega
   subst this
   rw [upd_same]
  ·rw [upd_other _ _ ej] at hK ⊢
   have : m ≠ k := fun x => by subst x;exact hab j hj hK
   rw [upd_other _ _ this]
   exact h.val j hj m hK
theorem Abs.out_some (h : Abs T I W) (hk : I k = true) :
  T.get (k : Int) = W k ∧ Abs (T.out (k : Int)) (upd I k false) W ∧ (T.out (k : Int)).cnt + 1 = T.cnt ∧ ((T.out (k : Int)).cnt = 0 → T.out (k : Int) = fresh T.n) := by
 obtain ⟨J,hJ,e1,_,e2⟩ := h.find_in hk
 have hg := h.get k
 rw [hk] at hg
 refine ⟨hg,?_⟩
 have hc := cnt_set_off (T := T) hJ (by omega) (k := -2) (v := 0) (by omega)
 have hne : ∀ x : Nat,T.K x ≠ -1 → upd T.K J (-2) x ≠ -1 := fun x hx => by
  by_cases e : x = J
  ·subst e;rw [upd_same];omega
  ·rw [upd_other _ _ e];exact hx
 have ha : Abs (T.set J (-2) 0) (upd I k false) W := by
  refine ⟨⟨h.good.pos,fun j hj => ?_,fun j hj hK => ?_,fun i j hi hj h0 hK => ?_⟩,fun m => ?_,fun j hj m hK => ?_⟩
  ·show -2 ≤ upd T.K J (-2) j
   by_cases e : j = J
   ·subst e;rw [upd_same];omega
   ·rw [upd_other _ _ e];exact h.good.lo j hj
  ·change 0 ≤ upd T.K J (-2) j at hK
   show ∃ d,d < T.n ∧ (place (upd T.K J (-2) j) T.n + d) % T.n = j ∧ ∀ e,e < d → upd T.K J (-2) ((place (upd T.K J (-2) j) T.n + e) % T.n) ≠ -1
   by_cases e : j = J
   ·subst e;rw [upd_same] at hK;omega
   ·rw [upd_other _ _ e] at hK ⊢
    obtain ⟨d',a1,a2,a3⟩ := h.good.way j hj hK
    exact ⟨d',a1,a2,fun e he => hne _ (a3 e he)⟩
  ·change 0 ≤ upd T.K J (-2) i at h0
   change upd T.K J (-2) i = upd T.K J (-2) j at hK
   by_cases ei : i = J
   ·subst ei;rw [upd_same] at h0;omega
   ·by_cases ej : j = J
    ·subst ej;rw [upd_same] at hK;omega
    ·rw [upd_other _ _ ei] at h0 hK
     rw [upd_other _ _ ej] at hK
     exact h.good.uniq i j hi hj h0 hK
  ·show upd I k false m = true ↔ ∃ j,j < T.n ∧ upd T.K J (-2) j = (m : Int)
   by_cases em : m = k
   ·subst em
    rw [upd_same]
    refine ⟨fun x => (by cases x),fun ⟨j,hj,e⟩ => ?_⟩
    by_cases ej : j = J
    ·subst ej;rw [upd_same] at e;omega
    ·rw [upd_other _ _ ej] at e
     exact absurd (h.good.uniq j J hj hJ (by omega) (by omega)) ej
   ·rw [upd_other _ _ em,h.inn m]
    constructor
    ·rintro ⟨j,hj,e⟩
     refine ⟨j,hj,?_⟩
     rw [upd_other _ _ (fun x => by subst x;omega)]
     exact e
    ·rintro ⟨j,hj,e⟩
     by_cases ej : j = J
     ·subst ej;rw [upd_same] at e;omega
     ·rw [upd_other _ _ ej] at e;exact ⟨j,hj,e⟩
  ·change upd T.K J (-2) j = (m : Int) at hK
   show upd T.V J 0 j = W m
   by_cases ej : j = J
   ·subst ej;rw [upd_same] at hK;omega
   ·rw [upd_other _ _ ej] at hK ⊢
    exact h.val j hj m hK
 by_cases hz : (T.set J (-2) 0).cnt = 0
 ·have ho : T.out (k : Int) = fresh T.n := by
   unfold Tb.out
   rw [e1,if_neg (by omega),Int.toNat_natCast,if_pos hz]
  rw [ho,cnt_fresh]
  refine ⟨?_,by omega,fun _ => rfl⟩
  have hI : upd I k false = fun _ => false := by
   funext m
   cases hm : upd I k false m with
   | false => rfl
   | true =>
    obtain ⟨j,hj,e⟩ := (ha.inn m).1 hm
    have := cnt_zero hz (j := j) hj
    have := of_decide_eq_false this
    omega
  rw [hI]
  exact abs_fresh h.good.pos W
 ·have ho : T.out (k : Int) = T.set J (-2) 0 := by
   unfold Tb.out
   rw [e1,if_neg (by omega),Int.toNat_natCast,if_neg hz]
  rw [ho]
  exact ⟨ha,hc,fun x => absurd x hz⟩
end
end TabM
namespace ListM
def upd {α : Type} (f : Nat → α) (p : Nat) (v : α) : Nat → α := fun q => if q = p then v else f q
theorem upd_same {α : Type} (f : Nat → α) (p : Nat) (v : α) : upd f p v p = v := if_pos rfl
theorem upd_other {α : Type} (f : Nat → α) {p q : Nat} (v : α) (h : q ≠ p) : upd f p v q = f q := if_neg h
def Ch (A B : Nat → Nat) : Nat → List Nat → Nat → Prop
 | p,[],q => B p = q ∧ A q = p
 | p,x :: l,q => (B p = x + 1 ∧ A (x + 1) = p) ∧ Ch A B (x + 1) l q
section
variable {A B A' B' : Nat → Nat} {I : Nat → Bool}
theorem Ch.app {x q : Nat} {r : List Nat} : ∀ {l : List Nat} {p : Nat},Ch A B p (l ++ x :: r) q ↔ Ch A B p l (x + 1) ∧ Ch A B (x + 1) r q
 | [],p => Iff.rfl
 | y :: l,p => by
  show (_ ∧ Ch A B (y + 1) (l ++ x :: r) q) ↔ (_ ∧ Ch A B (y + 1) l (x + 1)) ∧ _
  rw [Ch.app (l := l) (p := y + 1)]
  simp only [and_assoc]
theorem Ch.congr {q : Nat} : ∀ {l : List Nat} {p : Nat},Ch A B p l q → B' p = B p → (∀ x ∈ l,B' (x + 1) = B (x + 1)) → (∀ x ∈ l,A' (x + 1) = A (x + 1)) → A' q = A q → Ch A' B' p l q
 | [],p,h,hp,_,_,hq => ⟨hp.trans h.1,hq.trans h.2⟩
 | x :: l,p,h,hp,hB,hA,hq => ⟨⟨hp.trans h.1.1,(hA x (by simp)).trans h.1.2⟩,Ch.congr h.2 (hB x (by simp)) (fun y hy => hB y (by simp [hy])) (fun y hy => hA y (by simp [hy])) hq⟩
theorem Ch.redirect {p q q' : Nat} {l : List Nat} (h : Ch A B p l q) (hn : l.Nodup) (hp : ∀ x ∈ l,p ≠ x + 1) (hB : ∀ y,(y = p ∨ ∃ x ∈ l,y = x + 1) → y ≠ A q → B' y = B y) (hA : ∀ x ∈ l,A' (x + 1) = A (x + 1)) (hb : B' (A q) = q') (ha : A' q' = A q) : Ch A' B' p l q' := by
 rcases List.eq_nil_or_concat l with rfl | ⟨l',x,rfl⟩
 ·have h' : B p = q ∧ A q = p := h
  rw [h'.2] at hb ha
  exact ⟨hb,ha⟩
 ·rw [List.concat_eq_append] at *
  obtain ⟨h1,h2⟩ := Ch.app.1 h
  have h2' : B (x + 1) = q ∧ A q = x + 1 := h2
  rw [h2'.2] at hb ha hB
  rw [List.nodup_append] at hn
  have hx : ∀ y ∈ l',y ≠ x := fun y hy => hn.2.2 y hy x (by simp)
  refine Ch.app.2 ⟨Ch.congr h1 (hB p (.inl rfl) (hp x (by simp))) (fun y hy => hB _ (.inr ⟨y,by simp [hy],rfl⟩) (by have := hx y hy;omega)) (fun y hy => hA y (by simp [hy])) (hA x (by simp)),hb,ha⟩
theorem Ch.next {q : Nat} : ∀ {l : List Nat} {p : Nat},Ch A B p l q → ∀ y,(y = p ∨ ∃ x ∈ l,y = x + 1) → B y = q ∨ ∃ z ∈ l,B y = z + 1
 | [],p,h,y,hy => by
  rcases hy with rfl | ⟨x,hx,_⟩
  ·exact .inl h.1
  ·cases hx
 | x :: l,p,h,y,hy => by
  rcases hy with rfl | ⟨z,hz,rfl⟩
  ·exact .inr ⟨x,by simp,h.1.1⟩
  ·have : z + 1 = x + 1 ∨ ∃ u ∈ l,z + 1 = u + 1 := by
    rcases List.mem_cons.1 hz with rfl | hz
    ·exact .inl rfl
    ·exact .inr ⟨z,hz,rfl⟩
   rcases Ch.next h.2 _ this with e | ⟨u,hu,e⟩
   ·exact .inl e
   ·exact .inr ⟨u,by simp [hu],e⟩
theorem Ch.prev {q : Nat} : ∀ {l : List Nat} {p : Nat},Ch A B p l q → ∀ y,(y = q ∨ ∃ x ∈ l,y = x + 1) → A y = p ∨ ∃ z ∈ l,A y = z + 1
 | [],p,h,y,hy => by
  rcases hy with rfl | ⟨x,hx,_⟩
  ·exact .inl h.2
  ·cases hx
 | x :: l,p,h,y,hy => by
  have key : ∀ y,(y = q ∨ ∃ u ∈ l,y = u + 1) → A y = p ∨ ∃ z ∈ x :: l,A y = z + 1 := fun y hy => by
   rcases Ch.prev h.2 y hy with e | ⟨u,hu,e⟩
   ·exact .inr ⟨x,by simp,e⟩
   ·exact .inr ⟨u,by simp [hu],e⟩
  rcases hy with rfl | ⟨z,hz,rfl⟩
  ·exact key _ (.inl rfl)
  ·rcases List.mem_cons.1 hz with rfl | hz
   ·exact .inl h.1.2
   ·exact key _ (.inr ⟨z,hz,rfl⟩)
structure Ring (n : Nat) (A B : Nat → Nat) (I : Nat → Bool) (zs : List Nat) : Prop where
 ch : Ch A B 0 zs 0
 nd : zs.Nodup
 lt : ∀ x ∈ zs,x < n
 inn : ∀ x,x < n → I (x + 1) = decide (x ∈ zs)
 out : ∀ x,x < n → x ∉ zs → A (x + 1) = 0 ∧ B (x + 1) = 0
variable {n k : Nat} {zs : List Nat}
theorem Ring.next (h : Ring n A B I zs) (y : Nat) (hy : y = 0 ∨ ∃ x ∈ zs,y = x + 1) : B y = 0 ∨ ∃ z ∈ zs,B y = z + 1 := h.ch.next y hy
theorem Ring.prev (h : Ring n A B I zs) (y : Nat) (hy : y = 0 ∨ ∃ x ∈ zs,y = x + 1) : A y = 0 ∨ ∃ z ∈ zs,A y = z + 1 := h.ch.prev y hy
theorem Ring.nextLe (h : Ring n A B I zs) (y : Nat) (hy : y ≤ n) : B y ≤ n := by
 rcases Nat.eq_zero_or_pos y with rfl | h0
 ·rcases h.next 0 (.inl rfl) with e | ⟨z,hz,e⟩
  ·omega
  ·have := h.lt z hz;omega
 ·obtain ⟨x,rfl⟩ : ∃ x,y = x + 1 := ⟨y - 1,by omega⟩
  by_cases hx : x ∈ zs
  ·rcases h.next (x + 1) (.inr ⟨x,hx,rfl⟩) with e | ⟨z,hz,e⟩
   ·omega
   ·have := h.lt z hz;omega
  ·rw [(h.out x (by omega) hx).2];omega
theorem Ring.prevLe (h : Ring n A B I zs) (y : Nat) (hy : y ≤ n) : A y ≤ n := by
 rcases Nat.eq_zero_or_pos y with rfl | h0
 ·rcases h.prev 0 (.inl rfl) with e | ⟨z,hz,e⟩
  ·omega
  ·have := h.lt z hz;omega
 ·obtain ⟨x,rfl⟩ : ∃ x,y = x + 1 := ⟨y - 1,by omega⟩
  by_cases hx : x ∈ zs
  ·rcases h.prev (x + 1) (.inr ⟨x,hx,rfl⟩) with e | ⟨z,hz,e⟩
   ·omega
   ·have := h.lt z hz;omega
  ·rw [(h.out x (by omega) hx).1];omega
theorem len_le : ∀ (n : Nat) (zs : List Nat),zs.Nodup → (∀ x ∈ zs,x < n) → zs.length ≤ n
 | 0,[],_,_ => Nat.le_refl _
 | 0,x :: _,_,h => absurd (h x (by simp)) (by omega)
 | n + 1,zs,hn,h => by
  have := len_le n (zs.erase n) (hn.erase n) fun x hx => by
   have := (hn.mem_erase_iff).1 hx
   have := h x this.2
   omega
  rw [List.length_erase] at this
  split at this <;> omega
theorem Ring.len (h : Ring n A B I zs) : zs.length ≤ n := len_le n zs h.nd h.lt
theorem Ring.zero (n : Nat) : Ring n (fun _ => 0) (fun _ => 0) (fun _ => false) [] :=
 ⟨⟨rfl,rfl⟩,List.nodup_nil,fun x hx => absurd hx (by simp),fun x _ => by simp,fun _ _ _ => ⟨rfl,rfl⟩⟩
theorem Ring.front (h : Ring n A B I zs) (hk : k < n) (hz : k ∉ zs) :
  Ring n (upd (upd A (k + 1) 0) (B 0) (k + 1)) (upd (upd B (k + 1) (B 0)) 0 (k + 1)) (upd I (k + 1) true) (k :: zs) := by
 have hb : B 0 ≠ k + 1 := by
  rcases h.next 0 (.inl rfl) with e | ⟨z,hz',e⟩
  ·omega
  ·intro e';have : z = k := by omega
   exact hz (this ▸ hz')
 have nk : ∀ x ∈ zs,x ≠ k := fun x hx e => hz (e ▸ hx)
 refine ⟨?_,List.nodup_cons.2 ⟨hz,h.nd⟩,fun x hx => ?_,fun x hx => ?_,fun x hx hxz => ?_⟩
 ·cases zs with
  | nil =>
   have hc : B 0 = 0 ∧ A 0 = 0 := h.ch
   refine ⟨⟨upd_same _ _ _,?_⟩,?_,?_⟩
   ·rw [hc.1,upd_other _ _ (by omega),upd_same]
   ·rw [upd_other _ _ (by omega),upd_same,hc.1]
   ·rw [hc.1,upd_same]
  | cons x l =>
   obtain ⟨⟨h1,h2⟩,h3⟩ := h.ch
   have hx := nk x (by simp)
   have hnd := List.nodup_cons.1 h.nd
   refine ⟨⟨upd_same _ _ _,?_⟩,⟨?_,?_⟩,?_⟩
   ·rw [h1,upd_other _ _ (by omega),upd_same]
   ·rw [upd_other _ _ (by omega),upd_same,h1]
   ·rw [h1,upd_same]
   ·refine h3.congr ?_ (fun y hy => ?_) (fun y hy => ?_) ?_
    ·rw [upd_other _ _ (by omega),upd_other _ _ (by omega)]
    ·have := nk y (by simp [hy])
     rw [upd_other _ _ (by omega),upd_other _ _ (by omega)]
    ·have e1 := nk y (by simp [hy])
     have e2 : y ≠ x := fun e => hnd.1 (e ▸ hy)
     rw [h1,upd_other _ _ (by omega),upd_other _ _ (by omega)]
    ·rw [h1,upd_other _ _ (by omega),upd_other _ _ (by omega)]
 ·rcases List.mem_cons.1 hx with rfl | hx
  ·exact hk
  ·exact h.lt x hx
 ·by_cases e : x = k
  ·subst e;rw [upd_same];simp
  ·rw [upd_other _ _ (by omega),h.inn x hx];simp [e]
 ·rw [List.mem_cons,not_or] at hxz
  obtain ⟨h1,h2⟩ := h.out x hx hxz.2
  have hb' : B 0 ≠ x + 1 := by
   rcases h.next 0 (.inl rfl) with e | ⟨z,hz',e⟩
   ·omega
   ·intro e';have : z = x := by omega
    exact hxz.2 (this ▸ hz')
  exact ⟨by rw [upd_other _ _ (by omega),upd_other _ _ (by omega),h1],by rw [upd_other _ _ (by omega),upd_other _ _ (by omega),h2]⟩
theorem Ring.back (h : Ring n A B I zs) (hk : k < n) (hz : k ∉ zs) :
  Ring n (upd (upd A (k + 1) (A 0)) 0 (k + 1)) (upd (upd B (k + 1) 0) (A 0) (k + 1)) (upd I (k + 1) true) (zs ++ [k]) := by
 have hb : A 0 ≠ k + 1 := by
  rcases h.prev 0 (.inl rfl) with e | ⟨z,hz',e⟩
  ·omega
  ·intro e';have : z = k := by omega
   exact hz (this ▸ hz')
 have nk : ∀ x ∈ zs,x ≠ k := fun x hx e => hz (e ▸ hx)
 refine ⟨?_,?_,fun x hx => ?_,fun x hx => ?_,fun x hx hxz => ?_⟩
 ·refine Ch.app.2 ⟨Ch.redirect h.ch h.nd (fun x _ => by omega) (fun y hy hyA => ?_) (fun x hx => ?_) (by rw [upd_same]) ?_,?_,upd_same _ _ _⟩
  ·rw [upd_other _ _ hyA,upd_other]
   rcases hy with rfl | ⟨x,hx,rfl⟩
   ·omega
   ·have := nk x hx;omega
  ·have := nk x hx
   rw [upd_other _ _ (by omega),upd_other _ _ (by omega)]
  ·rw [upd_other _ _ (by omega),upd_same]
  ·rw [upd_other _ _ (fun e => hb e.symm),upd_same]
 ·rw [List.nodup_append]
  exact ⟨h.nd,by simp,fun x hx y hy => by simp at hy;subst hy;exact nk x hx⟩
 ·rcases List.mem_append.1 hx with hx | hx
  ·exact h.lt x hx
  ·simp at hx;subst hx;exact hk
 ·by_cases e : x = k
  ·subst e;rw [upd_same];simp
  ·rw [upd_other _ _ (by omega),h.inn x hx];simp [e]
 ·rw [List.mem_append,not_or] at hxz
  have hxk : x ≠ k := by simpa using hxz.2
  obtain ⟨h1,h2⟩ := h.out x hx hxz.1
  have hb' : A 0 ≠ x + 1 := by
   rcases h.prev 0 (.inl rfl) with e | ⟨z,hz',e⟩
   ·omega
   ·intro e';have : z = x := by omega
    exact hxz.1 (this ▸ hz')
  exact ⟨by rw [upd_other _ _ (by omega),upd_other _ _ (by omega),h1],by rw [upd_other _ _ (by omega),upd_other _ _ (by omega),h2]⟩
theorem Ring.del (h : Ring n A B I zs) (hk : k ∈ zs) :
  Ring n (upd (upd A (B (k + 1)) (A (k + 1))) (k + 1) 0) (upd (upd B (A (k + 1)) (B (k + 1))) (k + 1) 0) (upd I (k + 1) false) (zs.erase k) := by
 have hme : ∀ x,x ∈ zs.erase k ↔ x ≠ k ∧ x ∈ zs := fun x => h.nd.mem_erase_iff
 obtain ⟨l,r,e⟩ := List.append_of_mem hk
 subst e
 have hkl : k ∉ l := fun hkl => (List.nodup_append.1 h.nd).2.2 k hkl k (by simp) rfl
 obtain ⟨hl,hr⟩ := Ch.app.1 h.ch
 have hnd := List.nodup_append.1 h.nd
 have hndr := List.nodup_cons.1 hnd.2.1
 have nkl : ∀ x ∈ l,x ≠ k := fun x hx e => hkl (e ▸ hx)
 have nkr : ∀ x ∈ r,x ≠ k := fun x hx e => hndr.1 (e ▸ hx)
 have hlr : ∀ x ∈ l,∀ y ∈ r,x ≠ y := fun x hx y hy => hnd.2.2 x hx y (by simp [hy])
 have ha : A (k + 1) = 0 ∨ ∃ z ∈ l,A (k + 1) = z + 1 := hl.prev _ (.inl rfl)
 have hb : B (k + 1) = 0 ∨ ∃ z ∈ r,B (k + 1) = z + 1 := hr.next _ (.inl rfl)
 have hak : A (k + 1) ≠ k + 1 := by
  rcases ha with e | ⟨z,hz,e⟩
  ·omega
  ·have := nkl z hz;omega
 have hbk : B (k + 1) ≠ k + 1 := by
  rcases hb with e | ⟨z,hz,e⟩
  ·omega
  ·have := nkr z hz;omega
 have he : (l ++ k :: r).erase k = l ++ r := by
  rw [List.erase_append_right _ hkl,List.erase_cons_head]
 have hne : (l ++ r).Nodup := List.nodup_append.2 ⟨hnd.1,hndr.2,hlr⟩
 refine ⟨?_,?_,fun x hx => h.lt x ((hme x).1 hx).2,fun x hx => ?_,fun x hx hxz => ?_⟩
 ·rw [he]
  have hB' : ∀ y,(y = 0 ∨ ∃ x ∈ l,y = x + 1) → y ≠ A (k + 1) → upd (upd B (A (k + 1)) (B (k + 1))) (k + 1) 0 y = B y := fun y hy hyA => by
   rw [upd_other,upd_other _ _ hyA]
   rcases hy with rfl | ⟨x,hx,rfl⟩
   ·omega
   ·have := nkl x hx;omega
  have hb' : upd (upd B (A (k + 1)) (B (k + 1))) (k + 1) 0 (A (k + 1)) = B (k + 1) := by rw [upd_other _ _ hak,upd_same]
  have ha' : ∀ q,B (k + 1) = q → upd (upd A (B (k + 1)) (A (k + 1))) (k + 1) 0 q = A (k + 1) := fun q e => by rw [← e,upd_other _ _ hbk,upd_same]
  have hA' : ∀ x ∈ l,upd (upd A (B (k + 1)) (A (k + 1))) (k + 1) 0 (x + 1) = A (x + 1) := fun x hx => by
   have := nkl x hx
   rw [upd_other _ _ (by omega),upd_other]
   rcases hb with e | ⟨z,hz,e⟩
   ·omega
   ·have := hlr x hx z hz;omega
  cases r with
  | nil =>
   rw [List.append_nil]
   have hr' : B (k + 1) = 0 ∧ A 0 = k + 1 := hr
   exact Ch.redirect hl hnd.1 (fun x _ => by omega) hB' hA' (hb'.trans hr'.1) (ha' _ hr'.1)
  | cons y r' =>
   obtain ⟨⟨h1,h2⟩,h3⟩ := hr
   have hy := nkr y (by simp)
   have hndr' := List.nodup_cons.1 hndr.2
   have hay : A (k + 1) ≠ y + 1 := by
    rcases ha with e | ⟨z,hz,e⟩
    ·omega
    ·have := hlr z hz y (by simp);omega
   refine Ch.app.2 ⟨Ch.redirect hl hnd.1 (fun x _ => by omega) hB' hA' (hb'.trans h1) (ha' _ h1),h3.congr ?_ (fun x hx => ?_) (fun x hx => ?_) ?_⟩
   ·rw [upd_other _ _ (by omega),upd_other _ _ (fun e => hay e.symm)]
   ·have e1 := nkr x (by simp [hx])
    have e2 : x + 1 ≠ A (k + 1) := by
     rcases ha with e | ⟨z,hz,e⟩
     ·omega
     ·have := hlr z hz x (by simp [hx]);omega
    rw [upd_other _ _ (by omega),upd_other _ _ e2]
   ·have e1 := nkr x (by simp [hx])
    have e2 : x ≠ y := fun e => hndr'.1 (e ▸ hx)
    rw [upd_other _ _ (by omega),upd_other _ _ (by omega)]
   ·rw [upd_other _ _ (by omega),upd_other _ _ (by omega)]
 ·rw [he];exact hne
 ·by_cases e : x = k
  ·subst e;rw [upd_same]
   simp [hme]
  ·rw [upd_other _ _ (by omega),h.inn x hx]
   simp only [hme,e,ne_eq,not_false_eq_true,true_and]
 ·by_cases e : x = k
  ·subst e;rw [upd_same,upd_same];exact ⟨rfl,rfl⟩
  ·have hxz' : x ∉ l ++ k :: r := fun hx' => hxz ((hme x).2 ⟨e,hx'⟩)
   obtain ⟨h1,h2⟩ := h.out x hx hxz'
   have e1 : x + 1 ≠ B (k + 1) := by
    rcases hb with e' | ⟨z,hz,e'⟩
    ·omega
    ·intro e2;have : z = x := by omega
     exact hxz' (by simp [← this,hz])
   have e2 : x + 1 ≠ A (k + 1) := by
    rcases ha with e' | ⟨z,hz,e'⟩
    ·omega
    ·intro e2;have : z = x := by omega
     exact hxz' (by simp [← this,hz])
   exact ⟨by rw [upd_other _ _ (by omega),upd_other _ _ e1,h1],by rw [upd_other _ _ (by omega),upd_other _ _ e2,h2]⟩
def first : List Nat → Int
 | [] => -1
 | x :: _ => (x : Int)
def nxt (zs : List Nat) (k : Nat) : Int := if zs.idxOf k + 1 < zs.length then ((zs.getD (zs.idxOf k + 1) 0 : Nat) : Int) else -1
def pl (zs : List Nat) : Nat → Nat
 | 0 => 0
 | i + 1 => zs.getD i 0 + 1
theorem Ch.at_ {q : Nat} : ∀ {l : List Nat} {p : Nat},Ch A B p l q → ∀ i,(i = 0 → B p = if 0 < l.length then l.getD 0 0 + 1 else q) ∧ (i < l.length → B (l.getD i 0 + 1) = if i + 1 < l.length then l.getD (i + 1) 0 + 1 else q)
 | [],p,h,i => ⟨fun _ => h.1,fun hi => absurd hi (by simp)⟩
 | x :: l,p,h,i => by
  refine ⟨fun _ => h.1.1,fun hi => ?_⟩
  cases i with
  | zero =>
   have := (Ch.at_ h.2 0).1 rfl
   simp only [List.getD_cons_zero,List.length_cons,List.getD_cons_succ] at this ⊢
   rw [this]
   by_cases hl : 0 < l.length
   ·rw [if_pos hl,if_pos (by omega)]
   ·rw [if_neg hl,if_neg (by omega)]
  | succ i =>
   have := (Ch.at_ h.2 i).2 (by simp only [List.length_cons] at hi;omega)
   simp only [List.length_cons,List.getD_cons_succ] at this ⊢
   rw [this]
   by_cases hl : i + 1 < l.length
   ·rw [if_pos hl,if_pos (by omega)]
   ·rw [if_neg hl,if_neg (by omega)]
theorem Ring.step (h : Ring n A B I zs) {i : Nat} (hi : i ≤ zs.length) : B (pl zs i) = if i < zs.length then pl zs (i + 1) else 0 := by
 cases i with
 | zero => exact (h.ch.at_ 0).1 rfl
 | succ i => exact (h.ch.at_ i).2 (by omega)
theorem pl_le (h : ∀ x ∈ zs,x < n) : ∀ i,i ≤ zs.length → pl zs i ≤ n
 | 0,_ => Nat.zero_le _
 | i + 1,hi => by
  have := h (zs.getD i 0) (by rw [List.getD_eq_getElem?_getD,List.getElem?_eq_getElem (by omega)];exact List.getElem_mem _)
  show zs.getD i 0 + 1 ≤ n
  omega
theorem Ring.first (h : Ring n A B I zs) : (B 0 : Int) - 1 = first zs := by
 cases zs with
 | nil =>
  have hc : B 0 = 0 ∧ A 0 = 0 := h.ch
  rw [hc.1];rfl
 | cons x l =>
  rw [h.ch.1.1]
  show ((x + 1 : Nat) : Int) - 1 = (x : Int)
  omega
def ints (zs : List Nat) : List Int := zs.map fun (x : Nat) => (x : Int)
theorem ints_len (zs : List Nat) : (ints zs).length = zs.length := by simp [ints]
theorem ints_get (zs : List Nat) (i : Nat) : (ints zs).getD i 0 = ((zs.getD i 0 : Nat) : Int) := by
 unfold ints
 by_cases h : i < zs.length
 ·simp [List.getD_eq_getElem?_getD,List.getElem?_eq_getElem h]
 ·simp [List.getD_eq_getElem?_getD,List.getElem?_eq_none (show zs.length ≤ i by omega)]
def okF (n : Nat) (zs : List Nat) (k : Int) : Bool := decide (0 ≤ k) && decide (k < (n : Int)) && !decide (k.toNat ∈ zs)
def okO (zs : List Nat) (k : Int) : Bool := decide (0 ≤ k) && decide (k.toNat ∈ zs)
def frontL (n : Nat) (zs : List Nat) (k : Int) : List Nat := if okF n zs k then k.toNat :: zs else zs
def outL (zs : List Nat) (k : Int) : List Nat := if okO zs k then zs.erase k.toNat else zs
def nxtI (zs : List Nat) (k : Int) : Int := if 0 ≤ k then nxt zs k.toNat else -1
end
end ListM
namespace ArM
open TabM
def seek (p : Nat → Bool) : Nat → Nat → Nat
 | 0,i => i
 | g + 1,i => if p i = true then i else seek p g (i + 1)
def least (p : Nat → Bool) (n : Nat) : Nat := seek p n 0
section
variable {p q : Nat → Bool} {g i j n : Nat}
theorem seek_le : seek p g i ≤ i + g := by
 induction g generalizing i with
 | zero => exact Nat.le_refl _
 | succ g ih =>
  unfold seek
  split
  ·omega
  ·have := ih (i := i + 1);omega
theorem seek_hit (h : seek p g i < i + g) : p (seek p g i) = true := by
 induction g generalizing i with
 | zero => exact absurd h (by unfold seek;omega)
 | succ g ih =>
  unfold seek at h ⊢
  split
  ·next e => exact e
  ·next e => rw [if_neg e] at h;exact ih (by omega)
theorem seek_eq (hi : i ≤ j) (hj : j < i + g) (hp : p j = true) (hn : ∀ k,i ≤ k → k < j → p k = false) : seek p g i = j := by
 induction g generalizing i with
 | zero => omega
 | succ g ih =>
  unfold seek
  by_cases e : i = j
  ·subst e;rw [if_pos hp]
  ·rw [if_neg (by rw [hn i (Nat.le_refl _) (by omega)];simp)]
   exact ih (by omega) (by omega) fun k h1 h2 => hn k (by omega) h2
theorem seek_all (hn : ∀ k,i ≤ k → k < i + g → p k = false) : seek p g i = i + g := by
 induction g generalizing i with
 | zero => rfl
 | succ g ih =>
  unfold seek
  rw [if_neg (by rw [hn i (Nat.le_refl _) (by omega)];simp),ih fun k h1 h2 => hn k (by omega) (by omega)]
  omega
theorem least_le : least p n ≤ n := by have := seek_le (p := p) (g := n) (i := 0);unfold least;omega
theorem least_hit (h : least p n < n) : p (least p n) = true := seek_hit (by unfold least at h;omega)
theorem least_eq (hj : j < n) (hp : p j = true) (hn : ∀ k,k < j → p k = false) : least p n = j := seek_eq (Nat.zero_le _) (by omega) hp fun k _ h => hn k h
theorem least_all (hn : ∀ k,k < n → p k = false) : least p n = n := by
 have := seek_all (p := p) (g := n) (i := 0) fun k _ h => hn k (by omega)
 unfold least;omega
theorem len_cnt : ∀ {Q : List Nat} {p : Nat → Bool},Q.Nodup → (∀ x,x ∈ Q ↔ x < n ∧ p x = true) → Q.length = cnt p n
 | [],p,_,h => by
  rw [cnt_none fun j hj => ?_];rfl
  cases e : p j with
  | false => rfl
  | true => exact absurd ((h j).2 ⟨hj,e⟩) (by simp)
 | x :: q,p,hn,h => by
  have hx := (h x).1 (by simp)
  have hn' := List.nodup_cons.1 hn
  have h1 := cnt_off (f := p) hx.1 hx.2
  have h2 := len_cnt (Q := q) (p := upd p x false) hn'.2 fun y => by
   by_cases e : y = x
   ·subst e
    rw [upd_same]
    exact ⟨fun hy => absurd hy hn'.1,fun hy => by cases hy.2⟩
   ·rw [upd_other _ _ e,← h y]
    simp [e]
  rw [List.length_cons,h2]
  exact h1
end
structure Fr where
 st : Int
 pg : Int
 pn : Int
 di : Bool
def fFree : Fr := ⟨0,-1,0,false⟩
def fGone : Fr := ⟨4,-1,0,false⟩
def fUsed (p : Int) : Fr := ⟨1,p,0,false⟩
def zeros : List Int := List.replicate 16 0
structure Ar where
 n : Nat
 F : Nat → Fr
 B : Nat → List Int
 Q : List Nat
def fresh (n : Nat) : Ar := ⟨n,fun _ => fFree,fun _ => zeros,List.range n⟩
def isU (a : Ar) (i : Nat) : Bool := decide ((a.F i).st = 1)
def isP (a : Ar) (p : Int) (i : Nat) : Bool := decide ((a.F i).st = 1) && decide ((a.F i).pg = p)
def isG (a : Ar) (i : Nat) : Bool := decide ((a.F i).st = 4)
def Ar.find (a : Ar) (p : Int) : Int := if least (isP a p) a.n < a.n then ((least (isP a p) a.n : Nat) : Int) else -1
def Ar.used (a : Ar) (f : Int) : Bool := decide (0 ≤ f) && decide (f < (a.n : Int)) && decide ((a.F f.toNat).st = 1)
def Ar.spare (a : Ar) : Nat := least (isG a) a.n
def Ar.turn (a : Ar) (f : Nat) (v : Fr) : Ar := ⟨a.n,upd a.F f v,a.B,a.Q⟩
def Ar.can (a : Ar) (p : Int) : Bool := decide (0 ≤ p) && decide (p < 48) && decide (a.find p < 0)
def Ar.takeC (a : Ar) (p : Int) : Int := if a.can p = true then ListM.first a.Q else -1
def Ar.takeF (a : Ar) (p : Int) : List Nat → Ar
 | [] => a
 | f :: q => ⟨a.n,upd a.F f (fUsed p),upd a.B f zeros,q⟩
def Ar.take (a : Ar) (p : Int) : Ar := if a.can p = true then a.takeF p a.Q else a
def Ar.pinC (a : Ar) (f : Int) : Int := if a.used f = true then (if 1000 ≤ (a.F f.toNat).pn then 12 else 0) else 2
def Ar.pin (a : Ar) (f : Int) : Ar := if a.pinC f = 0 then a.turn f.toNat ⟨(a.F f.toNat).st,(a.F f.toNat).pg,(a.F f.toNat).pn + 1,(a.F f.toNat).di⟩ else a
def Ar.unpinC (a : Ar) (f : Int) : Int := if a.used f = true then (if (a.F f.toNat).pn = 0 then 12 else 0) else 2
def Ar.unpin (a : Ar) (f : Int) : Ar := if a.unpinC f = 0 then a.turn f.toNat ⟨(a.F f.toNat).st,(a.F f.toNat).pg,(a.F f.toNat).pn - 1,(a.F f.toNat).di⟩ else a
def Ar.markC (a : Ar) (f : Int) : Int := if a.used f = true then 0 else 2
def Ar.mark (a : Ar) (f : Int) (d : Bool) : Ar := if a.used f = true then a.turn f.toNat ⟨(a.F f.toNat).st,(a.F f.toNat).pg,(a.F f.toNat).pn,d⟩ else a
def splice (b : List Int) (o : Nat) (zs : List Int) : List Int := b.take o ++ (zs ++ b.drop (o + zs.length))
def Ar.setC (a : Ar) (f off : Int) (zs : List Int) : Int := if a.used f = true then (if 0 ≤ off ∧ off + (zs.length : Int) ≤ 16 then 0 else 6) else 2
def Ar.set (a : Ar) (f off : Int) (zs : List Int) : Ar := if a.setC f off zs = 0 then ⟨a.n,upd a.F f.toNat ⟨(a.F f.toNat).st,(a.F f.toNat).pg,(a.F f.toNat).pn,true⟩,upd a.B f.toNat (splice (a.B f.toNat) off.toNat zs),a.Q⟩ else a
def Ar.dropC (a : Ar) (f : Int) : Int := if a.used f = true then (if 0 < (a.F f.toNat).pn then 7 else 0) else 2
def Ar.dropF (a : Ar) (f : Nat) : Ar := ⟨a.n,upd a.F f fFree,a.B,a.Q ++ [f]⟩
def Ar.drop (a : Ar) (f : Int) : Ar := if a.dropC f = 0 then a.dropF f.toNat else a
def Ar.addC (a : Ar) : Int := if a.spare < 32 then (a.spare : Int) else -1
def Ar.addF (a : Ar) (f : Nat) : Ar := ⟨if f < a.n then a.n else f + 1,upd a.F f fFree,a.B,a.Q ++ [f]⟩
def Ar.add (a : Ar) : Ar := if a.spare < 32 then a.addF a.spare else a
structure Good (a : Ar) : Prop where
 n : a.n ≤ 32
 nd : a.Q.Nodup
 q : ∀ x,x ∈ a.Q ↔ x < a.n ∧ (a.F x).st = 0
 st : ∀ x,x < a.n → (a.F x).st = 0 ∨ (a.F x).st = 1 ∨ (a.F x).st = 4
 rest : ∀ x,x < a.n → (a.F x).st ≠ 1 → (a.F x).pg = -1 ∧ (a.F x).pn = 0 ∧ (a.F x).di = false
 use : ∀ x,x < a.n → (a.F x).st = 1 → 0 ≤ (a.F x).pg ∧ (a.F x).pg < 48 ∧ 0 ≤ (a.F x).pn ∧ (a.F x).pn ≤ 1000
 uq : ∀ i j,i < a.n → j < a.n → (a.F i).st = 1 → (a.F j).st = 1 → (a.F i).pg = (a.F j).pg → i = j
 b : ∀ x,(a.B x).length = 16
def OkF (a : Ar) (f : Nat) (v : Fr) : Prop :=
 (v.st = 1 ∧ 0 ≤ v.pg ∧ v.pg < 48 ∧ 0 ≤ v.pn ∧ v.pn ≤ 1000 ∧ ∀ i,i < a.n → i ≠ f → (a.F i).st = 1 → (a.F i).pg ≠ v.pg) ∨ ((v.st = 0 ∨ v.st = 4) ∧ v.pg = -1 ∧ v.pn = 0 ∧ v.di = false)
section
variable {a : Ar} {f x : Nat} {p k : Int} {q : List Nat} {v : Fr}
theorem Good.put (h : Good a) (hf : f < a.n) {Q' : List Nat} {B' : Nat → List Int} (hv : OkF a f v) (hq : Q'.Nodup) (hm : ∀ x,x ∈ Q' ↔ x < a.n ∧ (upd a.F f v x).st = 0) (hb : ∀ x,(B' x).length = 16) : Good ⟨a.n,upd a.F f v,B',Q'⟩ := by
 refine ⟨h.n,hq,hm,fun x hx => ?_,fun x hx hs => ?_,fun x hx hs => ?_,fun i j hi hj si sj e => ?_,hb⟩
 ·change (upd a.F f v x).st = 0 ∨ (upd a.F f v x).st = 1 ∨ (upd a.F f v x).st = 4
  by_cases e : x = f
  ·subst e
   rw [upd_same]
   rcases hv with hv | ⟨hv | hv,_⟩
   ·exact .inr (.inl hv.1)
   ·exact .inl hv
   ·exact .inr (.inr hv)
  ·rw [upd_other _ _ e];exact h.st x hx
 ·change (upd a.F f v x).st ≠ 1 at hs
  change (upd a.F f v x).pg = -1 ∧ (upd a.F f v x).pn = 0 ∧ (upd a.F f v x).di = false
  by_cases e : x = f
  ·subst e
   rw [upd_same] at hs ⊢
   rcases hv with hv | hv
   ·exact absurd hv.1 hs
   ·exact hv.2
  ·rw [upd_other _ _ e] at hs ⊢;exact h.rest x hx hs
 ·change (upd a.F f v x).st = 1 at hs
  change 0 ≤ (upd a.F f v x).pg ∧ (upd a.F f v x).pg < 48 ∧ 0 ≤ (upd a.F f v x).pn ∧ (upd a.F f v x).pn ≤ 1000
  by_cases e : x = f
  ·subst e
   rw [upd_same] at hs ⊢
   rcases hv with hv | hv
   ·exact ⟨hv.2.1,hv.2.2.1,hv.2.2.2.1,hv.2.2.2.2.1⟩
   ·omega
  ·rw [upd_other _ _ e] at hs ⊢;exact h.use x hx hs
 ·change (upd a.F f v i).st = 1 at si
  change (upd a.F f v j).st = 1 at sj
  change (upd a.F f v i).pg = (upd a.F f v j).pg at e
  by_cases ei : i = f
  ·by_cases ej : j = f
   ·omega
   ·subst ei
    rw [upd_same] at si e
    rw [upd_other _ _ ej] at sj e
    rcases hv with hv | hv
    ·exact absurd e.symm (hv.2.2.2.2.2 j hj ej sj)
    ·omega
  ·by_cases ej : j = f
   ·subst ej
    rw [upd_same] at sj e
    rw [upd_other _ _ ei] at si e
    rcases hv with hv | hv
    ·exact absurd e (hv.2.2.2.2.2 i hi ei si)
    ·omega
   ·rw [upd_other _ _ ei] at si e
    rw [upd_other _ _ ej] at sj e
    exact h.uq i j hi hj si sj e
theorem isP_iff {i : Nat} : isP a p i = true ↔ (a.F i).st = 1 ∧ (a.F i).pg = p := by simp [isP]
theorem find_at (h : Good a) (hx : x < a.n) (hs : (a.F x).st = 1) (hp : (a.F x).pg = p) : a.find p = (x : Int) := by
 have e : least (isP a p) a.n = x := least_eq hx (isP_iff.2 ⟨hs,hp⟩) fun k hk => by
  cases e : isP a p k with
  | false => rfl
  | true =>
   have := isP_iff.1 e
   have := h.uq k x (by omega) hx this.1 hs (by omega)
   omega
 unfold Ar.find
 rw [e,if_pos hx]
theorem find_none (hx : ∀ x,x < a.n → (a.F x).st = 1 → (a.F x).pg ≠ p) : a.find p = -1 := by
 have e : least (isP a p) a.n = a.n := least_all fun k hk => by
  cases e : isP a p k with
  | false => rfl
  | true =>
   have := isP_iff.1 e
   exact absurd this.2 (hx k hk this.1)
 unfold Ar.find
 rw [e,if_neg (by omega)]
theorem find_cases (a : Ar) (p : Int) : (a.find p = -1 ∧ ∀ x,x < a.n → (a.F x).st = 1 → (a.F x).pg ≠ p) ∨ ∃ x,x < a.n ∧ (a.F x).st = 1 ∧ (a.F x).pg = p ∧ a.find p = (x : Int) := by
 by_cases h : least (isP a p) a.n < a.n
 ·have := isP_iff.1 (least_hit h)
  refine .inr ⟨_,h,this.1,this.2,?_⟩
  unfold Ar.find
  rw [if_pos h]
 ·refine .inl ⟨?_,fun x hx hs hp => h ?_⟩
  ·unfold Ar.find
   rw [if_neg h]
  ·have h2 : least (isP a p) a.n = a.n := by have := least_le (p := isP a p) (n := a.n);omega
   rcases Nat.lt_or_ge (least (isP a p) a.n) a.n with h3 | h3
   ·exact h3
   ·exfalso
    have key : ∀ g i,i ≤ x → x < i + g → seek (isP a p) g i ≤ x := by
     intro g
     induction g with
     | zero => intro i h1 h2;omega
     | succ g ih =>
      intro i h1 h2
      unfold seek
      split
      ·exact h1
      ·next e =>
       have : i ≠ x := fun e' => by subst e';exact e (isP_iff.2 ⟨hs,hp⟩)
       exact ih (i + 1) (by omega) (by omega)
    have := key a.n 0 (Nat.zero_le _) (by omega)
    unfold least at h3
    omega
theorem used_iff : a.used k = true ↔ ∃ f : Nat,k = (f : Int) ∧ f < a.n ∧ (a.F f).st = 1 := by
 unfold Ar.used
 simp only [Bool.and_eq_true,decide_eq_true_eq]
 constructor
 ·rintro ⟨⟨h0,h1⟩,h2⟩
  exact ⟨k.toNat,by omega,by omega,h2⟩
 ·rintro ⟨f,rfl,h1,h2⟩
  exact ⟨⟨by omega,by omega⟩,by rw [Int.toNat_natCast];exact h2⟩
theorem Good.empty (h : Good a) (h0 : a.n = 0) : a.Q = [] := by
 cases e : a.Q with
 | nil => rfl
 | cons x q => have := (h.q x).1 (by rw [e];simp);omega
theorem Good.free (h : Good a) : a.Q.length = cnt (fun i => decide ((a.F i).st = 0)) a.n := len_cnt h.nd fun x => by rw [h.q x];simp
theorem Good.head (h : Good a) (e : a.Q = f :: q) : f < a.n ∧ (a.F f).st = 0 ∧ f ∉ q ∧ q.Nodup := by
 have h1 := (h.q f).1 (by rw [e];simp)
 have h2 := h.nd
 rw [e] at h2
 exact ⟨h1.1,h1.2,List.nodup_cons.1 h2⟩
theorem good_fresh {n : Nat} (h : n ≤ 32) : Good (fresh n) :=
 ⟨h,List.nodup_range,fun x => by simp [fresh,fFree],fun _ _ => .inl rfl,fun _ _ _ => ⟨rfl,rfl,rfl⟩,fun _ _ h => by have h : (0 : Int) = 1 := h;omega,fun _ _ _ _ h => by have h : (0 : Int) = 1 := h;omega,fun _ => rfl⟩
theorem Good.turn (h : Good a) (hf : f < a.n) {B' : Nat → List Int} (hs : (a.F f).st = 1) (hv : v.st = 1) (hp : v.pg = (a.F f).pg) (hn : 0 ≤ v.pn ∧ v.pn ≤ 1000) (hb : ∀ x,(B' x).length = 16) : Good ⟨a.n,upd a.F f v,B',a.Q⟩ := by
 have hu := h.use f hf hs
 refine h.put hf (.inl ⟨hv,by omega,by omega,hn.1,hn.2,fun i hi hne si e => hne (h.uq i f hi hf si hs (by omega))⟩) h.nd (fun x => ?_) hb
 rw [h.q x]
 by_cases e : x = f
 ·subst e;rw [upd_same,hs,hv]
 ·rw [upd_other _ _ e]
theorem Good.takeF (h : Good a) (hc : a.can p = true) (e : a.Q = f :: q) : Good ⟨a.n,upd a.F f (fUsed p),upd a.B f zeros,q⟩ := by
 obtain ⟨h1,h2,h3,h4⟩ := h.head e
 simp only [Ar.can,Bool.and_eq_true,decide_eq_true_eq] at hc
 refine h.put h1 (.inl ⟨rfl,hc.1.1,hc.1.2,Int.le_refl _,by show (0 : Int) ≤ 1000;omega,fun i hi hne si e => ?_⟩) h4 (fun x => ?_) (fun x => ?_)
 ·have e : (a.F i).pg = p := e
  have := find_at h hi si e
  omega
 ·by_cases ex : x = f
  ·subst ex
   rw [upd_same]
   exact ⟨fun hx => absurd hx h3,fun hx => by have : (1 : Int) = 0 := hx.2;omega⟩
  ·rw [upd_other _ _ ex,← h.q x,e]
   simp [ex]
 ·by_cases ex : x = f
  ·subst ex;rw [upd_same];rfl
  ·rw [upd_other _ _ ex];exact h.b x
theorem Good.pin (h : Good a) (k : Int) : Good (a.pin k) := by
 unfold Ar.pin
 split
 ·next hc =>
  unfold Ar.pinC at hc
  by_cases hu : a.used k = true
  ·rw [if_pos hu] at hc
   obtain ⟨f,rfl,hf,hs⟩ := used_iff.1 hu
   rw [Int.toNat_natCast] at hc ⊢
   have := h.use f hf hs
   split at hc
   ·omega
   ·exact h.turn hf hs hs rfl ⟨by show 0 ≤ (a.F f).pn + 1;omega,by show (a.F f).pn + 1 ≤ 1000;omega⟩ h.b
  ·rw [if_neg hu] at hc;omega
 ·exact h
theorem Good.unpin (h : Good a) (k : Int) : Good (a.unpin k) := by
 unfold Ar.unpin
 split
 ·next hc =>
  unfold Ar.unpinC at hc
  by_cases hu : a.used k = true
  ·rw [if_pos hu] at hc
   obtain ⟨f,rfl,hf,hs⟩ := used_iff.1 hu
   rw [Int.toNat_natCast] at hc ⊢
   have := h.use f hf hs
   split at hc
   ·omega
   ·exact h.turn hf hs hs rfl ⟨by show 0 ≤ (a.F f).pn - 1;omega,by show (a.F f).pn - 1 ≤ 1000;omega⟩ h.b
  ·rw [if_neg hu] at hc;omega
 ·exact h
theorem Good.mark (h : Good a) (k : Int) (d : Bool) : Good (a.mark k d) := by
 unfold Ar.mark
 split
 ·next hu =>
  obtain ⟨f,rfl,hf,hs⟩ := used_iff.1 hu
  rw [Int.toNat_natCast]
  have := h.use f hf hs
  exact h.turn hf hs hs rfl ⟨this.2.2.1,this.2.2.2⟩ h.b
 ·exact h
theorem splice_len {b : List Int} {o : Nat} {zs : List Int} (hb : b.length = 16) (ho : o + zs.length ≤ 16) : (splice b o zs).length = 16 := by
 unfold splice
 simp only [List.length_append,List.length_take,List.length_drop]
 omega
theorem Good.set (h : Good a) (k off : Int) (zs : List Int) : Good (a.set k off zs) := by
 unfold Ar.set
 split
 ·next hc =>
  unfold Ar.setC at hc
  by_cases hu : a.used k = true
  ·rw [if_pos hu] at hc
   obtain ⟨f,rfl,hf,hs⟩ := used_iff.1 hu
   rw [Int.toNat_natCast]
   have := h.use f hf hs
   split at hc
   ·refine h.turn hf hs hs rfl ⟨this.2.2.1,this.2.2.2⟩ fun x => ?_
    by_cases e : x = f
    ·subst e;rw [upd_same];exact splice_len (h.b x) (by omega)
    ·rw [upd_other _ _ e];exact h.b x
   ·omega
  ·rw [if_neg hu] at hc;omega
 ·exact h
theorem Good.release (h : Good a) (hf : f < a.n) (hs : (a.F f).st ≠ 0) : Good (a.dropF f) := by
 have hq : f ∉ a.Q := fun hm => hs ((h.q f).1 hm).2
 refine h.put hf (.inr ⟨.inl rfl,rfl,rfl,rfl⟩) (List.nodup_append.2 ⟨h.nd,by simp,fun x hx y hy => by simp at hy;subst hy;exact fun e => hq (e ▸ hx)⟩) (fun x => ?_) h.b
 by_cases e : x = f
 ·subst e;rw [upd_same];simp [hf,fFree]
 ·rw [upd_other _ _ e,List.mem_append,h.q x];simp [e]
theorem Good.drop (h : Good a) (k : Int) : Good (a.drop k) := by
 unfold Ar.drop
 split
 ·next hc =>
  unfold Ar.dropC at hc
  by_cases hu : a.used k = true
  ·obtain ⟨f,rfl,hf,hs⟩ := used_iff.1 hu
   rw [Int.toNat_natCast]
   exact h.release hf (by omega)
  ·rw [if_neg hu] at hc;omega
 ·exact h
theorem spare_le : a.spare ≤ a.n := least_le
theorem spare_gone (h : a.spare < a.n) : (a.F a.spare).st = 4 := by
 have := least_hit h
 exact of_decide_eq_true this
def Ar.more (a : Ar) : Ar := ⟨a.n + 1,upd a.F a.n fGone,a.B,a.Q⟩
theorem Good.more (h : Good a) (hn : a.n < 32) : Good a.more := by
 have hl : ∀ x,x < a.n + 1 → x ≠ a.n → x < a.n := fun x h1 h2 => by omega
 refine ⟨hn,h.nd,fun x => ?_,fun x hx => ?_,fun x hx hs => ?_,fun x hx hs => ?_,fun i j hi hj si sj e => ?_,h.b⟩
 ·change x ∈ a.Q ↔ x < a.n + 1 ∧ (upd a.F a.n fGone x).st = 0
  rw [h.q x]
  by_cases e : x = a.n
  ·subst e
   rw [upd_same]
   exact ⟨fun hx => by omega,fun hx => by have : (4 : Int) = 0 := hx.2;omega⟩
  ·rw [upd_other _ _ e]
   exact ⟨fun hx => ⟨by omega,hx.2⟩,fun hx => ⟨by omega,hx.2⟩⟩
 ·change (upd a.F a.n fGone x).st = 0 ∨ (upd a.F a.n fGone x).st = 1 ∨ (upd a.F a.n fGone x).st = 4
  by_cases e : x = a.n
  ·subst e;rw [upd_same];exact .inr (.inr rfl)
  ·rw [upd_other _ _ e];exact h.st x (hl x hx e)
 ·change (upd a.F a.n fGone x).st ≠ 1 at hs
  change (upd a.F a.n fGone x).pg = -1 ∧ (upd a.F a.n fGone x).pn = 0 ∧ (upd a.F a.n fGone x).di = false
  by_cases e : x = a.n
  ·subst e;rw [upd_same];exact ⟨rfl,rfl,rfl⟩
  ·rw [upd_other _ _ e] at hs ⊢;exact h.rest x (hl x hx e) hs
 ·change (upd a.F a.n fGone x).st = 1 at hs
  change 0 ≤ (upd a.F a.n fGone x).pg ∧ (upd a.F a.n fGone x).pg < 48 ∧ 0 ≤ (upd a.F a.n fGone x).pn ∧ (upd a.F a.n fGone x).pn ≤ 1000
  by_cases e : x = a.n
  ·subst e;rw [upd_same] at hs;have : (4 : Int) = 1 := hs;omega
  ·rw [upd_other _ _ e] at hs ⊢;exact h.use x (hl x hx e) hs
 ·change (upd a.F a.n fGone i).st = 1 at si
  change (upd a.F a.n fGone j).st = 1 at sj
  change (upd a.F a.n fGone i).pg = (upd a.F a.n fGone j).pg at e
  have ei : i ≠ a.n := fun e => by subst e;rw [upd_same] at si;have : (4 : Int) = 1 := si;omega
  have ej : j ≠ a.n := fun e => by subst e;rw [upd_same] at sj;have : (4 : Int) = 1 := sj;omega
  rw [upd_other _ _ ei] at si e
  rw [upd_other _ _ ej] at sj e
  exact h.uq i j (hl i hi ei) (hl j hj ej) si sj e
theorem addF_more (a : Ar) : a.addF a.n = a.more.dropF a.n := by
 unfold Ar.addF Ar.more Ar.dropF
 rw [if_neg (by omega)]
 congr 1
 funext x
 unfold upd
 dsimp only
 split <;> rfl
theorem addF_old (h : f < a.n) : a.addF f = a.dropF f := by
 unfold Ar.addF Ar.dropF
 rw [if_pos h]
theorem Good.addF (h : Good a) (h32 : a.spare < 32) : Good (a.addF a.spare) := by
 by_cases e : a.spare < a.n
 ·rw [addF_old e]
  exact h.release e (by rw [spare_gone e];omega)
 ·have hn : a.spare = a.n := by have := spare_le (a := a);omega
  rw [hn,addF_more]
  exact (h.more (by omega)).release (f := a.n) (Nat.lt_succ_self _) (by show (upd a.F a.n fGone a.n).st ≠ 0;rw [upd_same];show (4 : Int) ≠ 0;omega)
theorem fresh_add {n : Nat} (h : n < 32) : (fresh n).addC = (n : Int) ∧ (fresh n).add = fresh (n + 1) := by
 have e : (fresh n).spare = n := least_all fun _ _ => rfl
 unfold Ar.addC Ar.add
 rw [e,if_pos h,if_pos h]
 refine ⟨rfl,?_⟩
 unfold Ar.addF fresh
 rw [if_neg (by dsimp only;omega),List.range_succ]
 congr 1
 funext x
 unfold upd
 split <;> rfl
end
structure Tabs (T : Tb) (a : Ar) : Prop where
 ab : ∃ I W,Abs T I W ∧ (∀ k : Nat,I k = true ↔ ∃ x,x < a.n ∧ (a.F x).st = 1 ∧ (a.F x).pg = (k : Int)) ∧ ∀ x,x < a.n → (a.F x).st = 1 → ∀ k : Nat,(a.F x).pg = (k : Int) → W k = (x : Int)
 n : T.n = 64
 c : T.cnt = cnt (isU a) a.n
section
variable {a a' : Ar} {f : Nat} {p : Int} {v : Fr} {T : Tb} {B' : Nat → List Int} {Q' : List Nat}
theorem Tabs.get (h : Tabs T a) (g : Good a) (p : Int) : T.get p = a.find p := by
 obtain ⟨I,W,h1,h2,h3⟩ := h.ab
 by_cases h0 : p < 0
 ·rw [find_none fun x hx hs => by have := g.use x hx hs;omega]
  unfold Tb.get Tb.find
  rw [if_pos h0]
  rfl
 ·obtain ⟨k,rfl⟩ := Int.eq_ofNat_of_zero_le (show 0 ≤ p by omega)
  rw [h1.get k]
  cases e : I k with
  | true =>
   obtain ⟨x,hx,hs,hp⟩ := (h2 k).1 e
   rw [find_at g hx hs hp,h3 x hx hs k hp]
   rfl
  | false =>
   rw [find_none fun x hx hs hp => by rw [(h2 k).2 ⟨x,hx,hs,hp⟩] at e;cases e]
   rfl
theorem Tabs.none (h : 1 ≤ 64) (hs : ∀ x,x < a.n → (a.F x).st ≠ 1) : Tabs (TabM.fresh 64) a :=
 ⟨⟨_,fun _ => 0,abs_fresh h _,fun k => ⟨fun e => (by cases e),fun ⟨x,hx,e,_⟩ => absurd e (hs x hx)⟩,fun x hx e => absurd e (hs x hx)⟩,rfl,by
  rw [cnt_fresh,cnt_none (f := isU a) fun j hj => decide_eq_false (hs j hj)]⟩
theorem Tabs.same (h : Tabs T a) (h1 : ∀ x,(x < a'.n ∧ (a'.F x).st = 1) ↔ (x < a.n ∧ (a.F x).st = 1)) (h2 : ∀ x,x < a.n → (a.F x).st = 1 → (a'.F x).pg = (a.F x).pg) (h3 : cnt (isU a') a'.n = cnt (isU a) a.n) : Tabs T a' := by
 obtain ⟨I,W,k1,k2,k3⟩ := h.ab
 refine ⟨⟨I,W,k1,fun k => ?_,fun x hx hs k hp => ?_⟩,h.n,by rw [h3,h.c]⟩
 ·rw [k2 k]
  constructor
  ·rintro ⟨x,hx,hs,hp⟩
   obtain ⟨hx',hs'⟩ := (h1 x).2 ⟨hx,hs⟩
   exact ⟨x,hx',hs',by rw [h2 x hx hs,hp]⟩
  ·rintro ⟨x,hx',hs',hp⟩
   obtain ⟨hx,hs⟩ := (h1 x).1 ⟨hx',hs'⟩
   exact ⟨x,hx,hs,by rw [← h2 x hx hs,hp]⟩
 ·obtain ⟨hx',hs'⟩ := (h1 x).1 ⟨hx,hs⟩
  exact k3 x hx' hs' k (by rw [← h2 x hx' hs',hp])
theorem Tabs.turn (h : Tabs T a) (hf : f < a.n) (hv : v.st = 1 ↔ (a.F f).st = 1) (hp : (a.F f).st = 1 → v.pg = (a.F f).pg) : Tabs T ⟨a.n,upd a.F f v,B',Q'⟩ := by
 have key : ∀ x,(upd a.F f v x).st = 1 ↔ (a.F x).st = 1 := fun x => by
  by_cases e : x = f
  ·subst e;rw [upd_same];exact hv
  ·rw [upd_other _ _ e]
 refine h.same (fun x => ?_) (fun x hx hs => ?_) (cnt_congr fun x hx => ?_)
 ·show (x < a.n ∧ (upd a.F f v x).st = 1) ↔ _
  rw [key x]
 ·show (upd a.F f v x).pg = _
  by_cases e : x = f
  ·subst e;rw [upd_same];exact hp hs
  ·rw [upd_other _ _ e]
 ·show decide ((upd a.F f v x).st = 1) = decide ((a.F x).st = 1)
  exact decide_eq_decide.2 (key x)
theorem Tabs.addF (h : Tabs T a) (hf : f ≤ a.n) (hs : f < a.n → (a.F f).st ≠ 1) : Tabs T (a.addF f) := by
 by_cases e : f < a.n
 ·rw [addF_old e]
  exact h.turn e ⟨fun x => by have : (0 : Int) = 1 := x;omega,fun x => absurd x (hs e)⟩ fun x => absurd x (hs e)
 ·obtain rfl : f = a.n := by omega
  rw [addF_more]
  have k1 : ∀ x,x ≠ a.n → (a.more.dropF a.n).F x = a.F x := fun x e => by
   show upd (upd a.F a.n fGone) a.n fFree x = _
   rw [upd_other _ _ e,upd_other _ _ e]
  have k2 : (a.more.dropF a.n).F a.n = fFree := upd_same _ _ _
  refine h.same (fun x => ?_) (fun x hx _ => ?_) ?_
  ·by_cases e : x = a.n
   ·subst e
    rw [k2]
    exact ⟨fun hx => by have : (0 : Int) = 1 := hx.2;omega,fun hx => by omega⟩
   ·rw [k1 x e]
    show (x < a.n + 1 ∧ _) ↔ _
    constructor
    ·rintro ⟨h1,h2⟩;exact ⟨by omega,h2⟩
    ·rintro ⟨h1,h2⟩;exact ⟨by omega,h2⟩
  ·rw [k1 x (by omega)]
  ·show cnt (isU (a.more.dropF a.n)) (a.n + 1) = _
   have e1 : cnt (isU (a.more.dropF a.n)) (a.n + 1) = cnt (isU (a.more.dropF a.n)) a.n + if isU (a.more.dropF a.n) a.n = true then 1 else 0 := rfl
   have e2 : isU (a.more.dropF a.n) a.n = false := by unfold isU;rw [k2];rfl
   rw [e1,e2,cnt_congr (f := isU (a.more.dropF a.n)) (g := isU a) fun x hx => by unfold isU;rw [k1 x (by omega)]]
   rfl
theorem Tabs.put (h : Tabs T a) (g : Good a) (hf : f < a.n) (hs : (a.F f).st ≠ 1) (hc : a.can p = true) : T.putC p = 0 ∧ Tabs (T.put p (f : Int)) ⟨a.n,upd a.F f (fUsed p),B',Q'⟩ := by
 simp only [Ar.can,Bool.and_eq_true,decide_eq_true_eq] at hc
 obtain ⟨⟨c1,c2⟩,c3⟩ := hc
 obtain ⟨k,rfl⟩ := Int.eq_ofNat_of_zero_le c1
 have hno : ∀ x,x < a.n → (a.F x).st = 1 → (a.F x).pg ≠ (k : Int) := fun x hx sx e => by have := find_at g hx sx e;omega
 obtain ⟨I,W,k1,k2,k3⟩ := h.ab
 have hI : I k = false := by
  cases e : I k with
  | false => rfl
  | true => obtain ⟨x,hx,sx,px⟩ := (k2 k).1 e;exact absurd px (hno x hx sx)
 have hcl := cnt_le (isU a) a.n
 have hn := g.n
 obtain ⟨p1,p2,p3⟩ := k1.put_new hI (by rw [h.c,h.n];omega) (f : Int)
 have hu : ∀ x,(upd a.F f (fUsed (k : Int)) x).st = 1 ↔ x = f ∨ (a.F x).st = 1 := fun x => by
  by_cases e : x = f
  ·subst e;rw [upd_same];exact ⟨fun _ => .inl rfl,fun _ => rfl⟩
  ·rw [upd_other _ _ e];simp [e]
 refine ⟨p1,⟨_,_,p2,fun m => ?_,fun x hx sx m px => ?_⟩,by rw [put_n,h.n],?_⟩
 ·show upd I k true m = true ↔ ∃ x,x < a.n ∧ (upd a.F f (fUsed (k : Int)) x).st = 1 ∧ (upd a.F f (fUsed (k : Int)) x).pg = (m : Int)
  by_cases e : m = k
  ·subst e
   rw [upd_same]
   exact ⟨fun _ => ⟨f,hf,by rw [upd_same];exact ⟨rfl,rfl⟩⟩,fun _ => rfl⟩
  ·rw [upd_other _ _ e,k2 m]
   constructor
   ·rintro ⟨x,hx,sx,px⟩
    have ex : x ≠ f := fun e => by subst e;exact hs sx
    exact ⟨x,hx,by rw [upd_other _ _ ex];exact ⟨sx,px⟩⟩
   ·rintro ⟨x,hx,sx,px⟩
    by_cases ex : x = f
    ·subst ex
     rw [upd_same] at px
     have : (k : Int) = (m : Int) := px
     omega
    ·rw [upd_other _ _ ex] at sx px
     exact ⟨x,hx,sx,px⟩
 ·change (upd a.F f (fUsed (k : Int)) x).st = 1 at sx
  change (upd a.F f (fUsed (k : Int)) x).pg = (m : Int) at px
  by_cases ex : x = f
  ·subst ex
   rw [upd_same] at px
   have : (k : Int) = (m : Int) := px
   obtain rfl : k = m := by omega
   rw [upd_same]
  ·rw [upd_other _ _ ex] at sx px
   have : m ≠ k := fun e => by subst e;exact hno x hx sx px
   rw [upd_other _ _ this]
   exact k3 x hx sx m px
 ·rw [p3,h.c,← cnt_on hf (decide_eq_false hs : isU a f = false)]
  refine cnt_congr fun x hx => ?_
  show upd (isU a) f true x = decide ((upd a.F f (fUsed (k : Int)) x).st = 1)
  by_cases e : x = f
  ·subst e;rw [upd_same,upd_same];rfl
  ·rw [upd_other _ _ e,upd_other _ _ e];rfl
theorem Tabs.out (h : Tabs T a) (g : Good a) (hf : f < a.n) (hs : (a.F f).st = 1) (hv : v.st ≠ 1) : Tabs (T.out (a.F f).pg) ⟨a.n,upd a.F f v,B',Q'⟩ := by
 have hu := g.use f hf hs
 obtain ⟨k,hk⟩ := Int.eq_ofNat_of_zero_le hu.1
 obtain ⟨I,W,k1,k2,k3⟩ := h.ab
 have hI : I k = true := (k2 k).2 ⟨f,hf,hs,hk⟩
 obtain ⟨_,p2,p3,_⟩ := k1.out_some hI
 rw [hk]
 refine ⟨⟨_,_,p2,fun m => ?_,fun x hx sx m px => ?_⟩,by rw [out_n,h.n],?_⟩
 ·show upd I k false m = true ↔ ∃ x,x < a.n ∧ (upd a.F f v x).st = 1 ∧ (upd a.F f v x).pg = (m : Int)
  by_cases e : m = k
  ·subst e
   rw [upd_same]
   refine ⟨fun e => (by cases e),fun ⟨x,hx,sx,px⟩ => ?_⟩
   by_cases ex : x = f
   ·subst ex;rw [upd_same] at sx;exact absurd sx hv
   ·rw [upd_other _ _ ex] at sx px
    exact absurd (g.uq x f hx hf sx hs (by omega)) ex
  ·rw [upd_other _ _ e,k2 m]
   constructor
   ·rintro ⟨x,hx,sx,px⟩
    have ex : x ≠ f := fun e' => by subst e';omega
    exact ⟨x,hx,by rw [upd_other _ _ ex];exact ⟨sx,px⟩⟩
   ·rintro ⟨x,hx,sx,px⟩
    by_cases ex : x = f
    ·subst ex;rw [upd_same] at sx;exact absurd sx hv
    ·rw [upd_other _ _ ex] at sx px
     exact ⟨x,hx,sx,px⟩
 ·change (upd a.F f v x).st = 1 at sx
  change (upd a.F f v x).pg = (m : Int) at px
  by_cases ex : x = f
  ·subst ex;rw [upd_same] at sx;exact absurd sx hv
  ·rw [upd_other _ _ ex] at sx px
   exact k3 x hx sx m px
 ·have hc := cnt_off (f := isU a) hf (decide_eq_true hs)
  have e : cnt (isU ⟨a.n,upd a.F f v,B',Q'⟩) a.n = cnt (upd (isU a) f false) a.n := by
   refine cnt_congr fun x hx => ?_
   show decide ((upd a.F f v x).st = 1) = upd (isU a) f false x
   by_cases e : x = f
   ·subst e;rw [upd_same,upd_same];exact decide_eq_false hv
   ·rw [upd_other _ _ e,upd_other _ _ e];rfl
  show _ = cnt (isU ⟨a.n,upd a.F f v,B',Q'⟩) a.n
  have := h.c
  omega
end
end ArM
namespace SumM
def step (s : Nat) : Nat := if s % 2 = 1 then (s / 2) ^^^ 2748603157 else s / 2
def steps : Nat → Nat → Nat
 | 0,s => s
 | k + 1,s => step (steps k s)
def turn (s c : Nat) : Nat := steps 8 (s ^^^ c)
theorem step_lt {s : Nat} (h : s < 4294967296) : step s < 4294967296 := by
 unfold step
 split
 ·exact Nat.xor_lt_two_pow (n := 32) (by omega) (by omega)
 ·omega
theorem step_even {s : Nat} (h : s % 2 = 0) : step s = s / 2 := by unfold step;rw [if_neg (by omega)]
theorem step_odd {s : Nat} (h : s % 2 = 1) : step s = (s / 2) ^^^ 2748603157 := by unfold step;rw [if_pos h]
theorem steps_lt (k : Nat) {s : Nat} (h : s < 4294967296) : steps k s < 4294967296 := by
 induction k with
 | zero => exact h
 | succ k ih => exact step_lt ih
theorem xor_lt {s c : Nat} (hs : s < 4294967296) (hc : c < 4294967296) : s ^^^ c < 4294967296 := Nat.xor_lt_two_pow (n := 32) (by omega) (by omega)
theorem turn_lt {s c : Nat} (hs : s < 4294967296) (hc : c < 256) : turn s c < 4294967296 := steps_lt 8 (xor_lt hs (by omega))
def turnI (s c : Int) : Int := (turn s.toNat c.toNat : Nat)
def moreI (s : Int) (l : List Int) : Int := l.foldl turnI s
def ofI (l : List Int) : Int := 4294967295 - moreI 4294967295 l
def U32 (s : Int) : Prop := 0 ≤ s ∧ s < 4294967296
def U8 (s : Int) : Prop := 0 ≤ s ∧ s < 256
def Bytes (l : List Int) : Prop := ∀ c ∈ l,U8 c
theorem turnI_u32 {s c : Int} (hs : U32 s) (hc : U8 c) : U32 (turnI s c) := by
 obtain ⟨a,b⟩ := hs;obtain ⟨a',b'⟩ := hc
 have := turn_lt (s := s.toNat) (c := c.toNat) (by omega) (by omega)
 unfold turnI U32
 omega
theorem moreI_u32 {s : Int} {l : List Int} (hs : U32 s) (hl : Bytes l) : U32 (moreI s l) := by
 induction l generalizing s with
 | nil => exact hs
 | cons c l ih => exact ih (turnI_u32 hs (hl c (by simp))) fun d hd => hl d (by simp [hd])
theorem ofI_u32 {l : List Int} (hl : Bytes l) : U32 (ofI l) := by
 have h := moreI_u32 (s := 4294967295) ⟨by omega,by omega⟩ hl
 unfold ofI U32 at *
 omega
theorem moreI_append (s : Int) (l m : List Int) : moreI s (l ++ m) = moreI (moreI s l) m := List.foldl_append ..
theorem moreI_nil (s : Int) : moreI s [] = s := rfl
theorem moreI_cons (s c : Int) (l : List Int) : moreI s (c :: l) = moreI (turnI s c) l := rfl
theorem moreI_snoc {l : List Int} (s : Int) (k : Nat) (h : k < l.length) : moreI s (l.take (k + 1)) = turnI (moreI s (l.take k)) (l.getD k 0) := by
 rw [List.take_succ_eq_append_getElem h,moreI_append]
 simp [List.getD_eq_getElem?_getD,h,moreI_cons,moreI_nil]
def x3 (a b c : Int) : Int := ((a.toNat ^^^ b.toNat ^^^ c.toNat : Nat) : Int)
end SumM
namespace PageM
open SumM
def hdr (id : Int) : List Int := [id + 1,0,90,165]
def le4 (s : Int) : List Int := [s % 256,s / 256 % 256,s / 65536 % 256,s / 16777216 % 256]
def tail (id : Int) (zs : List Int) : List Int := hdr id ++ zs
def sealI (id : Int) (zs : List Int) : List Int := le4 (ofI (tail id zs)) ++ tail id zs
def zeros (n : Nat) : List Int := List.replicate n 0
theorem tail_len (id : Int) (zs : List Int) : (tail id zs).length = zs.length + 4 := by simp [tail,hdr]
theorem seal_len (id : Int) (zs : List Int) : (sealI id zs).length = zs.length + 8 := by simp [sealI,le4,tail_len]
theorem zeros_len (n : Nat) : (zeros n).length = n := by simp [zeros]
theorem zeros_bytes (n : Nat) : Bytes (zeros n) := fun c hc => by
 have := List.eq_of_mem_replicate hc
 subst this;exact ⟨by omega,by omega⟩
theorem tail_bytes {id : Int} {zs : List Int} (h0 : 0 ≤ id) (h1 : id < 48) (hz : Bytes zs) : Bytes (tail id zs) := fun c hc => by
 simp only [tail,hdr,List.cons_append,List.nil_append,List.mem_cons] at hc
 rcases hc with rfl | rfl | rfl | rfl | hc
 ·exact ⟨by omega,by omega⟩
 ·exact ⟨by omega,by omega⟩
 ·exact ⟨by omega,by omega⟩
 ·exact ⟨by omega,by omega⟩
 ·exact hz c hc
theorem le4_bytes (s : Int) : Bytes (le4 s) := fun c hc => by
 simp only [le4,List.mem_cons,List.not_mem_nil,or_false] at hc
 rcases hc with rfl | rfl | rfl | rfl <;> exact ⟨by omega,by omega⟩
theorem seal_bytes {id : Int} {zs : List Int} (h0 : 0 ≤ id) (h1 : id < 48) (hz : Bytes zs) : Bytes (sealI id zs) := fun c hc => by
 rcases List.mem_append.1 hc with h | h
 ·exact le4_bytes _ c h
 ·exact tail_bytes h0 h1 hz c h
theorem seal_drop (id : Int) (zs : List Int) : (sealI id zs).drop 8 = zs := rfl
theorem seal_at6 (id : Int) (zs : List Int) : (sealI id zs).getD 6 0 = 90 := rfl
theorem seal_ne_zeros (id : Int) (zs : List Int) : sealI id zs ≠ zeros 24 := fun h => by
 have h6 := congrArg (fun l => l.getD 6 0) h
 simp only [seal_at6] at h6
 exact absurd h6 (by decide)
def isPage (id : Int) : Bool := decide (0 ≤ id) && decide (id < 48)
def sealOk (id : Int) (n : Nat) : Bool := isPage id && n == 16
def sealB (id : Int) (zs : List Int) : List Int := if sealOk id zs.length then sealI id zs else []
def sealC (id : Int) (n : Nat) : Int := if sealOk id n then 0 else 1
def openC (id : Int) (zs : List Int) : Int := if isPage id && zs.length == 24 then (if zs = zeros 24 then 11 else if zs = sealI id (zs.drop 8) then 0 else 10) else 1
def openB (id : Int) (zs : List Int) : List Int := if openC id zs = 0 then zs.drop 8 else []
theorem openC_bad {id : Int} {zs : List Int} (h : ¬ (0 ≤ id ∧ id < 48 ∧ zs.length = 24)) : openC id zs = 1 := by
 unfold openC isPage
 rw [if_neg]
 simpa [and_assoc] using h
theorem openC_good {id : Int} {zs : List Int} (h0 : 0 ≤ id) (h1 : id < 48) (h2 : zs.length = 24) : openC id zs = if zs = zeros 24 then 11 else if zs = sealI id (zs.drop 8) then 0 else 10 := by
 unfold openC isPage
 rw [if_pos (by simp [h0,h1,h2])]
theorem openC_seal {id : Int} {zs : List Int} (h0 : 0 ≤ id) (h1 : id < 48) (h2 : zs.length = 16) : openC id (sealI id zs) = 0 := by
 rw [openC_good h0 h1 (by rw [seal_len];omega),if_neg (seal_ne_zeros _ _),if_pos (by rw [seal_drop])]
theorem openB_seal {id : Int} {zs : List Int} (h0 : 0 ≤ id) (h1 : id < 48) (h2 : zs.length = 16) : openB id (sealI id zs) = zs := by
 unfold openB
 rw [if_pos (openC_seal h0 h1 h2),seal_drop]
end PageM
namespace Dev
open SumM PageM
structure Dv where
 N : Nat
 dur : Nat → List Int
 wr : Nat → Option (List Int)
 n : Nat
 bad : Nat
 down : Bool
def accS (S : Dv) : Dv := if S.down then S else { S with n := S.n + 1,bad := S.bad - 1 }
def accC (S : Dv) : Int := if S.down then 12 else if S.bad = 1 then 9 else 0
def hasI (S : Dv) (p : Int) : Bool := decide (0 ≤ p) && decide (p < S.N)
def cur (S : Dv) (p : Nat) : List Int := (S.wr p).getD (S.dur p)
def readS (S : Dv) (p : Int) : Dv := if hasI S p then accS S else S
def readC (S : Dv) (p : Int) : Int := if hasI S p then accC S else 1
def readB (S : Dv) (p : Int) : List Int := if readC S p = 0 then cur S p.toNat else []
def writeC (S : Dv) (p : Int) (n : Nat) : Int := if hasI S p && n == 24 then accC S else 1
def putS (S : Dv) (p : Nat) (zs : List Int) : Dv := { S with wr := fun q => if q = p then some zs else S.wr q }
def writeS (S : Dv) (p : Int) (zs : List Int) : Dv := if hasI S p && zs.length == 24 then (if accC S = 0 then putS (accS S) p.toNat zs else accS S) else S
def flushS (S : Dv) : Dv := { S with dur := fun p => cur S p,wr := fun _ => none }
def syncS (S : Dv) : Dv := if accC S = 0 then flushS (accS S) else accS S
def failB (n : Int) : Bool := decide (0 ≤ n) && decide (n ≤ 1000000)
def failS (S : Dv) (n : Int) : Dv := if failB n then { S with bad := n.toNat } else S
def cnt (S : Dv) : Nat → Nat
 | 0 => 0
 | p + 1 => cnt S p + (if (S.wr p).isSome then 1 else 0)
def waitL (S : Dv) : Nat → List Int
 | 0 => []
 | p + 1 => if (S.wr p).isSome then waitL S p ++ [(p : Int)] else waitL S p
def newS (N : Nat) : Dv := { N := N,dur := fun _ => zeros 24,wr := fun _ => none,n := 0,bad := 0,down := false }
end Dev
namespace RfM
open MdM (Md MdOp Re)
open ArM (Ar Fr)
open Dev (Dv)
structure Pl where
 X : Md
 D : Dv
 A : Ar
 L : List Nat
namespace Pl
variable (p : Pl)
def img (f : Nat) : List Int := PageM.sealB (p.A.F f).pg (p.A.B f)
def wrC (f : Nat) : Int := Dev.writeC p.D (p.A.F f).pg (p.img f).length
def wr (f : Nat) : Pl := ⟨p.X,Dev.writeS p.D (p.A.F f).pg (p.img f),if p.wrC f = 0 then p.A.mark (f : Int) false else p.A,p.L⟩
def drop (f : Nat) : Pl := ⟨p.X,p.D,p.A.drop (f : Int),ListM.outL p.L (f : Int)⟩
def vic : Option Nat := (p.L.filter fun f => decide ((p.A.F f).pn = 0)).getLast?
def take (q : Int) : (Int × Int) × Pl := ((p.A.takeC q,0),⟨p.X,p.D,p.A.take q,ListM.frontL 32 p.L (p.A.takeC q)⟩)
def evict (q : Int) (v : Nat) : (Int × Int) × Pl :=
 if (p.A.F v).di = true then (if p.wrC v = 0 then ((p.wr v).drop v).take q else ((-1,p.wrC v),p.wr v)) else (p.drop v).take q
def room (q : Int) : (Int × Int) × Pl :=
 if p.A.Q = [] then (match p.vic with | none => ((-1,8),p) | some v => p.evict q v) else p.take q
def front (f : Int) : Pl := ⟨p.X,p.D,p.A,if ListM.okO p.L f = true then ListM.frontL 32 (ListM.outL p.L f) f else p.L⟩
def load (q : Int) (f : Nat) : (Int × Int) × Pl :=
 if Dev.readC p.D q ≠ 0 then ((-1,Dev.readC p.D q),(⟨p.X,Dev.readS p.D q,p.A,p.L⟩ : Pl).drop f)
 else if PageM.openC q (Dev.readB p.D q) = 0 then (((f : Int),0),⟨p.X,Dev.readS p.D q,⟨p.A.n,p.A.F,TabM.upd p.A.B f (PageM.openB q (Dev.readB p.D q)),p.A.Q⟩,p.L⟩)
 else if PageM.openC q (Dev.readB p.D q) = 11 then (((f : Int),0),⟨p.X,Dev.readS p.D q,p.A,p.L⟩)
 else ((-1,PageM.openC q (Dev.readB p.D q)),(⟨p.X,Dev.readS p.D q,p.A,p.L⟩ : Pl).drop f)
def fetch (q : Int) : (Int × Int) × Pl :=
 if 0 ≤ p.A.find q then ((p.A.find q,0),p.front (p.A.find q))
 else if (p.room q).1.2 ≠ 0 then ((-1,(p.room q).1.2),(p.room q).2) else (p.room q).2.load q (p.room q).1.1.toNat
def flush (q : Int) : Int × Pl :=
 if 0 ≤ p.A.find q ∧ (p.A.F (p.A.find q).toNat).di = true then (p.wrC (p.A.find q).toNat,p.wr (p.A.find q).toNat) else (0,p)
def flushTo : Nat → Int × Pl
 | 0 => (0,p)
 | k + 1 => if (flushTo k).1 = 0 then (flushTo k).2.flush (k : Int) else flushTo k
def sync : Int × Pl := (Dev.accC p.D,⟨p.X,Dev.syncS p.D,p.A,p.L⟩)
def synced (x : Int × Pl) : (Int × Int) × Pl := if x.1 = 0 then ((-1,x.2.sync.1),x.2.sync.2) else ((-1,x.1),x.2)
def act (c : Int) (o : MdOp) (r : Re) : (Int × Int) × Pl :=
 if o.k = 1 then (if (p.room r.p).1.2 = 0 then ((p.room r.p).1,⟨(p.room r.p).2.X,(p.room r.p).2.D,(p.room r.p).2.A.mark (p.room r.p).1.1 true,(p.room r.p).2.L⟩) else p.room r.p)
 else if o.k = 2 then p.fetch o.p
 else if o.k = 3 then ((-1,0),p.front (p.A.find (p.X.held c o.h)))
 else if o.k = 4 then ((-1,0),(⟨p.X,p.D,p.A.set (p.A.find (p.X.held c o.h)) o.o o.d,p.L⟩ : Pl).front (p.A.find (p.X.held c o.h)))
 else if o.k = 5 then ((-1,0),⟨p.X,p.D,p.A.unpin (p.A.find (p.X.held c o.h)),p.L⟩)
 else if o.k = 6 then synced (p.flush o.p)
 else if o.k = 7 then synced (p.flushTo p.X.n)
 else ((-1,0),if 0 ≤ p.A.find o.p then p.drop (p.A.find o.p).toNat else p)
def fin (r : Re) (y : Md) (x : (Int × Int) × Pl) : Re × Pl :=
 if x.1.2 ≠ 0 then (MdM.err x.1.2,x.2) else (r,⟨y,x.2.D,if 0 ≤ x.1.1 then x.2.A.pin x.1.1 else x.2.A,x.2.L⟩)
def run (c : Int) (o : MdOp) : Re × Pl := if (p.X.run c o).1.c ≠ 0 then ((p.X.run c o).1,p) else fin (p.X.run c o).1 (p.X.run c o).2 (p.act c o (p.X.run c o).1)
end Pl
def fresh (n N k : Nat) : Pl := ⟨MdM.fresh n N,Dev.newS n,ArM.fresh k,[]⟩
def says (D : Dv) (q : Nat) (b : List Int) : Prop := PageM.openC (q : Int) (Dev.cur D q) = 0 ∧ PageM.openB (q : Int) (Dev.cur D q) = b
section
variable {D : Dv} {q r : Nat} {b z : List Int}
theorem says_of {E : Dv} (h : says D q b) (e : Dev.cur E q = Dev.cur D q) : says E q b := by unfold says;rw [e];exact h
theorem cur_acc (D : Dv) (q : Nat) : Dev.cur (Dev.accS D) q = Dev.cur D q := by unfold Dev.accS;split <;> rfl
theorem cur_read (D : Dv) (x : Int) (q : Nat) : Dev.cur (Dev.readS D x) q = Dev.cur D q := by
 unfold Dev.readS
 split
 ·exact cur_acc D q
 ·rfl
theorem cur_sync (D : Dv) (q : Nat) : Dev.cur (Dev.syncS D) q = Dev.cur D q := by
 unfold Dev.syncS
 split
 ·show Dev.cur (Dev.accS D) q = _
  exact cur_acc D q
 ·exact cur_acc D q
theorem has_nat (h : q < D.N) : Dev.hasI D (q : Int) = true := by unfold Dev.hasI;simp [h]
theorem write_code (h : q < D.N) (hz : z.length = 24) : Dev.writeC D (q : Int) z.length = Dev.accC D := by
 unfold Dev.writeC
 rw [has_nat h,hz]
 rfl
theorem write_state (h : q < D.N) (hz : z.length = 24) : Dev.writeS D (q : Int) z = if Dev.accC D = 0 then Dev.putS (Dev.accS D) q z else Dev.accS D := by
 unfold Dev.writeS
 rw [has_nat h,hz,Int.toNat_natCast]
 rfl
theorem cur_put (D : Dv) (q r : Nat) (z : List Int) : Dev.cur (Dev.putS D q z) r = if r = q then z else Dev.cur D r := by
 unfold Dev.cur Dev.putS
 dsimp only
 by_cases e : r = q
 ·rw [if_pos e,if_pos e];rfl
 ·rw [if_neg e,if_neg e]
theorem cur_write (h : q < D.N) (hz : z.length = 24) (hc : Dev.accC D = 0) : Dev.cur (Dev.writeS D (q : Int) z) r = if r = q then z else Dev.cur D r := by
 rw [write_state h hz,if_pos hc,cur_put,cur_acc]
theorem cur_fail (h : q < D.N) (hz : z.length = 24) (hc : Dev.accC D ≠ 0) : Dev.writeS D (q : Int) z = Dev.accS D := by
 rw [write_state h hz,if_neg hc]
theorem acc_N (D : Dv) : (Dev.accS D).N = D.N := by unfold Dev.accS;split <;> rfl
theorem acc_down (D : Dv) : (Dev.accS D).down = D.down := by unfold Dev.accS;split <;> rfl
theorem write_N (D : Dv) (x : Int) (z : List Int) : (Dev.writeS D x z).N = D.N ∧ (Dev.writeS D x z).down = D.down := by
 unfold Dev.writeS
 split
 ·split
  ·exact ⟨acc_N D,acc_down D⟩
  ·exact ⟨acc_N D,acc_down D⟩
 ·exact ⟨rfl,rfl⟩
theorem read_N (D : Dv) (x : Int) : (Dev.readS D x).N = D.N ∧ (Dev.readS D x).down = D.down := by
 unfold Dev.readS
 split
 ·exact ⟨acc_N D,acc_down D⟩
 ·exact ⟨rfl,rfl⟩
theorem sync_N (D : Dv) : (Dev.syncS D).N = D.N ∧ (Dev.syncS D).down = D.down := by
 unfold Dev.syncS
 split
 ·exact ⟨acc_N D,acc_down D⟩
 ·exact ⟨acc_N D,acc_down D⟩
theorem acc_cases (hd : D.down = false) : (Dev.accC D = 0 ∧ D.bad ≠ 1) ∨ (Dev.accC D = 9 ∧ D.bad = 1) := by
 unfold Dev.accC
 rw [hd]
 by_cases h : D.bad = 1
 ·exact .inr ⟨by simp [h],h⟩
 ·exact .inl ⟨by simp [h],h⟩
theorem says_seal (h : q < 48) (hz : z.length = 16) (e : Dev.cur D q = PageM.sealI (q : Int) z) : says D q z := by
 refine ⟨?_,?_⟩
 ·rw [e];exact PageM.openC_seal (by omega) (by omega) hz
 ·rw [e];exact PageM.openB_seal (by omega) (by omega) hz
theorem seal_ok (h : q < 48) (hz : z.length = 16) : PageM.sealB (q : Int) z = PageM.sealI (q : Int) z := by
 unfold PageM.sealB PageM.sealOk PageM.isPage
 rw [if_pos]
 have h1 : (0 : Int) ≤ (q : Int) := by omega
 have h2 : (q : Int) < 48 := by omega
 simp [h1,h2,hz]
end
section
open HdM (cnt sum)
variable {f g : Nat → Int} {a : Md} {P : Int}
theorem cnt_same {m : Nat} (h : ∀ j,j < m → f j = g j) : cnt f P m = cnt g P m := by
 induction m with
 | zero => rfl
 | succ m ih =>
  show cnt f P m + (if f m = P then 1 else 0) = cnt g P m + (if g m = P then 1 else 0)
  rw [ih fun j hj => h j (by omega),h m (by omega)]
theorem cnt_one {m k : Nat} (hk : k < m) (h : ∀ j,j < m → j ≠ k → f j = g j) : cnt f P m + (if g k = P then 1 else 0) = cnt g P m + (if f k = P then 1 else 0) := by
 induction m with
 | zero => omega
 | succ m ih =>
  show cnt f P m + (if f m = P then 1 else 0) + _ = cnt g P m + (if g m = P then 1 else 0) + _
  by_cases e : k = m
  ·subst e
   rw [cnt_same fun j hj => h j (by omega) (by omega)]
   omega
  ·have := ih (by omega) fun j hj hne => h j (by omega) hne
   rw [h m (by omega) (fun e' => e e'.symm)]
   omega
theorem sum_same {u v : Nat → Nat} {m : Nat} (h : ∀ j,j < m → u j = v j) : sum u m = sum v m := by
 induction m with
 | zero => rfl
 | succ m ih =>
  show sum u m + u m = sum v m + v m
  rw [ih fun j hj => h j (by omega),h m (by omega)]
theorem sum_one {u v : Nat → Nat} {m k : Nat} (hk : k < m) (h : ∀ j,j < m → j ≠ k → u j = v j) : sum u m + v k = sum v m + u k := by
 induction m with
 | zero => omega
 | succ m ih =>
  show sum u m + u m + v k = sum v m + v m + u k
  by_cases e : k = m
  ·subst e
   rw [sum_same fun j hj => h j (by omega) (by omega)]
   omega
  ·have := ih (by omega) fun j hj hne => h j (by omega) hne
   rw [h m (by omega) (fun e' => e e'.symm)]
   omega
theorem pins_putH {c j : Nat} {x : Int} (hc : c < a.N) (hj : j < 6) (hP : 0 ≤ P) : (a.putH c j x).pins P + (if a.H c j = P then 1 else 0) = a.pins P + (if x = P then 1 else 0) := by
 have hP' : ¬ P < 0 := by omega
 unfold Md.pins
 rw [if_neg hP',if_neg hP']
 have h1 : ∀ k,k < a.N → k ≠ c → (a.putH c j x).has P k = a.has P k := fun k _ hne => cnt_same fun i _ => if_neg fun e => hne e.1
 have h2 := cnt_one (f := (a.putH c j x).H c) (g := a.H c) (P := P) hj fun i _ hne => if_neg fun e => hne e.2
 have h3 : (a.putH c j x).H c j = x := if_pos ⟨rfl,rfl⟩
 rw [h3] at h2
 have h4 := sum_one (u := (a.putH c j x).has P) (v := a.has P) (m := a.N) hc h1
 have e1 : (a.putH c j x).has P c = cnt ((a.putH c j x).H c) P 6 := rfl
 have e2 : a.has P c = cnt (a.H c) P 6 := rfl
 have e3 : (a.putH c j x).N = a.N := rfl
 rw [e3]
 omega
theorem pins_putT {q : Nat} {t : Bool} : (a.putT q t).pins P = a.pins P := rfl
theorem pins_le (a : Md) (g : MdM.Good a) (P : Int) : a.pins P ≤ 36 := by
 unfold Md.pins
 split
 ·omega
 ·have h := HdM.sum_le (g := a.has P) (b := 6) (fun i => HdM.cnt_le _ _ _) a.N
  have := g.N.2
  have : a.N * 6 ≤ 6 * 6 := Nat.mul_le_mul_right 6 this
  omega
end
end RfM
namespace Mem
open Go.RowKit
def Sl (w : World) (B : Nat) (k : IntKind) (A : Option Addr) (n : Nat) (zs : List Int) : Prop :=
 zs.length = n ∧ (0 < n → ∃ b off,A = some ⟨b,off,none⟩ ∧ b < B ∧ ∀ j,j < n → w.cell? ⟨b,off + j,none⟩ = some (.int k (zs.getD j 0)))
section
variable {w w' : World} {B B' n : Nat} {k : IntKind} {A : Option Addr} {zs : List Int}
theorem Sl.len (h : Sl w B k A n zs) : zs.length = n := h.1
theorem Sl.nil (w : World) (B : Nat) (k : IntKind) (A : Option Addr) : Sl w B k A 0 [] := ⟨rfl,fun h => absurd h (by omega)⟩
theorem Sl.at_ (h : Sl w B k A n zs) (hn : 0 < n) : ∃ b off,A = some ⟨b,off,none⟩ ∧ b < B ∧ ∀ j,j < n → w.cell? ⟨b,off + j,none⟩ = some (.int k (zs.getD j 0)) := h.2 hn
theorem Sl.keep (h : Sl w B k A n zs) (hk : ∀ b o,b < B → w'.cell? ⟨b,o,none⟩ = w.cell? ⟨b,o,none⟩) : Sl w' B k A n zs :=
 ⟨h.1,fun hn => by
  obtain ⟨b,off,e,hb,hc⟩ := h.2 hn
  exact ⟨b,off,e,hb,fun j hj => (hk b _ hb).trans (hc j hj)⟩⟩
theorem Sl.more (h : Sl w B k A n zs) (hB : B ≤ B') : Sl w B' k A n zs :=
 ⟨h.1,fun hn => by
  obtain ⟨b,off,e,hb,hc⟩ := h.2 hn
  exact ⟨b,off,e,by omega,hc⟩⟩
theorem Sl.take (h : Sl w B k A n zs) {m : Nat} (hm : m ≤ n) : Sl w B k A m (zs.take m) := by
 refine ⟨by rw [List.length_take,h.1];omega,fun hn => ?_⟩
 obtain ⟨b,off,e,hb,hc⟩ := h.2 (by omega)
 refine ⟨b,off,e,hb,fun j hj => ?_⟩
 rw [hc j (by omega)]
 simp [List.getD_eq_getElem?_getD,hj]
theorem Sl.cut (h : Sl w B k A n zs) {m cap : Nat} (hm : m ≤ n) (hc : n ≤ cap) :
  Sl w B k (if cap = m then A else A.map (·.add m)) (n - m) (zs.drop m) := by
 refine ⟨by rw [List.length_drop,h.1],fun hn => ?_⟩
 obtain ⟨b,off,rfl,hb,hcell⟩ := h.2 (by omega)
 rw [if_neg (by omega)]
 refine ⟨b,off + m,?_,hb,fun j hj => ?_⟩
 ·simp only [Option.map_some,Addr.add]
  by_cases h0 : m = 0
  ·simp [h0]
  ·simp [h0]
 ·rw [show off + m + j = off + (m + j) by omega,hcell _ (by omega)]
  simp [List.getD_eq_getElem?_getD]
theorem Sl.of_own {base : Nat} {e : TypeId} {c : Nat} (h : w.ownsRow base e 1 (.slice A n c) n (zs.map fun z => .int k z)) : Sl w w.heap.size k A n zs := by
 have hl : zs.length = n := by have := h.1;simpa using this
 refine ⟨hl,fun hn => ?_⟩
 obtain ⟨g,cap,hv,_,hlt⟩ := h.form hn
 have hA : A = some ⟨g,0,none⟩ := by injection hv
 subst hA
 refine ⟨g,0,rfl,hlt,fun j hj => ?_⟩
 have := h.cells (g := g) rfl j (.int k (zs.getD j 0)) (by simp [List.getD_eq_getElem?_getD,List.getElem?_eq_getElem (show j < zs.length by omega)])
 simp only [Addr.add] at this
 by_cases h0 : j = 0
 ·subst h0;simpa using this
 ·simpa [h0] using this
theorem Sl.str {P : Program} (src dst e : TypeId) (hs : P.underlying src = some (.slice e)) (he : P.underlying e = some (.int .u8)) (hd : P.underlying dst = some .string) (cap : Nat) (h : Sl w B .u8 A n zs) :
  (convert src dst (.slice A n cap)).run P w = .ok (.string (strOfNums zs)) w := by
 rcases Nat.eq_zero_or_pos n with h0 | h0
 ·subst h0
  have hz : zs = [] := List.eq_nil_of_length_eq_zero h.len
  subst hz
  cases A with
  | none => exact run_convert_bytes_nil w src e hs he 0 cap dst hd
  | some x =>
   rw [run_convert_bytes_string w src dst e _ 0 cap hs he hd,run_bytesToString w _ 0 cap [] (run_loadCells_list (P := P) w x [] (fun j v hj => by simp at hj))]
   rfl
 ·obtain ⟨b,off,rfl,_,hc⟩ := h.at_ h0
  exact run_convert_bytes_arg w src e hs he b off n cap zs h.len hc dst hd
end
section
variable {P : Program} {f : FuncId} {args : Array Value} {v : Value} {w : World}
end
end Mem
end Go.Proofs.YtbnkpnllgoghnaaGreat
