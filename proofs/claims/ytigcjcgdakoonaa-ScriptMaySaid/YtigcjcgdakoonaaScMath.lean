/-
  Scripts as mathematics (chapter 15): which pools may be, the call of three bytes, the step of four, the steps of many; no function is named here.
-/
import Derived.Test.YtigcjcgdakoonaaMdMath
namespace Go.Proofs.Ytigcjcgdakoonaa.ScM
open Go.Proofs.Ytigcjcgdakoonaa.MdM

/-- A pool: pages, frames, shards, clients. -/
structure Cf where
  p : Int
  f : Int
  s : Int
  c : Int
def Cf.may (c : Cf) : Prop := (1 ≤ c.p ∧ c.p ≤ 48) ∧ (c.s ≤ c.f ∧ c.f ≤ 32) ∧ (1 ≤ c.s ∧ c.s ≤ 4) ∧ 1 ≤ c.c ∧ c.c ≤ 6
instance (c : Cf) : Decidable c.may := by unfold Cf.may; infer_instance
/-- A step: kind, client, number, shard; its call; its bits. -/
structure Stp where
  k : Int
  c : Int
  n : Int
  t : Int
  o : MdOp
  b : List Int
def zop : MdOp := ⟨0, 0, 0, 0, 0, []⟩
def zst : Stp := ⟨0, 0, 0, 0, zop, []⟩
/-- The call of three bytes, if the pool may be. -/
def opM (c : Cf) (a b d : Int) : MdOp :=
  if a % 8 = 1 ∨ a % 8 = 5 ∨ a % 8 = 7 then ⟨a % 8 + 1, b % (c.p + 1), 0, 0, 0, []⟩
  else if a % 8 = 2 then ⟨3, 0, b % 7, d % 16, d / 16, []⟩
  else if a % 8 = 3 then ⟨4, 0, b % 7, d % 16, 0, List.replicate (d / 16).toNat b⟩
  else if a % 8 = 4 then ⟨5, 0, b % 7, 0, 0, []⟩
  else ⟨a % 8 + 1, 0, 0, 0, 0, []⟩
/-- The call of three bytes. -/
def opQ (c : Cf) (a b d : Int) : MdOp := if c.may then opM c a b d else zop
/-- The step of four bytes, if the pool may be. -/
def stepM (c : Cf) (k x y z : Int) : Stp :=
  if k % 8 < 3 then ⟨1, x % c.c, 0, 0, opM c (k / 8) y z, []⟩
  else if k % 8 < 6 then ⟨2, 0, 256 * x + y, 0, zop, []⟩
  else if k % 8 = 6 then (if y % 2 = 0 then ⟨3, 0, x % 16, 0, zop, []⟩ else ⟨5, 0, c.s + z % (32 - c.s + 1), 0, zop, []⟩)
  else if x = 255 then ⟨4, 0, 0, 0, zop, [y, z]⟩
  else ⟨6, 0, x % 16, y % c.s, zop, []⟩
/-- Step i of many bytes. -/
def stepAt (c : Cf) (zs : List Int) (i : Nat) : Stp := stepM c (zs.getD (4 * i) 0) (zs.getD (4 * i + 1) 0) (zs.getD (4 * i + 2) 0) (zs.getD (4 * i + 3) 0)
/-- How many steps there are. -/
def stepsN (c : Cf) (n : Nat) : Nat := if c.may then n / 4 else 0
theorem byte_at {zs : List Int} (h : Bytes zs) (i : Nat) : 0 ≤ zs.getD i 0 ∧ zs.getD i 0 < 256 := by
  rw [List.getD_eq_getElem?_getD]
  cases e : zs[i]? with
  | none => exact ⟨Int.le_refl _, by decide⟩
  | some v => exact h v (List.mem_of_getElem? e)
theorem rep_bytes {b : Int} (h : 0 ≤ b ∧ b < 256) (n : Nat) : Bytes (List.replicate n b) := fun c hc => by
  rw [(List.mem_replicate.1 hc).2]
  exact h
theorem opM_bytes {c : Cf} {a b d : Int} (h : 0 ≤ b ∧ b < 256) : Bytes (opM c a b d).d := by
  unfold opM
  split
  · exact fun _ h => by cases h
  · split
    · exact fun _ h => by cases h
    · split
      · exact rep_bytes h _
      · split
        · exact fun _ h => by cases h
        · exact fun _ h => by cases h
end Go.Proofs.Ytigcjcgdakoonaa.ScM
