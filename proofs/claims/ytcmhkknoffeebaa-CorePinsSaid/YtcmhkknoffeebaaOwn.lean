/-
  append of one number to a row of the call's own, beside a ring: nothing turns but that row.
-/
import Derived.Test.YtcmhkknoffeebaaRingForget
namespace Go.Proofs.Ytcmhkknoffeebaa.Own
open Go.ChangeShapes Go.WideShapes Go.ChangeAt Go.RowKit Go.Conc
open Go.Proofs.Ytcmhkknoffeebaa.Mem Go.Proofs.Ytcmhkknoffeebaa.Blk Go.Proofs.Ytcmhkknoffeebaa.Chan Go.Proofs.Ytcmhkknoffeebaa.RingC Go.Proofs.Ytcmhkknoffeebaa.RingD Go.Proofs.Ytcmhkknoffeebaa.RingT Go.Proofs.Ytcmhkknoffeebaa.RingF Go.Proofs.Ytcmhkknoffeebaa.Stages

theorem wpList_append_kept {P : Program} {w : World} {ops : Array Oper} {rest : List Oper} {o : Oper} {a : Act} {Q : Exit → Act → World → Prop} (hgd : o.guard = none) (s x : Operand) (t : TypeId)
    (ho : o.op = .call { callee := .builtin .append, args := #[s, x], argTypes := #[t, t] }) (base : Nat) (e : TypeId) (z : Value) (bytes : Nat) (ht : P.underlying t = some (.slice e))
    (hinfo : (P.info? e).map (fun i => (i.zero, i.size, i.bytes)) = some (some z, 1, bytes)) (hzs : z.cells.size = 1)
    (v : Value) (n : Nat) (xs : List Value) (hs : a.eval s = v) (hown : w.ownsRow base e 1 v n xs) (b : Nat) (u : Value) (hx : a.eval x = .slice (some ⟨b, 0, none⟩) 1 1) (hb : w.cell? ⟨b, 0, none⟩ = some u) (hu : u.oneCell' = true)
    (h63 : n + 1 ≤ maxLen) (hbytes : (n + 1) * bytes ≤ 140737488355328) (hbase : base ≤ w.heap.size)
    (h : ∀ g cap w', w'.ownsRow base e 1 (.slice (some ⟨g, 0, none⟩) (n + 1) cap) (n + 1) (xs ++ [u]) → Kept (fun k => v.ownBlock = some k) w w' → wpList P ops Q rest (a.put o.dst (.slice (some ⟨g, 0, none⟩) (n + 1) cap)) w') : wpList P ops Q (o :: rest) a w := by
  obtain ⟨i, hi, hz, hsz, hby⟩ := info_parts hinfo
  refine wpList_append_lies w hgd s x t ho base e i z 1 bytes ht hi hz hsz hby hzs (by omega) v n xs hs hown ⟨b, 0, none⟩ 1 1 [u] hx rfl ?_ ?_ (by omega) h63 hbytes hbase _ rfl ?_
  · intro j y hj
    cases j with
    | zero => simp at hj; subst hj; simpa [Addr.add] using hb
    | succ j => simp at hj
  · intro y hy
    simp at hy
    subst hy
    exact hu
  · intro g cap w' h1 h2 h3 h4
    exact h g cap w' h1 ((Kept.refl _ w).grown h2 fun k hk _ => hk)

section
variable {w w' : World} {B d base n : Nat} {v : Value} {xs : List Value} {zs : List Int}
/-- A ring beside a row that is appended to. -/
theorem ring_beside (h : RingAt w B d zs) (hown : w.ownsRow base 3 1 v n xs) (hd : d < base) (hk : Kept (fun k => v.ownBlock = some k) w w') : RingAt w' B d zs :=
  h.kept hk (fun e => by have := (hown.lt d e).1; omega) fun k e hc => by
    rcases hown.2 with ⟨rfl, _⟩ | ⟨g, cap, cur, rfl, _, hb, _⟩
    · cases e
    · injection e with e
      subst e
      exact notChan_cells hb hc
end
#print axioms ring_beside
end Go.Proofs.Ytcmhkknoffeebaa.Own
