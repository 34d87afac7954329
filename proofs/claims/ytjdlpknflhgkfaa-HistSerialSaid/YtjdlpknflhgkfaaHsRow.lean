/-
  A history that is in the making: a row of events of the call's own, with what their slices point to.
-/
import Derived.Test.YtjdlpknflhgkfaaHsBy
import Derived.Test.YtjdlpknflhgkfaaMdMk
namespace Go.Proofs.Ytjdlpknflhgkfaa.HsR
open Go.ChangeShapes Go.WideShapes Go.ChangeAt Go.RowKit
open Go.Proofs.Ytjdlpknflhgkfaa.Mem Go.Proofs.Ytjdlpknflhgkfaa.Blk Go.Proofs.Ytjdlpknflhgkfaa.Cells Go.Proofs.Ytjdlpknflhgkfaa.Orow Go.Proofs.Ytjdlpknflhgkfaa.MdM Go.Proofs.Ytjdlpknflhgkfaa.MdC Go.Proofs.Ytjdlpknflhgkfaa.MdK Go.Proofs.Ytjdlpknflhgkfaa.HsM Go.Proofs.Ytjdlpknflhgkfaa.HsE Go.Proofs.Ytjdlpknflhgkfaa.HsB Go.Proofs.Ytjdlpknflhgkfaa.PmC Go.Proofs.Ytjdlpknflhgkfaa.Stages

/-- Where an event's two slices stand. -/
structure Ad where
  D : Option Addr
  dl : Nat
  dc : Nat
  A : Option Addr
  al : Nat
  ac : Nat
abbrev evq (x : Ev) (d : Ad) : List Value := evl x d.D d.dl d.dc d.A d.al d.ac
def evf (L : Nat → Ev) (Q : Nat → Ad) (j : Nat) : Value := (evq (L (j / 14)) (Q (j / 14))).getD (j % 14) (.int .i64 0)
abbrev EvQ (w : World) (X : Nat → Prop) (x : Ev) (d : Ad) : Prop := EvD w X x d.D d.dl d.dc d.A d.al d.ac
theorem evf_at (L : Nat → Ev) (Q : Nat → Ad) (i j : Nat) (hj : j < 14) : evf L Q (i * 14 + j) = (evq (L i) (Q i)).getD j (.int .i64 0) := by
  unfold evf
  rw [show (i * 14 + j) / 14 = i by omega, show (i * 14 + j) % 14 = j by omega]
theorem ev_inforows : (Try.prog.info? 29).map (fun i => (i.zero, i.size, i.bytes)) = some (some (.agg #[.int .i64 0, .int .i64 0, .int .i64 0, .int .i64 0, .int .i64 0, .int .i64 0, .slice none 0 0, .int .i64 0, .int .i64 0, .int .i64 0, .slice none 0 0, .int .i64 0, .int .i64 0, .int .i64 0]), 14, 144) := by kernel_rfl
/-- The value v: n events L; their slices lie in blocks of Y, and not in the row's own; the row's own block lies from B on. -/
structure HRow (w : World) (B : Nat) (Y : Nat → Prop) (v : Value) (n : Nat) (L : Nat → Ev) (Q : Nat → Ad) : Prop where
  os : OS w (B ≤ ·) v 29 14 n (evf L Q)
  dat : ∀ i, i < n → EvQ w (fun k => v.ownBlock ≠ some k ∧ Y k) (L i) (Q i)
section
variable {w w' : World} {B n : Nat} {Y F G : Nat → Prop} {v : Value} {L : Nat → Ev} {Q : Nat → Ad}
theorem HRow.nil (w : World) (B : Nat) (Y : Nat → Prop) (L : Nat → Ev) (Q : Nat → Ad) : HRow w B Y (.slice none 0 0) 0 L Q := ⟨.inl ⟨rfl, rfl⟩, fun i hi => absurd hi (Nat.not_lt_zero i)⟩
theorem HRow.kept (h : HRow w B Y v n L Q) (hk : Kept F w w') (ho : ∀ k, v.ownBlock = some k → ¬ F k) (hY : ∀ k, k < w.heap.size → v.ownBlock ≠ some k → Y k → ¬ F k) : HRow w' B Y v n L Q :=
  ⟨os_keep h.os hk ho, fun i hi => (h.dat i hi).kept hk fun k hk' hx => hY k hk' hx.1 hx.2⟩
theorem HRow.grow (h : HRow w B Y v n L Q) (hk : Grow w w') : HRow w' B Y v n L Q := h.kept hk (fun _ _ => id) fun _ _ _ _ => id
theorem HRow.own (h : HRow w B Y v n L Q) {k : Nat} (hk : v.ownBlock = some k) : B ≤ k ∧ k < w.heap.size := by
  obtain ⟨_, h2⟩ := h.os.own
  exact h2 k hk
theorem HRow.form (h : HRow w B Y v n L Q) : (v = .slice none 0 0 ∧ n = 0) ∨ ∃ g cap, v = .slice (some ⟨g, 0, none⟩) n cap ∧ OR w g 29 14 cap n (evf L Q) ∧ B ≤ g := h.os
theorem HRow.slice (h : HRow w B Y v n L Q) : ∃ A c, v = .slice A n c ∧ n ≤ c ∧ c ≤ maxLen := by
  rcases h.form with ⟨rfl, rfl⟩ | ⟨g, cap, rfl, ho, _⟩
  · exact ⟨none, 0, rfl, Nat.le_refl _, Nat.zero_le _⟩
  · exact ⟨_, cap, rfl, ho.le.1, ho.le.2⟩
theorem HRow.evs {A : Option Addr} {c : Nat} (h : HRow w B Y v n L Q) (e : v = .slice A n c) : EvsAt w Any A n L := fun hn => by
  rcases h.form with ⟨_, rfl⟩ | ⟨g, cap, e2, ho, _⟩
  · omega
  · rw [e2] at e
    injection e with e _ _
    subst e
    refine ⟨g, 0, rfl, fun i hi => ⟨_, _, _, _, _, _, fun j x hj => ?_, (h.dat i hi).mono fun _ _ _ => trivial⟩⟩
    have hj14 : j < 14 := (List.getElem?_eq_some_iff.1 hj).1
    rw [Nat.zero_add, ho.cell (i := i * 14 + j) (by omega), evf_at _ _ _ _ hj14, List.getD_eq_getElem?_getD]
    exact congrArg some (by rw [show (evq (L i) (Q i))[j]? = some x from hj]; rfl)
/-- No state lies in the row. -/
theorem pat_row {a : Md} {x : Value} {g cap s m : Nat} {f : Nat → Value} (h : PAt w G x a) (hb : OR w g 29 s cap m f) : PAt w (fun k => G k ∧ k ≠ g) x a := by
  have ne : ∀ {b t s' cap' m' : Nat} {f' : Nat → Value}, OR w b t s' cap' m' f' → t ≠ 29 → b ≠ g := fun {b t s' cap' m' f'} h1 ht e => by
    subst e
    obtain ⟨c1, h1, _⟩ := h1
    obtain ⟨c2, h2, _⟩ := hb
    have e := h1.symm.trans h2
    injection e with e
    injection e with _ e _
    exact ht e
  obtain ⟨gT, cT, gB, cB, gH, cH, qb, cb, q, cp, e, hm⟩ := h.mem
  exact ⟨h.good, gT, cT, gB, cB, gH, cH, qb, cb, q, cp, e, hm.tb, hm.bb, hm.br, hm.hb, hm.rb, hm.bnj, hm.inj, hm.ne, hm.nb, hm.nq, hm.nx,
    ⟨⟨hm.inG.1, ne hm.tb (by decide)⟩, ⟨hm.inG.2.1, ne hm.bb (by decide)⟩, hm.inG.2.2, ne hm.hb (by decide)⟩, fun i hi => ⟨hm.bG i hi, ne (hm.br i hi) (by decide)⟩, fun i hi => ⟨hm.qG i hi, ne (hm.rb i hi) (by decide)⟩⟩
theorem blk_row {g b cap s m : Nat} {t : TypeId} {f : Nat → Value} {cs : List Value} (hb : Blk w b t cs) (ho : OR w g 29 s cap m f) (ht : t ≠ 29) : b ≠ g := fun e => by
  subst e
  obtain ⟨c, hc, _⟩ := ho
  have e := hb.symm.trans hc
  injection e with e
  injection e with _ e _
  exact ht e
def updE (L : Nat → Ev) (n : Nat) (x : Ev) (i : Nat) : Ev := if i = n then x else L i
def updA (Q : Nat → Ad) (n : Nat) (d : Ad) (i : Nat) : Ad := if i = n then d else Q i
theorem updE_lt {L : Nat → Ev} {n i : Nat} {x : Ev} (h : i < n) : updE L n x i = L i := if_neg (Nat.ne_of_lt h)
theorem updE_at (L : Nat → Ev) (n : Nat) (x : Ev) : updE L n x n = x := if_pos rfl
theorem updA_lt {Q : Nat → Ad} {n i : Nat} {d : Ad} (h : i < n) : updA Q n d i = Q i := if_neg (Nat.ne_of_lt h)
theorem updA_at (Q : Nat → Ad) (n : Nat) (d : Ad) : updA Q n d n = d := if_pos rfl
set_option maxRecDepth 10000 in
/-- 'append(h, x)', x an event that lies in a block of its own. -/
theorem HRow.push (ty : TypeId) (h : HRow w B Y v n L Q) (hn : n ≤ 100000) (vb c : Nat) {x : Ev} {d : Ad} (hx : ∀ j u, (evq x d)[j]? = some u → w.cell? ⟨vb, j, none⟩ = some u) (hd : EvQ w (fun k => v.ownBlock ≠ some k ∧ Y k) x d) (hBs : B ≤ w.heap.size) :
    ∃ g cap w', (Builtin.append_ #[30, 30] ty #[v, .slice (some ⟨vb, 0, none⟩) 1 c]).run Try.prog w = .ok (.slice (some ⟨g, 0, none⟩) (n + 1) cap) w' ∧ HRow w' B Y (.slice (some ⟨g, 0, none⟩) (n + 1) cap) (n + 1) (updE L n x) (updA Q n d) ∧ Kept (fun k => v.ownBlock = some k) w w' ∧ (v.ownBlock = some g ∨ g = w.heap.size) := by
  obtain ⟨i, hi, hz, hsz, hby⟩ := info_parts ev_inforows
  have hcell : ∀ j, j < 14 → (evq x d)[j]? = some ((evq x d).getD j (.int .i64 0)) := fun j hj => by
    rw [List.getD_eq_getElem?_getD, List.getElem?_eq_getElem (by exact hj)]; rfl
  obtain ⟨g, cap, w', hr, ho, hk, hg⟩ := append_or (P := Try.prog) 30 ty i _ 144 Try.underlying30 hi hz hsz hby rfl (by decide) h.os hn (by decide) vb c (u := fun j => (evq x d).getD j (.int .i64 0)) (fun j hj => hx j _ (hcell j hj)) (fun j hj => by
    rcases (by omega : j = 0 ∨ j = 1 ∨ j = 2 ∨ j = 3 ∨ j = 4 ∨ j = 5 ∨ j = 6 ∨ j = 7 ∨ j = 8 ∨ j = 9 ∨ j = 10 ∨ j = 11 ∨ j = 12 ∨ j = 13) with e | e | e | e | e | e | e | e | e | e | e | e | e | e <;> subst e <;> rfl)
  have hown : ∀ k, (Value.slice (some ⟨g, 0, none⟩) (n + 1) cap).ownBlock = some k → k = g := fun k e => by injection e with e; exact e.symm
  have mono : ∀ (y : Ev) (q : Ad), EvQ w (fun k => v.ownBlock ≠ some k ∧ Y k) y q → EvQ w' (fun k => (Value.slice (some ⟨g, 0, none⟩) (n + 1) cap).ownBlock ≠ some k ∧ Y k) y q := fun y q hq => by
    refine EvD.kept (EvD.mono (Y := fun k => (v.ownBlock ≠ some k ∧ (Value.slice (some ⟨g, 0, none⟩) (n + 1) cap).ownBlock ≠ some k) ∧ Y k) hq fun k hk' hx => ⟨⟨hx.1, fun e => ?_⟩, hx.2⟩) hk (fun k _ hx e => hx.1.1 e) |>.mono fun k _ hx => ⟨hx.1.2, hx.2⟩
    have e := hown k e
    rcases hg with e2 | e2
    · rw [← e] at e2
      exact hx.1 e2
    · omega
  refine ⟨g, cap, w', hr, ⟨.inr ⟨g, cap, rfl, ho.congr fun j hj => ?_, ?_⟩, fun j hj => ?_⟩, hk, hg⟩
  · unfold joined
    by_cases hjn : j < n * 14
    · rw [if_pos hjn]
      unfold evf
      rw [updE_lt (by omega), updA_lt (by omega)]
    · rw [if_neg hjn]
      unfold evf
      rw [show j / 14 = n by omega, updE_at, updA_at, show j % 14 = j - n * 14 by omega]
  · rcases hg with e | e
    · exact (h.own e).1
    · omega
  · by_cases e : j = n
    · subst e
      rw [updE_at, updA_at]
      exact mono _ _ hd
    · rw [updE_lt (by omega), updA_lt (by omega)]
      exact mono _ _ (h.dat j (by omega))
/-- A call of the row is another event now: cells that are written stand so. -/
theorem evf_upd (L : Nat → Ev) (Q : Nat → Ad) (i : Nat) (x : Ev) (d : Ad) (j : Nat) : evf (updE L i x) (updA Q i d) j = if j / 14 = i then (evq x d).getD (j % 14) (.int .i64 0) else evf L Q j := by
  unfold evf updE updA
  by_cases e : j / 14 = i
  · rw [if_pos e, if_pos e, if_pos e]
  · rw [if_neg e, if_neg e, if_neg e]
end
#print axioms HRow.push
end Go.Proofs.Ytjdlpknflhgkfaa.HsR
