/-
  The laws' histories (chapter 14): a row in the making, finish, Make, restore and Good (XHsRow, XHsFin, XHsMk, XMdNear, XHsMake, XHsRm, XHsRest as one text).
-/
import Derived.Test.YtjdlpknflhgkfaaHsBy
import Derived.Test.YtjdlpknflhgkfaaMdMk
import Derived.Test.YtjdlpknflhgkfaaHsRS
import Derived.Test.YtjdlpknflhgkfaaMdCalls
import Derived.Test.YtjdlpknflhgkfaaMdNew
import Derived.Deep.DeepCutAuto
import Derived.Test.YtjdlpknflhgkfaaHsTop
import Derived.Maps.AppendAt
import Derived.Deep.AppendSrc
namespace Go.Proofs.Ytjdlpknflhgkfaa.HsR
open Go.ChangeShapes Go.WideShapes Go.ChangeAt Go.RowKit
open Go.Proofs.Ytjdlpknflhgkfaa.Mem Go.Proofs.Ytjdlpknflhgkfaa.Blk Go.Proofs.Ytjdlpknflhgkfaa.Cells Go.Proofs.Ytjdlpknflhgkfaa.Orow Go.Proofs.Ytjdlpknflhgkfaa.MdM Go.Proofs.Ytjdlpknflhgkfaa.MdC Go.Proofs.Ytjdlpknflhgkfaa.MdK Go.Proofs.Ytjdlpknflhgkfaa.HsM Go.Proofs.Ytjdlpknflhgkfaa.HsE Go.Proofs.Ytjdlpknflhgkfaa.HsB Go.Proofs.Ytjdlpknflhgkfaa.PmC Go.Proofs.Ytjdlpknflhgkfaa.Stages

/-- Where an event's two slices stand. -/
structure Ad where
  D : Option Addr
  dl : Nat
  dc : Nat
  A : Option Addr
  al : Nat
  ac : Nat
abbrev evq (x : Ev) (d : Ad) : List Value := evl x d.D d.dl d.dc d.A d.al d.ac
def evf (L : Nat → Ev) (Q : Nat → Ad) (j : Nat) : Value := (evq (L (j / 14)) (Q (j / 14))).getD (j % 14) (.int .i64 0)
abbrev EvQ (w : World) (X : Nat → Prop) (x : Ev) (d : Ad) : Prop := EvD w X x d.D d.dl d.dc d.A d.al d.ac
theorem evf_at (L : Nat → Ev) (Q : Nat → Ad) (i j : Nat) (hj : j < 14) : evf L Q (i * 14 + j) = (evq (L i) (Q i)).getD j (.int .i64 0) := by
  unfold evf
  rw [show (i * 14 + j) / 14 = i by omega, show (i * 14 + j) % 14 = j by omega]
theorem ev_inforows : (Try.prog.info? 29).map (fun i => (i.zero, i.size, i.bytes)) = some (some (.agg #[.int .i64 0, .int .i64 0, .int .i64 0, .int .i64 0, .int .i64 0, .int .i64 0, .slice none 0 0, .int .i64 0, .int .i64 0, .int .i64 0, .slice none 0 0, .int .i64 0, .int .i64 0, .int .i64 0]), 14, 144) := by kernel_rfl
/-- The value v: n events L; their slices lie in blocks of Y, and not in the row's own; the row's own block lies from B on. -/
structure HRow (w : World) (B : Nat) (Y : Nat → Prop) (v : Value) (n : Nat) (L : Nat → Ev) (Q : Nat → Ad) : Prop where
  os : OS w (B ≤ ·) v 29 14 n (evf L Q)
  dat : ∀ i, i < n → EvQ w (fun k => v.ownBlock ≠ some k ∧ Y k) (L i) (Q i)
section
variable {w w' : World} {B n : Nat} {Y F G : Nat → Prop} {v : Value} {L : Nat → Ev} {Q : Nat → Ad}
theorem HRow.nil (w : World) (B : Nat) (Y : Nat → Prop) (L : Nat → Ev) (Q : Nat → Ad) : HRow w B Y (.slice none 0 0) 0 L Q := ⟨.inl ⟨rfl, rfl⟩, fun i hi => absurd hi (Nat.not_lt_zero i)⟩
theorem HRow.kept (h : HRow w B Y v n L Q) (hk : Kept F w w') (ho : ∀ k, v.ownBlock = some k → ¬ F k) (hY : ∀ k, k < w.heap.size → v.ownBlock ≠ some k → Y k → ¬ F k) : HRow w' B Y v n L Q :=
  ⟨os_keep h.os hk ho, fun i hi => (h.dat i hi).kept hk fun k hk' hx => hY k hk' hx.1 hx.2⟩
theorem HRow.grow (h : HRow w B Y v n L Q) (hk : Grow w w') : HRow w' B Y v n L Q := h.kept hk (fun _ _ => id) fun _ _ _ _ => id
theorem HRow.own (h : HRow w B Y v n L Q) {k : Nat} (hk : v.ownBlock = some k) : B ≤ k ∧ k < w.heap.size := by
  obtain ⟨_, h2⟩ := h.os.own
  exact h2 k hk
theorem HRow.form (h : HRow w B Y v n L Q) : (v = .slice none 0 0 ∧ n = 0) ∨ ∃ g cap, v = .slice (some ⟨g, 0, none⟩) n cap ∧ OR w g 29 14 cap n (evf L Q) ∧ B ≤ g := h.os
theorem HRow.slice (h : HRow w B Y v n L Q) : ∃ A c, v = .slice A n c ∧ n ≤ c ∧ c ≤ maxLen := by
  rcases h.form with ⟨rfl, rfl⟩ | ⟨g, cap, rfl, ho, _⟩
  · exact ⟨none, 0, rfl, Nat.le_refl _, Nat.zero_le _⟩
  · exact ⟨_, cap, rfl, ho.le.1, ho.le.2⟩
theorem HRow.evs {A : Option Addr} {c : Nat} (h : HRow w B Y v n L Q) (e : v = .slice A n c) : EvsAt w Any A n L := fun hn => by
  rcases h.form with ⟨_, rfl⟩ | ⟨g, cap, e2, ho, _⟩
  · omega
  · rw [e2] at e
    injection e with e _ _
    subst e
    refine ⟨g, 0, rfl, fun i hi => ⟨_, _, _, _, _, _, fun j x hj => ?_, (h.dat i hi).mono fun _ _ _ => trivial⟩⟩
    have hj14 : j < 14 := (List.getElem?_eq_some_iff.1 hj).1
    rw [Nat.zero_add, ho.cell (i := i * 14 + j) (by omega), evf_at _ _ _ _ hj14, List.getD_eq_getElem?_getD]
    exact congrArg some (by rw [show (evq (L i) (Q i))[j]? = some x from hj]; rfl)
/-- No state lies in the row. -/
theorem pat_row {a : Md} {x : Value} {g cap s m : Nat} {f : Nat → Value} (h : PAt w G x a) (hb : OR w g 29 s cap m f) : PAt w (fun k => G k ∧ k ≠ g) x a := by
  have ne : ∀ {b t s' cap' m' : Nat} {f' : Nat → Value}, OR w b t s' cap' m' f' → t ≠ 29 → b ≠ g := fun {b t s' cap' m' f'} h1 ht e => by
    subst e
    obtain ⟨c1, h1, _⟩ := h1
    obtain ⟨c2, h2, _⟩ := hb
    have e := h1.symm.trans h2
    injection e with e
    injection e with _ e _
    exact ht e
  obtain ⟨gT, cT, gB, cB, gH, cH, qb, cb, q, cp, e, hm⟩ := h.mem
  exact ⟨h.good, gT, cT, gB, cB, gH, cH, qb, cb, q, cp, e, hm.tb, hm.bb, hm.br, hm.hb, hm.rb, hm.bnj, hm.inj, hm.ne, hm.nb, hm.nq, hm.nx,
    ⟨⟨hm.inG.1, ne hm.tb (by decide)⟩, ⟨hm.inG.2.1, ne hm.bb (by decide)⟩, hm.inG.2.2, ne hm.hb (by decide)⟩, fun i hi => ⟨hm.bG i hi, ne (hm.br i hi) (by decide)⟩, fun i hi => ⟨hm.qG i hi, ne (hm.rb i hi) (by decide)⟩⟩
theorem blk_row {g b cap s m : Nat} {t : TypeId} {f : Nat → Value} {cs : List Value} (hb : Blk w b t cs) (ho : OR w g 29 s cap m f) (ht : t ≠ 29) : b ≠ g := fun e => by
  subst e
  obtain ⟨c, hc, _⟩ := ho
  have e := hb.symm.trans hc
  injection e with e
  injection e with _ e _
  exact ht e
def updE (L : Nat → Ev) (n : Nat) (x : Ev) (i : Nat) : Ev := if i = n then x else L i
def updA (Q : Nat → Ad) (n : Nat) (d : Ad) (i : Nat) : Ad := if i = n then d else Q i
theorem updE_lt {L : Nat → Ev} {n i : Nat} {x : Ev} (h : i < n) : updE L n x i = L i := if_neg (Nat.ne_of_lt h)
theorem updE_at (L : Nat → Ev) (n : Nat) (x : Ev) : updE L n x n = x := if_pos rfl
theorem updA_lt {Q : Nat → Ad} {n i : Nat} {d : Ad} (h : i < n) : updA Q n d i = Q i := if_neg (Nat.ne_of_lt h)
theorem updA_at (Q : Nat → Ad) (n : Nat) (d : Ad) : updA Q n d n = d := if_pos rfl
set_option maxRecDepth 10000 in
/-- 'append(h, x)', x an event that lies in a block of its own. -/
theorem HRow.push (ty : TypeId) (h : HRow w B Y v n L Q) (hn : n ≤ 100000) (vb c : Nat) {x : Ev} {d : Ad} (hx : ∀ j u, (evq x d)[j]? = some u → w.cell? ⟨vb, j, none⟩ = some u) (hd : EvQ w (fun k => v.ownBlock ≠ some k ∧ Y k) x d) (hBs : B ≤ w.heap.size) :
    ∃ g cap w', (Builtin.append_ #[30, 30] ty #[v, .slice (some ⟨vb, 0, none⟩) 1 c]).run Try.prog w = .ok (.slice (some ⟨g, 0, none⟩) (n + 1) cap) w' ∧ HRow w' B Y (.slice (some ⟨g, 0, none⟩) (n + 1) cap) (n + 1) (updE L n x) (updA Q n d) ∧ Kept (fun k => v.ownBlock = some k) w w' ∧ (v.ownBlock = some g ∨ g = w.heap.size) := by
  obtain ⟨i, hi, hz, hsz, hby⟩ := info_parts ev_inforows
  have hcell : ∀ j, j < 14 → (evq x d)[j]? = some ((evq x d).getD j (.int .i64 0)) := fun j hj => by
    rw [List.getD_eq_getElem?_getD, List.getElem?_eq_getElem (by exact hj)]; rfl
  obtain ⟨g, cap, w', hr, ho, hk, hg⟩ := append_or (P := Try.prog) 30 ty i _ 144 Try.underlying30 hi hz hsz hby rfl (by decide) h.os hn (by decide) vb c (u := fun j => (evq x d).getD j (.int .i64 0)) (fun j hj => hx j _ (hcell j hj)) (fun j hj => by
    rcases (by omega : j = 0 ∨ j = 1 ∨ j = 2 ∨ j = 3 ∨ j = 4 ∨ j = 5 ∨ j = 6 ∨ j = 7 ∨ j = 8 ∨ j = 9 ∨ j = 10 ∨ j = 11 ∨ j = 12 ∨ j = 13) with e | e | e | e | e | e | e | e | e | e | e | e | e | e <;> subst e <;> rfl)
  have hown : ∀ k, (Value.slice (some ⟨g, 0, none⟩) (n + 1) cap).ownBlock = some k → k = g := fun k e => by injection e with e; exact e.symm
  have mono : ∀ (y : Ev) (q : Ad), EvQ w (fun k => v.ownBlock ≠ some k ∧ Y k) y q → EvQ w' (fun k => (Value.slice (some ⟨g, 0, none⟩) (n + 1) cap).ownBlock ≠ some k ∧ Y k) y q := fun y q hq => by
    refine EvD.kept (EvD.mono (Y := fun k => (v.ownBlock ≠ some k ∧ (Value.slice (some ⟨g, 0, none⟩) (n + 1) cap).ownBlock ≠ some k) ∧ Y k) hq fun k hk' hx => ⟨⟨hx.1, fun e => ?_⟩, hx.2⟩) hk (fun k _ hx e => hx.1.1 e) |>.mono fun k _ hx => ⟨hx.1.2, hx.2⟩
    have e := hown k e
    rcases hg with e2 | e2
    · rw [← e] at e2
      exact hx.1 e2
    · omega
  refine ⟨g, cap, w', hr, ⟨.inr ⟨g, cap, rfl, ho.congr fun j hj => ?_, ?_⟩, fun j hj => ?_⟩, hk, hg⟩
  · unfold joined
    by_cases hjn : j < n * 14
    · rw [if_pos hjn]
      unfold evf
      rw [updE_lt (by omega), updA_lt (by omega)]
    · rw [if_neg hjn]
      unfold evf
      rw [show j / 14 = n by omega, updE_at, updA_at, show j % 14 = j - n * 14 by omega]
  · rcases hg with e | e
    · exact (h.own e).1
    · omega
  · by_cases e : j = n
    · subst e
      rw [updE_at, updA_at]
      exact mono _ _ hd
    · rw [updE_lt (by omega), updA_lt (by omega)]
      exact mono _ _ (h.dat j (by omega))
/-- A call of the row is another event now: cells that are written stand so. -/
theorem evf_upd (L : Nat → Ev) (Q : Nat → Ad) (i : Nat) (x : Ev) (d : Ad) (j : Nat) : evf (updE L i x) (updA Q i d) j = if j / 14 = i then (evq x d).getD (j % 14) (.int .i64 0) else evf L Q j := by
  unfold evf updE updA
  by_cases e : j / 14 = i
  · rw [if_pos e, if_pos e, if_pos e]
  · rw [if_neg e, if_neg e, if_neg e]
end
#print axioms HRow.push
end Go.Proofs.Ytjdlpknflhgkfaa.HsR
namespace Go.Proofs.Ytjdlpknflhgkfaa.HsF
open Go.ChangeShapes Go.WideShapes Go.ChangeAt Go.RowKit
open Go.Proofs.Ytjdlpknflhgkfaa.Mem Go.Proofs.Ytjdlpknflhgkfaa.Blk Go.Proofs.Ytjdlpknflhgkfaa.Cells Go.Proofs.Ytjdlpknflhgkfaa.Orow Go.Proofs.Ytjdlpknflhgkfaa.MdM Go.Proofs.Ytjdlpknflhgkfaa.MdC Go.Proofs.Ytjdlpknflhgkfaa.MdD Go.Proofs.Ytjdlpknflhgkfaa.MdH Go.Proofs.Ytjdlpknflhgkfaa.HsM Go.Proofs.Ytjdlpknflhgkfaa.HsE Go.Proofs.Ytjdlpknflhgkfaa.HsB Go.Proofs.Ytjdlpknflhgkfaa.HsR Go.Proofs.Ytjdlpknflhgkfaa.HsRS Go.Proofs.Ytjdlpknflhgkfaa.PmC Go.Proofs.Ytjdlpknflhgkfaa.Stages

abbrev setS (x : Ev) (z : Int) : Ev := ⟨x.c, x.o, x.r, x.b, z, x.e⟩
abbrev setE (x : Ev) (z : Int) : Ev := ⟨x.c, x.o, x.r, x.b, x.s, z⟩
abbrev setR (x : Ev) (r : Re) : Ev := ⟨x.c, x.o, r, x.b, x.s, x.e⟩
abbrev setA (d : Ad) (A : Option Addr) (al ac : Nat) : Ad := ⟨d.D, d.dl, d.dc, A, al, ac⟩
section
variable {w w' : World} {B n i g cap : Nat} {Y F G : Nat → Prop} {v : Value} {L : Nat → Ev} {Q : Nat → Ad} {x : Ev} {d : Ad}
/-- One event of the row stands anew. -/
theorem row_re {f : Nat → Value} (h : HRow w B Y (.slice (some ⟨g, 0, none⟩) n cap) n L Q) (hk : Kept (· = g) w w') (ho : OR w' g 29 14 cap n f) (hf : ∀ j, j < n * 14 → f j = evf (updE L i x) (updA Q i d) j) (hd : EvQ w' (fun k => (Value.slice (some ⟨g, 0, none⟩) n cap).ownBlock ≠ some k ∧ Y k) x d) : HRow w' B Y (.slice (some ⟨g, 0, none⟩) n cap) n (updE L i x) (updA Q i d) := by
  refine ⟨.inr ⟨g, cap, rfl, ho.congr hf, (h.own rfl).1⟩, fun k hk' => ?_⟩
  by_cases e : k = i
  · subst e
    rw [updE_at, updA_at]
    exact hd
  · rw [show updE L i x k = L k from if_neg e, show updA Q i d k = Q k from if_neg e]
    exact (h.dat k hk').kept hk fun b _ hx e => hx.1 (by rw [e]; rfl)
theorem evq_s (x : Ev) (d : Ad) (z : Int) {m : Nat} (hm : m < 14) : (evq (setS x z) d).getD m (.int .i64 0) = if m = 12 then .int .i64 z else (evq x d).getD m (.int .i64 0) := by
  rcases (by omega : m = 0 ∨ m = 1 ∨ m = 2 ∨ m = 3 ∨ m = 4 ∨ m = 5 ∨ m = 6 ∨ m = 7 ∨ m = 8 ∨ m = 9 ∨ m = 10 ∨ m = 11 ∨ m = 12 ∨ m = 13) with e | e | e | e | e | e | e | e | e | e | e | e | e | e <;> subst e <;> rfl
theorem evq_e (x : Ev) (d : Ad) (z : Int) {m : Nat} (hm : m < 14) : (evq (setE x z) d).getD m (.int .i64 0) = if m = 13 then .int .i64 z else (evq x d).getD m (.int .i64 0) := by
  rcases (by omega : m = 0 ∨ m = 1 ∨ m = 2 ∨ m = 3 ∨ m = 4 ∨ m = 5 ∨ m = 6 ∨ m = 7 ∨ m = 8 ∨ m = 9 ∨ m = 10 ∨ m = 11 ∨ m = 12 ∨ m = 13) with e | e | e | e | e | e | e | e | e | e | e | e | e | e <;> subst e <;> rfl
theorem evq_r (x : Ev) (d : Ad) (r : Re) (A : Option Addr) (al ac : Nat) {m : Nat} (hm : m < 14) : (evq (setR x r) (setA d A al ac)).getD m (.int .i64 0) = if m = 10 then .slice A al ac else if m = 9 then .int .i64 r.h else if m = 8 then .int .i64 r.p else if m = 7 then .int .i64 r.c else (evq x d).getD m (.int .i64 0) := by
  rcases (by omega : m = 0 ∨ m = 1 ∨ m = 2 ∨ m = 3 ∨ m = 4 ∨ m = 5 ∨ m = 6 ∨ m = 7 ∨ m = 8 ∨ m = 9 ∨ m = 10 ∨ m = 11 ∨ m = 12 ∨ m = 13) with e | e | e | e | e | e | e | e | e | e | e | e | e | e <;> subst e <;> rfl
theorem updA_self (Q : Nat → Ad) (i : Nat) : updA Q i (Q i) = Q := by
  funext k
  unfold updA
  split
  · rename_i e; rw [e]
  · rfl
theorem updE_updE (L : Nat → Ev) (i : Nat) (x y : Ev) : updE (updE L i x) i y = updE L i y := by
  funext k
  unfold updE
  split <;> rfl
theorem row_blk (h : HRow w B Y (.slice (some ⟨g, 0, none⟩) n cap) n L Q) (_hi : i < n) : OR w g 29 14 cap n (evf L Q) ∧ B ≤ g := by
  rcases h.form with ⟨e, _⟩ | ⟨g', cap', e, ho, hb⟩
  · cases e
  · injection e with e _ e2
    injection e with e
    injection e with e
    subst e e2
    exact ⟨ho, hb⟩
/-- Cell 12 of event i. -/
theorem row_stamp (h : HRow w B Y (.slice (some ⟨g, 0, none⟩) n cap) n L Q) (hi : i < n) {z : Int} (hz : I64 z) : HRow (w.setCell ⟨g, i * 14 + 12, none⟩ (.int .i64 z)) B Y (.slice (some ⟨g, 0, none⟩) n cap) n (updE L i (setS (L i) z)) Q := by
  have hk := kept_set w g (i * 14 + 12) (.int .i64 z)
  have hd := (h.dat i hi).kept hk (fun b _ hx e => hx.1 (by rw [e]; rfl))
  have := row_re (i := i) (x := (setS (L i) z)) (d := Q i) h hk ((row_blk h hi).1.set (i * 14 + 12) (.int .i64 z)) (fun j hj => ?_) ⟨hd.d, hd.db, hd.dc, hd.a, hd.ab, hd.ac, ⟨hd.rng.1, hd.rng.2.1, hz, hd.rng.2.2.2⟩, hd.dX, hd.aX⟩
  · rw [updA_self] at this
    exact this
  · rw [evf_upd]
    by_cases e : j / 14 = i
    · rw [if_pos e, evq_s _ _ _ (by omega), show evf L Q j = (evq (L i) (Q i)).getD (j % 14) (.int .i64 0) by unfold evf; rw [e]]
      by_cases e2 : j = i * 14 + 12
      · rw [if_pos e2, if_pos (by omega)]
      · rw [if_neg e2, if_neg (by omega)]
    · rw [if_neg e, if_neg (by omega)]
/-- Cell 13 of event i. -/
theorem row_fin (h : HRow w B Y (.slice (some ⟨g, 0, none⟩) n cap) n L Q) (hi : i < n) {z : Int} (hz : I64 z) : HRow (w.setCell ⟨g, i * 14 + 13, none⟩ (.int .i64 z)) B Y (.slice (some ⟨g, 0, none⟩) n cap) n (updE L i (setE (L i) z)) Q := by
  have hk := kept_set w g (i * 14 + 13) (.int .i64 z)
  have hd := (h.dat i hi).kept hk (fun b _ hx e => hx.1 (by rw [e]; rfl))
  have := row_re (i := i) (x := (setE (L i) z)) (d := Q i) h hk ((row_blk h hi).1.set (i * 14 + 13) (.int .i64 z)) (fun j hj => ?_) ⟨hd.d, hd.db, hd.dc, hd.a, hd.ab, hd.ac, ⟨hd.rng.1, hd.rng.2.1, hd.rng.2.2.1, hz⟩, hd.dX, hd.aX⟩
  · rw [updA_self] at this
    exact this
  · rw [evf_upd]
    by_cases e : j / 14 = i
    · rw [if_pos e, evq_e _ _ _ (by omega), show evf L Q j = (evq (L i) (Q i)).getD (j % 14) (.int .i64 0) by unfold evf; rw [e]]
      by_cases e2 : j = i * 14 + 13
      · rw [if_pos e2, if_pos (by omega)]
      · rw [if_neg e2, if_neg (by omega)]
    · rw [if_neg e, if_neg (by omega)]
abbrev putR (w : World) (g o : Nat) (c p h d : Value) : World := (((w.setCell ⟨g, o + 7, none⟩ c).setCell ⟨g, o + 7 + 1, none⟩ p).setCell ⟨g, o + 7 + 2, none⟩ h).setCell ⟨g, o + 7 + 3, none⟩ d
theorem putR_kept (w : World) (g o : Nat) (c p h d : Value) : Kept (· = g) w (putR w g o c p h d) := (((kept_set w g (o + 7) c).trans (kept_set _ g (o + 7 + 1) p)).trans (kept_set _ g (o + 7 + 2) h)).trans (kept_set _ g (o + 7 + 3) d)
/-- Cells 7 to 10 of event i: what the call told. -/
theorem row_tell (h : HRow w B Y (.slice (some ⟨g, 0, none⟩) n cap) n L Q) (hi : i < n) {r : Re} {A : Option Addr} {al ac : Nat} (hs : Sl w w.heap.size .u8 A al r.d) (hb : Bytes r.d) (hl : al ≤ maxLen) (hx : 0 < al → ∀ y, A = some y → y.block ≠ g ∧ Y y.block) : HRow (putR w g (i * 14) (.int .i64 r.c) (.int .i64 r.p) (.int .i64 r.h) (.slice A al ac)) B Y (.slice (some ⟨g, 0, none⟩) n cap) n (updE L i (setR (L i) r)) (updA Q i (setA (Q i) A al ac)) := by
  have hk := putR_kept w g (i * 14) (.int .i64 r.c) (.int .i64 r.p) (.int .i64 r.h) (.slice A al ac)
  have hd := h.dat i hi
  have hd2 : EvQ w (fun k => (Value.slice (some ⟨g, 0, none⟩) n cap).ownBlock ≠ some k ∧ Y k) (setR (L i) r) (setA (Q i) A al ac) := ⟨hd.d, hd.db, hd.dc, hs, hb, hl, hd.rng, hd.dX, fun h0 y e => ⟨fun e2 => (hx h0 y e).1 (by injection e2 with e2; exact e2.symm), (hx h0 y e).2⟩⟩
  refine row_re h hk (((((row_blk h hi).1.set (i * 14 + 7) _).set (i * 14 + 7 + 1) _).set (i * 14 + 7 + 2) _).set (i * 14 + 7 + 3) _) (fun j hj => ?_) (hd2.kept hk (fun b _ hx e => hx.1 (by rw [e]; rfl)))
  rw [evf_upd]
  by_cases e : j / 14 = i
  · rw [if_pos e, evq_r _ _ _ _ _ _ (by omega), show evf L Q j = (evq (L i) (Q i)).getD (j % 14) (.int .i64 0) by unfold evf; rw [e]]
    by_cases e1 : j = i * 14 + 7 + 3
    · rw [if_pos e1, if_pos (show j % 14 = 10 by omega)]
    rw [if_neg e1, if_neg (show ¬ j % 14 = 10 by omega)]
    by_cases e2 : j = i * 14 + 7 + 2
    · rw [if_pos e2, if_pos (show j % 14 = 9 by omega)]
    rw [if_neg e2, if_neg (show ¬ j % 14 = 9 by omega)]
    by_cases e3 : j = i * 14 + 7 + 1
    · rw [if_pos e3, if_pos (show j % 14 = 8 by omega)]
    rw [if_neg e3, if_neg (show ¬ j % 14 = 8 by omega)]
    by_cases e4 : j = i * 14 + 7
    · rw [if_pos e4, if_pos (show j % 14 = 7 by omega)]
    · rw [if_neg e4, if_neg (show ¬ j % 14 = 7 by omega)]
  · rw [if_neg e, if_neg (by omega), if_neg (by omega), if_neg (by omega), if_neg (by omega)]
/-- What may come between: blocks of F are free, but not what the row tells of the call. -/
def RF (F : Nat → Prop) (g o : Nat) (w w' : World) : Prop := Kept F w w' ∧ ∀ j x, j < 7 → w.cell? ⟨g, o + j, none⟩ = some x → w'.cell? ⟨g, o + j, none⟩ = some x
theorem rf_refl (F : Nat → Prop) (g o : Nat) : ∀ a, RF F g o a a := fun a => ⟨Kept.refl F a, fun _ _ _ h => h⟩
theorem rf_trans (F : Nat → Prop) (g o : Nat) : ∀ a b c, RF F g o a b → RF F g o b c → RF F g o a c := fun _ _ _ h k => ⟨h.1.trans k.1, fun j x hj hx => k.2 j x hj (h.2 j x hj hx)⟩
instance upRF (F : Nat → Prop) (g o : Nat) (w : World) : Inhabited (Up (RF F g o) w) := ⟨⟨w, rf_refl F g o w⟩⟩
theorem rf_cell {o : Nat} {p : Addr} {v : Value} (h : w.cell? p = some v) (hf : ¬ F p.block) (u : Up (RF F g o) w) : u.u.cell? p = some v := u.h.1.cellN h hf
theorem rf_row {o j : Nat} {v : Value} (h : w.cell? ⟨g, o + j, none⟩ = some v) (hj : j < 7) (u : Up (RF F g o) w) : u.u.cell? ⟨g, o + j, none⟩ = some v := u.h.2 j v hj h
/-- What the row tells of the call stays. -/
theorem row_low {j : Nat} {r : Re} {A : Option Addr} {al ac : Nat} {u : Value} (h : HRow w B Y (.slice (some ⟨g, 0, none⟩) n cap) n L Q) (hi : i < n) (h3 : HRow w' B Y (.slice (some ⟨g, 0, none⟩) n cap) n (updE L i (setR (L i) r)) (updA Q i (setA (Q i) A al ac))) (hj : j < 7) (hx : w.cell? ⟨g, i * 14 + j, none⟩ = some u) : w'.cell? ⟨g, i * 14 + j, none⟩ = some u := by
  rw [(row_blk h hi).1.cell (by omega), evf_at _ _ _ _ (by omega)] at hx
  rw [(row_blk h3 hi).1.cell (by omega), evf_at _ _ _ _ (by omega), updE_at, updA_at, evq_r _ _ _ _ _ _ (by omega), if_neg (by omega), if_neg (by omega), if_neg (by omega), if_neg (by omega)]
  exact hx
/-- What finish makes of an event. -/
structure FinE (x y : Ev) (now now' : Int) (ends : Bool) : Prop where
  c : y.c = x.c
  o : y.o = x.o
  b : y.b = x.b
  s : y.s = if x.s = 0 then now + 1 else x.s
  e : y.e = if ends = true then now' else x.e
  now : now' = (if x.s = 0 then now + 1 else now) + (if ends = true then 1 else 0)
def FinR (n : Nat) (L L' : Nat → Ev) (i now now' : Int) (e : Bool) : Prop := (¬ (0 ≤ i ∧ i < (n : Int)) ∧ now' = now ∧ L' = L) ∨ ∃ (k : Nat) (y : Ev), i = (k : Int) ∧ k < n ∧ L' = updE L k y ∧ FinE (L k) y now now' e
def FinsP (B : Nat) (Y G : Nat → Prop) (v sv : Value) (n : Nat) (L : Nat → Ev) (i now : Int) (e : Bool) (w : World) (en : Ending) (w' : World) : Prop :=
  ∃ now' L' Q' a', en = .returned (.int .i64 now') ∧ HRow w' B Y v n L' Q' ∧ SAt w' G sv a' ∧ Kept (fun k => G k ∨ v.ownBlock = some k) w w' ∧ FinR n L L' i now now' e
set_option maxHeartbeats 16000000 in
set_option maxRecDepth 100000 in
theorem finish_any {B0 B : Nat} {Q : Nat → Ad} {sv : Value} {a : Md} (hG : ∀ k, G k → B0 ≤ k ∧ k < B) (hs : SAt w G sv a) (h : HRow w B (fun k => k < B0 ∨ B ≤ k) v n L Q) (hB : B ≤ w.heap.size) (hn : n ≤ 1000) (i now : Int) (h0 : 0 ≤ now ∧ now ≤ 1000000) (e : Bool) :
    Calls Try.prog 37 #[sv, v, .int .i64 i, .int .i64 now, .bool e] w (FinsP B (fun k => k < B0 ∨ B ≤ k) G v sv n L i now e w) := by
  obtain ⟨X1, n1, c1, X2, n2, c2, X3, n3, c3, rfl⟩ := sat_form hs
  obtain ⟨A, cap, rfl, hca, hcb⟩ := h.slice
  obtain ⟨hb1, hg1⟩ := s_box w (.slice X1 n1 c1) (.slice X2 n2 c2) (.slice X3 n3 c3)
  have HS := Lib.hid hs
  have HGG := Lib.hid hG
  have HR := Lib.hid h
  have HBB := Lib.hid hB
  have HCC := Lib.hid (And.intro hca hcb)
  have hnz : (n : Int) ≤ 1000 := by omega
  obtain ⟨hw0, hw1⟩ := h0
  clear hs h hca hcb hn hG
  go_enter Try.func37, Try.ntmps37
  go_upto_region 1 with (fail)
  generalize w.alloc (.cells #[.slice X1 n1 c1, .slice X2 n2 c2, .slice X3 n3 c3] 44) = w0 at hb1 hg1 ⊢
  obtain ⟨s, hs⟩ : ∃ s, s = w.heap.size := ⟨_, rfl⟩
  have HSB0 : Hid (B ≤ s) := by rw [hs]; exact hB
  rw [← hs] at hb1 ⊢
  clear hs
  have HG0 := Lib.hid hg1
  have HB1 := Lib.hid hb1
  have HS0 := Lib.hid (HS.out.grow hg1)
  have HR0 := Lib.hid (HR.out.grow hg1)
  clear hB
  have HOUT : Hid (¬ (0 ≤ i ∧ i < (n : Int)) → ∀ wx, Grow w wx → FinsP B (fun k => k < B0 ∨ B ≤ k) G (.slice A n cap) (.agg #[.slice X1 n1 c1, .slice X2 n2 c2, .slice X3 n3 c3]) n L i now e w (.returned (.int .i64 now)) wx) := fun h wx hg => ⟨now, L, Q, a, rfl, HR.out.grow hg, HS.out.grow hg, hg.kept, .inl ⟨h, rfl, rfl⟩⟩
  clear hb1 hg1
  by_cases i0 : i < 0
  · have HX := Lib.hid (HOUT.out (by omega))
    go_wp2
    go_ret
    exact HX.out _ HG0.out
  by_cases i1 : (n : Int) ≤ i
  · have HX := Lib.hid (HOUT.out (by omega))
    go_wp2
    go_ret
    exact HX.out _ HG0.out
  obtain ⟨k, rfl⟩ : ∃ k : Nat, i = (k : Int) := ⟨i.toNat, by omega⟩
  have hkn : k < n := by omega
  have hkz : (k : Int) < (n : Int) := by omega
  obtain ⟨g, rfl⟩ : ∃ g, A = some ⟨g, 0, none⟩ := by
    rcases HR.out.form with ⟨e, h⟩ | ⟨g, c', e, _⟩
    · omega
    · injection e with e _ _
      exact ⟨g, e⟩
  have HK := Lib.hid hkn
  have HROW := Lib.hid (row_blk HR0.out hkn)
  have cel : ∀ j x, j < 14 → (evq (L k) (Q k))[j]? = some x → w0.cell? ⟨g, k * 14 + j, none⟩ = some x := fun j x hj hx => by
    rw [HROW.out.1.cell (i := k * 14 + j) (by omega), evf_at _ _ _ _ hj, List.getD_eq_getElem?_getD, hx]
    rfl
  have c0 := cel 0 _ (by omega) rfl
  have c1 := cel 1 _ (by omega) rfl
  have c2 := cel 2 _ (by omega) rfl
  have c3 := cel 3 _ (by omega) rfl
  have c4 := cel 4 _ (by omega) rfl
  have c5 := cel 5 _ (by omega) rfl
  have c6 := cel 6 _ (by omega) rfl
  have c12 := cel 12 _ (by omega) rfl
  have f12 := HROW.out.1.frozen (k * 14 + 12)
  clear cel i0 i1
  by_cases s0 : (L k).s = 0
  · have HS0Z := Lib.hid s0
    rw [s0] at c12
    clear s0
    go_upto_region 6 with (fail)
    clear c0 c1 c2 c3 c4 c5 c6 c12 f12
    have HR1 := Lib.hid (row_stamp HR0.out HK.out (z := now + 1) (by unfold I64; omega))
    have HK1 := Lib.hid (kept_set w0 g (k * 14 + 12) (.int .i64 (now + 1)))
    have HS1 := Lib.hid (HS0.out.kept HK1.out fun k hk e => by have e : k = g := e; have := HROW.out.2; have := HGG.out k hk; omega)
    have HSG : Hid (s ≠ g) := blk_row HB1.out HROW.out.1 (by decide)
    have HB2 := Lib.hid (HB1.out.kept HK1.out fun e => HSG.out e)
    generalize w0.setCell ⟨g, k * 14 + 12, none⟩ (.int .i64 (now + 1)) = w1 at HR1 HK1 HS1 HB2 ⊢
    have HSB2 : Hid (B ≤ s) := HSB0.out
    obtain ⟨M1, hM1⟩ : ∃ M1, M1 = updE L k (setS (L k) (now + 1)) := ⟨_, rfl⟩
    rw [← hM1] at HR1
    have HM1 := Lib.hid hM1
    have hm1 : M1 k = setS (L k) (now + 1) := by rw [hM1, updE_at]
    have HMK := Lib.hid hm1
    clear hM1
    refine wp_region_stages (RF (fun x => G x ∨ x = g) g (k * 14)) (rf_refl _ _ _) (rf_trans _ _ _) [([0, 1, 2, 3, 4, 5, 6, 7, 8, 9, 10, 11, 12], 13), ([14, 15], 16)] [] (by kernel_rfl) (by kernel_rfl) ?_
    simp only [selSt, sel, List.map_cons, List.map_nil, List.getD_cons_succ, List.getD_cons_zero]
    have HGD : Hid (Grow w1 w1.drew) := Kept.drew' _
    replace HR1 := Lib.hid (HR1.out.grow HGD.out)
    replace HS1 := Lib.hid (HS1.out.grow HGD.out)
    replace HB2 := Lib.hid (HB2.out.grow HGD.out)
    replace HK1 := Lib.hid (HK1.out.drew)
    clear HGD
    generalize w1.drew = w1 at HR1 HS1 HB2 HK1 ⊢
    have HROW1 := Lib.hid (row_blk HR1.out HK.out)
    have cel : ∀ j x, j < 14 → (evq (M1 k) (Q k))[j]? = some x → w1.cell? ⟨g, k * 14 + j, none⟩ = some x := fun j x hj hx => by
      rw [HROW1.out.1.cell (i := k * 14 + j) (by have := HK.out; omega), evf_at _ _ _ _ hj, List.getD_eq_getElem?_getD, hx]
      rfl
    have c0 := rf_row (F := fun x => G x ∨ x = g) (g := g) (o := k * 14) (j := 0) (cel 0 _ (by omega) rfl) (by omega)
    have d1 := rf_row (F := fun x => G x ∨ x = g) (g := g) (o := k * 14) (j := 1) (cel 1 _ (by omega) rfl) (by omega)
    have d2 := rf_row (F := fun x => G x ∨ x = g) (g := g) (o := k * 14) (j := 2) (cel 2 _ (by omega) rfl) (by omega)
    have d3 := rf_row (F := fun x => G x ∨ x = g) (g := g) (o := k * 14) (j := 3) (cel 3 _ (by omega) rfl) (by omega)
    have d4 := rf_row (F := fun x => G x ∨ x = g) (g := g) (o := k * 14) (j := 4) (cel 4 _ (by omega) rfl) (by omega)
    have d5 := rf_row (F := fun x => G x ∨ x = g) (g := g) (o := k * 14) (j := 5) (cel 5 _ (by omega) rfl) (by omega)
    have d6 := rf_row (F := fun x => G x ∨ x = g) (g := g) (o := k * 14) (j := 6) (cel 6 _ (by omega) rfl) (by omega)
    simp only [Nat.add_zero] at c0
    obtain ⟨rc, rp, rh, rd, U, hr⟩ : ∃ rc rp rh rd U, a.run (M1 k).c (M1 k).o = (⟨rc, rp, rh, rd⟩, U) := ⟨_, _, _, _, _, rfl⟩
    have HDO := Lib.hid (rdo_any HS1.out (fun x hx => by have := HGG.out x hx; have := HBB.out; have := HG0.out.size; have := HK1.out.size; omega) (M1 k).c (HR1.out.dat k HK.out).op)
    rw [hr] at HDO
    have HRB : Hid (Bytes rd) := by
      have hb := run_bytes HS.out.good (M1 k).c (M1 k).o
      rw [hr] at hb
      exact hb
    have HRL : Hid (rd.length ≤ 16) := by
      have hb := run_dlen HS.out.good (M1 k).c (M1 k).o
      rw [hr] at hb
      exact hb
    clear cel hr hm1
    have t0 := HB2.out.cell 0
    have t1 := HB2.out.cell 1
    have t2 := HB2.out.cell 2
    simp only [List.getElem?_cons_zero, List.getElem?_cons_succ] at t0 t1 t2
    have HSN : Hid (¬ (G s ∨ s = g)) := fun e => by
      have h2 := HSB2.out
      exact e.elim (fun e => by have := HGG.out s e; omega) HSG.out
    replace t0 := rf_cell (F := fun x => G x ∨ x = g) (g := g) (o := k * 14) t0 HSN.out
    replace t1 := rf_cell (F := fun x => G x ∨ x = g) (g := g) (o := k * 14) t1 HSN.out
    replace t2 := rf_cell (F := fun x => G x ∨ x = g) (g := g) (o := k * 14) t2 HSN.out
    refine st_cons fun K1 hK1 => ?_
    repeat (go_big_quiet_step (fail))
    refine wpQuiet_nil ?_
    clear c0 d1 d2 d3 d4 d5 d6 t0 t1 t2
    go_wp2_with (go_at_call 38; (with_reducible refine HDO.out.mono ?_); rintro e wd ⟨⟨rv, rfl, ⟨A2, n2', cap2, rfl, hsl, hnew⟩⟩, hsa, hk⟩; have HSL := Lib.hid hsl; have HSA := Lib.hid hsa; have HKD := Lib.hid hk; have HNW := Lib.hid hnew; clear hsl hnew hsa hk)
    refine norm_up (hK1 _ _ ⟨HKD.out.mono fun k _ e => .inl e, fun j x hj hx => HKD.out.cellN hx (fun e => by have := HGG.out g e; have := HROW.out.2; omega)⟩ (st_cons fun K2 hK2 => ?_))
    clear hK1 K1
    have HR2 := Lib.hid (HR1.out.kept HKD.out (fun x e hx => by have hx := HGG.out x hx; have e : g = x := by { injection e }; have := HROW.out.2; omega) (fun x _ _ hx hg => by have hx : x < B0 ∨ B ≤ x := hx; have hg := HGG.out x hg; omega))
    have HROW2 := Lib.hid (row_blk HR2.out HK.out)
    have cel : ∀ j x, j < 14 → (evq (M1 k) (Q k))[j]? = some x → wd.cell? ⟨g, k * 14 + j, none⟩ = some x := fun j x hj hx => by
      rw [HROW2.out.1.cell (i := k * 14 + j) (by have := HK.out; omega), evf_at _ _ _ _ hj, List.getD_eq_getElem?_getD, hx]
      rfl
    have c7 := cel 7 _ (by omega) rfl
    have c8 := cel 8 _ (by omega) rfl
    have c9 := cel 9 _ (by omega) rfl
    have c10 := cel 10 _ (by omega) rfl
    have hf := HROW2.out.1.frozen
    clear cel
    have HRL2 : Hid (n2' ≤ 16) := by have h1 : rd.length = n2' := HSL.out.len; have h2 := HRL.out; show n2' ≤ 16; omega
    have HR3 := Lib.hid (row_tell (r := ⟨rc, rp, rh, rd⟩) (ac := cap2) HR2.out HK.out HSL.out HRB.out (by unfold maxLen; have := HRL2.out; omega) (fun h0 y hy => by
      have h1 := HNW.out h0 y hy
      have h2 := HROW1.out.1.lt
      have h3 := HBB.out
      have h4 := HG0.out.size
      have h5 := HK1.out.size
      exact ⟨by omega, .inr (by omega)⟩))
    have HK3 := Lib.hid (putR_kept wd g (k * 14) (.int .i64 rc) (.int .i64 rp) (.int .i64 rh) (.slice A2 n2' cap2))
    have HS3 := Lib.hid (HSA.out.kept HK3.out fun k hk e => by have e : k = g := e; have := HROW.out.2; have := HGG.out k hk; omega)
    repeat (go_big_quiet_step (fail))
    refine wpQuiet_nil ?_
    go_wp2
    refine norm_up (hK2 _ _ ⟨HK3.out.mono fun k _ e => .inr e, fun j x hj hx => row_low HR2.out HK.out HR3.out hj hx⟩ (st_nil fun K3 hK3 => wpQuiet_nil (hK3 _ ?_)))
    clear hK2 K2 hK3 K3 c7 c8 c9 c10 hf
    have HKW : Hid (Kept (fun x => G x ∨ (Value.slice (some ⟨g, 0, none⟩) n cap).ownBlock = some x) w (putR wd g (k * 14) (.int .i64 rc) (.int .i64 rp) (.int .i64 rh) (.slice A2 n2' cap2))) :=
      ((HG0.out.kept.trans (HK1.out.mono fun k _ e => .inr (by have e : k = g := e; rw [e]; rfl))).trans (HKD.out.mono fun k _ e => .inl e)).trans (HK3.out.mono fun k _ e => .inr (by have e : k = g := e; rw [e]; rfl))
    unfold putR at HR3 HS3 HKW
    generalize (((wd.setCell ⟨g, k * 14 + 7, none⟩ (.int .i64 rc)).setCell ⟨g, k * 14 + 7 + 1, none⟩ (.int .i64 rp)).setCell ⟨g, k * 14 + 7 + 2, none⟩ (.int .i64 rh)).setCell ⟨g, k * 14 + 7 + 3, none⟩ (.slice A2 n2' cap2) = wq at HR3 HS3 HKW ⊢
    obtain ⟨M, hM⟩ : ∃ M, M = updE M1 k (setR (M1 k) ⟨rc, rp, rh, rd⟩) := ⟨_, rfl⟩
    obtain ⟨P, hP⟩ : ∃ P, P = updA Q k (setA (Q k) A2 n2' cap2) := ⟨_, rfl⟩
    rw [← hM, ← hP] at HR3
    have HM : Hid (M = updE L k (M k) ∧ (M k).c = (L k).c ∧ (M k).o = (L k).o ∧ (M k).b = (L k).b ∧ (M k).s = (if (L k).s = 0 then now + 1 else (L k).s) ∧ (M k).e = (L k).e) := by
      have e : M k = setR (setS (L k) (now + 1)) ⟨rc, rp, rh, rd⟩ := by rw [hM, updE_at, HMK.out]
      refine ⟨by rw [hM, HM1.out, updE_updE, updE_at, updE_at], ?_⟩
      rw [e, if_pos HS0Z.out]
      exact ⟨rfl, rfl, rfl, rfl, rfl⟩
    have HRW := Lib.hid HR3.out
    have HSW := Lib.hid HS3.out
    clear hM hP HR3 HS3 HK3 HR2 HROW2 HR1 HK1 HS1 HB2 HM1 HMK HROW1 HDO HRB HRL HRL2 HSL HSA HKD HNW
    have HROWW := Lib.hid (row_blk HRW.out HK.out)
    have cel : ∀ j x, j < 14 → (evq (M k) (P k))[j]? = some x → wq.cell? ⟨g, k * 14 + j, none⟩ = some x := fun j x hj hx => by
      rw [HROWW.out.1.cell (i := k * 14 + j) (by have := HK.out; omega), evf_at _ _ _ _ hj, List.getD_eq_getElem?_getD, hx]
      rfl
    have hf := HROWW.out.1.frozen
    cases e with
    | true =>
      have c13 := cel 13 _ (by omega) rfl
      clear cel
      have HR3 := Lib.hid (row_fin HRW.out HK.out (z := (now + 1) + 1) (by unfold I64; omega))
      have HK3 := Lib.hid (kept_set wq g (k * 14 + 13) (.int .i64 ((now + 1) + 1)))
      have HS3 := Lib.hid (HSW.out.kept HK3.out fun k hk e => by have e : k = g := e; have := HROW.out.2; have := HGG.out k hk; omega)
      go_wp2
      go_ret
      refine ⟨(now + 1) + 1, _, _, _, rfl, HR3.out, HS3.out, HKW.out.trans (HK3.out.mono fun k _ e => .inr (by have e : k = g := e; rw [e]; rfl)), .inr ⟨k, setE (M k) ((now + 1) + 1), rfl, HK.out, ?_, ?_⟩⟩
      · rw [HM.out.1, updE_updE, updE_at]
      · obtain ⟨_, h1, h2, h3, h4, h5⟩ := HM.out
        exact ⟨h1, h2, h3, h4, rfl, by rw [if_pos HS0Z.out]; simp⟩
    | false =>
      have c7 := cel 7 _ (by omega) rfl
      have c8 := cel 8 _ (by omega) rfl
      have c9 := cel 9 _ (by omega) rfl
      have c10 := cel 10 _ (by omega) rfl
      clear cel
      have HR3 := Lib.hid (row_tell HRW.out HK.out (r := ⟨0, 0, 0, []⟩) (A := none) (al := 0) (ac := 0) (Sl.nil _ _ _ _) (fun x hx => by cases hx) (Nat.zero_le _) (fun h => absurd h (Nat.lt_irrefl 0)))
      have HK3 := Lib.hid (putR_kept wq g (k * 14) (.int .i64 0) (.int .i64 0) (.int .i64 0) (.slice none 0 0))
      have HS3 := Lib.hid (HSW.out.kept HK3.out fun k hk e => by have e : k = g := e; have := HROW.out.2; have := HGG.out k hk; omega)
      go_wp2
      go_ret
      refine ⟨(now + 1), _, _, _, rfl, HR3.out, HS3.out, HKW.out.trans (HK3.out.mono fun k _ e => .inr (by have e : k = g := e; rw [e]; rfl)), .inr ⟨k, setR (M k) ⟨0, 0, 0, []⟩, rfl, HK.out, ?_, ?_⟩⟩
      · rw [HM.out.1, updE_updE, updE_at]
      · obtain ⟨_, h1, h2, h3, h4, h5⟩ := HM.out
        exact ⟨h1, h2, h3, h4, h5, by rw [if_pos HS0Z.out]; simp⟩
  · have HS0Z := Lib.hid s0
    have sz : ((L k).s == 0) = false := by rw [beq_eq_false_iff_ne]; exact s0
    have HM : Hid (L = updE L k (L k) ∧ (L k).c = (L k).c ∧ (L k).o = (L k).o ∧ (L k).b = (L k).b ∧ (L k).s = (if (L k).s = 0 then now + 1 else (L k).s) ∧ (L k).e = (L k).e) := by
      refine ⟨by funext x; unfold updE; split <;> simp_all, rfl, rfl, rfl, by rw [if_neg s0], rfl⟩
    go_upto_region 7 with (fail)
    clear c0 c1 c2 c3 c4 c5 c6 c12 f12 sz s0
    have HRW := Lib.hid HR0.out
    have HSW := Lib.hid HS0.out
    have HKW : Hid (Kept (fun x => G x ∨ (Value.slice (some ⟨g, 0, none⟩) n cap).ownBlock = some x) w w0) := HG0.out.kept
    have HROWW := Lib.hid (row_blk HRW.out HK.out)
    have cel : ∀ j x, j < 14 → (evq (L k) (Q k))[j]? = some x → w0.cell? ⟨g, k * 14 + j, none⟩ = some x := fun j x hj hx => by
      rw [HROWW.out.1.cell (i := k * 14 + j) (by have := HK.out; omega), evf_at _ _ _ _ hj, List.getD_eq_getElem?_getD, hx]
      rfl
    have hf := HROWW.out.1.frozen
    cases e with
    | true =>
      have c13 := cel 13 _ (by omega) rfl
      clear cel
      have HR3 := Lib.hid (row_fin HRW.out HK.out (z := now + 1) (by unfold I64; omega))
      have HK3 := Lib.hid (kept_set w0 g (k * 14 + 13) (.int .i64 (now + 1)))
      have HS3 := Lib.hid (HSW.out.kept HK3.out fun k hk e => by have e : k = g := e; have := HROW.out.2; have := HGG.out k hk; omega)
      go_wp2
      go_ret
      refine ⟨now + 1, _, _, _, rfl, HR3.out, HS3.out, HKW.out.trans (HK3.out.mono fun k _ e => .inr (by have e : k = g := e; rw [e]; rfl)), .inr ⟨k, setE (L k) (now + 1), rfl, HK.out, ?_, ?_⟩⟩
      · rw [HM.out.1, updE_updE, updE_at]
      · exact ⟨rfl, rfl, rfl, by rw [if_neg HS0Z.out], rfl, by rw [if_neg HS0Z.out]; simp⟩
    | false =>
      have c7 := cel 7 _ (by omega) rfl
      have c8 := cel 8 _ (by omega) rfl
      have c9 := cel 9 _ (by omega) rfl
      have c10 := cel 10 _ (by omega) rfl
      clear cel
      have HR3 := Lib.hid (row_tell HRW.out HK.out (r := ⟨0, 0, 0, []⟩) (A := none) (al := 0) (ac := 0) (Sl.nil _ _ _ _) (fun x hx => by cases hx) (Nat.zero_le _) (fun h => absurd h (Nat.lt_irrefl 0)))
      have HK3 := Lib.hid (putR_kept w0 g (k * 14) (.int .i64 0) (.int .i64 0) (.int .i64 0) (.slice none 0 0))
      have HS3 := Lib.hid (HSW.out.kept HK3.out fun k hk e => by have e : k = g := e; have := HROW.out.2; have := HGG.out k hk; omega)
      go_wp2
      go_ret
      refine ⟨now, _, _, _, rfl, HR3.out, HS3.out, HKW.out.trans (HK3.out.mono fun k _ e => .inr (by have e : k = g := e; rw [e]; rfl)), .inr ⟨k, setR (L k) ⟨0, 0, 0, []⟩, rfl, HK.out, ?_, ?_⟩⟩
      · rw [HM.out.1, updE_updE, updE_at]
      · exact ⟨rfl, rfl, rfl, by rw [if_neg HS0Z.out], rfl, by rw [if_neg HS0Z.out]; simp⟩
end
#print axioms finish_any
end Go.Proofs.Ytjdlpknflhgkfaa.HsF
namespace Go.Proofs.Ytjdlpknflhgkfaa.HsMk
open Go.Proofs.Ytjdlpknflhgkfaa.HsM Go.Proofs.Ytjdlpknflhgkfaa.HsR Go.Proofs.Ytjdlpknflhgkfaa.HsF Go.Proofs.Ytjdlpknflhgkfaa.MdM

/-- What Make keeps: n events, the time, and for each client its event that has not ended (or -1). -/
structure MkI (L : Nat → Ev) (n : Nat) (now : Int) (O : Nat → Int) : Prop where
  cl : ∀ i, i < n → 0 ≤ (L i).c ∧ (L i).c < 3
  bg : ∀ i, i < n → 0 < (L i).b ∧ (L i).b ≤ now
  mono : ∀ i, i + 1 < n → (L i).b ≤ (L (i + 1)).b
  tm : ∀ i, i < n → inT (L i) ∧ (L i).s ≤ now ∧ (L i).e ≤ now
  busy : ∀ i k, i < n → k < i → (L k).c = (L i).c → 0 < (L k).e ∧ (L k).e < (L i).b
  op : ∀ c : Nat, c < 3 → (O c = -1 ∧ ∀ i, i < n → (L i).c = (c : Int) → 0 < (L i).e) ∨ ∃ x, x < n ∧ O c = (x : Int) ∧ (L x).c = (c : Int) ∧ (L x).e = 0 ∧ ∀ i, i < n → (L i).c = (c : Int) → i ≠ x → 0 < (L i).e
  nn : 0 ≤ now
def updO (O : Nat → Int) (c : Nat) (v : Int) (i : Nat) : Int := if i = c then v else O i
section
variable {L : Nat → Ev} {n : Nat} {now now' : Int} {O : Nat → Int}
theorem mk_zero (L : Nat → Ev) : MkI L 0 0 fun _ => -1 :=
  ⟨fun i h => absurd h (Nat.not_lt_zero i), fun i h => absurd h (Nat.not_lt_zero i), fun _ h => absurd h (Nat.not_lt_zero _), fun i h => absurd h (Nat.not_lt_zero i), fun i _ h => absurd h (Nat.not_lt_zero i), fun _ _ => .inl ⟨rfl, fun i h => absurd h (Nat.not_lt_zero i)⟩, Int.le_refl 0⟩
theorem MkI.fst (h : MkI L n now O) : Fst L 3 n 0 :=
  .inl ⟨rfl, fun i hi => ⟨h.cl i hi, (h.bg i hi).1, fun k hk => by subst hk; exact h.mono k hi, (h.tm i hi).1, fun k hk hc => h.busy i k hi hk hc⟩⟩
/-- Who is open has not ended. -/
theorem MkI.at_ (h : MkI L n now O) {c : Nat} (hc : c < 3) (ho : 0 ≤ O c) : ∃ x : Nat, x < n ∧ O c = (x : Int) ∧ (L x).c = (c : Int) ∧ (L x).e = 0 := by
  rcases h.op c hc with ⟨e, _⟩ | ⟨x, hx, e, h1, h2, _⟩
  · omega
  · exact ⟨x, hx, e, h1, h2⟩
theorem MkI.all (h : MkI L n now O) {c : Nat} (hc : c < 3) (ho : O c < 0) : O c = -1 ∧ ∀ i, i < n → (L i).c = (c : Int) → 0 < (L i).e := by
  rcases h.op c hc with e | ⟨x, hx, e, _⟩
  · exact e
  · omega
/-- An event that has not ended takes effect, and ends (or not). -/
theorem MkI.fin (h : MkI L n now O) {k c : Nat} {y : Ev} {ends : Bool} (hk : k < n) (hc : c < 3) (hkc : (L k).c = (c : Int)) (he : (L k).e = 0) (f : FinE (L k) y now now' ends) : MkI (updE L k y) n now' (if ends = true then updO O c (-1) else O) := by
  obtain ⟨f1, f2, f3, f4, f5, f6⟩ := f
  have hle : now ≤ now' := by
    rw [f6]
    split <;> split <;> omega
  have hb := h.bg k hk
  obtain ⟨ht, hs, _⟩ := h.tm k hk
  have hn := h.nn
  have sel : ∀ i, updE L k y i = if i = k then y else L i := fun i => rfl
  have hcs : ∀ i, (updE L k y i).c = (L i).c := fun i => by
    rw [sel]
    split
    · rename_i e; rw [e, f1]
    · rfl
  have hbs : ∀ i, (updE L k y i).b = (L i).b := fun i => by
    rw [sel]
    split
    · rename_i e; rw [e, f3]
    · rfl
  have hlast : ∀ i, i < n → k < i → (L k).c ≠ (L i).c := fun i hi hki e => by have := h.busy i k hi hki e; omega
  have hye : ends = true → 0 < y.e := fun e => by
    rw [f5, if_pos e, f6, if_pos e]
    split <;> omega
  refine ⟨fun i hi => by rw [hcs]; exact h.cl i hi, fun i hi => by rw [hbs]; have := h.bg i hi; omega, fun i hi => by rw [hbs, hbs]; exact h.mono i hi, fun i hi => ?_, fun i j hi hj hij => ?_, fun d hd => ?_, by omega⟩
  · rw [sel]
    split
    · unfold inT inTn at ht ⊢
      rw [he] at ht
      simp only [Int.lt_irrefl, if_false] at ht
      by_cases s0 : (L k).s = 0
      · rw [if_pos s0] at f4 f6
        cases ends
        · rw [if_neg (by decide)] at f5 f6
          refine ⟨?_, by omega, by omega⟩
          split <;> omega
        · rw [if_pos rfl] at f5 f6
          refine ⟨?_, by omega, by omega⟩
          split <;> omega
      · rw [if_neg s0] at f4 f6
        cases ends
        · rw [if_neg (by decide)] at f5 f6
          refine ⟨?_, by omega, by omega⟩
          split <;> omega
        · rw [if_pos rfl] at f5 f6
          refine ⟨?_, by omega, by omega⟩
          split <;> omega
    · have := h.tm i hi
      exact ⟨this.1, by omega, by omega⟩
  · rw [hcs, hcs] at hij
    rw [hbs]
    have hjk : j ≠ k := fun e => by subst e; exact hlast i hi hj hij
    rw [sel, if_neg hjk]
    exact h.busy i j hi hj hij
  · by_cases hdc : d = c
    · subst hdc
      rcases h.op d hd with ⟨_, e⟩ | ⟨x, hx, e1, e2, e3, e4⟩
      · have := e k hk hkc
        omega
      · have hxk : x = k := Classical.byContradiction fun hne => by
          have := e4 k hk hkc (fun e => hne e.symm)
          omega
        subst hxk
        cases ends
        · refine .inr ⟨x, hx, e1, by rw [hcs]; exact e2, ?_, fun i hi hic hix => ?_⟩
          · rw [sel, if_pos rfl, f5, if_neg (by decide)]
            exact he
          · rw [sel, if_neg hix]
            exact e4 i hi (by rw [← hcs]; exact hic) hix
        · refine .inl ⟨if_pos rfl, fun i hi hic => ?_⟩
          rw [sel]
          split
          · exact hye rfl
          · rename_i hix
            exact e4 i hi (by rw [← hcs]; exact hic) hix
    · have hO : (if ends = true then updO O c (-1) else O) d = O d := by
        split
        · exact if_neg hdc
        · rfl
      have hne : ∀ i, (L i).c = (d : Int) → i ≠ k := fun i hi e => by subst e; omega
      rw [hO]
      rcases h.op d hd with ⟨e0, e⟩ | ⟨x, hx, e1, e2, e3, e4⟩
      · refine .inl ⟨e0, fun i hi hic => ?_⟩
        rw [hcs] at hic
        rw [sel, if_neg (hne i hic)]
        exact e i hi hic
      · refine .inr ⟨x, hx, e1, by rw [hcs]; exact e2, by rw [sel, if_neg (hne x e2)]; exact e3, fun i hi hic hix => ?_⟩
        rw [hcs] at hic
        rw [sel, if_neg (hne i hic)]
        exact e4 i hi hic hix
/-- A client that has none open begins one. -/
theorem MkI.push (h : MkI L n now O) {c : Nat} {x : Ev} (hc : c < 3) (ho : O c = -1) (x1 : x.c = (c : Int)) (x2 : x.b = now + 1) (x3 : x.s = 0) (x4 : x.e = 0) : MkI (updE L n x) (n + 1) (now + 1) (updO O c (n : Int)) := by
  have hn := h.nn
  have hall := (h.all hc (by omega)).2
  have sel : ∀ (P : Nat → Ev → Prop), (∀ i, i < n → P i (L i)) → P n x → ∀ i, i < n + 1 → P i (updE L n x i) := fun P h1 h2 i hi => by
    by_cases e : i = n
    · subst e; rw [updE_at]; exact h2
    · rw [updE_lt (by omega)]; exact h1 i (by omega)
  refine ⟨sel (fun _ y => 0 ≤ y.c ∧ y.c < 3) h.cl (by rw [x1]; omega), sel (fun _ y => 0 < y.b ∧ y.b ≤ now + 1) (fun i hi => by have := h.bg i hi; omega) (by rw [x2]; omega), fun i hi => ?_, sel (fun _ y => inT y ∧ y.s ≤ now + 1 ∧ y.e ≤ now + 1) (fun i hi => by have := h.tm i hi; exact ⟨this.1, by omega, by omega⟩) ⟨?_, by omega, by omega⟩, fun i k hi hk hik => ?_, fun d hd => ?_, by omega⟩
  · rw [updE_lt (by omega)]
    by_cases e : i + 1 = n
    · rw [e, updE_at, x2]
      have := h.bg i (by omega)
      omega
    · rw [updE_lt (by omega)]
      exact h.mono i (by omega)
  · unfold inT inTn
    rw [x3, x4]
    simp
  · rw [updE_lt (show k < n by omega)] at hik ⊢
    by_cases e : i = n
    · subst e
      rw [updE_at] at hik ⊢
      have h1 := hall k hk (by rw [hik]; exact x1)
      have h2 := h.tm k hk
      rw [x2]
      omega
    · rw [updE_lt (by omega)] at hik ⊢
      exact h.busy i k (by omega) hk hik
  · by_cases e : d = c
    · subst e
      refine .inr ⟨n, by omega, if_pos rfl, by rw [updE_at]; exact x1, by rw [updE_at]; exact x4, fun i hi hic hin => ?_⟩
      rw [updE_lt (by omega)] at hic ⊢
      exact hall i (by omega) hic
    · rw [show updO O c (n : Int) d = O d from if_neg e]
      rcases h.op d hd with ⟨e0, e1⟩ | ⟨y, hy, e1, e2, e3, e4⟩
      · refine .inl ⟨e0, fun i hi hic => ?_⟩
        by_cases hin : i = n
        · subst hin
          rw [updE_at, x1] at hic
          omega
        · rw [updE_lt (by omega)] at hic ⊢
          exact e1 i (by omega) hic
      · refine .inr ⟨y, by omega, e1, by rw [updE_lt hy]; exact e2, by rw [updE_lt hy]; exact e3, fun i hi hic hiy => ?_⟩
        by_cases hin : i = n
        · subst hin
          rw [updE_at, x1] at hic
          omega
        · rw [updE_lt (by omega)] at hic ⊢
          exact e4 i (by omega) hic hiy
end
#print axioms MkI.push
end Go.Proofs.Ytjdlpknflhgkfaa.HsMk
namespace Go.Proofs.Ytjdlpknflhgkfaa.MdNear
open Go.ChangeShapes Go.WideShapes Go.ChangeAt Go.RowKit
open Go.Proofs.Ytjdlpknflhgkfaa.Mem Go.Proofs.Ytjdlpknflhgkfaa.Blk Go.Proofs.Ytjdlpknflhgkfaa.Cells Go.Proofs.Ytjdlpknflhgkfaa.Orow Go.Proofs.Ytjdlpknflhgkfaa.Stages Go.Proofs.Ytjdlpknflhgkfaa.Trees

theorem call_size : (Try.prog.info? 55).map (·.size) = some 7 := by kernel_rfl
theorem load_call {w : World} {g : Nat} {t : TypeId} {a b c d e f x : Value} (hg : Blk w g t [a, b, c, d, e, f, x]) : (loadVar 55 ⟨g, 0, none⟩).run Try.prog w = .ok (.agg #[a, b, c, d, e, f, x]) w :=
  run_loadVar_row w g t 55 #[a, b, c, d, e, f, x] (0, 0) _ hg Try.underlying55 rfl call_size
theorem ret_call {w : World} {fn : Func} {R : Ending → World → Prop} {act : Act} {p g : Nat} {t : TypeId} {a b c d e f x : Value} (h : fn.results = #[.cell p 55]) (hp : act.tmps.getD p undef = .pointer (some ⟨g, 0, none⟩)) (hg : Blk w g t [a, b, c, d, e, f, x]) (hd : act.defers = []) (hR : R (.returned (.agg #[a, b, c, d, e, f, x])) w) : bodyPost Try.prog fn R .ret act w := by
  refine bodyPost_ret ?_ hd hR
  have hp' : act.tmps[p]?.getD undef = .pointer (some ⟨g, 0, none⟩) := by simpa using hp
  simp [results, h, hp', asAddr, load_call hg]
theorem store_call {w : World} {g : Nat} {t : TypeId} {a b c d e f x a' b' c' d' e' f' x' : Value} (hg : Blk w g t [a', b', c', d', e', f', x']) :
    Blk (w.setRow g #[a, b, c, d, e, f, x]) g t [a, b, c, d, e, f, x] ∧ Kept (fun k => k = g) w (w.setRow g #[a, b, c, d, e, f, x]) :=
  ⟨setRow_heap w g _ #[a, b, c, d, e, f, x] t _ hg, ⟨rfl, rfl, rfl, by simp, fun i hi hf => setRow_other w g i _ hf⟩⟩
/-- What Near tells: a call whose parts are small. -/
def NearP (P C : Nat) (A : Option Addr) (len cap : Nat) (w : World) (e : Ending) (w' : World) : Prop :=
  ∃ c k p h o n len' : Nat, e = .returned (.agg #[.int .i64 (c : Int), .int .i64 (k : Int), .int .i64 (p : Int), .int .i64 (h : Int), .int .i64 (o : Int), .int .i64 (n : Int), .slice A len' cap]) ∧ c < C ∧ 1 ≤ k ∧ k ≤ 8 ∧ p < P ∧ h < 3 ∧ o < 8 ∧ n < 9 ∧ len' = min len 8 ∧ Grow w w'
theorem three_new (w : World) (c k p h o n s : Value) :
    Grow w (((w.alloc (.cells #[c, k, p, h, o, n, s] 55)).alloc (.cells #[.int .i64 0, .int .i64 0, .int .i64 0, .int .i64 0, .int .i64 0, .int .i64 0, .slice none 0 0] 55)).alloc (.cells #[k, p, h, o, n, s] 25)) ∧
    Blk (((w.alloc (.cells #[c, k, p, h, o, n, s] 55)).alloc (.cells #[.int .i64 0, .int .i64 0, .int .i64 0, .int .i64 0, .int .i64 0, .int .i64 0, .slice none 0 0] 55)).alloc (.cells #[k, p, h, o, n, s] 25)) w.heap.size 55 [c, k, p, h, o, n, s] ∧
    Blk (((w.alloc (.cells #[c, k, p, h, o, n, s] 55)).alloc (.cells #[.int .i64 0, .int .i64 0, .int .i64 0, .int .i64 0, .int .i64 0, .int .i64 0, .slice none 0 0] 55)).alloc (.cells #[k, p, h, o, n, s] 25)) (w.heap.size + 1) 55 [.int .i64 0, .int .i64 0, .int .i64 0, .int .i64 0, .int .i64 0, .int .i64 0, .slice none 0 0] ∧
    Blk (((w.alloc (.cells #[c, k, p, h, o, n, s] 55)).alloc (.cells #[.int .i64 0, .int .i64 0, .int .i64 0, .int .i64 0, .int .i64 0, .int .i64 0, .slice none 0 0] 55)).alloc (.cells #[k, p, h, o, n, s] 25)) (w.heap.size + 1 + 1) 25 [k, p, h, o, n, s] := by
  have g1 : Grow w (w.alloc (.cells #[c, k, p, h, o, n, s] 55)) := (Kept.refl _ _).alloc _
  have b1 := Blk.new w 55 [c, k, p, h, o, n, s]
  have z1 : (w.alloc (.cells #[c, k, p, h, o, n, s] 55)).heap.size = w.heap.size + 1 := by simp
  generalize w.alloc (.cells #[c, k, p, h, o, n, s] 55) = u at *
  have g2 : Grow u (u.alloc (.cells #[.int .i64 0, .int .i64 0, .int .i64 0, .int .i64 0, .int .i64 0, .int .i64 0, .slice none 0 0] 55)) := (Kept.refl _ _).alloc _
  have b2 := Blk.new u 55 [.int .i64 0, .int .i64 0, .int .i64 0, .int .i64 0, .int .i64 0, .int .i64 0, .slice none 0 0]
  have z2 : (u.alloc (.cells #[.int .i64 0, .int .i64 0, .int .i64 0, .int .i64 0, .int .i64 0, .int .i64 0, .slice none 0 0] 55)).heap.size = u.heap.size + 1 := by simp
  generalize u.alloc (.cells #[.int .i64 0, .int .i64 0, .int .i64 0, .int .i64 0, .int .i64 0, .int .i64 0, .slice none 0 0] 55) = v at *
  have g3 : Grow v (v.alloc (.cells #[k, p, h, o, n, s] 25)) := (Kept.refl _ _).alloc _
  have b3 := Blk.new v 25 [k, p, h, o, n, s]
  rw [z1] at b2 z2
  rw [z2] at b3
  exact ⟨(g1.trans g2).trans g3, (b1.grow g2).grow g3, b2.grow g3, b3⟩
set_option maxRecDepth 4000 in
set_option maxHeartbeats 1000000 in
theorem near_any (c k p h o n : Int) (A : Option Addr) (len cap P C : Nat) (hP : 1 ≤ P) (hC : 1 ≤ C) (hPb : P ≤ 48) (hCb : C ≤ 6) (hl : len ≤ cap) (w : World) :
    Calls Try.prog 26 #[.agg #[.int .i64 c, .int .i64 k, .int .i64 p, .int .i64 h, .int .i64 o, .int .i64 n, .slice A len cap], .int .i64 (P : Int), .int .i64 (C : Int)] w (NearP P C A len cap w) := by
  obtain ⟨hg, hb1, hb2, hb3⟩ := three_new w (.int .i64 c) (.int .i64 k) (.int .i64 p) (.int .i64 h) (.int .i64 o) (.int .i64 n) (.slice A len cap)
  have HG := Lib.hid hg
  have HB1 := Lib.hid hb1
  have HB2 := Lib.hid hb2
  have HB3 := Lib.hid hb3
  obtain ⟨c', hc, hcr⟩ := tmod_nat c C (by omega)
  obtain ⟨k', hk, hkr⟩ := tmod_nat k 8 (by omega)
  obtain ⟨p', hp, hpr⟩ := tmod_nat p P (by omega)
  obtain ⟨h', hh, hhr⟩ := tmod_nat h 3 (by omega)
  obtain ⟨o', ho, hor⟩ := tmod_nat o 8 (by omega)
  obtain ⟨n', hn, hnr⟩ := tmod_nat n 9 (by omega)
  replace hk : (IntKind.u64.wrap k).tmod 8 = (k' : Int) := hk
  replace hh : (IntKind.u64.wrap h).tmod 3 = (h' : Int) := hh
  replace ho : (IntKind.u64.wrap o).tmod 8 = (o' : Int) := ho
  replace hn : (IntKind.u64.wrap n).tmod 9 = (n' : Int) := hn
  have wP : IntKind.u64.wrap (P : Int) = (P : Int) := IntWalk.u64_in _ (by omega)
  have wC : IntKind.u64.wrap (C : Int) = (C : Int) := IntWalk.u64_in _ (by omega)
  have ic : IntKind.i64.wrap (c' : Int) = (c' : Int) := IntWalk.i64_in _ (by omega)
  have ik : IntKind.i64.wrap (k' : Int) = (k' : Int) := IntWalk.i64_in _ (by omega)
  have ik1 : IntKind.i64.wrap (1 + (k' : Int)) = 1 + (k' : Int) := IntWalk.i64_in _ (by omega)
  have ip : IntKind.i64.wrap (p' : Int) = (p' : Int) := IntWalk.i64_in _ (by omega)
  have ih : IntKind.i64.wrap (h' : Int) = (h' : Int) := IntWalk.i64_in _ (by omega)
  have io : IntKind.i64.wrap (o' : Int) = (o' : Int) := IntWalk.i64_in _ (by omega)
  have i2 : IntKind.i64.wrap (n' : Int) = (n' : Int) := IntWalk.i64_in _ (by omega)
  have nP : ((P : Int) == 0) = false := by rw [beq_eq_false_iff_ne]; omega
  have nC : ((C : Int) == 0) = false := by rw [beq_eq_false_iff_ne]; omega
  have nP' : ¬ ((P : Int) = 0) := by omega
  have nC' : ¬ ((C : Int) = 0) := by omega
  obtain ⟨Q, hQ⟩ : ∃ Q, Q = NearP P C A len cap w := ⟨_, rfl⟩
  have HQ := Lib.hid hQ
  rw [← hQ]
  have HR := Lib.hid (And.intro hcr (And.intro hkr (And.intro hpr (And.intro hhr (And.intro hor hnr)))))
  clear hg hb1 hb2 hb3 hQ hcr hkr hpr hhr hor hnr
  go_enter Try.func26, Try.ntmps26
  go_upto_region 2 with (fail)
  generalize ((w.alloc (.cells #[.int .i64 c, .int .i64 k, .int .i64 p, .int .i64 h, .int .i64 o, .int .i64 n, .slice A len cap] 55)).alloc (.cells #[.int .i64 0, .int .i64 0, .int .i64 0, .int .i64 0, .int .i64 0, .int .i64 0, .slice none 0 0] 55)).alloc (.cells #[.int .i64 k, .int .i64 p, .int .i64 h, .int .i64 o, .int .i64 n, .slice A len cap] 25) = w0 at HG HB1 HB2 HB3 ⊢
  have HS0 : Hid (w.heap.size = w.heap.size) := rfl
  obtain ⟨s, hs⟩ : ∃ s, s = w.heap.size := ⟨_, rfl⟩
  have HS := Lib.hid hs
  rw [← hs] at HB1 HB2 HB3 ⊢
  clear hs HS0
  have c0 := HB3.out.cell 0
  have cf := HB3.out.frozen 0
  simp only [List.getElem?_cons_zero] at c0
  go_upto_region 3 with (fail)
  clear c0 cf
  have HB4 : Hid (Blk (w0.setCell ⟨s + 1 + 1, 0, none⟩ (.int .i64 (1 + (k' : Int)))) (s + 1 + 1) 25 [.int .i64 (1 + (k' : Int)), .int .i64 p, .int .i64 h, .int .i64 o, .int .i64 n, .slice A len cap]) := HB3.out.set 0 _
  have HK4 : Hid (Kept (· = s + 1 + 1) w0 (w0.setCell ⟨s + 1 + 1, 0, none⟩ (.int .i64 (1 + (k' : Int))))) := kept_set w0 (s + 1 + 1) 0 _
  generalize w0.setCell ⟨s + 1 + 1, 0, none⟩ (.int .i64 (1 + (k' : Int))) = w1 at HB4 HK4 ⊢
  have c1 := HB4.out.cell 1
  have c2 := HB4.out.cell 2
  have cf : w1.drew.frozen? ⟨s + 1 + 1, 1, none⟩ = false := HB4.out.frozen 1
  simp only [List.getElem?_cons_zero, List.getElem?_cons_succ] at c1 c2
  have q1 := up_cell (F := fun _ => False) (w := w1.drew) (p := ⟨s + 1 + 1, 1, none⟩) c1 id
  have q2 := up_cell (F := fun _ => False) (w := w1.drew) (p := ⟨s + 1 + 1, 2, none⟩) c2 id
  have HB5 : Hid (Blk (w1.setCell ⟨s + 1 + 1, 1, none⟩ (.int .i64 (p' : Int))).drew (s + 1 + 1) 25 [.int .i64 (1 + (k' : Int)), .int .i64 (p' : Int), .int .i64 h, .int .i64 o, .int .i64 n, .slice A len cap]) := Blk.drew (HB4.out.set 1 _)
  have HK5 : Hid (Kept (· = s + 1 + 1) w1.drew (w1.setCell ⟨s + 1 + 1, 1, none⟩ (.int .i64 (p' : Int))).drew) := kept_set w1.drew (s + 1 + 1) 1 _
  refine wp_region_tree Grow (Kept (· = s + 1 + 1)) (kept_refl _) (kept_trans _) (kept_refl _) (kept_trans _) (fun _ _ h => h.mono fun _ _ x => x.elim) [13, 15]
    (.look true [0, 1, 2, 3, 4, 5, 6, 7, 8, 12] (.one false [9, 10, 11] 13 (.one false [14] 15 (.last false [])))) (by kernel_rfl) (by kernel_rfl) ?_
  refine tr_lookE fun K hK => ?_
  simp only [sel, List.map_cons, List.map_nil, List.getD_cons_succ, List.getD_cons_zero]
  repeat (go_big_quiet_step (fail))
  refine wpQuiet_nil (hK _ ?_)
  clear hK K q1 q2
  refine tr_oneL fun K hK => ?_
  simp only [sel, List.map_cons, List.map_nil, List.getD_cons_succ, List.getD_cons_zero]
  repeat (go_big_quiet_step (fail))
  refine wpQuiet_nil ?_
  go_wp2
  refine norm_up (hK _ _ (Lr_late (by decide) HK5.out) ?_)
  clear hK K c1 c2 cf
  generalize (w1.setCell ⟨s + 1 + 1, 1, none⟩ (.int .i64 (p' : Int))).drew = w2 at HB5 HK5 ⊢
  have c2 := HB5.out.cell 2
  have cf : w2.frozen? ⟨s + 1 + 1, 2, none⟩ = false := HB5.out.frozen 2
  simp only [List.getElem?_cons_zero, List.getElem?_cons_succ] at c2
  refine tr_oneL fun K hK => ?_
  simp only [sel, List.map_cons, List.map_nil, List.getD_cons_succ, List.getD_cons_zero]
  repeat (go_big_quiet_step (fail))
  refine wpQuiet_nil ?_
  go_wp2
  refine norm_up (hK _ _ (Lr_late (by decide) (kept_set w2 (s + 1 + 1) 2 (.int .i64 (h' : Int)))) ?_)
  clear hK K c2 cf
  refine tr_lastL fun K hK => ?_
  simp only [sel, List.map_nil]
  refine wpQuiet_nil (hK _ ?_)
  clear hK K
  have HB6 : Hid (Blk (w2.setCell ⟨s + 1 + 1, 2, none⟩ (.int .i64 (h' : Int))) (s + 1 + 1) 25 [.int .i64 (1 + (k' : Int)), .int .i64 (p' : Int), .int .i64 (h' : Int), .int .i64 o, .int .i64 n, .slice A len cap]) := HB5.out.set 2 _
  have HK6 : Hid (Kept (· = s + 1 + 1) w2 (w2.setCell ⟨s + 1 + 1, 2, none⟩ (.int .i64 (h' : Int)))) := kept_set w2 (s + 1 + 1) 2 _
  generalize w2.setCell ⟨s + 1 + 1, 2, none⟩ (.int .i64 (h' : Int)) = w3 at HB6 HK6 ⊢
  have c3 := HB6.out.cell 3
  have c4 := HB6.out.cell 4
  have cf := HB6.out.frozen
  simp only [List.getElem?_cons_zero, List.getElem?_cons_succ] at c3 c4
  go_upto_region 5 with (fail)
  clear c3 c4 cf
  have HB7 : Hid (Blk ((w3.setCell ⟨s + 1 + 1, 3, none⟩ (.int .i64 (o' : Int))).setCell ⟨s + 1 + 1, 4, none⟩ (.int .i64 (n' : Int))) (s + 1 + 1) 25 [.int .i64 (1 + (k' : Int)), .int .i64 (p' : Int), .int .i64 (h' : Int), .int .i64 (o' : Int), .int .i64 (n' : Int), .slice A len cap]) := (HB6.out.set 3 _).set 4 _
  have HK7 : Hid (Kept (· = s + 1 + 1) w0 ((w3.setCell ⟨s + 1 + 1, 3, none⟩ (.int .i64 (o' : Int))).setCell ⟨s + 1 + 1, 4, none⟩ (.int .i64 (n' : Int)))) := (((HK4.out.drew.trans HK5.out).trans HK6.out).trans (kept_set w3 (s + 1 + 1) 3 _)).trans (kept_set _ (s + 1 + 1) 4 _)
  generalize (w3.setCell ⟨s + 1 + 1, 3, none⟩ (.int .i64 (o' : Int))).setCell ⟨s + 1 + 1, 4, none⟩ (.int .i64 (n' : Int)) = w4 at HB7 HK7 ⊢
  clear HB3 HB4 HB5 HB6 HK4 HK5 HK6
  have c5 := HB7.out.cell 5
  have cf := HB7.out.frozen 5
  simp only [List.getElem?_cons_zero, List.getElem?_cons_succ] at c5
  have hlc : (len : Int) ≤ (cap : Int) := by omega
  by_cases h8 : 8 < len
  · have h8z : (8 : Int) < (len : Int) := by omega
    have h8c : (8 : Int) ≤ (cap : Int) := by omega
    go_upto_region 7 with (fail)
    clear c5 cf
    have HB8 : Hid (Blk (w4.setCell ⟨s + 1 + 1, 5, none⟩ (.slice A 8 cap)) (s + 1 + 1) 25 [.int .i64 (1 + (k' : Int)), .int .i64 (p' : Int), .int .i64 (h' : Int), .int .i64 (o' : Int), .int .i64 (n' : Int), .slice A 8 cap]) := HB7.out.set 5 _
    have HKA : Hid (Kept (· = s + 1 + 1) w0 (w4.setCell ⟨s + 1 + 1, 5, none⟩ (.slice A 8 cap))) := HK7.out.trans (kept_set w4 (s + 1 + 1) 5 _)
    generalize w4.setCell ⟨s + 1 + 1, 5, none⟩ (.slice A 8 cap) = w5 at HB8 HKA ⊢
    have HC5 := Lib.hid (HB1.out.kept HKA.out (fun (e : s = s + 1 + 1) => by omega))
    have HD5 := Lib.hid (HB2.out.kept HKA.out (fun (e : s + 1 = s + 1 + 1) => by omega))
    have r0 := HC5.out.cell 0
    have o0 := HB8.out.cell 0
    have o1 := HB8.out.cell 1
    have o2 := HB8.out.cell 2
    have o3 := HB8.out.cell 3
    have o4 := HB8.out.cell 4
    have o5 := HB8.out.cell 5
    simp only [List.getElem?_cons_zero, List.getElem?_cons_succ] at r0 o0 o1 o2 o3 o4 o5
    have q0 := up_cell (F := fun x => x = s + 1) (w := w5.drew) (p := ⟨s, 0, none⟩) r0 (fun e => by have e : s = s + 1 := e; omega)
    have q1 := up_cell (F := fun x => x = s + 1) (w := w5.drew) (p := ⟨s + 1 + 1, 0, none⟩) o0 (fun e => by have e : s + 1 + 1 = s + 1 := e; omega)
    have q2 := up_cell (F := fun x => x = s + 1) (w := w5.drew) (p := ⟨s + 1 + 1, 1, none⟩) o1 (fun e => by have e : s + 1 + 1 = s + 1 := e; omega)
    have q3 := up_cell (F := fun x => x = s + 1) (w := w5.drew) (p := ⟨s + 1 + 1, 2, none⟩) o2 (fun e => by have e : s + 1 + 1 = s + 1 := e; omega)
    have q4 := up_cell (F := fun x => x = s + 1) (w := w5.drew) (p := ⟨s + 1 + 1, 3, none⟩) o3 (fun e => by have e : s + 1 + 1 = s + 1 := e; omega)
    have q5 := up_cell (F := fun x => x = s + 1) (w := w5.drew) (p := ⟨s + 1 + 1, 4, none⟩) o4 (fun e => by have e : s + 1 + 1 = s + 1 := e; omega)
    have q6 := up_cell (F := fun x => x = s + 1) (w := w5.drew) (p := ⟨s + 1 + 1, 5, none⟩) o5 (fun e => by have e : s + 1 + 1 = s + 1 := e; omega)
    have HST := Lib.hid (store_call (a := .int .i64 (c' : Int)) (b := .int .i64 (1 + (k' : Int))) (c := .int .i64 (p' : Int)) (d := .int .i64 (h' : Int)) (e := .int .i64 (o' : Int)) (f := .int .i64 (n' : Int)) (x := .slice A 8 cap) (Blk.drew HD5.out))
    clear r0 o0 o1 o2 o3 o4 o5
    refine wp_region_stages (Kept (fun x => x = s + 1)) (kept_refl _) (kept_trans _) [([0, 1, 2, 3, 4, 5, 6, 7, 8], 9)] [] (by kernel_rfl) (by kernel_rfl) ?_
    simp only [selSt, sel, List.map_cons, List.map_nil, List.getD_cons_succ, List.getD_cons_zero]
    refine st_cons fun K hK => ?_
    repeat (go_big_quiet_step (fail))
    refine wpQuiet_nil ?_
    clear q0 q1 q2 q3 q4 q5 q6
    refine wpList_plain rfl fun _ hK0 => wp_store_row 55 _ _ rfl (s + 1) #[.int .i64 (c' : Int), .int .i64 (1 + (k' : Int)), .int .i64 (p' : Int), .int .i64 (h' : Int), .int .i64 (o' : Int), .int .i64 (n' : Int), .slice A 8 cap] rfl rfl _ _ (Blk.drew HD5.out) call_size rfl (by simp [Value.oneCell']) (hK0 _ _ ?_)
    go_wp2
    refine norm_up (hK _ _ HST.out.2 (st_nil fun K3 hK3 => wpQuiet_nil (hK3 _ ?_)))
    clear hK0 hK K hK3 K3
    have HBA := Lib.hid HST.out.1
    have HKF : Hid (Grow w (w5.drew.setRow (s + 1) #[.int .i64 (c' : Int), .int .i64 (1 + (k' : Int)), .int .i64 (p' : Int), .int .i64 (h' : Int), .int .i64 (o' : Int), .int .i64 (n' : Int), .slice A 8 cap])) := (HG.out.then HKA.out fun x hx (e : x = s + 1 + 1) => by have := HS.out; omega).drew.then HST.out.2 fun x hx (e : x = s + 1) => by have := HS.out; omega
    go_wp2
    rw [HQ.out]
    have hr := HR.out
    exact ret_call rfl rfl HBA.out rfl ⟨c', 1 + k', p', h', o', n', 8, rfl, hr.1, by omega, by omega, hr.2.2.1, hr.2.2.2.1, hr.2.2.2.2.1, hr.2.2.2.2.2, by omega, HKF.out⟩
  · have h8z : ¬ (8 : Int) < (len : Int) := by omega
    have h8z' : (len : Int) ≤ 8 := by omega
    go_upto_region 7 with (fail)
    clear c5 cf
    have HB8 := HB7
    have HKA := HK7
    obtain ⟨w5, hw5⟩ : ∃ w5, w5 = w4 := ⟨_, rfl⟩
    rw [← hw5] at HB8 HKA ⊢
    clear hw5 HB7 HK7
    have HC5 := Lib.hid (HB1.out.kept HKA.out (fun (e : s = s + 1 + 1) => by omega))
    have HD5 := Lib.hid (HB2.out.kept HKA.out (fun (e : s + 1 = s + 1 + 1) => by omega))
    have r0 := HC5.out.cell 0
    have o0 := HB8.out.cell 0
    have o1 := HB8.out.cell 1
    have o2 := HB8.out.cell 2
    have o3 := HB8.out.cell 3
    have o4 := HB8.out.cell 4
    have o5 := HB8.out.cell 5
    simp only [List.getElem?_cons_zero, List.getElem?_cons_succ] at r0 o0 o1 o2 o3 o4 o5
    have q0 := up_cell (F := fun x => x = s + 1) (w := w5.drew) (p := ⟨s, 0, none⟩) r0 (fun e => by have e : s = s + 1 := e; omega)
    have q1 := up_cell (F := fun x => x = s + 1) (w := w5.drew) (p := ⟨s + 1 + 1, 0, none⟩) o0 (fun e => by have e : s + 1 + 1 = s + 1 := e; omega)
    have q2 := up_cell (F := fun x => x = s + 1) (w := w5.drew) (p := ⟨s + 1 + 1, 1, none⟩) o1 (fun e => by have e : s + 1 + 1 = s + 1 := e; omega)
    have q3 := up_cell (F := fun x => x = s + 1) (w := w5.drew) (p := ⟨s + 1 + 1, 2, none⟩) o2 (fun e => by have e : s + 1 + 1 = s + 1 := e; omega)
    have q4 := up_cell (F := fun x => x = s + 1) (w := w5.drew) (p := ⟨s + 1 + 1, 3, none⟩) o3 (fun e => by have e : s + 1 + 1 = s + 1 := e; omega)
    have q5 := up_cell (F := fun x => x = s + 1) (w := w5.drew) (p := ⟨s + 1 + 1, 4, none⟩) o4 (fun e => by have e : s + 1 + 1 = s + 1 := e; omega)
    have q6 := up_cell (F := fun x => x = s + 1) (w := w5.drew) (p := ⟨s + 1 + 1, 5, none⟩) o5 (fun e => by have e : s + 1 + 1 = s + 1 := e; omega)
    have HST := Lib.hid (store_call (a := .int .i64 (c' : Int)) (b := .int .i64 (1 + (k' : Int))) (c := .int .i64 (p' : Int)) (d := .int .i64 (h' : Int)) (e := .int .i64 (o' : Int)) (f := .int .i64 (n' : Int)) (x := .slice A len cap) (Blk.drew HD5.out))
    clear r0 o0 o1 o2 o3 o4 o5
    refine wp_region_stages (Kept (fun x => x = s + 1)) (kept_refl _) (kept_trans _) [([0, 1, 2, 3, 4, 5, 6, 7, 8], 9)] [] (by kernel_rfl) (by kernel_rfl) ?_
    simp only [selSt, sel, List.map_cons, List.map_nil, List.getD_cons_succ, List.getD_cons_zero]
    refine st_cons fun K hK => ?_
    repeat (go_big_quiet_step (fail))
    refine wpQuiet_nil ?_
    clear q0 q1 q2 q3 q4 q5 q6
    refine wpList_plain rfl fun _ hK0 => wp_store_row 55 _ _ rfl (s + 1) #[.int .i64 (c' : Int), .int .i64 (1 + (k' : Int)), .int .i64 (p' : Int), .int .i64 (h' : Int), .int .i64 (o' : Int), .int .i64 (n' : Int), .slice A len cap] rfl rfl _ _ (Blk.drew HD5.out) call_size rfl (by simp [Value.oneCell']) (hK0 _ _ ?_)
    go_wp2
    refine norm_up (hK _ _ HST.out.2 (st_nil fun K3 hK3 => wpQuiet_nil (hK3 _ ?_)))
    clear hK0 hK K hK3 K3
    have HBA := Lib.hid HST.out.1
    have HKF : Hid (Grow w (w5.drew.setRow (s + 1) #[.int .i64 (c' : Int), .int .i64 (1 + (k' : Int)), .int .i64 (p' : Int), .int .i64 (h' : Int), .int .i64 (o' : Int), .int .i64 (n' : Int), .slice A len cap])) := (HG.out.then HKA.out fun x hx (e : x = s + 1 + 1) => by have := HS.out; omega).drew.then HST.out.2 fun x hx (e : x = s + 1) => by have := HS.out; omega
    go_wp2
    rw [HQ.out]
    have hr := HR.out
    exact ret_call rfl rfl HBA.out rfl ⟨c', 1 + k', p', h', o', n', len, rfl, hr.1, by omega, by omega, hr.2.2.1, hr.2.2.2.1, hr.2.2.2.2.1, hr.2.2.2.2.2, by omega, HKF.out⟩
end Go.Proofs.Ytjdlpknflhgkfaa.MdNear
namespace Go.Proofs.Ytjdlpknflhgkfaa.HsMake
open Go.ChangeShapes Go.WideShapes Go.ChangeAt Go.RowKit
open Go.Proofs.Ytjdlpknflhgkfaa.MdN Go.Proofs.Ytjdlpknflhgkfaa.Mem Go.Proofs.Ytjdlpknflhgkfaa.Blk Go.Proofs.Ytjdlpknflhgkfaa.Cells Go.Proofs.Ytjdlpknflhgkfaa.Orow Go.Proofs.Ytjdlpknflhgkfaa.MdM Go.Proofs.Ytjdlpknflhgkfaa.MdC Go.Proofs.Ytjdlpknflhgkfaa.MdD Go.Proofs.Ytjdlpknflhgkfaa.MdNear Go.Proofs.Ytjdlpknflhgkfaa.MdK Go.Proofs.Ytjdlpknflhgkfaa.HsM Go.Proofs.Ytjdlpknflhgkfaa.HsE Go.Proofs.Ytjdlpknflhgkfaa.HsB Go.Proofs.Ytjdlpknflhgkfaa.HsR Go.Proofs.Ytjdlpknflhgkfaa.HsRS Go.Proofs.Ytjdlpknflhgkfaa.HsF Go.Proofs.Ytjdlpknflhgkfaa.HsMk Go.Proofs.Ytjdlpknflhgkfaa.PmC Go.Proofs.Ytjdlpknflhgkfaa.Calls13 Go.Proofs.Ytjdlpknflhgkfaa.Stages

def three (O : Nat → Int) : List Value := [.int .i64 (O 0), .int .i64 (O 1), .int .i64 (O 2)]
theorem three_get (O : Nat → Int) {c : Nat} (hc : c < 3) : (three O)[c]? = some (.int .i64 (O c)) := by
  rcases (by omega : c = 0 ∨ c = 1 ∨ c = 2) with h | h | h <;> subst h <;> rfl
theorem three_set (O : Nat → Int) {c : Nat} (hc : c < 3) (v : Int) : (three O).set c (.int .i64 v) = three (updO O c v) := by
  rcases (by omega : c = 0 ∨ c = 1 ∨ c = 2) with h | h | h <;> subst h <;> rfl
/-- What Make has: the state's blocks are those from w's end on and below B0; its boxes below B; the row and its data from B on. O: who has not ended; P: what 'open' tells. -/
structure MkW (w : World) (B0 B m gO : Nat) (x y z v : Value) (n : Nat) (now : Int) (O P : Nat → Int) (wx : World) : Prop where
  row : ∃ L Q, HRow wx B (fun k => k < w.heap.size ∨ B ≤ k) v n L Q ∧ MkI L n now O
  st : ∃ a, SAt wx (fun k => w.heap.size ≤ k ∧ k < B0) (.agg #[x, y, z]) a
  box : Blk wx m 44 [x, y, z]
  op : Blk wx gO 3 (three P)
  gr : Grow w wx
/-- Where the boxes lie. -/
structure MkB (w : World) (B0 B m gO : Nat) : Prop where
  b0 : w.heap.size ≤ B0
  bm : B0 ≤ m ∧ m < B
  bo : B0 ≤ gO ∧ gO < B
  ne : m ≠ gO
section
variable {w wx w' : World} {B0 B m gO n : Nat} {x y z v : Value} {now : Int} {O P : Nat → Int}
theorem MkW.grow (h : MkW w B0 B m gO x y z v n now O P wx) (hk : Grow wx w') : MkW w B0 B m gO x y z v n now O P w' := by
  obtain ⟨L, Q, h1, h2⟩ := h.row
  obtain ⟨a, h3⟩ := h.st
  exact ⟨⟨L, Q, h1.grow hk, h2⟩, ⟨a, h3.grow hk⟩, h.box.grow hk, h.op.grow hk, h.gr.trans hk⟩
/-- A cell of 'open' is written. -/
theorem MkW.opens (h : MkW w B0 B m gO x y z v n now O P wx) (hb : MkB w B0 B m gO) {c : Nat} (hc : c < 3) (u : Int) : MkW w B0 B m gO x y z v n now O (updO P c u) (wx.setCell ⟨gO, c, none⟩ (.int .i64 u)) := by
  obtain ⟨L, Q, h1, h2⟩ := h.row
  obtain ⟨a, h3⟩ := h.st
  have hk := kept_set wx gO c (.int .i64 u)
  have b0 := hb.b0
  have bo := hb.bo
  refine ⟨⟨L, Q, h1.kept hk (fun k hk e => ?_) (fun k _ _ hy e => ?_), h2⟩, ⟨a, h3.kept hk fun k hk e => ?_⟩, h.box.kept hk fun e => hb.ne e, ?_, h.gr.then hk fun k hk e => ?_⟩
  · have e : k = gO := e
    have := h1.own hk
    omega
  · have e : k = gO := e
    have hy : k < w.heap.size ∨ B ≤ k := hy
    omega
  · have e : k = gO := e
    have hk : w.heap.size ≤ k ∧ k < B0 := hk
    omega
  · have := h.op.set c (.int .i64 u)
    rw [three_set P hc] at this
    exact this
  · have e : k = gO := e
    omega
/-- The row's block is no block of another type. -/
theorem own_ne {Y : Nat → Prop} {L : Nat → Ev} {Q : Nat → Ad} {b k : Nat} {t : TypeId} {cs : List Value} (h : HRow wx B Y v n L Q) (hb : Blk wx b t cs) (ht : t ≠ 29) (hk : v.ownBlock = some k) : k ≠ b := fun e => by
  rcases h.form with ⟨e2, _⟩ | ⟨g, c, e2, ho, _⟩
  · rw [e2] at hk; cases hk
  · rw [e2] at hk
    injection hk with hk
    exact blk_row hb ho ht (by rw [← e, ← hk])
/-- What finish makes of it. -/
theorem MkW.fins {L : Nat → Ev} {Q : Nat → Ad} {k c : Nat} {e : Bool} {en : Ending} (hb : MkB w B0 B m gO) (hrow : HRow wx B (fun k => k < w.heap.size ∨ B ≤ k) v n L Q) (hI : MkI L n now O) (hbox : Blk wx m 44 [x, y, z]) (hop : Blk wx gO 3 (three P)) (hgr : Grow w wx) (hc : c < 3) (hk : k < n) (hkc : (L k).c = (c : Int)) (he : (L k).e = 0)
    (hf : FinsP B (fun k => k < w.heap.size ∨ B ≤ k) (fun k => w.heap.size ≤ k ∧ k < B0) v (.agg #[x, y, z]) n L (k : Int) now e wx en w') :
    ∃ now', en = .returned (.int .i64 now') ∧ now' ≤ now + 2 ∧ MkW w B0 B m gO x y z v n now' (if e = true then updO O c (-1) else O) P w' ∧ ∀ b t cs, Blk wx b t cs → t ≠ 29 → B ≤ b → Blk w' b t cs := by
  obtain ⟨now', L', Q', a', rfl, h1, h2, h3, h4⟩ := hf
  have b0 := hb.b0
  have bm := hb.bm
  have bo := hb.bo
  have own : ∀ j, v.ownBlock = some j → B ≤ j := fun j hj => (hrow.own hj).1
  rcases h4 with ⟨hno, _⟩ | ⟨k', y', e1, _, rfl, hfe⟩
  · exact absurd ⟨by omega, by omega⟩ hno
  · obtain rfl : k' = k := by omega
    have hn : now' ≤ now + 2 := by
      have := hfe.now
      rw [this]
      split <;> split <;> omega
    refine ⟨now', rfl, hn, ⟨⟨_, Q', h1, hI.fin hk hc hkc he hfe⟩, ⟨a', h2⟩, hbox.kept h3 ?_, hop.kept h3 ?_, hgr.then h3 fun j hj e => ?_⟩, fun b t cs hbl ht hBb => hbl.kept h3 ?_⟩
    · rintro (e | e)
      · omega
      · have := own m e
        omega
    · rintro (e | e)
      · omega
      · have := own gO e
        omega
    · rcases e with e | e
      · omega
      · have := own j e
        omega
    · rintro (e | e)
      · omega
      · exact own_ne hrow hbl ht e rfl
/-- What the loop has. -/
def MkLoop (w : World) (B0 B m gO : Nat) (x y z : Value) (M gx : Nat) (v6 v8 v9 : Value) (wx : World) : Prop :=
  ∃ (j : Nat) (now : Int) (O : Nat → Int), j + gx = M ∧ v9 = .int .i64 (j : Int) ∧ v8 = .int .i64 now ∧ now ≤ 5 * (j : Int) ∧ MkW w B0 B m gO x y z v6 j now O O wx
/-- What Make tells. -/
def MakeP (n : Nat) (w : World) (e : Ending) (w' : World) : Prop :=
  ∃ A c L O now, e = .returned (.slice A n c) ∧ n ≤ c ∧ c ≤ maxLen ∧ EvsAt w' Any A n L ∧ MkI L n now O ∧ now ≤ 5 * (n : Int) ∧ Grow w w'
theorem int_box (w : World) (x y z : Value) : Blk (w.alloc (.cells #[x, y, z] 3)) w.heap.size 3 [x, y, z] ∧ Grow w (w.alloc (.cells #[x, y, z] 3)) := ⟨Blk.new w _ _, (Kept.refl _ _).alloc _⟩
theorem call_box (w : World) (c k p h o n s : Value) : Grow w (w.alloc (.cells #[c, k, p, h, o, n, s] 55)) ∧ Blk (w.alloc (.cells #[c, k, p, h, o, n, s] 55)) w.heap.size 55 [c, k, p, h, o, n, s] := ⟨(Kept.refl _ _).alloc _, Blk.new w _ [c, k, p, h, o, n, s]⟩
theorem bytes_take {w w' : World} {F : Nat → Prop} {A : Option Addr} {len cap l' : Nat} (h : BytesAt w A len cap) (hl : l' ≤ len) (hk : Kept F w w') (hF : ∀ k, k < w.heap.size → ¬ F k) : BytesAt w' A l' cap ∧ (0 < l' → ∀ x, A = some x → x.block < w.heap.size) := by
  obtain ⟨d, hs, hb, h1, h2⟩ := h
  refine ⟨⟨d.take l', ⟨by rw [List.length_take, hs.len]; omega, fun h0 => ?_⟩, fun z hz => hb z (List.mem_of_mem_take hz), by omega, h2⟩, fun h0 x hx => ?_⟩
  · obtain ⟨b, off, rfl, hlt, hc⟩ := hs.at_ (by omega)
    refine ⟨b, off, rfl, Nat.lt_of_lt_of_le hlt hk.size, fun j hj => ?_⟩
    rw [show (d.take l').getD j 0 = d.getD j 0 by simp [List.getD_eq_getElem?_getD, hj]]
    exact hk.cellN (hc j (by omega)) (hF b hlt)
  · obtain ⟨b, off, e, hlt, hc⟩ := hs.at_ (by omega)
    rw [hx] at e
    injection e with e
    rw [e]
    exact hlt
set_option maxHeartbeats 4000000 in
set_option maxRecDepth 100000 in
theorem make_any {A0 A1 : Option Addr} {len0 cap0 len1 : Nat} {ds : List Int} (hcalls : CallsAt w A0 len0 cap0) (hlen : len0 ≤ 50) (hwait : Sl w w.heap.size .i64 A1 len1 ds) (cap1 : Nat) :
    Calls Try.prog 22 #[.slice A0 len0 cap0, .slice A1 len1 cap1] w (MakeP len0 w) := by
  obtain ⟨hlc, hcm, hops⟩ := hcalls
  unfold maxLen at hcm
  have HOPS := Lib.hid hops
  have HWT := Lib.hid hwait
  have hlz : (len0 : Int) ≤ 50 := by omega
  clear hops hwait
  have CN := Lib.hid (rnew_any 5 3 (by omega) (by omega) (by omega) (by omega) w)
  simp only [Int.cast_ofNat_Int] at CN
  go_enter Try.func22, Try.ntmps22
  go_upto_region 2 with (go_at_call 30; (with_reducible refine CN.out.mono ?_); rintro e w1 ⟨sv, rfl, hsa, hg⟩; obtain ⟨X1, n1, c1, X2, n2, c2, X3, n3, c3, rfl⟩ := sat_form hsa; have HSA := Lib.hid hsa; have HG1 := Lib.hid hg; clear hsa hg)
  obtain ⟨hsb, hg2⟩ := s_box w1 (.slice X1 n1 c1) (.slice X2 n2 c2) (.slice X3 n3 c3)
  obtain ⟨m, hm⟩ : ∃ m, m = w1.heap.size := ⟨_, rfl⟩
  have hz2 : (w1.alloc (.cells #[.slice X1 n1 c1, .slice X2 n2 c2, .slice X3 n3 c3] 44)).heap.size = m + 1 := by simp [hm]
  rw [← hm] at hsb ⊢
  generalize w1.alloc (.cells #[.slice X1 n1 c1, .slice X2 n2 c2, .slice X3 n3 c3] 44) = w2 at hsb hg2 hz2 ⊢
  have HM1 := Lib.hid hm
  have HZ2 := Lib.hid hz2
  have HSB := Lib.hid hsb
  have HG2 : Hid (Grow w w2) := HG1.out.trans hg2
  have HST : Hid (SAt w2 (fun k => w.heap.size ≤ k ∧ k < m) (.agg #[.slice X1 n1 c1, .slice X2 n2 c2, .slice X3 n3 c3]) (fresh 5 3)) := (HSA.out.mono fun k hk h => by
    have h : w.heap.size ≤ k := h
    exact ⟨h, by omega⟩).grow hg2
  clear hm hz2 hsb hg2 CN
  go_upto_region 4 with (fail)
  obtain ⟨hob, hg3⟩ := int_box w2 (.int .i64 (-1)) (.int .i64 (-1)) (.int .i64 (-1))
  rw [HZ2.out] at hob ⊢
  generalize w2.alloc (.cells #[.int .i64 (-1), .int .i64 (-1), .int .i64 (-1)] 3) = w3 at hob hg3 ⊢
  have HB : Hid (MkB w m (m + 2) m (m + 1)) := ⟨by have := HG1.out.size; have := HM1.out; omega, by omega, by omega, by omega⟩
  have HW : Hid (MkW w m (m + 2) m (m + 1) (.slice X1 n1 c1) (.slice X2 n2 c2) (.slice X3 n3 c3) (.slice none 0 0) 0 0 (fun _ => -1) (fun _ => -1) w3) :=
    ⟨⟨fun _ => ⟨0, ⟨0, 0, 0, 0, 0, []⟩, ⟨0, 0, 0, []⟩, 0, 0, 0⟩, fun _ => ⟨none, 0, 0, none, 0, 0⟩, HRow.nil _ _ _ _ _, mk_zero _⟩, ⟨_, HST.out.grow hg3⟩, HSB.out.grow hg3, hob, HG2.out.trans hg3⟩
  have HSZ : Hid (m + 2 ≤ w3.heap.size) := by have := hob.lt; show _ ≤ _; omega
  clear hob hg3 HST HSB HG2 HSA HG1
  go_wp2
  go_loopg [6, 8, 9] len0 (fun gx v6 v8 v9 wx => MkLoop w m (m + 2) m (m + 1) (.slice X1 n1 c1) (.slice X2 n2 c2) (.slice X3 n3 c3) len0 gx v6 v8 v9 wx)
  case atStart => exact ⟨0, 0, _, by omega, rfl, rfl, by omega, HW.out⟩
  case round =>
    obtain ⟨j, now, O, hg, rfl, rfl, hn5, hw⟩ := hrel
    have HG := Lib.hid hg
    have HWR := Lib.hid hw
    clear hg hw HW
    have hjb : (j : Int) ≤ 50 := by have := HG.out; omega
    by_cases hj : j < len0
    · have hjz : (j : Int) < (len0 : Int) := by omega
      have HJ := Lib.hid hj
      obtain ⟨ab, ao, rfl, hab, hall⟩ := HOPS.out (by omega)
      obtain ⟨x, hx⟩ := hall j hj
      have HX := Lib.hid hx
      have cc := HWR.out.gr.cellN hx.c id
      have ck := HWR.out.gr.cellN hx.k id
      have cp := HWR.out.gr.cellN hx.p id
      have ch := HWR.out.gr.cellN hx.h id
      have co := HWR.out.gr.cellN hx.o id
      have cn := HWR.out.gr.cellN hx.n id
      have cd := HWR.out.gr.cellN hx.d id
      have HNEAR : Hid (∀ wx, Calls Try.prog 26 #[.agg #[.int .i64 x.c, .int .i64 x.k, .int .i64 x.p, .int .i64 x.h, .int .i64 x.o, .int .i64 x.n, .slice x.A x.len x.cap], .int .i64 5, .int .i64 3] wx (NearP 5 3 x.A x.len x.cap wx)) := fun wx => near_any x.c x.k x.p x.h x.o x.n x.A x.len x.cap 5 3 (by omega) (by omega) (by omega) (by omega) (by obtain ⟨d, _, _, h, _⟩ := HX.out.da; exact h) wx
      clear hall hx hj hab
      go_upto_region 9 with (go_at_call 26; (with_reducible refine (HNEAR.out _).mono ?_); rintro e wn ⟨c', k', p', h', o', n', l', rfl, hr1, hr2, hr3, hr4, hr5, hr6, hr7, hl, hg⟩; have HNR := Lib.hid (And.intro hr6 (And.intro hl hr1)); have HGN := Lib.hid hg; clear hg hr1 hr2 hr3 hr4 hr5 hr6 hr7 hl)
      obtain ⟨hgc, hnb⟩ := call_box wn (.int .i64 (c' : Int)) (.int .i64 (k' : Int)) (.int .i64 (p' : Int)) (.int .i64 (h' : Int)) (.int .i64 (o' : Int)) (.int .i64 (n' : Int)) (.slice x.A l' x.cap)
      have hgs : m + 2 ≤ wn.heap.size := by have h1 := HWR.out.op.lt; have h2 := HGN.out.size; omega
      generalize wn.alloc (.cells #[.int .i64 (c' : Int), .int .i64 (k' : Int), .int .i64 (p' : Int), .int .i64 (h' : Int), .int .i64 (o' : Int), .int .i64 (n' : Int), .slice x.A l' x.cap] 55) = wc at hgc hnb ⊢
      generalize wn.heap.size = gc at hnb hgs ⊢
      have HGC := Lib.hid hgs
      have HWC := Lib.hid (HWR.out.grow (HGN.out.trans hgc))
      have HCB := Lib.hid hnb
      clear hgc hnb hgs cc ck cp ch co cn cd HWR HNEAR HGN
      go_upto_if 29 with fail
      go_cut [11] (fun s11 wx => (∃ z : Int, s11 = .int .i64 z) ∧ wx = wc)
      case first =>
        by_cases hw : j < len1
        · have hwz : (j : Int) < (len1 : Int) := by omega
          obtain ⟨wb, wo, hA1, _, hcw⟩ := HWT.out.at_ (by omega)
          have r1 := HWC.out.gr.cellN (hcw j hw) id
          subst hA1
          clear hcw hw
          go_wp2_with fail
          go_meet
          case rel => exact ⟨⟨_, rfl⟩, rfl⟩
        · have hwz : ¬ (j : Int) < (len1 : Int) := by omega
          clear hw
          go_wp2_with fail
          go_meet
          case rel => exact ⟨⟨_, rfl⟩, rfl⟩
      case rest =>
        obtain ⟨⟨mw, rfl⟩, rfl⟩ := hcut
        have hc3 : c' < 3 := HNR.out.2.2
        have hc3z : (c' : Int) < 3 := by omega
        have HC3 := Lib.hid hc3
        have hnn : 0 ≤ now := by obtain ⟨_, _, _, h⟩ := HWC.out.row; exact h.nn
        have y0 := HCB.out.cell 0
        have oc := HWC.out.op.cell c'
        rw [three_get O hc3] at oc
        simp only [List.getElem?_cons_zero] at y0
        clear hc3
        go_upto_if 40 with fail
        go_cut [8] (fun s8 wx => ∃ (now' : Int) (O' : Nat → Int), s8 = .int .i64 now' ∧ now' ≤ now + 2 ∧ O' c' = -1 ∧ MkW w m (m + 2) m (m + 1) (.slice X1 n1 c1) (.slice X2 n2 c2) (.slice X3 n3 c3) u6 j now' O' O' wx ∧ Blk wx gc 55 [.int .i64 (c' : Int), .int .i64 (k' : Int), .int .i64 (p' : Int), .int .i64 (h' : Int), .int .i64 (o' : Int), .int .i64 (n' : Int), .slice x.A l' x.cap])
        case first =>
          obtain ⟨L, Q, hrow, hI⟩ := HWC.out.row
          by_cases ho : 0 ≤ O c'
          · obtain ⟨a, hst⟩ := HWC.out.st
            obtain ⟨k, hk, hok, hkc, hke⟩ := hI.at_ HC3.out ho
            have CF := Lib.hid (finish_any (B0 := w.heap.size) (B := m + 2) (G := fun k => w.heap.size ≤ k ∧ k < m) (fun k hk => ⟨hk.1, by have := hk.2; omega⟩) hst hrow (by have := HWC.out.op.lt; omega) (by omega) (O c') now ⟨hnn, by omega⟩ true)
            have HF : Hid (∀ en w', FinsP (m + 2) (fun k => k < w.heap.size ∨ m + 2 ≤ k) (fun k => w.heap.size ≤ k ∧ k < m) u6 (.agg #[.slice X1 n1 c1, .slice X2 n2 c2, .slice X3 n3 c3]) j L (O c') now true wc en w' → _) := fun en w' hf => MkW.fins HB.out hrow hI HWC.out.box HWC.out.op HWC.out.gr HC3.out hk hkc hke (hok ▸ hf)
            have b0 := HWC.out.box.cell 0
            have b1 := HWC.out.box.cell 1
            have b2 := HWC.out.box.cell 2
            simp only [List.getElem?_cons_zero, List.getElem?_cons_succ] at b0 b1 b2
            clear hrow hI hk hkc hke hok hst
            go_upto_region 15 with (go_at_call 37; (with_reducible refine CF.out.mono ?_); rintro e wf hf; obtain ⟨now', rfl, hn2, hwf, hbf⟩ := HF.out _ _ hf; have HWF := Lib.hid hwf; have HBF := Lib.hid (hbf _ _ _ HCB.out (by decide) HGC.out); clear hf hwf hbf)
            rw [if_pos trivial] at HWF
            clear b0 b1 b2 y0 oc
            have y0 := HBF.out.cell 0
            have oc := HWF.out.op.cell c'
            have of := HWF.out.op.frozenAll
            rw [three_get O HC3.out] at oc
            simp only [List.getElem?_cons_zero] at y0
            have HOP := Lib.hid (HWF.out.opens HB.out HC3.out (-1))
            have HKO := Lib.hid (kept_set wf (m + 1) c' (.int .i64 (-1)))
            go_wp2_with fail
            go_meet
            case rel => exact ⟨now', updO O c' (-1), rfl, hn2, if_pos rfl, HOP.out, HBF.out.kept HKO.out fun e => by have e : gc = m + 1 := e; have := HGC.out; omega⟩
          · have ho' := (hI.all HC3.out (by omega)).1
            have HO := Lib.hid ho'
            clear hrow hI ho'
            go_wp2_with fail
            go_meet
            case rel => exact ⟨now, O, rfl, by omega, HO.out, HWC.out, HCB.out⟩
        case rest =>
          obtain ⟨now', O', rfl, hn2, hO, hw, hcb⟩ := hcut
          clear HWC HCB y0 oc
          obtain ⟨L, Q, hrow, hI⟩ := hw.row
          obtain ⟨a, hst⟩ := hw.st
          obtain ⟨⟨d, hd, hdb, hl1, hl2⟩, hdx⟩ := bytes_take (l' := l') HX.out.da (by have h := HNR.out.2.1; rw [h]; exact Nat.min_le_left _ _) hw.gr (fun _ _ h => h)
          have hnn' := hI.nn
          obtain ⟨xe, hxe⟩ : ∃ xe : Ev, xe = ⟨(c' : Int), ⟨(k' : Int), (p' : Int), (h' : Int), (o' : Int), (n' : Int), d⟩, ⟨0, 0, 0, []⟩, now' + 1, 0, 0⟩ := ⟨_, rfl⟩
          obtain ⟨ad, had⟩ : ∃ ad : Ad, ad = ⟨x.A, l', x.cap, none, 0, 0⟩ := ⟨_, rfl⟩
          have hI7 : MkI (updE L j xe) (j + 1) (now' + 1) (updO O' c' (j : Int)) := hI.push HC3.out hO (by rw [hxe]) (by rw [hxe]) (by rw [hxe]) (by rw [hxe])
          have hgv : Grow wc (wc.alloc (.cells (evq xe ad).toArray 29)) := (Kept.refl _ _).alloc _
          have hbv := Blk.new wc 29 (evq xe ad)
          have hown : ∀ k, u6.ownBlock = some k → m + 2 ≤ k := fun k hk => (hrow.own hk).1
          have hwm : w.heap.size ≤ m := HB.out.b0
          have hqv : EvQ (wc.alloc (.cells (evq xe ad).toArray 29)) (fun k => u6.ownBlock ≠ some k ∧ (k < w.heap.size ∨ m + 2 ≤ k)) xe ad := by
            rw [hxe, had]
            refine ⟨sl_grow hd ((Kept.refl _ _).alloc _), hdb, ⟨hl1, hl2⟩, Sl.nil _ _ _ _, fun z hz => (by cases hz), Nat.zero_le _, by have := HNR.out.1; unfold Rng I64; dsimp only; omega, fun h0 y hy => ?_, fun h0 => absurd h0 (Nat.lt_irrefl 0)⟩
            have h1 := hdx h0 y hy
            exact ⟨fun e => by have := hown _ e; omega, .inl h1⟩
          obtain ⟨gr, cap, w7, hrr, hrow7, hk7, _⟩ := HRow.push 30 (hrow.grow hgv) (by omega) wc.heap.size 1 (x := xe) (d := ad) (fun i y hy => by rw [hbv.cell]; exact hy) hqv (by have := hw.op.lt; have := hgv.size; omega)
          have HW7 : Hid (MkW w m (m + 2) m (m + 1) (.slice X1 n1 c1) (.slice X2 n2 c2) (.slice X3 n3 c3) (.slice (some ⟨gr, 0, none⟩) (j + 1) cap) (j + 1) (now' + 1) (updO O' c' (j : Int)) O' w7) :=
            ⟨⟨_, _, hrow7, hI7⟩, ⟨a, (hst.grow hgv).kept hk7 fun k hk e => by have := hown k e; have := hk.2; omega⟩, (hw.box.grow hgv).kept hk7 fun e => by have := hown _ e; omega, (hw.op.grow hgv).kept hk7 fun e => by have := hown _ e; omega, (hw.gr.trans hgv).then hk7 fun k hk e => by have := hown _ e; omega⟩
          have HC7 := Lib.hid ((hcb.grow hgv).kept hk7 fun e => own_ne hrow hcb (by decide) e rfl)
          have HRR := Lib.hid hrr
          rw [hxe, had] at HRR
          dsimp only [evq, evl] at HRR
          have HN2 := Lib.hid hn2
          have y0 := hcb.cell 0
          have y1 := hcb.cell 1
          have y2 := hcb.cell 2
          have y3 := hcb.cell 3
          have y4 := hcb.cell 4
          have y5 := hcb.cell 5
          have y6 := hcb.cell 6
          simp only [List.getElem?_cons_zero, List.getElem?_cons_succ] at y0 y1 y2 y3 y4 y5 y6
          have hnz : now' ≤ 300 := by omega
          clear hrow hI hst hd hdb hl1 hl2 hdx hxe had hI7 hgv hbv hown hwm hqv hrr hrow7 hk7 hO hw hcb hn2
          go_upto_region 18 with (at_builtin; refine Lib.wpList_append_run _ rfl _ _ _ _ rfl _ _ rfl rfl _ _ HRR.out ?_)
          clear y0 y1 y2 y3 y4 y5 y6
          have y0 := HC7.out.cell 0
          have oc := HW7.out.op.cell c'
          have of := HW7.out.op.frozenAll
          rw [three_get O' HC3.out] at oc
          simp only [List.getElem?_cons_zero] at y0
          have HW8 := Lib.hid (HW7.out.opens HB.out HC3.out (j : Int))
          have HC8 := Lib.hid (HC7.out.kept (kept_set w7 (m + 1) c' (.int .i64 (j : Int))) fun e => by have e : gc = m + 1 := e; have := HGC.out; omega)
          go_upto_if 70 with fail
          by_cases hm : (bits BinOp.and IntKind.i64 mw 1 == 1) = true
          · obtain ⟨L, Q, hrow, hI⟩ := HW8.out.row
            obtain ⟨a, hst⟩ := HW8.out.st
            have hoj : updO O' c' (j : Int) c' = (j : Int) := if_pos rfl
            obtain ⟨k, hk, hok, hkc, hke⟩ := hI.at_ HC3.out (by rw [hoj]; omega)
            obtain rfl : k = j := by rw [hoj] at hok; omega
            have CF := Lib.hid (finish_any (B0 := w.heap.size) (B := m + 2) (G := fun k => w.heap.size ≤ k ∧ k < m) (fun k hk => ⟨hk.1, by have := hk.2; omega⟩) hst hrow (by have := HW8.out.op.lt; omega) (by omega) (k : Int) (now' + 1) ⟨by omega, by omega⟩ (bits BinOp.and IntKind.i64 mw 2 == 2))
            have HF : Hid (∀ en w', FinsP (m + 2) (fun k => k < w.heap.size ∨ m + 2 ≤ k) (fun k => w.heap.size ≤ k ∧ k < m) (.slice (some ⟨gr, 0, none⟩) (k + 1) cap) (.agg #[.slice X1 n1 c1, .slice X2 n2 c2, .slice X3 n3 c3]) (k + 1) L (k : Int) (now' + 1) (bits BinOp.and IntKind.i64 mw 2 == 2) (w7.setCell ⟨m + 1, c', none⟩ (.int .i64 (k : Int))) en w' → _) := fun en w' hf => MkW.fins HB.out hrow hI HW8.out.box HW8.out.op HW8.out.gr HC3.out hk hkc hke hf
            have b0 := HW8.out.box.cell 0
            have b1 := HW8.out.box.cell 1
            have b2 := HW8.out.box.cell 2
            simp only [List.getElem?_cons_zero, List.getElem?_cons_succ] at b0 b1 b2
            clear hrow hI hk hkc hke hok hst hoj y0 oc of
            go_upto_region 21 with (go_at_call 37; (with_reducible refine CF.out.mono ?_); rintro e wf hf; obtain ⟨nw, rfl, hn3, hwf, hbf⟩ := HF.out _ _ hf; have HWF := Lib.hid hwf; have HN3 := Lib.hid hn3; have HBF := Lib.hid (hbf _ _ _ HC8.out (by decide) HGC.out); clear hf hwf hbf hn3)
            clear b0 b1 b2
            by_cases h2 : (bits BinOp.and IntKind.i64 mw 2 == 2) = true
            · rw [if_pos h2] at HWF
              have y0 := HBF.out.cell 0
              have oc := HWF.out.op.cell c'
              have of := HWF.out.op.frozenAll
              rw [three_get _ HC3.out] at oc
              simp only [List.getElem?_cons_zero] at y0
              have HOP := Lib.hid (HWF.out.opens HB.out HC3.out (-1))
              go_wp2
              go_roundg (gk - 1)
              case measure => have := HG.out; have := HJ.out; omega
              case rel => exact ⟨k + 1, nw, _, by have := HG.out; have := HJ.out; omega, by go_num, rfl, by have := HN2.out; have := HN3.out; omega, HOP.out⟩
            · rw [if_neg h2] at HWF
              go_wp2
              go_roundg (gk - 1)
              case measure => have := HG.out; have := HJ.out; omega
              case rel => exact ⟨k + 1, nw, _, by have := HG.out; have := HJ.out; omega, by go_num, rfl, by have := HN2.out; have := HN3.out; omega, HWF.out⟩
          · clear y0 oc of
            go_wp2
            go_roundg (gk - 1)
            case measure => have := HG.out; have := HJ.out; omega
            case rel => exact ⟨j + 1, now' + 1, _, by have := HG.out; have := HJ.out; omega, by go_num, rfl, by have := HN2.out; omega, HW8.out⟩
    · have hjN : j = len0 := by have := HG.out; omega
      subst hjN
      clear hj
      obtain ⟨L, Q, hrow, hI⟩ := HWR.out.row
      obtain ⟨A4, c4, rfl, hc4a, hc4b⟩ := hrow.slice
      have HEV := Lib.hid (hrow.evs rfl)
      have HI := Lib.hid hI
      have HN5 := Lib.hid hn5
      have HCB4 := Lib.hid (And.intro hc4a hc4b)
      clear hrow hI hc4a hc4b hn5
      go_wp2
      go_ret
      exact ⟨_, _, L, O, now, rfl, HCB4.out.1, HCB4.out.2, HEV.out, HI.out, HN5.out, HWR.out.gr⟩
end
#print axioms make_any
end Go.Proofs.Ytjdlpknflhgkfaa.HsMake
namespace Go.Proofs.Ytjdlpknflhgkfaa.HsRm
open Go.Proofs.Ytjdlpknflhgkfaa.HsM Go.Proofs.Ytjdlpknflhgkfaa.HsR Go.Proofs.Ytjdlpknflhgkfaa.HsF Go.Proofs.Ytjdlpknflhgkfaa.HsMk Go.Proofs.Ytjdlpknflhgkfaa.MdM

/-- All but what was told is the same. -/
def Like (L M : Nat → Ev) (n : Nat) : Prop := ∀ i, i < n → (M i).c = (L i).c ∧ (M i).o = (L i).o ∧ (M i).b = (L i).b ∧ (M i).s = (L i).s ∧ (M i).e = (L i).e
/-- What restore has after t events of the order. -/
structure RsI (L M : Nat → Ev) (n : Nat) (l : List Nat) (t : Nat) (a : Md) : Prop where
  like : Like L M n
  run : runL M (l.take t) (fresh' 5 3) = (0, a)
section
variable {L M : Nat → Ev} {n t : Nat} {l : List Nat} {a U : Md} {r : Re} {N p : Int}
theorem like_refl (L : Nat → Ev) (n : Nat) : Like L L n := fun _ _ => ⟨rfl, rfl, rfl, rfl, rfl⟩
theorem Like.ord (h : Like L M n) (ho : Ord L n l) : Ord M n l := ord_congr ho fun i hi => (h i hi).2.2.2.1
theorem Like.fst (h : Like L M n) {z : Int} (ho : Fst L N n z) : Fst M N n z := fst_congr ho fun i hi => ⟨(h i hi).1, (h i hi).2.2.1, (h i hi).2.2.2.1, (h i hi).2.2.2.2⟩
theorem mk_like {now : Int} {O : Nat → Int} (h : MkI L n now O) (hl : Like L M n) : MkI M n now O := by
  have hc : ∀ i, i < n → (M i).c = (L i).c := fun i hi => (hl i hi).1
  have hb : ∀ i, i < n → (M i).b = (L i).b := fun i hi => (hl i hi).2.2.1
  have hs : ∀ i, i < n → (M i).s = (L i).s := fun i hi => (hl i hi).2.2.2.1
  have he : ∀ i, i < n → (M i).e = (L i).e := fun i hi => (hl i hi).2.2.2.2
  refine ⟨fun i hi => by rw [hc i hi]; exact h.cl i hi, fun i hi => by rw [hb i hi]; exact h.bg i hi, fun i hi => by rw [hb i (by omega), hb (i + 1) hi]; exact h.mono i hi, fun i hi => ?_, fun i k hi hk hik => ?_, fun c hc3 => ?_, h.nn⟩
  · have := h.tm i hi
    unfold inT at *
    rw [hb i hi, hs i hi, he i hi]
    exact this
  · rw [hc k (by omega), hc i hi] at hik
    rw [he k (by omega), hb i hi]
    exact h.busy i k hi hk hik
  · rcases h.op c hc3 with ⟨e0, e⟩ | ⟨x, hx, e1, e2, e3, e4⟩
    · exact .inl ⟨e0, fun i hi hic => by rw [hc i hi] at hic; rw [he i hi]; exact e i hi hic⟩
    · exact .inr ⟨x, hx, e1, by rw [hc x hx]; exact e2, by rw [he x hx]; exact e3, fun i hi hic hix => by rw [hc i hi] at hic; rw [he i hi]; exact e4 i hi hic hix⟩
theorem take_next (ht : t < l.length) : l.take (t + 1) = l.take t ++ [l.getD t 0] := by
  rw [List.take_add_one, List.getElem?_eq_getElem ht, List.getD_eq_getElem?_getD, List.getElem?_eq_getElem ht]
  rfl
theorem at_mem (ht : t < l.length) : l.getD t 0 ∈ l := by
  rw [List.getD_eq_getElem?_getD, List.getElem?_eq_getElem ht]
  exact List.getElem_mem ht
theorem at_new (hn : l.Nodup) (ht : t < l.length) : l.getD t 0 ∉ l.take t := fun h => by
  have e : l.take (t + 1) ++ l.drop (t + 1) = l := List.take_append_drop _ _
  rw [take_next ht, List.append_assoc] at e
  rw [← e, List.nodup_append] at hn
  exact hn.2.2 _ h _ (List.mem_append_left _ (List.mem_singleton.2 rfl)) rfl
theorem RsI.zero (L : Nat → Ev) (n : Nat) (l : List Nat) : RsI L L n l 0 (fresh' 5 3) := ⟨like_refl L n, rfl⟩
/-- One that has ended is told what the model tells. -/
theorem RsI.tell (h : RsI L M n l t a) (ho : Ord L n l) (ht : t < l.length) (hr : a.run (M (l.getD t 0)).c (M (l.getD t 0)).o = (r, U)) : RsI L (updE M (l.getD t 0) (setR (M (l.getD t 0)) r)) n l (t + 1) U := by
  have hnew := at_new (ord_nodup ho) ht
  have hnx := take_next ht
  generalize l.getD t 0 = k at hr hnew hnx ⊢
  refine ⟨fun i hi => ?_, ?_⟩
  · unfold updE
    split
    · rename_i e; subst e; exact h.like i hi
    · exact h.like i hi
  · have h1 : runL (updE M k (setR (M k) r)) (l.take t) (fresh' 5 3) = (0, a) := by
      rw [runL_congr (L := M) _ _ fun i hi => ?_]
      · exact h.run
      · refine if_neg fun e => hnew ?_
        rw [← e]; exact hi
    have h2 : evStep a (updE M k (setR (M k) r) k) = some U := by
      rw [updE_at]
      have h3 := step_yes (a := a) (x := setR (M k) r) (.inr (by show r = (a.run (M k).c (M k).o).1; rw [hr]))
      rw [show a.run (setR (M k) r).c (setR (M k) r).o = (r, U) from hr] at h3
      exact h3
    rw [hnx, runL_append _ _ _ _ h1, runL_some h2]
    rfl
/-- One that has not ended stays as it is. -/
theorem RsI.pass (h : RsI L M n l t a) (ht : t < l.length) (he : (M (l.getD t 0)).e = 0) (hr : a.run (M (l.getD t 0)).c (M (l.getD t 0)).o = (r, U)) : RsI L M n l (t + 1) U := by
  have h2 : evStep a (M (l.getD t 0)) = some U := by
    have h3 := step_yes (a := a) (x := M (l.getD t 0)) (.inl he)
    rw [hr] at h3
    exact h3
  refine ⟨h.like, ?_⟩
  rw [take_next ht, runL_append _ _ _ _ h.run, runL_some h2]
  rfl
theorem ok53 : okN 5 3 := by unfold okN; omega
theorem RsI.fin (h : RsI L M n l l.length a) (ho : Ord L n l) (hf : Fst L 3 n 0) : Fin M n 5 3 a := by
  have hr := h.run
  rw [List.take_length] at hr
  exact ⟨ok53, h.like.fst hf, l, h.like.ord ho, hr⟩
theorem Fin.all (h : Fin M n p N a) {i : Nat} (hi : i < n) : okAt M N i := by
  obtain ⟨_, h, _⟩ := h
  rcases h with ⟨_, h⟩ | ⟨j, _, e, _⟩
  · exact h i hi
  · omega

/-! ### One event turned -/
abbrev setB (x : Ev) (z : Int) : Ev := ⟨x.c, x.o, x.r, z, x.s, x.e⟩
theorem okN_of (h : Fin M n p N a) : okN p N := h.1
/-- A stamp behind its end is wrong. -/
theorem turn_stamp (h : Fin M n p N a) {k : Nat} (hk : k < n) (he : 0 < (M k).e) : Chk (updE M k (setS (M k) ((M k).e + 1))) n p N ((k : Int) + 1) := by
  refine .inr ⟨h.1, .inl ⟨.inr ⟨k, hk, rfl, fun ho => ?_, fun j hj => ?_⟩, by omega⟩⟩
  · have ht := ho.tm
    unfold inT at ht
    rw [updE_at] at ht
    unfold inTn at ht
    rw [if_pos he] at ht
    have := ht.2
    dsimp only at this
    omega
  · refine ok_congr (Fin.all h (by omega : j < n)) fun i hi => ?_
    rw [show updE M k (setS (M k) ((M k).e + 1)) i = M i from if_neg (by omega)]
    exact ⟨rfl, rfl, rfl, rfl⟩
/-- A begin behind its stamp is wrong. -/
theorem turn_begin {k : Nat} (hk : k < n) (he : 0 < (M k).e) {z : Int} (hc : Chk (updE M k (setB (M k) ((M k).s + 1))) n p N z) : z ≠ 0 := fun hz => by
  subst hz
  have hno : ¬ okAt (updE M k (setB (M k) ((M k).s + 1))) N k := fun ho => by
    have ht := ho.tm
    unfold inT at ht
    rw [updE_at] at ht
    unfold inTn at ht
    rw [if_pos he] at ht
    have := ht.1
    dsimp only at this
    omega
  rcases hc with ⟨_, e⟩ | ⟨_, ⟨_, e⟩ | ⟨h, _⟩⟩
  · omega
  · exact e rfl
  · rcases h with ⟨_, h⟩ | ⟨i, _, e, _⟩
    · exact hno (h k hk)
    · omega

/-! ### One event more -/
section
variable {x : Ev} {T : Int}
theorem more_fst (h : Fin M n p N a) (hT : ∀ i, i < n → (M i).b ≤ T ∧ (M i).e ≤ T) (hc : 0 ≤ x.c ∧ x.c < N) (h0 : 0 < x.b) (hb : T < x.b) (hs : x.b ≤ x.s ∧ x.s ≤ x.e) (hop : ∀ i, i < n → (M i).c = x.c → (M i).e ≠ 0) : Fst (updE M n x) N (n + 1) 0 := by
  have old : ∀ i, i < n → updE M n x i = M i := fun i hi => updE_lt hi
  refine .inl ⟨rfl, fun i hi => ?_⟩
  by_cases e : i = n
  · subst e
    refine ⟨by rw [updE_at]; exact hc, by rw [updE_at]; exact h0, fun k hk => ?_, ?_, fun k hk hkc => ?_⟩
    · rw [updE_at, old k (by omega)]
      have := (hT k (by omega)).1
      omega
    · unfold inT inTn
      rw [updE_at]
      split
      · exact hs
      · omega
    · rw [updE_at, old k hk] at hkc
      rw [updE_at, old k hk]
      have h1 := hop k hk hkc
      have h2 := ok_end (Fin.all h hk)
      have h3 := (hT k hk).2
      omega
  · refine ok_congr (Fin.all h (by omega : i < n)) fun k hk => ?_
    rw [old k (by omega)]
    exact ⟨rfl, rfl, rfl, rfl⟩
theorem more_ord (ho : Ord M n l) (hT : ∀ i, i < n → (M i).s ≤ T) (hs : T < x.s) (h0 : 0 < x.s) : Ord (updE M n x) (n + 1) (l ++ [n]) := by
  refine ⟨fun i => ?_, ?_⟩
  · rw [List.mem_append, List.mem_singleton, ho.1 i]
    by_cases e : i = n
    · subst e
      rw [updE_at]
      constructor
      · exact fun _ => ⟨by omega, h0⟩
      · exact fun _ => .inr rfl
    · constructor
      · rintro (⟨hi, hz⟩ | h)
        · rw [updE_lt hi]; exact ⟨by omega, hz⟩
        · exact absurd h e
      · rintro ⟨hi, hz⟩
        rw [updE_lt (by omega)] at hz
        exact .inl ⟨by omega, hz⟩
  · rw [List.pairwise_append]
    refine ⟨List.Pairwise.imp_of_mem (fun {i j} hi hj hij => ?_) ho.2, List.pairwise_singleton _ _, fun i hi j hj => ?_⟩
    · unfold lt at *
      rw [updE_lt (ord_lt ho hi).1, updE_lt (ord_lt ho hj).1]
      exact hij
    · rw [List.mem_singleton] at hj
      subst hj
      have h1 := (ord_lt ho hi).1
      unfold lt
      rw [updE_at, updE_lt h1]
      have := hT i h1
      omega
theorem more_run (ho : Ord M n l) (hr : runL M l (fresh' p N) = (0, a)) : runL (updE M n x) (l ++ [n]) (fresh' p N) = runL (updE M n x) [n] a := by
  refine runL_append _ _ _ _ ?_
  rw [runL_congr (L := M) _ _ fun i hi => updE_lt (ord_lt ho hi).1]
  exact hr
/-- A failing call more, of a kind that may fail so: the state is as it was. -/
theorem more_bad (h : Fin M n p N a) (hT : ∀ i, i < n → (M i).b ≤ T ∧ (M i).s ≤ T ∧ (M i).e ≤ T) (hc : 0 ≤ x.c ∧ x.c < N) (h0 : 0 < x.b) (hb : T < x.b) (hs : x.b ≤ x.s ∧ x.s ≤ x.e) (hop : ∀ i, i < n → (M i).c = x.c → (M i).e ≠ 0) (hbad : badE x) : Fin (updE M n x) (n + 1) p N a := by
  obtain ⟨l, ho, hr⟩ := h.2.2
  refine ⟨h.1, more_fst h (fun i hi => ⟨(hT i hi).1, (hT i hi).2.2⟩) hc h0 hb hs hop, l ++ [n], more_ord ho (fun i hi => (hT i hi).2.1) (by omega) (by omega), ?_⟩
  rw [more_run ho hr, runL_some (a' := a) (by rw [updE_at]; exact step_bad (by omega) hbad)]
  rfl
/-- A failing call more, of another kind: it is told. -/
theorem more_no (h : Fin M n p N a) (hT : ∀ i, i < n → (M i).b ≤ T ∧ (M i).s ≤ T ∧ (M i).e ≤ T) (hc : 0 ≤ x.c ∧ x.c < N) (h0 : 0 < x.b) (hb : T < x.b) (hs : x.b ≤ x.s ∧ x.s ≤ x.e) (hop : ∀ i, i < n → (M i).c = x.c → (M i).e ≠ 0) (hbad : ¬ badC x.o.k x.r.c) (h7 : 7 < x.r.c) : Chk (updE M n x) (n + 1) p N ((n : Int) + 1) := by
  obtain ⟨l, ho, hr⟩ := h.2.2
  refine .inr ⟨h.1, .inr ⟨more_fst h (fun i hi => ⟨(hT i hi).1, (hT i hi).2.2⟩) hc h0 hb hs hop, l ++ [n], more_ord ho (fun i hi => (hT i hi).2.1) (by omega) (by omega), ?_⟩⟩
  rw [more_run ho hr, runL_stop (by
    rw [updE_at]
    refine step_no (fun e => ?_) fun e => hbad e.1
    rcases e with e | e
    · omega
    · have := run_code a x.c x.o
      rw [← e] at this
      omega)]
end
end
#print axioms more_no
end Go.Proofs.Ytjdlpknflhgkfaa.HsRm
namespace Go.Proofs.Ytjdlpknflhgkfaa.HsRest
open Go.ChangeShapes Go.WideShapes Go.ChangeAt Go.RowKit
open Go.Proofs.Ytjdlpknflhgkfaa.MdN Go.Proofs.Ytjdlpknflhgkfaa.Mem Go.Proofs.Ytjdlpknflhgkfaa.Blk Go.Proofs.Ytjdlpknflhgkfaa.Cells Go.Proofs.Ytjdlpknflhgkfaa.Orow Go.Proofs.Ytjdlpknflhgkfaa.MdM Go.Proofs.Ytjdlpknflhgkfaa.MdC Go.Proofs.Ytjdlpknflhgkfaa.MdD Go.Proofs.Ytjdlpknflhgkfaa.MdH Go.Proofs.Ytjdlpknflhgkfaa.MdNear Go.Proofs.Ytjdlpknflhgkfaa.MdK Go.Proofs.Ytjdlpknflhgkfaa.HsM Go.Proofs.Ytjdlpknflhgkfaa.HsE Go.Proofs.Ytjdlpknflhgkfaa.HsB Go.Proofs.Ytjdlpknflhgkfaa.HsO Go.Proofs.Ytjdlpknflhgkfaa.HsR Go.Proofs.Ytjdlpknflhgkfaa.HsRO Go.Proofs.Ytjdlpknflhgkfaa.HsRS Go.Proofs.Ytjdlpknflhgkfaa.HsF Go.Proofs.Ytjdlpknflhgkfaa.HsMk Go.Proofs.Ytjdlpknflhgkfaa.HsRm Go.Proofs.Ytjdlpknflhgkfaa.HsMake Go.Proofs.Ytjdlpknflhgkfaa.PmC Go.Proofs.Ytjdlpknflhgkfaa.Calls13 Go.Proofs.Ytjdlpknflhgkfaa.Args13 Go.Proofs.Ytjdlpknflhgkfaa.Stages Go.Proofs.Ytjdlpknflhgkfaa.Trees

theorem evq_get (x : Ev) (d : Ad) {j : Nat} (hj : j < 14) : (evq x d)[j]? = some ((evq x d).getD j (.int .i64 0)) := by
  rw [List.getD_eq_getElem?_getD, List.getElem?_eq_getElem (by exact hj)]; rfl
theorem evf_one (L : Nat → Ev) (Q : Nat → Ad) (j : Nat) : (evf L Q j).oneCell' = true := by
  unfold evf
  have hm : j % 14 < 14 := Nat.mod_lt _ (by decide)
  generalize j % 14 = m at hm
  rcases (by omega : m = 0 ∨ m = 1 ∨ m = 2 ∨ m = 3 ∨ m = 4 ∨ m = 5 ∨ m = 6 ∨ m = 7 ∨ m = 8 ∨ m = 9 ∨ m = 10 ∨ m = 11 ∨ m = 12 ∨ m = 13) with e | e | e | e | e | e | e | e | e | e | e | e | e | e <;> subst e <;> rfl
section
variable {w w' : World} {B n : Nat} {X Y F : Nat → Prop} {A : Option Addr} {L M : Nat → Ev}
/-- Events, their parts told. -/
theorem evs_parts (h : EvsAt w X A n L) (hn : 0 < n) : ∃ (b off : Nat) (Q : Nat → Ad), A = some ⟨b, off, none⟩ ∧ ∀ i, i < n → (∀ j, j < 14 → w.cell? ⟨b, off + i * 14 + j, none⟩ = some ((evq (L i) (Q i)).getD j (.int .i64 0))) ∧ EvQ w X (L i) (Q i) := by
  obtain ⟨b, off, e, hi⟩ := h hn
  have key : ∀ i, ∃ d : Ad, i < n → (∀ j, j < 14 → w.cell? ⟨b, off + i * 14 + j, none⟩ = some ((evq (L i) d).getD j (.int .i64 0))) ∧ EvQ w X (L i) d := fun i => by
    by_cases hin : i < n
    · obtain ⟨D, dl, dc, A', al, ac, hc, hd⟩ := hi i hin
      exact ⟨⟨D, dl, dc, A', al, ac⟩, fun _ => ⟨fun j hj => hc j _ (evq_get (L i) ⟨D, dl, dc, A', al, ac⟩ hj), hd⟩⟩
    · exact ⟨⟨none, 0, 0, none, 0, 0⟩, fun h => absurd h hin⟩
  exact ⟨b, off, fun i => (key i).choose, e, fun i hin => (key i).choose_spec hin⟩
set_option maxRecDepth 10000 in
/-- 'append(v0, h...)', v0 an empty slice of the call's own: the history, copied. -/
theorem HRow.copy (ty : TypeId) (h : EvsAt w X A n L) (hn : n ≤ 100000) (c : Nat) {v0 : Value} (h0 : w.ownsRow B 29 14 v0 0 []) (hX : ∀ k, k < w.heap.size → X k → v0.ownBlock ≠ some k ∧ Y k) (hB : B ≤ w.heap.size) :
    ∃ v' w' Q, (Builtin.append_ #[30, 30] ty #[v0, .slice A n c]).run Try.prog w = .ok v' w' ∧ HRow w' B Y v' n L Q ∧ Kept (fun k => v0.ownBlock = some k) w w' ∧ (v'.ownBlock = v0.ownBlock ∨ v'.ownBlock = some w.heap.size) := by
  obtain ⟨i, hi, hz, hsz, hby⟩ := info_parts ev_inforows
  rcases Nat.eq_zero_or_pos n with rfl | hp
  · refine ⟨v0, w, fun _ => ⟨none, 0, 0, none, 0, 0⟩, ?_, ⟨?_, fun i hi => absurd hi (Nat.not_lt_zero i)⟩, Kept.refl _ _, .inl rfl⟩
    · have hsrc : Src Try.prog i.size 30 (.slice A 0 c) 0 [] w := by
        cases A with
        | none => exact Src.ofNil w Try.underlying30 c
        | some a => exact Src.ofSlice w Try.underlying30 a 0 c [] (by simp) (fun j u h => by simp at h) (fun u h => by cases h)
      obtain ⟨A', c', rfl⟩ : ∃ A' c', v0 = .slice A' 0 c' := by
        rcases h0.2 with ⟨e, _⟩ | ⟨g, cap, cur, e, _⟩
        · exact ⟨none, 0, e⟩
        · exact ⟨_, _, e⟩
      cases A' <;> simp [Builtin.append_, run_underlying Try.underlying30, sizeOf, typeInfo, hi, hsrc.len, hsrc.cells, storeCells]
    · rcases h0.2 with ⟨e, _⟩ | ⟨g, cap, cur, e, hb, hg, h1, h2, h3, _⟩
      · exact .inl ⟨e, rfl⟩
      · exact .inr ⟨g, cap, e, ⟨cur, hg, h3, h1, h2, fun i hi => by omega⟩, hb⟩
  · obtain ⟨b, off, Q, rfl, hall⟩ := evs_parts h hp
    obtain ⟨v', w', hr, h2, h3, _, h5⟩ := run_append_own_at (P := Try.prog) w B 30 ty 29 i _ 14 144 Try.underlying30 hi hz hsz hby rfl (by decide) v0 0 [] h0 ⟨b, off, none⟩ n c ((List.range (n * 14)).map (evf L Q)) (by simp)
      (fun j u hj => by
        have hjn : j < n * 14 := by
          have := (List.getElem?_eq_some_iff.1 hj).1
          simpa using this
        have e : (⟨b, off, none⟩ : Addr).add j = ⟨b, off + j, none⟩ := by unfold Addr.add; split <;> simp_all
        have hc := (hall (j / 14) (by omega)).1 (j % 14) (Nat.mod_lt _ (by decide))
        rw [show off + j / 14 * 14 + j % 14 = off + j by omega] at hc
        rw [e, hc, ← hj]
        simp [hjn, evf])
      (fun u hu => by obtain ⟨x, _, rfl⟩ := List.mem_map.1 hu; exact evf_one _ _ _) (by unfold maxLen; omega) (by omega) hB
    rw [Nat.zero_add, List.nil_append] at h2
    have hk : Kept (fun k => v0.ownBlock = some k) w w' := (Kept.refl _ w).grown h3 fun k hk _ => hk
    have hne : ∀ k, k < w.heap.size → X k → v'.ownBlock ≠ some k := fun k hk' hx e => by
      rcases h5 with h5 | h5
      · rw [h5] at e; exact (hX k hk' hx).1 e
      · rw [h5] at e; injection e with e; omega
    refine ⟨v', w', Q, hr, ⟨?_, fun i hi => ?_⟩, hk, h5⟩
    · rcases h2.2 with ⟨e, h0⟩ | ⟨g, cap, cur, e, hb, hg, h1, h2, h3, h4⟩
      · omega
      · refine .inr ⟨g, cap, e, ⟨cur, hg, h3, h1, h2, fun i hi => ?_⟩, hb⟩
        have hx : (cur.toList.take (n * 14))[i]? = some (evf L Q i) := by
          rw [h4]
          simp [hi]
        rw [List.getElem?_take, if_pos hi] at hx
        simpa using hx
    · exact (((hall i hi).2.mono (Y := fun k => (v'.ownBlock ≠ some k ∧ Y k) ∧ v0.ownBlock ≠ some k) fun k hk' hx => ⟨⟨hne k hk' hx, (hX k hk' hx).2⟩, (hX k hk' hx).1⟩).kept hk fun k _ hx e => hx.2 e).mono fun k _ hx => hx.1
end
/-! ### Numbers that come in; one event's begin anew -/
def IntsAt (w : World) (A : Option Addr) (len _cap : Nat) : Prop := ∃ d, Sl w w.heap.size .i64 A len d
section
variable {H : Type} {enc : TypeId × Value → H} {w : World} {base : Nat} {spare : Nat → Bool} {held : Bool}
theorem wait_open {A : Option Addr} {len cap fuel : Nat} {x : DataW H × List MemPlace} (h : DataW.trod enc Try.prog w base spare held fuel 48 [.slice A len cap] = some x) : IntsAt w A len cap := ints_open h
end
theorem evq_b (x : Ev) (d : Ad) (z : Int) {m : Nat} (hm : m < 14) : (evq (setB x z) d).getD m (.int .i64 0) = if m = 11 then .int .i64 z else (evq x d).getD m (.int .i64 0) := by
  rcases (by omega : m = 0 ∨ m = 1 ∨ m = 2 ∨ m = 3 ∨ m = 4 ∨ m = 5 ∨ m = 6 ∨ m = 7 ∨ m = 8 ∨ m = 9 ∨ m = 10 ∨ m = 11 ∨ m = 12 ∨ m = 13) with e | e | e | e | e | e | e | e | e | e | e | e | e | e <;> subst e <;> rfl
/-- Cell 11 of event i. -/
theorem row_begin {w : World} {B n i g cap : Nat} {Y : Nat → Prop} {L : Nat → Ev} {Q : Nat → Ad} (h : HRow w B Y (.slice (some ⟨g, 0, none⟩) n cap) n L Q) (hi : i < n) {z : Int} (hz : I64 z) : HRow (w.setCell ⟨g, i * 14 + 11, none⟩ (.int .i64 z)) B Y (.slice (some ⟨g, 0, none⟩) n cap) n (updE L i (setB (L i) z)) Q := by
  have hk := kept_set w g (i * 14 + 11) (.int .i64 z)
  have hd := (h.dat i hi).kept hk (fun b _ hx e => hx.1 (by rw [e]; rfl))
  have := row_re (i := i) (x := (setB (L i) z)) (d := Q i) h hk ((row_blk h hi).1.set (i * 14 + 11) (.int .i64 z)) (fun j hj => ?_) ⟨hd.d, hd.db, hd.dc, hd.a, hd.ab, hd.ac, ⟨hd.rng.1, hz, hd.rng.2.2⟩, hd.dX, hd.aX⟩
  · rw [updA_self] at this
    exact this
  · rw [evf_upd]
    by_cases e : j / 14 = i
    · rw [if_pos e, evq_b _ _ _ (by omega), show evf L Q j = (evq (L i) (Q i)).getD (j % 14) (.int .i64 0) by unfold evf; rw [e]]
      by_cases e2 : j = i * 14 + 11
      · rw [if_pos e2, if_pos (by omega)]
      · rw [if_neg e2, if_neg (by omega)]
    · rw [if_neg e, if_neg (by omega)]
theorem own_eq {g k n c : Nat} (e : (Value.slice (some ⟨g, 0, none⟩) n c).ownBlock = some k) : g = k := by injection e
/-- '[]api.Event{}'. -/
theorem ev_lit (w : World) : (w.alloc (.cells #[] 29)).ownsRow w.heap.size 29 14 (.slice (some ⟨w.heap.size, 0, none⟩) 0 0) 0 [] := World.ownsRow_lit (base := w.heap.size) (e := 29) (size := 14) w #[] 0 (Nat.le_refl _) (by unfold maxLen; omega) rfl
theorem evs_below {w : World} {X : Nat → Prop} {A : Option Addr} {n : Nat} {L : Nat → Ev} (h : EvsAt w X A n L) : EvsAt w (· < w.heap.size) A n L := h.mono fun _ hk _ => hk
/-- A copy that the call makes: 'append([]api.Event{}, h...)'. -/
theorem copy_any {w : World} {A : Option Addr} {n : Nat} {L : Nat → Ev} (ty : TypeId) (h : EvsAt w Any A n L) (hn : n ≤ 100000) (c : Nat) :
    ∃ A' c' w' Q, (Builtin.append_ #[30, 30] ty #[.slice (some ⟨w.heap.size, 0, none⟩) 0 0, .slice A n c]).run Try.prog (w.alloc (.cells #[] 29)) = .ok (.slice A' n c') w' ∧ HRow w' w.heap.size (· < w.heap.size) (.slice A' n c') n L Q ∧ Grow w w' := by
  have hg : Grow w (w.alloc (.cells #[] 29)) := (Kept.refl _ _).alloc _
  obtain ⟨v', w', Q, hr, hrow, hk, _⟩ := HRow.copy (Y := (· < w.heap.size)) ty ((evs_below h).grow hg) hn c (ev_lit w) (fun k _ (hk : k < w.heap.size) => ⟨fun e => absurd hk (own_eq e ▸ Nat.lt_irrefl _), hk⟩) hg.size
  obtain ⟨A', c', rfl, _, _⟩ := hrow.slice
  exact ⟨A', c', w', Q, hr, hrow, hg.then hk fun k hk' e => absurd hk' (own_eq e ▸ Nat.lt_irrefl _)⟩
theorem sl_far {w w' : World} {k : IntKind} {A : Option Addr} {n : Nat} {zs : List Int} {F : Nat → Prop} (h : Sl w w.heap.size k A n zs) (hk : Kept F w w') (hF : 0 < n → ∀ x, A = some x → ¬ F x.block) : Sl w' w'.heap.size k A n zs :=
  ⟨h.1, fun hn => by
    obtain ⟨b, off, e, hb, hc⟩ := h.2 hn
    exact ⟨b, off, e, Nat.lt_of_lt_of_le hb hk.size, fun j hj => hk.cellN (hc j hj) (hF hn ⟨b, off, none⟩ e)⟩⟩
theorem drew_both {F : Nat → Prop} {a b : World} (h : Kept F a b) : Kept F a.drew b.drew := ⟨h.os, h.tape, h.output, h.size, h.block⟩
theorem res_zero (w : World) : Grow w (w.alloc (.cells #[.int .i64 0, .int .i64 0, .int .i64 0, .slice none 0 0] 27)) ∧ Blk (w.alloc (.cells #[.int .i64 0, .int .i64 0, .int .i64 0, .slice none 0 0] 27)) w.heap.size 27 [.int .i64 0, .int .i64 0, .int .i64 0, .slice none 0 0] := ⟨(Kept.refl _ _).alloc _, Blk.new w _ _⟩
/-- The same, at a later world, onto an empty slice that lies in block e. -/
theorem copy_at {w u : World} {A : Option Addr} {n e : Nat} {L : Nat → Ev} (ty : TypeId) (h : EvsAt w Any A n L) (hg : Grow w u) (hn : n ≤ 100000) (c : Nat) (h0 : u.ownsRow e 29 14 (.slice (some ⟨e, 0, none⟩) 0 0) 0 []) (he : w.heap.size ≤ e) (heu : e ≤ u.heap.size) :
    ∃ v' u' Q, (Builtin.append_ #[30, 30] ty #[.slice (some ⟨e, 0, none⟩) 0 0, .slice A n c]).run Try.prog u = .ok v' u' ∧ HRow u' e (· < w.heap.size) v' n L Q ∧ Kept (· = e) u u' := by
  obtain ⟨v', u', Q, hr, hrow, hk, _⟩ := HRow.copy (Y := (· < w.heap.size)) ty ((evs_below h).grow hg) hn c h0 (fun k _ (hk : k < w.heap.size) => ⟨fun h => absurd hk (own_eq h ▸ Nat.not_lt.2 he), hk⟩) heu
  exact ⟨v', u', Q, hr, hrow, hk.mono fun k _ h => (own_eq h).symm⟩
abbrev ad0 : Ad := ⟨none, 0, 0, none, 0, 0⟩
/-- One event more, which stands in a block of its own. -/
theorem more_row {u : World} {B n vb c : Nat} {Y : Nat → Prop} {v : Value} {L : Nat → Ev} {Q : Nat → Ad} {x : Ev} (ty : TypeId) (hrow : HRow u B Y v n L Q) (hn : n ≤ 100000) (hb : Blk u vb 29 (evq x ad0)) (hr : Rng x) (hd : x.o.d = [] ∧ x.r.d = []) (hB : B ≤ u.heap.size) :
    ∃ g cap u', (Builtin.append_ #[30, 30] ty #[v, .slice (some ⟨vb, 0, none⟩) 1 c]).run Try.prog u = .ok (.slice (some ⟨g, 0, none⟩) (n + 1) cap) u' ∧ n + 1 ≤ cap ∧ cap ≤ maxLen ∧ EvsAt u' Any (some ⟨g, 0, none⟩) (n + 1) (updE L n x) ∧ Kept (B ≤ ·) u u' := by
  have hq : EvQ u (fun k => v.ownBlock ≠ some k ∧ Y k) x ad0 := ⟨(by rw [hd.1]; exact Sl.nil _ _ _ _), fun z hz => (by rw [hd.1] at hz; cases hz), ⟨Nat.le_refl _, Nat.zero_le _⟩, (by rw [hd.2]; exact Sl.nil _ _ _ _), fun z hz => (by rw [hd.2] at hz; cases hz), Nat.zero_le _, hr, fun h => absurd h (Nat.lt_irrefl 0), fun h => absurd h (Nat.lt_irrefl 0)⟩
  obtain ⟨g, cap, u', hrr, h2, hk, _⟩ := HRow.push ty hrow hn vb c (x := x) (d := ad0) (fun i y hy => by rw [hb.cell]; exact hy) hq hB
  obtain ⟨A', c', e, h3, h4⟩ := h2.slice
  injection e with _ _ e
  subst e
  exact ⟨g, cap, u', hrr, h3, h4, h2.evs rfl, hk.mono fun k _ h => (hrow.own h).1⟩
/-- What restore has. -/
structure RsW (w : World) (B0 B1 m : Nat) (x y z v : Value) (n : Nat) (L : Nat → Ev) (A5 : Option Addr) (l : List Nat) (t : Nat) (wx : World) : Prop where
  st : ∃ M Q a, HRow wx w.heap.size (fun k => k < B0 ∨ B1 ≤ k) v n M Q ∧ SAt wx (fun k => B0 ≤ k ∧ k < B1) (.agg #[x, y, z]) a ∧ RsI L M n l t a
  box : Blk wx m 44 [x, y, z]
  or : Sl wx wx.heap.size .i64 A5 l.length (nums l)
  gr : Grow w wx
/-- What restore tells. -/
def RestP (L : Nat → Ev) (n : Nat) (w : World) (e : Ending) (w' : World) : Prop :=
  ∃ A c M a, e = .returned (.slice A n c) ∧ n ≤ c ∧ c ≤ maxLen ∧ EvsAt w' Any A n M ∧ Like L M n ∧ Fin M n 5 3 a ∧ Grow w w'
set_option maxHeartbeats 16000000 in
set_option maxRecDepth 100000 in
theorem restore_any {w : World} {A0 : Option Addr} {n : Nat} {L : Nat → Ev} (h : EvsAt w Any A0 n L) (hn : n ≤ 1000) (hF : Fst L 3 n 0) (cap0 : Nat) :
    Calls Try.prog 23 #[.slice A0 n cap0] w (RestP L n w) := by
  obtain ⟨A3, c3, wa, Q0, hr0, hrow, hga⟩ := copy_any (ty := 30) h (by omega) cap0
  have HR0 := Lib.hid hr0
  have HROW := Lib.hid hrow
  have HGA := Lib.hid hga
  have HFST := Lib.hid hF
  have hnz : (n : Int) ≤ 1000 := by omega
  obtain ⟨_, hc3, hc3', hc3''⟩ : ∃ c, c = c3 ∧ n ≤ c3 ∧ c3 ≤ maxLen := by
    obtain ⟨A', c', e, h1, h2⟩ := hrow.slice
    injection e with _ _ e
    subst e
    exact ⟨_, rfl, h1, h2⟩
  have HOW0 : Hid (∀ k, (Value.slice A3 n c3).ownBlock = some k → w.heap.size ≤ k ∧ k < wa.heap.size) := fun k hk => hrow.own hk
  have HC3 := Lib.hid (And.intro hc3' hc3'')
  have CN := Lib.hid (rnew_any 5 3 (by omega) (by omega) (by omega) (by omega) wa)
  simp only [Int.cast_ofNat_Int] at CN
  clear hr0 hrow hga h hn hF hc3 hc3' hc3''
  go_enter Try.func23, Try.ntmps23
  go_upto_region 2 with (at_builtin; refine Lib.wpList_append_run _ rfl _ _ _ _ rfl _ _ rfl rfl _ _ HR0.out ?_)
  go_upto_region 3 with (go_at_call 30; (with_reducible refine CN.out.mono ?_); rintro e wn ⟨sv, rfl, hsa, hg⟩; obtain ⟨X1, n1, c1, X2, n2, c2, X3, n3, c3', rfl⟩ := sat_form hsa; have HSA := Lib.hid hsa; have HGN := Lib.hid hg; clear hsa hg)
  obtain ⟨hsb, hg2⟩ := s_box wn (.slice X1 n1 c1) (.slice X2 n2 c2) (.slice X3 n3 c3')
  generalize wn.alloc (.cells #[.slice X1 n1 c1, .slice X2 n2 c2, .slice X3 n3 c3'] 44) = wb at hsb hg2 ⊢
  obtain ⟨m, hm⟩ : ∃ m, m = wn.heap.size := ⟨_, rfl⟩
  obtain ⟨B0, hB0⟩ : ∃ B0, B0 = wa.heap.size := ⟨_, rfl⟩
  rw [← hm] at hsb ⊢
  have HBB : Hid (w.heap.size ≤ B0 ∧ B0 ≤ m ∧ m < wb.heap.size) := ⟨by rw [hB0]; exact HGA.out.size, by rw [hB0, hm]; exact HGN.out.size, hsb.lt⟩
  have HGB : Hid (Grow w wb) := (HGA.out.trans HGN.out).trans hg2
  have HSB : Hid (SAt wb (fun k => B0 ≤ k ∧ k < m) (.agg #[.slice X1 n1 c1, .slice X2 n2 c2, .slice X3 n3 c3']) (fresh 5 3)) := (HSA.out.mono fun k hk (hx : wa.heap.size ≤ k) => ⟨by omega, by omega⟩).grow hg2
  have HRB : Hid (HRow wb w.heap.size (fun k => k < B0 ∨ m ≤ k) (.slice A3 n c3) n L Q0) := by
    have h1 := (HROW.out.grow HGN.out).grow hg2
    exact ⟨h1.os, fun i hi => (h1.dat i hi).mono fun k _ hx => ⟨hx.1, .inl (by have := hx.2; have := HBB.out.1; omega)⟩⟩
  have HBX := Lib.hid hsb
  have HOWN : Hid (∀ k, (Value.slice A3 n c3).ownBlock = some k → w.heap.size ≤ k ∧ k < B0) := fun k hk => by rw [hB0]; exact HOW0.out k hk
  clear hsb hg2 hm hB0 HOW0 HR0 HROW HGA HSA HGN CN
  have CO := Lib.hid (rorder_any (HRB.out.evs rfl) (by omega) c3)
  go_upto_region 4 with (go_at_call 17; (with_reducible refine CO.out.mono ?_); rintro e wo ⟨l, A5, q5, rfl, ho, hsl, hnew, hg⟩; have HO := Lib.hid ho; have HN5 := Lib.hid hnew; have HGO := Lib.hid hg; have HSL := Lib.hid hsl; clear ho hsl hnew hg)
  have HW : Hid (RsW w B0 m m (.slice X1 n1 c1) (.slice X2 n2 c2) (.slice X3 n3 c3') (.slice A3 n c3) n L A5 l 0 wo) := ⟨⟨L, Q0, _, HRB.out.grow HGO.out, HSB.out.grow HGO.out, RsI.zero L n l⟩, HBX.out.grow HGO.out, HSL.out, HGB.out.trans HGO.out⟩
  have HLN : Hid (l.length ≤ n) := ord_len HO.out
  have hlz : (l.length : Int) ≤ 1000 := by have := HLN.out; omega
  have HM5 : Hid (0 < l.length → ∀ x, A5 = some x → m < x.block) := fun h0 x hx => by have := HN5.out h0 x hx; have := HBB.out; omega
  clear HSB HRB HBX HGB CO HN5 HGO HSL
  go_wp2
  go_loopg [6] l.length (fun gx v6 wx => ∃ t : Nat, t + gx = l.length ∧ v6 = .int .i64 (t : Int) ∧ RsW w B0 m m (.slice X1 n1 c1) (.slice X2 n2 c2) (.slice X3 n3 c3') (.slice A3 n c3) n L A5 l t wx)
  case atStart => exact ⟨0, by omega, rfl, HW.out⟩
  case round =>
    obtain ⟨t, hg, rfl, hw⟩ := hrel
    have HG := Lib.hid hg
    have HWR := Lib.hid hw
    clear hg hw HW
    by_cases hj : t < l.length
    · have hjz : (t : Int) < (l.length : Int) := by omega
      have HJ := Lib.hid hj
      obtain ⟨k, hk⟩ : ∃ k, k = l.getD t 0 := ⟨_, rfl⟩
      have hkn : k < n := by rw [hk]; exact (ord_lt HO.out (at_mem hj)).1
      have hkz : (k : Int) < (n : Int) := by omega
      have HK := Lib.hid hk
      have HKN := Lib.hid hkn
      obtain ⟨M, Q, a, hrow, hst, hrs⟩ := HWR.out.st
      obtain ⟨g, rfl⟩ : ∃ g, A3 = some ⟨g, 0, none⟩ := by
        rcases hrow.form with ⟨_, h⟩ | ⟨g, c', e, _⟩
        · omega
        · injection e with e _ _
          exact ⟨g, e⟩
      obtain ⟨ob, oo, rfl, hob, hco⟩ := HWR.out.or.at_ (by omega)
      have HOB : Hid (m < ob ∧ ob < wr.heap.size) := ⟨HM5.out (by omega) _ rfl, hob⟩
      have hct := hco t hj
      rw [nums_get, ← hk] at hct
      have HROW := Lib.hid hrow
      have HST := Lib.hid hst
      have HRS := Lib.hid hrs
      have HRB := Lib.hid (row_blk hrow hkn)
      have HGN : Hid (w.heap.size ≤ g ∧ g < wr.heap.size) := ⟨HRB.out.2, HRB.out.1.lt⟩
      obtain ⟨s, hs⟩ : ∃ s, s = wr.heap.size := ⟨_, rfl⟩
      have HS := Lib.hid hs
      have HGB : Hid (w.heap.size ≤ g ∧ g < B0) := HOWN.out g rfl
      clear hj hk hkn hrow hst hrs hob hco hs
      obtain ⟨rc, rp, rh, rd, U, hr⟩ : ∃ rc rp rh rd U, a.run (M k).c (M k).o = (⟨rc, rp, rh, rd⟩, U) := ⟨_, _, _, _, _, rfl⟩
      have HDO : Hid (∀ wx, Grow wr wx → Calls Try.prog 38 #[.agg #[.slice X1 n1 c1, .slice X2 n2 c2, .slice X3 n3 c3'], .int .i64 (M k).c, .agg #[.int .i64 (M k).o.k, .int .i64 (M k).o.p, .int .i64 (M k).o.h, .int .i64 (M k).o.o, .int .i64 (M k).o.n, .slice (Q k).D (Q k).dl (Q k).dc]] wx (DoPost (fun k => B0 ≤ k ∧ k < m) (.agg #[.slice X1 n1 c1, .slice X2 n2 c2, .slice X3 n3 c3']) wx (⟨rc, rp, rh, rd⟩, U))) := fun wx hx => by
        rw [← hr]
        exact rdo_any (HST.out.grow hx) (fun k hk => by have h1 := hk.2; have h2 := HWR.out.box.lt; have h3 := hx.size; omega) (M k).c ((HROW.out.dat k HKN.out).kept hx fun _ _ _ => id).op
      have HRUN := Lib.hid hr
      have HRBY : Hid (Bytes rd) := by
        have hb := run_bytes HST.out.good (M k).c (M k).o
        rw [hr] at hb
        exact hb
      have HRL : Hid (rd.length ≤ 16) := by
        have hb := run_dlen HST.out.good (M k).c (M k).o
        rw [hr] at hb
        exact hb
      have HKE : Hid (0 ≤ (M k).e) := by
        have h1 := Like.fst HRS.out.like HFST.out
        rcases h1 with ⟨_, h1⟩ | ⟨i, _, h1, _⟩
        · exact ok_end (h1 k HKN.out)
        · omega
      have cel : ∀ j x, j < 14 → (evq (M k) (Q k))[j]? = some x → wr.cell? ⟨g, k * 14 + j, none⟩ = some x := fun j x hj hx => by
        rw [HRB.out.1.cell (i := k * 14 + j) (by have := HKN.out; omega), evf_at _ _ _ _ hj, List.getD_eq_getElem?_getD, hx]
        rfl
      have HNG : Hid (¬ ((B0 ≤ g ∧ g < m) ∨ s ≤ g)) := fun e => by have := HGB.out; have := HGN.out; have := HS.out; omega
      have HNM : Hid (¬ ((B0 ≤ m ∧ m < m) ∨ s ≤ m)) := fun e => by have := HWR.out.box.lt; have := HS.out; omega
      have HNO : Hid (¬ ((B0 ≤ ob ∧ ob < m) ∨ s ≤ ob)) := fun e => by have := HOB.out; have := HS.out; omega
      have d0 := up_cell (F := fun x => (B0 ≤ x ∧ x < m) ∨ s ≤ x) (w := wr.drew) (cel 0 _ (by omega) rfl) HNG.out
      have d1 := up_cell (F := fun x => (B0 ≤ x ∧ x < m) ∨ s ≤ x) (w := wr.drew) (cel 1 _ (by omega) rfl) HNG.out
      have d2 := up_cell (F := fun x => (B0 ≤ x ∧ x < m) ∨ s ≤ x) (w := wr.drew) (cel 2 _ (by omega) rfl) HNG.out
      have d3 := up_cell (F := fun x => (B0 ≤ x ∧ x < m) ∨ s ≤ x) (w := wr.drew) (cel 3 _ (by omega) rfl) HNG.out
      have d4 := up_cell (F := fun x => (B0 ≤ x ∧ x < m) ∨ s ≤ x) (w := wr.drew) (cel 4 _ (by omega) rfl) HNG.out
      have d5 := up_cell (F := fun x => (B0 ≤ x ∧ x < m) ∨ s ≤ x) (w := wr.drew) (cel 5 _ (by omega) rfl) HNG.out
      have d6 := up_cell (F := fun x => (B0 ≤ x ∧ x < m) ∨ s ≤ x) (w := wr.drew) (cel 6 _ (by omega) rfl) HNG.out
      simp only [Nat.add_zero] at d0
      have b0 := HWR.out.box.cell 0
      have b1 := HWR.out.box.cell 1
      have b2 := HWR.out.box.cell 2
      simp only [List.getElem?_cons_zero, List.getElem?_cons_succ] at b0 b1 b2
      replace b0 := up_cell (F := fun x => (B0 ≤ x ∧ x < m) ∨ s ≤ x) (w := wr.drew) b0 HNM.out
      replace b1 := up_cell (F := fun x => (B0 ≤ x ∧ x < m) ∨ s ≤ x) (w := wr.drew) b1 HNM.out
      replace b2 := up_cell (F := fun x => (B0 ≤ x ∧ x < m) ∨ s ≤ x) (w := wr.drew) b2 HNM.out
      have HCT := Lib.hid hct
      replace hct := up_cell (F := fun x => (B0 ≤ x ∧ x < m) ∨ s ≤ x) (w := wr.drew) hct HNO.out
      clear cel hr
      go_upto_region 7 with (fail)
      refine wp_region_tree (Kept fun x => (B0 ≤ x ∧ x < m) ∨ s ≤ x) (Kept fun x => (B0 ≤ x ∧ x < m) ∨ s ≤ x) (kept_refl _) (kept_trans _) (kept_refl _) (kept_trans _) (fun _ _ h => h) [] (.two true [0, 1, 2, 3, 4, 5, 6, 7, 8, 9, 10, 11, 12, 13, 14, 15, 16] 17 (.one true [] 18 (.one true [] 19 (.last false []))) 18 (.one true [] 17 (.one true [] 19 (.last false [])))) (by kernel_rfl) (by kernel_rfl) ?_
      refine tr_twoE fun K1 hK1 K2 hK2 => ?_
      simp only [sel, List.map_cons, List.map_nil, List.getD_cons_succ, List.getD_cons_zero]
      repeat (go_big_quiet_step (fail))
      refine wpQuiet_nil ?_
      clear d0 d1 d2 d3 d4 d5 d6 b0 b1 b2 hct
      refine ⟨?_, ?_⟩
      · go_wp2_with (go_at_call 38; (with_reducible refine (HDO.out _ (Kept.drew' _)).mono ?_); rintro e wd ⟨⟨rv, rfl, ⟨A2, n2', cap2, rfl, hsl, hnew⟩⟩, hsa, hk⟩; have HSL := Lib.hid hsl; have HSA := Lib.hid hsa; have HKD := Lib.hid hk; have HNW := Lib.hid hnew; clear hsl hnew hsa hk)
        refine norm_up (hK1 _ _ (Lr_early (by decide) (HKD.out.mono fun x _ hx => .inl hx)) ?_)
        clear hK1 hK2 K1 K2
        refine tr_oneE fun K hK => ?_
        simp only [sel, List.map_cons, List.map_nil, List.getD_cons_succ, List.getD_cons_zero]
        refine wpQuiet_nil ?_
        go_wp2
        refine norm_up (hK _ _ (Lr_early (by decide) ((Kept.refl _ _).alloc _)) ?_)
        clear hK K
        obtain ⟨hg1, hq1⟩ := res_zero wd
        obtain ⟨q, hq⟩ : ∃ q, q = wd.heap.size := ⟨_, rfl⟩
        rw [← hq] at hq1 ⊢
        generalize wd.alloc (.cells #[.int .i64 0, .int .i64 0, .int .i64 0, .slice none 0 0] 27) = u1 at hg1 hq1 ⊢
        have HQ1 := Lib.hid hq1
        have HG1 := Lib.hid hg1
        have HQD := Lib.hid hq
        clear hg1 hq1 hq
        have x0 := HQ1.out.cell 0
        have x1 := HQ1.out.cell 1
        have x2 := HQ1.out.cell 2
        have x3 := HQ1.out.cell 3
        have xf := HQ1.out.frozenAll
        simp only [List.getElem?_cons_zero, List.getElem?_cons_succ] at x0 x1 x2 x3
        have HQS : Hid (s ≤ q) := by have h1 := HKD.out.size; have h2 := HS.out; have h3 := HQD.out; have h4 : wr.drew.heap.size = wr.heap.size := rfl; show s ≤ q; omega
        have HQU : Hid (Blk (((((u1.setCell ⟨q, 0, none⟩ (.int .i64 rc)).setCell ⟨q, 1, none⟩ (.int .i64 rp)).setCell ⟨q, 2, none⟩ (.int .i64 rh)).setCell ⟨q, 3, none⟩ (.slice A2 n2' cap2))) q 27 [.int .i64 rc, .int .i64 rp, .int .i64 rh, .slice A2 n2' cap2]) := (((HQ1.out.set 0 (.int .i64 rc)).set 1 (.int .i64 rp)).set 2 (.int .i64 rh)).set 3 (.slice A2 n2' cap2)
        have HKQ : Hid (Kept (· = q) u1 (((((u1.setCell ⟨q, 0, none⟩ (.int .i64 rc)).setCell ⟨q, 1, none⟩ (.int .i64 rp)).setCell ⟨q, 2, none⟩ (.int .i64 rh)).setCell ⟨q, 3, none⟩ (.slice A2 n2' cap2)))) := (((kept_set u1 q 0 _).trans (kept_set _ q 1 _)).trans (kept_set _ q 2 _)).trans (kept_set _ q 3 _)
        refine tr_oneE fun K hK => ?_
        simp only [sel, List.map_cons, List.map_nil, List.getD_cons_succ, List.getD_cons_zero]
        refine wpQuiet_nil ?_
        go_wp2
        refine norm_up (hK _ _ (Lr_early (by decide) (HKQ.out.mono fun x _ hx => .inr (by have hx : x = q := hx; have := HQS.out; omega))) ?_)
        clear hK K x0 x1 x2 x3 xf
        refine tr_lastL fun K hK => ?_
        simp only [sel, List.map_nil]
        refine wpQuiet_nil (hK _ ?_)
        clear hK K
        generalize ((((u1.setCell ⟨q, 0, none⟩ (.int .i64 rc)).setCell ⟨q, 1, none⟩ (.int .i64 rp)).setCell ⟨q, 2, none⟩ (.int .i64 rh)).setCell ⟨q, 3, none⟩ (.slice A2 n2' cap2)) = u at HQU HKQ ⊢
        have HGU : Hid (Grow wd u) := HG1.out.then HKQ.out fun k hk (e : k = q) => by have := HQD.out; omega
        have HKU : Hid (Kept (fun x => B0 ≤ x ∧ x < m) wr u) := ((Kept.drew' wr).trans HKD.out).trans (Grow.kept HGU.out)
        have HSU := Lib.hid (HSA.out.grow HGU.out)
        have HSLU := Lib.hid (sl_grow HSL.out HGU.out)
        have HNWU : Hid (0 < n2' → ∀ y, A2 = some y → s ≤ y.block) := fun h0 y hy => by have h1 := HNW.out h0 y hy; have h2 := HS.out; have h4 : wr.drew.heap.size = wr.heap.size := rfl; omega
        clear HSL HSA HKD HNW HQ1 HG1 HQD HKQ HGU
        have HRU := Lib.hid (HROW.out.kept HKU.out (fun k e h => by have h1 := HOWN.out k e; omega) (fun k _ _ hy h => by have hy : k < B0 ∨ m ≤ k := hy; omega))
        have HBU := Lib.hid (HWR.out.box.kept HKU.out fun h => by omega)
        have HORU := Lib.hid (sl_far HWR.out.or HKU.out fun _ x hx h => by injection hx with hx; have h1 := HOB.out; rw [← hx] at h; have h : B0 ≤ ob ∧ ob < m := h; omega)
        have HGW : Hid (Grow w u) := HWR.out.gr.then HKU.out fun k hk h => by have := HBB.out.1; omega
        have HMS : Hid (m ≤ s) := by have h1 := HWR.out.box.lt; have h2 := HS.out; show m ≤ s; omega
        have hcu := HKU.out.cellN HCT.out (fun h => by have h1 := HOB.out; have h : B0 ≤ ob ∧ ob < m := h; omega)
        have HRBU := Lib.hid (row_blk HRU.out HKN.out)
        have cel : ∀ j x, j < 14 → (evq (M k) (Q k))[j]? = some x → u.cell? ⟨g, k * 14 + j, none⟩ = some x := fun j x hj hx => by
          rw [HRBU.out.1.cell (i := k * 14 + j) (by have := HKN.out; omega), evf_at _ _ _ _ hj, List.getD_eq_getElem?_getD, hx]
          rfl
        have c13 := cel 13 _ (by omega) rfl
        by_cases he : 0 < (M k).e
        · have hn2 : n2' ≤ 16 := by have h1 : rd.length = n2' := HSLU.out.len; have h2 := HRL.out; omega
          have HR3 := Lib.hid (row_tell (r := ⟨rc, rp, rh, rd⟩) (ac := cap2) HRU.out HKN.out HSLU.out HRBY.out (by unfold maxLen; omega) (fun h0 y hy => by
            have h1 := HNWU.out h0 y hy
            have h2 := HGN.out
            have h3 := HS.out
            have h4 := HMS.out
            exact ⟨by omega, .inr (by omega)⟩))
          have HK3 := Lib.hid (putR_kept u g (k * 14) (.int .i64 rc) (.int .i64 rp) (.int .i64 rh) (.slice A2 n2' cap2))
          have HS3 := Lib.hid (HSU.out.kept HK3.out fun k hk (e : k = g) => by have h1 := hk.1; have h2 := HGB.out; omega)
          have HB3 := Lib.hid (HBU.out.kept HK3.out fun (e : m = g) => by have h1 := HBB.out; have h2 := HGB.out; omega)
          have HO3 := Lib.hid (sl_far HORU.out HK3.out fun _ x hx (e : x.block = g) => by injection hx with hx; have h1 := HOB.out; have h2 := HGB.out; have h3 := HBB.out; rw [← hx] at e; have e : ob = g := e; omega)
          have HG3 := Lib.hid (HGW.out.then HK3.out fun k hk (e : k = g) => by have := HGB.out; omega)
          have HI3 : Hid (RsI L (updE M k (setR (M k) ⟨rc, rp, rh, rd⟩)) n l (t + 1) U) := by
            have h1 := RsI.tell HRS.out HO.out HJ.out (r := ⟨rc, rp, rh, rd⟩) (U := U) (by rw [← HK.out]; exact HRUN.out)
            rw [← HK.out] at h1
            exact h1
          have c7 := cel 7 _ (by omega) rfl
          have c8 := cel 8 _ (by omega) rfl
          have c9 := cel 9 _ (by omega) rfl
          have c10 := cel 10 _ (by omega) rfl
          have hf := HRBU.out.1.frozen
          have q0 := HQU.out.cell 0
          have q1 := HQU.out.cell 1
          have q2 := HQU.out.cell 2
          have q3 := HQU.out.cell 3
          simp only [List.getElem?_cons_zero, List.getElem?_cons_succ] at q0 q1 q2 q3
          have HQG : Hid (q ≠ g) := fun e => by have h1 := HQS.out; have h2 := HS.out; have h3 := HGN.out; omega
          have u0 := up_cell (F := (· = g)) (w := u.drew) q0 HQG.out
          have u1 := up_cell (F := (· = g)) (w := u.drew) q1 HQG.out
          have u2 := up_cell (F := (· = g)) (w := u.drew) q2 HQG.out
          have u3 := up_cell (F := (· = g)) (w := u.drew) q3 HQG.out
          have u4 := up_cell (F := (· = g)) (w := u.drew) hcu (fun (e : ob = g) => by have h1 := HOB.out; have h2 := HGB.out; have h3 := HBB.out; omega)
          clear cel q0 q1 q2 q3
          go_upto_region 9 with (fail)
          clear c13 hcu
          refine wp_region_stages (Kept (· = g)) (kept_refl _) (kept_trans _) [([0, 1, 2, 3, 4, 5, 6, 7], 8)] [] (by kernel_rfl) (by kernel_rfl) ?_
          simp only [selSt, sel, List.map_cons, List.map_nil, List.getD_cons_succ, List.getD_cons_zero]
          refine st_cons fun K1 hK1 => ?_
          repeat (go_big_quiet_step (fail))
          refine wpQuiet_nil ?_
          clear u0 u1 u2 u3 u4
          go_wp2
          refine norm_up (hK1 _ _ (drew_both HK3.out) (st_nil fun K hK => wpQuiet_nil (hK _ ?_)))
          clear hK1 K1 hK K c7 c8 c9 c10 hf
          unfold putR at HR3 HS3 HB3 HO3 HG3 HK3
          go_wp2
          go_roundg (gk - 1)
          case measure => have := HG.out; have := HJ.out; omega
          case rel => exact ⟨t + 1, by have := HG.out; have := HJ.out; omega, by go_num, ⟨⟨_, _, U, HR3.out.grow (Kept.drew' _), HS3.out.grow (Kept.drew' _), HI3.out⟩, HB3.out.drew, sl_grow HO3.out (Kept.drew' _), HG3.out.drew⟩⟩
        · have HI3 : Hid (RsI L M n l (t + 1) U) := RsI.pass HRS.out HJ.out (by rw [← HK.out]; have := HKE.out; omega) (by rw [← HK.out]; exact HRUN.out)
          have HW3 : Hid (RsW w B0 m m (.slice X1 n1 c1) (.slice X2 n2 c2) (.slice X3 n3 c3') (.slice (some ⟨g, 0, none⟩) n c3) n L (some ⟨ob, oo, none⟩) l (t + 1) u) := ⟨⟨M, Q, U, HRU.out, HSU.out, HI3.out⟩, HBU.out, HORU.out, HGW.out⟩
          clear cel
          go_wp2
          go_roundg (gk - 1)
          case measure => have := HG.out; have := HJ.out; omega
          case rel => exact ⟨t + 1, by have := HG.out; have := HJ.out; omega, by go_num, HW3.out⟩
      · go_wp2
        refine norm_up (hK2 _ _ (Lr_early (by decide) ((Kept.refl _ _).alloc _)) ?_)
        clear hK1 hK2 K1 K2
        obtain ⟨hg1, hq1⟩ := res_zero wr
        rw [← HS.out] at hq1 ⊢
        generalize wr.alloc (.cells #[.int .i64 0, .int .i64 0, .int .i64 0, .slice none 0 0] 27) = u0 at hg1 hq1 ⊢
        have HQ1 := Lib.hid hq1
        have HG1 := Lib.hid hg1
        clear hg1 hq1
        refine tr_oneE fun K hK => ?_
        simp only [sel, List.map_cons, List.map_nil, List.getD_cons_succ, List.getD_cons_zero]
        refine wpQuiet_nil ?_
        go_wp2_with (go_at_call 38; (with_reducible refine (HDO.out _ (Kept.drew HG1.out)).mono ?_); rintro e wd ⟨⟨rv, rfl, ⟨A2, n2', cap2, rfl, hsl, hnew⟩⟩, hsa, hk⟩; have HSL := Lib.hid hsl; have HSA := Lib.hid hsa; have HKD := Lib.hid hk; have HNW := Lib.hid hnew; clear hsl hnew hsa hk)
        refine norm_up (hK _ _ (Lr_early (by decide) (HKD.out.mono fun x _ hx => .inl hx)) ?_)
        clear hK K
        have HQ2 : Hid (Blk wd s 27 [.int .i64 0, .int .i64 0, .int .i64 0, .slice none 0 0]) := (Blk.drew HQ1.out).kept HKD.out fun e => by have h1 := HS.out; have h2 := HWR.out.box.lt; omega
        have x0 := HQ2.out.cell 0
        have x1 := HQ2.out.cell 1
        have x2 := HQ2.out.cell 2
        have x3 := HQ2.out.cell 3
        have xf := HQ2.out.frozenAll
        simp only [List.getElem?_cons_zero, List.getElem?_cons_succ] at x0 x1 x2 x3
        have HQU : Hid (Blk (((((wd.setCell ⟨s, 0, none⟩ (.int .i64 rc)).setCell ⟨s, 1, none⟩ (.int .i64 rp)).setCell ⟨s, 2, none⟩ (.int .i64 rh)).setCell ⟨s, 3, none⟩ (.slice A2 n2' cap2))) s 27 [.int .i64 rc, .int .i64 rp, .int .i64 rh, .slice A2 n2' cap2]) := (((HQ2.out.set 0 (.int .i64 rc)).set 1 (.int .i64 rp)).set 2 (.int .i64 rh)).set 3 (.slice A2 n2' cap2)
        have HKQ : Hid (Kept (· = s) wd (((((wd.setCell ⟨s, 0, none⟩ (.int .i64 rc)).setCell ⟨s, 1, none⟩ (.int .i64 rp)).setCell ⟨s, 2, none⟩ (.int .i64 rh)).setCell ⟨s, 3, none⟩ (.slice A2 n2' cap2)))) := (((kept_set wd s 0 _).trans (kept_set _ s 1 _)).trans (kept_set _ s 2 _)).trans (kept_set _ s 3 _)
        refine tr_oneE fun K hK => ?_
        simp only [sel, List.map_cons, List.map_nil, List.getD_cons_succ, List.getD_cons_zero]
        refine wpQuiet_nil ?_
        go_wp2
        refine norm_up (hK _ _ (Lr_early (by decide) (HKQ.out.mono fun x _ hx => .inr (by have hx : x = s := hx; omega))) ?_)
        clear hK K x0 x1 x2 x3 xf
        refine tr_lastL fun K hK => ?_
        simp only [sel, List.map_nil]
        refine wpQuiet_nil (hK _ ?_)
        clear hK K
        generalize ((((wd.setCell ⟨s, 0, none⟩ (.int .i64 rc)).setCell ⟨s, 1, none⟩ (.int .i64 rp)).setCell ⟨s, 2, none⟩ (.int .i64 rh)).setCell ⟨s, 3, none⟩ (.slice A2 n2' cap2)) = u at HQU HKQ ⊢
        obtain ⟨q, hq⟩ : ∃ q, q = s := ⟨_, rfl⟩
        rw [← hq] at HQU ⊢
        have HQS : Hid (s ≤ q) := by show s ≤ q; omega
        have HKU : Hid (Kept (fun x => B0 ≤ x ∧ x < m) wr u) := ((HG1.out.kept.drew).trans HKD.out).then HKQ.out fun k hk (e : k = s) => by have := HS.out; omega
        have HSU := Lib.hid (HSA.out.kept HKQ.out fun k hk (e : k = s) => by have h1 := hk.2; have h2 := HS.out; have h3 := HWR.out.box.lt; omega)
        have HSZ0 : Hid (s < u0.drew.heap.size) := HQ1.out.lt
        have HSLU := Lib.hid (sl_far HSL.out HKQ.out fun h0 x hx (e : x.block = s) => by have h1 := HNW.out h0 x hx; have h2 := HSZ0.out; omega)
        have HNWU : Hid (0 < n2' → ∀ y, A2 = some y → s ≤ y.block) := fun h0 y hy => by have h1 := HNW.out h0 y hy; have h2 := HSZ0.out; omega
        clear HSL HSA HKD HNW HQ1 HQ2 HG1 HKQ HSZ0 hq
        have HRU := Lib.hid (HROW.out.kept HKU.out (fun k e h => by have h1 := HOWN.out k e; omega) (fun k _ _ hy h => by have hy : k < B0 ∨ m ≤ k := hy; omega))
        have HBU := Lib.hid (HWR.out.box.kept HKU.out fun h => by omega)
        have HORU := Lib.hid (sl_far HWR.out.or HKU.out fun _ x hx h => by injection hx with hx; have h1 := HOB.out; rw [← hx] at h; have h : B0 ≤ ob ∧ ob < m := h; omega)
        have HGW : Hid (Grow w u) := HWR.out.gr.then HKU.out fun k hk h => by have := HBB.out.1; omega
        have HMS : Hid (m ≤ s) := by have h1 := HWR.out.box.lt; have h2 := HS.out; show m ≤ s; omega
        have hcu := HKU.out.cellN HCT.out (fun h => by have h1 := HOB.out; have h : B0 ≤ ob ∧ ob < m := h; omega)
        have HRBU := Lib.hid (row_blk HRU.out HKN.out)
        have cel : ∀ j x, j < 14 → (evq (M k) (Q k))[j]? = some x → u.cell? ⟨g, k * 14 + j, none⟩ = some x := fun j x hj hx => by
          rw [HRBU.out.1.cell (i := k * 14 + j) (by have := HKN.out; omega), evf_at _ _ _ _ hj, List.getD_eq_getElem?_getD, hx]
          rfl
        have c13 := cel 13 _ (by omega) rfl
        by_cases he : 0 < (M k).e
        · have hn2 : n2' ≤ 16 := by have h1 : rd.length = n2' := HSLU.out.len; have h2 := HRL.out; omega
          have HR3 := Lib.hid (row_tell (r := ⟨rc, rp, rh, rd⟩) (ac := cap2) HRU.out HKN.out HSLU.out HRBY.out (by unfold maxLen; omega) (fun h0 y hy => by
            have h1 := HNWU.out h0 y hy
            have h2 := HGN.out
            have h3 := HS.out
            have h4 := HMS.out
            exact ⟨by omega, .inr (by omega)⟩))
          have HK3 := Lib.hid (putR_kept u g (k * 14) (.int .i64 rc) (.int .i64 rp) (.int .i64 rh) (.slice A2 n2' cap2))
          have HS3 := Lib.hid (HSU.out.kept HK3.out fun k hk (e : k = g) => by have h1 := hk.1; have h2 := HGB.out; omega)
          have HB3 := Lib.hid (HBU.out.kept HK3.out fun (e : m = g) => by have h1 := HBB.out; have h2 := HGB.out; omega)
          have HO3 := Lib.hid (sl_far HORU.out HK3.out fun _ x hx (e : x.block = g) => by injection hx with hx; have h1 := HOB.out; have h2 := HGB.out; have h3 := HBB.out; rw [← hx] at e; have e : ob = g := e; omega)
          have HG3 := Lib.hid (HGW.out.then HK3.out fun k hk (e : k = g) => by have := HGB.out; omega)
          have HI3 : Hid (RsI L (updE M k (setR (M k) ⟨rc, rp, rh, rd⟩)) n l (t + 1) U) := by
            have h1 := RsI.tell HRS.out HO.out HJ.out (r := ⟨rc, rp, rh, rd⟩) (U := U) (by rw [← HK.out]; exact HRUN.out)
            rw [← HK.out] at h1
            exact h1
          have c7 := cel 7 _ (by omega) rfl
          have c8 := cel 8 _ (by omega) rfl
          have c9 := cel 9 _ (by omega) rfl
          have c10 := cel 10 _ (by omega) rfl
          have hf := HRBU.out.1.frozen
          have q0 := HQU.out.cell 0
          have q1 := HQU.out.cell 1
          have q2 := HQU.out.cell 2
          have q3 := HQU.out.cell 3
          simp only [List.getElem?_cons_zero, List.getElem?_cons_succ] at q0 q1 q2 q3
          have HQG : Hid (q ≠ g) := fun e => by have h1 := HQS.out; have h2 := HS.out; have h3 := HGN.out; omega
          have u0 := up_cell (F := (· = g)) (w := u.drew) q0 HQG.out
          have u1 := up_cell (F := (· = g)) (w := u.drew) q1 HQG.out
          have u2 := up_cell (F := (· = g)) (w := u.drew) q2 HQG.out
          have u3 := up_cell (F := (· = g)) (w := u.drew) q3 HQG.out
          have u4 := up_cell (F := (· = g)) (w := u.drew) hcu (fun (e : ob = g) => by have h1 := HOB.out; have h2 := HGB.out; have h3 := HBB.out; omega)
          clear cel q0 q1 q2 q3
          go_upto_region 9 with (fail)
          clear c13 hcu
          refine wp_region_stages (Kept (· = g)) (kept_refl _) (kept_trans _) [([0, 1, 2, 3, 4, 5, 6, 7], 8)] [] (by kernel_rfl) (by kernel_rfl) ?_
          simp only [selSt, sel, List.map_cons, List.map_nil, List.getD_cons_succ, List.getD_cons_zero]
          refine st_cons fun K1 hK1 => ?_
          repeat (go_big_quiet_step (fail))
          refine wpQuiet_nil ?_
          clear u0 u1 u2 u3 u4
          go_wp2
          refine norm_up (hK1 _ _ (drew_both HK3.out) (st_nil fun K hK => wpQuiet_nil (hK _ ?_)))
          clear hK1 K1 hK K c7 c8 c9 c10 hf
          unfold putR at HR3 HS3 HB3 HO3 HG3 HK3
          go_wp2
          go_roundg (gk - 1)
          case measure => have := HG.out; have := HJ.out; omega
          case rel => exact ⟨t + 1, by have := HG.out; have := HJ.out; omega, by go_num, ⟨⟨_, _, U, HR3.out.grow (Kept.drew' _), HS3.out.grow (Kept.drew' _), HI3.out⟩, HB3.out.drew, sl_grow HO3.out (Kept.drew' _), HG3.out.drew⟩⟩
        · have HI3 : Hid (RsI L M n l (t + 1) U) := RsI.pass HRS.out HJ.out (by rw [← HK.out]; have := HKE.out; omega) (by rw [← HK.out]; exact HRUN.out)
          have HW3 : Hid (RsW w B0 m m (.slice X1 n1 c1) (.slice X2 n2 c2) (.slice X3 n3 c3') (.slice (some ⟨g, 0, none⟩) n c3) n L (some ⟨ob, oo, none⟩) l (t + 1) u) := ⟨⟨M, Q, U, HRU.out, HSU.out, HI3.out⟩, HBU.out, HORU.out, HGW.out⟩
          clear cel
          go_wp2
          go_roundg (gk - 1)
          case measure => have := HG.out; have := HJ.out; omega
          case rel => exact ⟨t + 1, by have := HG.out; have := HJ.out; omega, by go_num, HW3.out⟩
    · obtain rfl : t = l.length := by have := HG.out; omega
      clear hj HG
      obtain ⟨M, Q, a, hrow, hst, hrs⟩ := HWR.out.st
      have HEV := Lib.hid (hrow.evs rfl)
      have HLK := Lib.hid hrs.like
      have HFI := Lib.hid (hrs.fin HO.out HFST.out)
      clear hrow hst hrs
      go_wp2
      go_ret
      exact ⟨_, _, M, a, rfl, HC3.out.1, HC3.out.2, HEV.out, HLK.out, HFI.out, HWR.out.gr⟩
/-- Good: Make, restored. -/
def GoodP (n : Nat) (w : World) (e : Ending) (w' : World) : Prop :=
  ∃ A c M a now O, e = .returned (.slice A n c) ∧ n ≤ c ∧ c ≤ maxLen ∧ EvsAt w' Any A n M ∧ MkI M n now O ∧ now ≤ 5 * (n : Int) ∧ Fin M n 5 3 a ∧ Grow w w'
set_option maxHeartbeats 4000000 in
set_option maxRecDepth 100000 in
theorem good_any {w : World} {A0 A1 : Option Addr} {len0 cap0 len1 : Nat} {ds : List Int} (hcalls : CallsAt w A0 len0 cap0) (hlen : len0 ≤ 50) (hwait : Sl w w.heap.size .i64 A1 len1 ds) (cap1 : Nat) :
    Calls Try.prog 24 #[.slice A0 len0 cap0, .slice A1 len1 cap1] w (GoodP len0 w) := by
  have CM := Lib.hid (make_any hcalls hlen hwait cap1)
  clear hcalls hwait
  go_enter Try.func24, Try.ntmps24
  go_wp2_with (first
    | (go_at_call 22; (with_reducible refine CM.out.mono ?_); rintro e w1 ⟨A, c, L, O, now, rfl, h1, h2, hev, hI, hnow, hg⟩; have HI := Lib.hid hI; have HN := Lib.hid hnow; have HG := Lib.hid hg; have CR := Lib.hid (restore_any hev (by omega) hI.fst c); clear hI hnow hg hev h1 h2)
    | (go_at_call 23; (with_reducible refine CR.out.mono ?_); rintro e w2 ⟨A', c', M, a, rfl, h1, h2, hev, hlk, hf, hg⟩; have HP : Hid (GoodP len0 w (.returned (.slice A' len0 c')) w2) := ⟨A', c', M, a, now, O, rfl, h1, h2, hev, mk_like HI.out hlk, HN.out, hf, HG.out.trans hg⟩; clear h1 h2 hev hlk hf hg))
  go_ret
  exact HP.out
#print axioms good_any
end Go.Proofs.Ytjdlpknflhgkfaa.HsRest
