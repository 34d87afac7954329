/-
  The document's frames (chapter 10, lavaboref10): how they lie in memory; used, Find, Pin, Unpin, Mark, Retire, zeros.
-/
import Derived.Test.YtcebjeemganhdaaAr
import Derived.Test.YtcebjeemganhdaaListRef
namespace Go.Proofs.Ytcebjeemganhdaa.ArRefC
open Go.ChangeShapes Go.WideShapes Go.ChangeAt Go.RowKit
open Go.Proofs.Ytcebjeemganhdaa.Mem Go.Proofs.Ytcebjeemganhdaa.Blk Go.Proofs.Ytcebjeemganhdaa.Cells Go.Proofs.Ytcebjeemganhdaa.Orow Go.Proofs.Ytcebjeemganhdaa.TabM Go.Proofs.Ytcebjeemganhdaa.ArM Go.Proofs.Ytcebjeemganhdaa.ArC Go.Proofs.Ytcebjeemganhdaa.Stages
open Go.Proofs.Ytcebjeemganhdaa.ListM (ints ints_len ints_get)

def rcell (vL vB vQ : Value) (j : Nat) : Value := if j = 0 then vL else if j = 1 then vB else vQ
def scell (S : Nat → List Int) (j : Nat) : Value := .string (strOfNums (S j))
/-- At block m: the document's arena a; S: its strings. -/
structure RMem (w : World) (G : Nat → Prop) (m : Nat) (vL vB : Value) (A : Option Addr) (c : Nat) (S : Nat → List Int) (a : Ar) : Prop where
  hd : Row w m 3 (rcell vL vB (.slice A a.Q.length c))
  fr : OS w (fun k => G k ∧ k ≠ m ∧ vB.ownBlock ≠ some k) vL 42 5 a.n (fcell a.F)
  bo : OS w (fun k => G k ∧ k ≠ m) vB 9 1 a.n (scell S)
  sb : ∀ x, x < a.n → (a.F x).st = 1 → S x = a.B x
  id : Sl w w.heap.size .i64 A a.Q.length (ints a.Q)
  cc : a.Q.length ≤ c ∧ c ≤ maxLen
  off : ∀ x, A = some x → G x.block ∧ x.block ≠ m ∧ vL.ownBlock ≠ some x.block ∧ vB.ownBlock ≠ some x.block
  inG : G m
  lt : ∀ x, A = some x → x.block < w.heap.size
structure RAt (w : World) (G : Nat → Prop) (m : Nat) (a : Ar) : Prop where
  good : ArM.Good a
  mem : ∃ vL vB A c S, RMem w G m vL vB A c S a

theorem sl_at {F : Nat → Prop} {w w' : World} {B n : Nat} {k : IntKind} {A : Option Addr} {zs : List Int} (h : Sl w B k A n zs) (hk : Kept F w w') (hA : ∀ x, A = some x → ¬ F x.block) : Sl w' w'.heap.size k A n zs :=
  ⟨h.1, fun hn => by
    obtain ⟨b, off, rfl, hb, hc⟩ := h.2 hn
    have h1 := hk.cellN (hc 0 hn) (hA ⟨b, off, none⟩ rfl)
    exact ⟨b, off, rfl, block_lt_of_cell h1, fun j hj => hk.cellN (hc j hj) (hA ⟨b, off, none⟩ rfl)⟩⟩
theorem os_sl {w : World} {G : Nat → Prop} {v : Value} {t : TypeId} {s n : Nat} {f : Nat → Value} (h : OS w G v t s n f) : ∃ A c, v = .slice A n c ∧ (0 < n → ∃ g, A = some ⟨g, 0, none⟩ ∧ OR w g t s c n f) := by
  rcases h with ⟨e, h0⟩ | ⟨g, c, e, ho, _⟩
  · exact ⟨none, 0, by rw [e, h0], fun h => by omega⟩
  · exact ⟨_, c, e, fun _ => ⟨g, rfl, ho⟩⟩

section
variable {w w' : World} {G H F : Nat → Prop} {m c g cap : Nat} {vL vB : Value} {A : Option Addr} {S : Nat → List Int} {a : Ar}
theorem RMem.kept (h : RMem w G m vL vB A c S a) (hk : Kept F w w') (hF : ∀ k, G k → ¬ F k) : RMem w' G m vL vB A c S a :=
  ⟨h.hd.kept hk (hF _ h.inG), h.fr.kept hk fun k x => hF k x.1, h.bo.kept hk fun k x => hF k x.1, h.sb, sl_at h.id hk fun x e => hF _ (h.off x e).1, h.cc, h.off, h.inG, fun x e => Nat.lt_of_lt_of_le (h.lt x e) hk.size⟩
theorem os_mono {v : Value} {t : TypeId} {s n : Nat} {f : Nat → Value} {P Q : Nat → Prop} (h : OS w P v t s n f) (hH : ∀ k, k < w.heap.size → P k → Q k) : OS w Q v t s n f := by
  rcases h with h | ⟨g, c, e, ho, hg⟩
  · exact .inl h
  · exact .inr ⟨g, c, e, ho, hH g ho.lt hg⟩
theorem RAt.kept (h : RAt w G m a) (hk : Kept F w w') (hF : ∀ k, G k → ¬ F k) : RAt w' G m a := by
  obtain ⟨vL, vB, A, c, S, h'⟩ := h.mem
  exact ⟨h.good, vL, vB, A, c, S, h'.kept hk hF⟩
theorem RAt.grow (h : RAt w G m a) (hk : Grow w w') : RAt w' G m a := h.kept hk fun _ _ x => x
theorem RAt.lt (h : RAt w G m a) : m < w.heap.size ∧ G m := by
  obtain ⟨vL, vB, A, c, S, h'⟩ := h.mem
  exact ⟨h'.hd.lt, h'.inG⟩
theorem RMem.c0 (h : RMem w G m vL vB A c S a) : w.cell? ⟨m, 0, none⟩ = some vL := h.hd.cell (i := 0) (by omega)
theorem RMem.c1 (h : RMem w G m vL vB A c S a) : w.cell? ⟨m, 1, none⟩ = some vB := h.hd.cell (i := 1) (by omega)
theorem RMem.c2 (h : RMem w G m vL vB A c S a) : w.cell? ⟨m, 2, none⟩ = some (.slice A a.Q.length c) := h.hd.cell (i := 2) (by omega)
/-- Frames that are turned in their block. -/
theorem RMem.frm {F' : Nat → Fr} (h : RMem w G m (.slice (some ⟨g, 0, none⟩) a.n cap) vB A c S a) (hf : FR w' g cap a.n F') (hk : Kept (· = g) w w') (hs : ∀ x, x < a.n → (F' x).st = 1 → S x = a.B x) : RMem w' G m (.slice (some ⟨g, 0, none⟩) a.n cap) vB A c S ⟨a.n, F', a.B, a.Q⟩ := by
  have hb : G g ∧ g ≠ m ∧ vB.ownBlock ≠ some g := by
    rcases h.fr with ⟨e, _⟩ | ⟨g', c', e, _, hb⟩
    · cases e
    · injection e with e1
      injection e1 with e1
      injection e1 with e1
      subst e1
      exact hb
  refine ⟨h.hd.kept hk hb.2.1.symm, .inr ⟨g, cap, rfl, hf, hb⟩, ?_, hs, sl_at h.id hk fun x e x2 => (h.off x e).2.2.1 (by rw [← x2]; rfl), h.cc, h.off, h.inG, fun x e => Nat.lt_of_lt_of_le (h.lt x e) hk.size⟩
  rcases h.bo with h' | ⟨g', c', e, ho, hb'⟩
  · exact .inl h'
  · exact .inr ⟨g', c', e, ho.kept hk fun x => hb.2.2 (by rw [e, ← x]; rfl), hb'⟩
theorem RAt.form (h : RAt w G m a) (hn : 0 < a.n) : ∃ g cap vB A c S, RMem w G m (.slice (some ⟨g, 0, none⟩) a.n cap) vB A c S a ∧ FR w g cap a.n a.F ∧ G g := by
  obtain ⟨vL, vB, A, c, S, h'⟩ := h.mem
  obtain ⟨g, cap, rfl, hf, hg⟩ := h'.fr.form hn
  exact ⟨g, cap, vB, A, c, S, h', hf, hg.1⟩
def RPost (G : Nat → Prop) (m : Nat) (w : World) (r : Value) (a' : Ar) (e : Ending) (w' : World) : Prop := e = .returned r ∧ RAt w' G m a' ∧ Kept G w w'

/-! ### used, Find -/
theorem rused_any (h : RAt w G m a) (k : Int) : Calls Try.prog 38 #[.pointer (some ⟨m, 0, none⟩), .int .i64 k] w fun e w' => e = .returned (.bool (a.used k)) ∧ w = w' := by
  obtain ⟨vL, vB, A, c, S, h'⟩ := h.mem
  have hn := h.good.n
  have c0 := h'.c0
  obtain ⟨AL, cL, rfl, hL⟩ := os_sl h'.fr
  by_cases h0 : k < 0
  · have e : a.used k = false := by unfold Ar.used; rw [decide_eq_false (by omega)]; rfl
    rw [e]
    clear h h' e hL
    go_enter Try.func38, Try.ntmps38
    go_wp2
    go_ret
    exact ⟨rfl, rfl⟩
  · obtain ⟨f, rfl⟩ := Int.eq_ofNat_of_zero_le (show 0 ≤ k by omega)
    by_cases hf : f < a.n
    · obtain ⟨g, rfl, ho⟩ := hL (by omega)
      have f0 := FR.c0 ho hf
      have hfz : (f : Int) < (a.n : Int) := by omega
      have hnz : (a.n : Int) ≤ 32 := by omega
      have e : a.used (f : Int) = ((a.F f).st == 1) := by
        unfold Ar.used
        rw [decide_eq_true (show (0 : Int) ≤ (f : Int) by omega), decide_eq_true hfz, Int.toNat_natCast]
        rfl
      rw [e]
      clear h h' hL ho e h0
      generalize (a.F f).st = st at *
      go_enter Try.func38, Try.ntmps38
      go_wp2
      go_ret
      exact ⟨rfl, rfl⟩
    · have e : a.used (f : Int) = false := by unfold Ar.used; rw [decide_eq_false (show ¬ (f : Int) < (a.n : Int) by omega)]; simp
      have hfz : (a.n : Int) ≤ (f : Int) := by omega
      rw [e]
      clear h h' hL e h0 hf
      go_enter Try.func38, Try.ntmps38
      go_wp2
      go_ret
      exact ⟨rfl, rfl⟩
theorem rfind_any (h : RAt w G m a) (p : Int) : Calls Try.prog 28 #[.pointer (some ⟨m, 0, none⟩), .int .i64 p] w fun e w' => e = .returned (.int .i64 (a.find p)) ∧ w = w' := by
  obtain ⟨vL, vB, A, c, S, h'⟩ := h.mem
  have hn := h.good.n
  have C0 := Lib.hid h'.c0
  obtain ⟨AL, cL, rfl, hL⟩ := os_sl h'.fr
  have HL := Lib.hid hL
  have hnz : (a.n : Int) ≤ 32 := by omega
  clear h h' hL
  go_enter Try.func28, Try.ntmps28
  go_wp2
  go_loopg [5] a.n (fun gx i wr => ∃ j : Nat, j + gx = a.n ∧ i = .int .i64 (j : Int) ∧ (∀ k, k < j → isP a p k = false) ∧ w = wr)
  case atStart => exact ⟨0, by omega, rfl, fun k hk => absurd hk (by omega), rfl⟩
  case round =>
    obtain ⟨j, hg, rfl, hno, rfl⟩ := hrel
    have HG := Lib.hid hg
    have HNO := Lib.hid hno
    clear hg hno
    have c0 := C0.out
    by_cases hj : j < a.n
    · have hjz : (j : Int) < (a.n : Int) := by omega
      obtain ⟨g, rfl, ho⟩ := HL.out (by omega)
      have f0 := FR.c0 ho hj
      have f1 := FR.c1 ho hj
      by_cases hs : (a.F j).st = 1
      · rw [hs] at f0
        by_cases hp : (a.F j).pg = p
        · have HE : Hid (a.find p = (j : Int)) := by
            show _ = _
            unfold Ar.find
            rw [least_eq hj (isP_iff.2 ⟨hs, hp⟩) HNO.out, if_pos hj]
          rw [hp] at f1
          clear ho hs hp
          go_wp2
          go_ret
          exact ⟨by rw [HE.out]; rfl, rfl⟩
        · have hp' : ((a.F j).pg == p) = false := beq_eq_false_iff_ne.2 hp
          have HE : Hid (isP a p j = false) := by show _ = _; unfold isP; rw [decide_eq_false hp, Bool.and_false]
          clear ho hs hp
          generalize (a.F j).pg = pg at *
          go_wp2
          go_roundg (gk - 1)
          case measure => have := HG.out; omega
          case rel =>
            refine ⟨j + 1, by have := HG.out; omega, by go_num, fun k hk => ?_, rfl⟩
            by_cases e : k = j
            · subst e; exact HE.out
            · exact HNO.out k (by omega)
      · have hs' : ((a.F j).st == 1) = false := beq_eq_false_iff_ne.2 hs
        have HE : Hid (isP a p j = false) := by show _ = _; unfold isP; rw [decide_eq_false hs, Bool.false_and]
        clear ho hs
        generalize (a.F j).st = st at *
        go_wp2
        go_roundg (gk - 1)
        case measure => have := HG.out; omega
        case rel =>
          refine ⟨j + 1, by have := HG.out; omega, by go_num, fun k hk => ?_, rfl⟩
          by_cases e : k = j
          · subst e; exact HE.out
          · exact HNO.out k (by omega)
    · obtain rfl : j = a.n := by have := HG.out; omega
      have HE : Hid (a.find p = -1) := by
        show _ = _
        unfold Ar.find
        rw [least_all HNO.out, if_neg (by omega)]
      go_wp2
      go_ret
      exact ⟨by rw [HE.out]; rfl, rfl⟩

/-! ### Pin, Unpin, Mark -/
theorem RAt.turn {f : Nat} {v : Fr} (h : RAt w G m a) (hg : ArM.Good (a.turn f v)) (hM : RMem w G m (.slice (some ⟨g, 0, none⟩) a.n cap) vB A c S a) (hs : (a.F f).st = 1) (hf : f < a.n) (hfr : FR w' g cap a.n (upd a.F f v)) (hk : Kept (· = g) w w') : RAt w' G m (a.turn f v) := by
  refine ⟨hg, _, vB, A, c, S, hM.frm hfr hk fun x hx hx1 => hM.sb x hx ?_⟩
  by_cases e : x = f
  · subst e; exact hs
  · rw [upd_other _ _ e] at hx1; exact hx1
theorem rpin_any (h : RAt w G m a) (k : Int) : Calls Try.prog 14 #[.pointer (some ⟨m, 0, none⟩), .int .i64 k] w (RPost G m w (.int .i64 (a.pinC k)) (a.pin k)) := by
  have HU := Lib.hid (rused_any h k)
  cases hu : a.used k with
  | false =>
    have e1 : a.pinC k = 2 := by unfold Ar.pinC; rw [hu]; rfl
    have e2 : a.pin k = a := by unfold Ar.pin; rw [e1]; rfl
    rw [e1, e2]
    rw [hu] at HU
    have HA := Lib.hid h
    clear h hu e1 e2
    go_enter Try.func14, Try.ntmps14
    go_wp2_with (go_at_call 38; (with_reducible refine HU.out.mono ?_); rintro e w' ⟨rfl, rfl⟩)
    go_ret
    exact ⟨rfl, HA.out, Kept.refl _ _⟩
  | true =>
    rw [hu] at HU
    obtain ⟨f, rfl, hf, hs⟩ := used_iff.1 hu
    have HG := Lib.hid (h.good.pin (f : Int))
    have hbd := h.good.use f hf hs
    have hn32 := h.good.n
    obtain ⟨g, cap, vB, A, c, S, hb, hfr, hgG⟩ := h.form (by omega)
    have c0 := hb.c0
    have f2 := FR.c2 hfr hf
    have fz := OR.frozen hfr (f * 5 + 2)
    have hfz : (f : Int) < (a.n : Int) := by omega
    have hnz : (a.n : Int) ≤ 32 := by omega
    by_cases h1000 : 1000 ≤ (a.F f).pn
    · have e1 : a.pinC (f : Int) = 12 := by unfold Ar.pinC; rw [if_pos hu, Int.toNat_natCast, if_pos h1000]
      have e2 : a.pin (f : Int) = a := by unfold Ar.pin; rw [e1]; rfl
      have HA := Lib.hid h
      rw [e1, e2]
      clear h hb hfr hbd e1 e2 HG hu hs
      generalize (a.F f).pn = pn at *
      go_enter Try.func14, Try.ntmps14
      go_wp2_with (go_at_call 38; (with_reducible refine HU.out.mono ?_); rintro e w' ⟨rfl, rfl⟩)
      go_ret
      exact ⟨rfl, HA.out, Kept.refl _ _⟩
    · have e1 : a.pinC (f : Int) = 0 := by unfold Ar.pinC; rw [if_pos hu, Int.toNat_natCast, if_neg h1000]
      have e2 : a.pin (f : Int) = a.turn f ⟨(a.F f).st, (a.F f).pg, (a.F f).pn + 1, (a.F f).di⟩ := by unfold Ar.pin; rw [if_pos e1, Int.toNat_natCast]
      rw [e2] at HG
      rw [e1, e2]
      have HK := Lib.hid (kept_set w g (f * 5 + 2) (.int .i64 ((a.F f).pn + 1)))
      have HB := Lib.hid (RAt.turn h HG.out hb hs hf (FR.set2 hfr f ((a.F f).pn + 1)) HK.out)
      have h1p : (a.F f).pn < 1000 := by omega
      obtain ⟨_, _, hp0, hp1⟩ := hbd
      clear h hb hfr h1000 e1 e2 hu hs HG
      generalize (a.F f).pn = pn at *
      go_enter Try.func14, Try.ntmps14
      go_wp2_with (go_at_call 38; (with_reducible refine HU.out.mono ?_); rintro e w' ⟨rfl, rfl⟩)
      go_ret
      exact ⟨rfl, HB.out, HK.out.mono fun k _ e => by subst e; exact hgG⟩
theorem runpin_any (h : RAt w G m a) (k : Int) : Calls Try.prog 16 #[.pointer (some ⟨m, 0, none⟩), .int .i64 k] w (RPost G m w (.int .i64 (a.unpinC k)) (a.unpin k)) := by
  have HU := Lib.hid (rused_any h k)
  cases hu : a.used k with
  | false =>
    have e1 : a.unpinC k = 2 := by unfold Ar.unpinC; rw [hu]; rfl
    have e2 : a.unpin k = a := by unfold Ar.unpin; rw [e1]; rfl
    rw [e1, e2]
    rw [hu] at HU
    have HA := Lib.hid h
    clear h hu e1 e2
    go_enter Try.func16, Try.ntmps16
    go_wp2_with (go_at_call 38; (with_reducible refine HU.out.mono ?_); rintro e w' ⟨rfl, rfl⟩)
    go_ret
    exact ⟨rfl, HA.out, Kept.refl _ _⟩
  | true =>
    rw [hu] at HU
    obtain ⟨f, rfl, hf, hs⟩ := used_iff.1 hu
    have HG := Lib.hid (h.good.unpin (f : Int))
    have hbd := h.good.use f hf hs
    have hn32 := h.good.n
    obtain ⟨g, cap, vB, A, c, S, hb, hfr, hgG⟩ := h.form (by omega)
    have c0 := hb.c0
    have f2 := FR.c2 hfr hf
    have fz := OR.frozen hfr (f * 5 + 2)
    have hfz : (f : Int) < (a.n : Int) := by omega
    have hnz : (a.n : Int) ≤ 32 := by omega
    by_cases hz0 : (a.F f).pn = 0
    · have e1 : a.unpinC (f : Int) = 12 := by unfold Ar.unpinC; rw [if_pos hu, Int.toNat_natCast, if_pos hz0]
      have e2 : a.unpin (f : Int) = a := by unfold Ar.unpin; rw [e1]; rfl
      have HA := Lib.hid h
      rw [e1, e2]
      rw [hz0] at f2
      clear h hb hfr hbd e1 e2 HG hu hs hz0
      go_enter Try.func16, Try.ntmps16
      go_wp2_with (go_at_call 38; (with_reducible refine HU.out.mono ?_); rintro e w' ⟨rfl, rfl⟩)
      go_ret
      exact ⟨rfl, HA.out, Kept.refl _ _⟩
    · have e1 : a.unpinC (f : Int) = 0 := by unfold Ar.unpinC; rw [if_pos hu, Int.toNat_natCast, if_neg hz0]
      have e2 : a.unpin (f : Int) = a.turn f ⟨(a.F f).st, (a.F f).pg, (a.F f).pn - 1, (a.F f).di⟩ := by unfold Ar.unpin; rw [if_pos e1, Int.toNat_natCast]
      rw [e2] at HG
      rw [e1, e2]
      have HK := Lib.hid (kept_set w g (f * 5 + 2) (.int .i64 ((a.F f).pn - 1)))
      have HB := Lib.hid (RAt.turn h HG.out hb hs hf (FR.set2 hfr f ((a.F f).pn - 1)) HK.out)
      have h1p : ((a.F f).pn == 0) = false := beq_eq_false_iff_ne.2 hz0
      obtain ⟨_, _, hp0, hp1⟩ := hbd
      clear h hb hfr hz0 e1 e2 hu hs HG
      generalize (a.F f).pn = pn at *
      go_enter Try.func16, Try.ntmps16
      go_wp2_with (go_at_call 38; (with_reducible refine HU.out.mono ?_); rintro e w' ⟨rfl, rfl⟩)
      go_ret
      exact ⟨rfl, HB.out, HK.out.mono fun k _ e => by subst e; exact hgG⟩
theorem rmark_any (h : RAt w G m a) (k : Int) (q : Bool) : Calls Try.prog 18 #[.pointer (some ⟨m, 0, none⟩), .int .i64 k, .bool q] w (RPost G m w (.int .i64 (a.markC k)) (a.mark k q)) := by
  have HU := Lib.hid (rused_any h k)
  cases hu : a.used k with
  | false =>
    have e1 : a.markC k = 2 := by unfold Ar.markC; rw [hu]; rfl
    have e2 : a.mark k q = a := by unfold Ar.mark; rw [hu]; rfl
    rw [e1, e2]
    rw [hu] at HU
    have HA := Lib.hid h
    clear h hu e1 e2
    go_enter Try.func18, Try.ntmps18
    go_wp2_with (go_at_call 38; (with_reducible refine HU.out.mono ?_); rintro e w' ⟨rfl, rfl⟩)
    go_ret
    exact ⟨rfl, HA.out, Kept.refl _ _⟩
  | true =>
    rw [hu] at HU
    obtain ⟨f, rfl, hf, hs⟩ := used_iff.1 hu
    have HG := Lib.hid (h.good.mark (f : Int) q)
    have hn32 := h.good.n
    obtain ⟨g, cap, vB, A, c, S, hb, hfr, hgG⟩ := h.form (by omega)
    have c0 := hb.c0
    have f4 := FR.c4 hfr hf
    have fz := OR.frozen hfr (f * 5 + 4)
    have hfz : (f : Int) < (a.n : Int) := by omega
    have hnz : (a.n : Int) ≤ 32 := by omega
    have e1 : a.markC (f : Int) = 0 := by unfold Ar.markC; rw [if_pos hu]
    have e2 : a.mark (f : Int) q = a.turn f ⟨(a.F f).st, (a.F f).pg, (a.F f).pn, q⟩ := by unfold Ar.mark; rw [if_pos hu, Int.toNat_natCast]
    rw [e2] at HG
    rw [e1, e2]
    have HK := Lib.hid (kept_set w g (f * 5 + 4) (.bool q))
    have HB := Lib.hid (RAt.turn h HG.out hb hs hf (FR.set4 hfr f q) HK.out)
    clear h hb hfr e1 e2 hu hs HG
    go_enter Try.func18, Try.ntmps18
    go_wp2_with (go_at_call 38; (with_reducible refine HU.out.mono ?_); rintro e w' ⟨rfl, rfl⟩)
    go_ret
    exact ⟨rfl, HB.out, HK.out.mono fun k _ e => by subst e; exact hgG⟩

/-! ### Retire -/
/-- A shorter queue, laid into the head. -/
theorem RMem.cut {q : List Nat} {f : Nat} (h : RMem w G m vL vB A c S a) (hq : a.Q = f :: q) : ∃ A', (if c = 1 then A else A.map (·.add 1)) = A' ∧ RMem (w.setCell ⟨m, 2, none⟩ (.slice A' q.length (c - 1))) G m vL vB A' (c - 1) S ⟨a.n, a.F, a.B, q⟩ := by
  refine ⟨_, rfl, ?_⟩
  have hk := kept_set w m 2 (.slice (if c = 1 then A else A.map (·.add 1)) q.length (c - 1))
  have hid := h.id
  have hcc := h.cc
  have hl : a.Q.length = q.length + 1 := by rw [hq]; rfl
  rw [hl] at hid hcc
  have hcut := Sl.cut hid (m := 1) (cap := c) (by omega) hcc.1
  rw [show q.length + 1 - 1 = q.length by omega, show (ints a.Q).drop 1 = ints q by rw [hq]; rfl] at hcut
  have hoff : ∀ x, (if c = 1 then A else A.map (·.add 1)) = some x → (G x.block ∧ x.block ≠ m ∧ vL.ownBlock ≠ some x.block ∧ vB.ownBlock ≠ some x.block) ∧ x.block < w.heap.size := fun x hx => by
    split at hx
    · exact ⟨h.off x hx, h.lt x hx⟩
    · cases A with
      | none => cases hx
      | some y =>
        injection hx with hx
        have e : x.block = y.block := by rw [← hx]; unfold Addr.add; split <;> rfl
        rw [e]
        exact ⟨h.off y rfl, h.lt y rfl⟩
  refine ⟨(h.hd.set 2 _).congr fun i hi => ?_, h.fr.kept hk fun k x y => x.2.1 y, h.bo.kept hk fun k x y => x.2 y, h.sb, sl_at hcut hk fun x e y => (hoff x e).1.2.1 y, by show q.length ≤ _ ∧ _ ≤ _; omega, fun x hx => (hoff x hx).1, h.inG, fun x hx => Nat.lt_of_lt_of_le (hoff x hx).2 hk.size⟩
  have : i = 0 ∨ i = 1 ∨ i = 2 := by omega
  rcases this with rfl | rfl | rfl <;> rfl
theorem RMem.cut1 {q : List Nat} {f b off : Nat} (h : RMem w G m vL vB (some ⟨b, off, none⟩) c S a) (hq : a.Q = f :: q) : RMem (w.setCell ⟨m, 2, none⟩ (.slice (if c = 1 then some ⟨b, off, none⟩ else some ⟨b, off + 1, none⟩) q.length (c - 1))) G m vL vB (if c = 1 then some ⟨b, off, none⟩ else some ⟨b, off + 1, none⟩) (c - 1) S ⟨a.n, a.F, a.B, q⟩ := by
  obtain ⟨A', e, h'⟩ := h.cut hq
  have e2 : Option.map (fun x : Addr => x.add 1) (some (⟨b, off, none⟩ : Addr)) = some ⟨b, off + 1, none⟩ := by simp [Addr.add]
  rw [e2] at e
  rw [e]
  exact h'
theorem rretire_any (h : RAt w G m a) : Calls Try.prog 26 #[.pointer (some ⟨m, 0, none⟩)] w (RPost G m w (.int .i64 (ListM.first a.Q)) a.ret) := by
  obtain ⟨vL, vB, A, c, S, hb⟩ := h.mem
  have hn32 := h.good.n
  have c2 := hb.c2
  cases hq : a.Q with
  | nil =>
    have HA := Lib.hid h
    have e2 : a.ret = a := by unfold Ar.ret; rw [hq]; rfl
    rw [hq] at c2
    rw [e2]
    clear h hb hq e2
    go_enter Try.func26, Try.ntmps26
    go_wp2
    go_ret
    exact ⟨rfl, HA.out, Kept.refl _ _⟩
  | cons f q =>
    obtain ⟨hf, hs, _, _⟩ := h.good.head hq
    have HG := Lib.hid h.good.ret
    have e2 : a.ret = ⟨a.n, upd a.F f fGone, a.B, q⟩ := by unfold Ar.ret; rw [hq]; rfl
    rw [e2] at HG ⊢
    obtain ⟨gL, cL, rfl, hfr, hgL⟩ := hb.fr.form (by omega)
    obtain ⟨b, off, rfl, _, hc⟩ := hb.id.at_ (by rw [hq]; simp)
    have r0 := hc 0 (by rw [hq]; simp)
    rw [ints_get, hq, List.getD_cons_zero, Nat.add_zero] at r0
    have hcc := hb.cc
    rw [hq] at hcc c2
    have H1 := Lib.hid (hb.cut1 hq)
    have hk := kept_set w m 2 (.slice (if c = 1 then some ⟨b, off, none⟩ else some ⟨b, off + 1, none⟩) q.length (c - 1))
    have HFR := Lib.hid (OR.kept hfr hk (fun e => hgL.2.1 e))
    have HK1 : Hid (Kept G w (w.setCell ⟨m, 2, none⟩ (.slice (if c = 1 then some ⟨b, off, none⟩ else some ⟨b, off + 1, none⟩) q.length (c - 1)))) := hk.mono fun k _ e => by subst e; exact hb.inG
    have HSB : Hid (∀ x, x < a.n → (upd a.F f fGone x).st = 1 → S x = a.B x) := fun x hx hs1 => by
      by_cases e : x = f
      · subst e; rw [upd_same] at hs1; have : (4 : Int) = 1 := hs1; omega
      · rw [upd_other _ _ e] at hs1; exact hb.sb x hx hs1
    have mz := hb.hd.frozen 2
    have hfz : (f : Int) < (a.n : Int) := by omega
    have hnz : (a.n : Int) ≤ 32 := by omega
    have hlc : q.length + 1 ≤ c := by have := hcc.1; simpa using this
    have hlcz : (q.length : Int) + 1 ≤ (c : Int) := by omega
    have hqz : ((q.length : Int) + 1 == 0) = false := by rw [beq_eq_false_iff_ne]; omega
    have hcz := hcc.2
    unfold maxLen at hcz
    simp only [List.length_cons] at c2
    have hgLG := hgL.1
    generalize hfst : ListM.first (f :: q) = ff at *
    have hff : ff = (f : Int) := by rw [← hfst]; rfl
    subst hff
    clear h hb hq hc hcc hk hfr hs hfst
    go_enter Try.func26, Try.ntmps26
    go_upto_region 5 with (fail)
    clear c2 r0 mz
    generalize (if c = 1 then (some ⟨b, off, none⟩ : Option Addr) else some ⟨b, off + 1, none⟩) = A' at *
    generalize w.setCell ⟨m, 2, none⟩ (.slice A' q.length (c - 1)) = w1 at *
    have c0 := H1.out.c0
    have f0 := FR.c0 HFR.out hf
    have f1 := FR.c1 HFR.out hf
    have f2 := FR.c2 HFR.out hf
    have f3 := FR.c3 HFR.out hf
    have f4 := FR.c4 HFR.out hf
    have fz := OR.frozen HFR.out
    go_upto_region 6 with (fail)
    rw [show (((((w1.setCell ⟨gL, f * 5, none⟩ (.int .i64 4)).setCell ⟨gL, f * 5 + 1, none⟩ (.int .i64 (-1))).setCell ⟨gL, f * 5 + 2, none⟩ (.int .i64 0)).setCell ⟨gL, f * 5 + 3, none⟩ (.int .i64 0)).setCell ⟨gL, f * 5 + 4, none⟩ (.bool false)) = setF w1 gL f fGone from rfl]
    clear c0 f0 f1 f2 f3 f4 fz
    have H2 := Lib.hid (RMem.frm (a := ⟨a.n, a.F, a.B, q⟩) H1.out (FR.setF HFR.out f fGone) (kept_setF _ _ _ _) HSB.out)
    have HK2 := Lib.hid (kept_setF w1 gL f fGone)
    go_wp2
    go_ret
    exact ⟨rfl, ⟨HG.out, _, _, _, _, _, H2.out⟩, HK1.out.trans (HK2.out.mono fun k _ e => by subst e; exact hgLG)⟩
theorem zeros_any : Calls Try.prog 36 #[] w fun e w' => e = .returned (.string (strOfNums zeros)) ∧ Grow w w' := by
  have infoU8 : (Try.prog.info? 5).map (fun i => (i.zero, i.size, i.bytes)) = some (some (.int .u8 0), 1, 1) := by kernel_rfl
  have hmk := fun w => run_make_row' (P := Try.prog) 28 5 (.int .u8 0) 1 Try.underlying28 infoU8 rfl .i64 .i64 16 (by omega) (by omega) w
  simp only [Int.cast_ofNat_Int] at hmk
  have hb : NBlk (w.alloc (.cells (madeCells #[Value.int .u8 0] 16) 5)) w.heap.size 5 .u8 zeros := NBlk.made w 5 .u8 16
  have hbel : Grow w (w.alloc (.cells (madeCells #[Value.int .u8 0] 16) 5)) := (Kept.refl _ _).alloc _
  have hcv := (Sl.of_blk0 (B := w.heap.size + 1) hb (n := 16) (by rfl) (by omega)).str (P := Try.prog) 28 9 5 Try.underlying28 Try.underlying5 Try.underlying9 16
  have HB := Lib.hid hbel
  clear hb hbel
  go_enter Try.func36, Try.ntmps36
  go_wp2
  go_ret
  exact ⟨rfl, HB.out⟩
end
end Go.Proofs.Ytcebjeemganhdaa.ArRefC
