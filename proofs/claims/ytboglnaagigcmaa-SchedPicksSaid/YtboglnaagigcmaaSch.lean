/-
  What the functions of package sched compute (chapter 7): how a schedule lies in memory; all, one, ready, Task, Wake, Go, Block, Done.
-/
import Derived.Test.YtboglnaagigcmaaRows
import Derived.Test.YtboglnaagigcmaaCells
import Derived.Test.YtboglnaagigcmaaSchMath
import Derived.Deep.Cut
import Derived.Deep.DeepCutAuto
import Derived.Deep.CutBlock
import Derived.WalkSpells
namespace Go.Proofs.Ytboglnaagigcmaa.SchC
open Go.ChangeShapes Go.WideShapes Go.ChangeAt Go.RowKit
open Go.Proofs.Ytboglnaagigcmaa.Mem Go.Proofs.Ytboglnaagigcmaa.Blk Go.Proofs.Ytboglnaagigcmaa.Cells Go.Proofs.Ytboglnaagigcmaa.SchM Go.Proofs.Ytboglnaagigcmaa.Stages

/-- The cell j of tasks. -/
def tcell (T : Sc) (j : Nat) : Value := .int .i64 (if j % 3 = 0 then T.S (j / 3) else if j % 3 = 1 then T.P (j / 3) else T.O (j / 3))
theorem tcell0 (T : Sc) (p : Nat) : tcell T (p * 3) = .int .i64 (T.S p) := by
  unfold tcell; rw [if_pos (by omega), show p * 3 / 3 = p by omega]
theorem tcell1 (T : Sc) (p : Nat) : tcell T (p * 3 + 1) = .int .i64 (T.P p) := by
  unfold tcell; rw [if_neg (by omega), if_pos (by omega), show (p * 3 + 1) / 3 = p by omega]
theorem tcell2 (T : Sc) (p : Nat) : tcell T (p * 3 + 2) = .int .i64 (T.O p) := by
  unfold tcell; rw [if_neg (by omega), if_neg (by omega), show (p * 3 + 2) / 3 = p by omega]

/-- Tasks in the block D. -/
def Tasks (w : World) (D : Nat) (T : Sc) : Prop := Row w D (T.n * 3) (tcell T)
section
variable {w w' : World} {D p : Nat} {T : Sc} {F : Nat → Prop}
theorem Tasks.s (h : Tasks w D T) (hp : p < T.n) : w.cell? ⟨D, p * 3, none⟩ = some (.int .i64 (T.S p)) := by rw [Row.cell h (by omega), tcell0]
theorem Tasks.q (h : Tasks w D T) (hp : p < T.n) : w.cell? ⟨D, p * 3 + 1, none⟩ = some (.int .i64 (T.P p)) := by rw [Row.cell h (by omega), tcell1]
theorem Tasks.o (h : Tasks w D T) (hp : p < T.n) : w.cell? ⟨D, p * 3 + 2, none⟩ = some (.int .i64 (T.O p)) := by rw [Row.cell h (by omega), tcell2]
theorem Tasks.congr {U : Sc} (h : Tasks w D T) (hn : T.n = U.n) (hs : ∀ j, j < T.n → T.S j = U.S j) (hp : ∀ j, j < T.n → T.P j = U.P j) (ho : ∀ j, j < T.n → T.O j = U.O j) : Tasks w D U := by
  unfold Tasks at *
  rw [← hn]
  refine Row.congr h fun i hi => ?_
  unfold tcell
  rw [hs _ (by omega), hp _ (by omega), ho _ (by omega)]
theorem Tasks.setS (h : Tasks w D T) (p : Nat) (v : Int) : Tasks (w.setCell ⟨D, p * 3, none⟩ (.int .i64 v)) D ⟨T.n, upd T.S p v, T.P, T.O⟩ := by
  refine (Row.set h (p * 3) _).congr fun i hi => ?_
  by_cases e : i = p * 3
  · rw [if_pos e, e, tcell0]
    show _ = Value.int .i64 (upd T.S p v p)
    rw [upd_same]
  · rw [if_neg e]
    unfold tcell
    show _ = Value.int .i64 (if i % 3 = 0 then upd T.S p v (i / 3) else if i % 3 = 1 then T.P (i / 3) else T.O (i / 3))
    by_cases e0 : i % 3 = 0
    · rw [if_pos e0, if_pos e0, upd_other _ _ (by omega)]
    · rw [if_neg e0, if_neg e0]
theorem Tasks.setP (h : Tasks w D T) (p : Nat) (v : Int) : Tasks (w.setCell ⟨D, p * 3 + 1, none⟩ (.int .i64 v)) D ⟨T.n, T.S, upd T.P p v, T.O⟩ := by
  refine (Row.set h (p * 3 + 1) _).congr fun i hi => ?_
  by_cases e : i = p * 3 + 1
  · rw [if_pos e, e, tcell1]
    show _ = Value.int .i64 (upd T.P p v p)
    rw [upd_same]
  · rw [if_neg e]
    unfold tcell
    show _ = Value.int .i64 (if i % 3 = 0 then T.S (i / 3) else if i % 3 = 1 then upd T.P p v (i / 3) else T.O (i / 3))
    by_cases e0 : i % 3 = 0
    · rw [if_pos e0, if_pos e0]
    · rw [if_neg e0, if_neg e0]
      by_cases e1 : i % 3 = 1
      · rw [if_pos e1, if_pos e1, upd_other _ _ (by omega)]
      · rw [if_neg e1, if_neg e1]
theorem Tasks.setO (h : Tasks w D T) (p : Nat) (v : Int) : Tasks (w.setCell ⟨D, p * 3 + 2, none⟩ (.int .i64 v)) D ⟨T.n, T.S, T.P, upd T.O p v⟩ := by
  refine (Row.set h (p * 3 + 2) _).congr fun i hi => ?_
  by_cases e : i = p * 3 + 2
  · rw [if_pos e, e, tcell2]
    show _ = Value.int .i64 (upd T.O p v p)
    rw [upd_same]
  · rw [if_neg e]
    unfold tcell
    show _ = Value.int .i64 (if i % 3 = 0 then T.S (i / 3) else if i % 3 = 1 then T.P (i / 3) else upd T.O p v (i / 3))
    by_cases e0 : i % 3 = 0
    · rw [if_pos e0, if_pos e0]
    · rw [if_neg e0, if_neg e0]
      by_cases e1 : i % 3 = 1
      · rw [if_pos e1, if_pos e1]
      · rw [if_neg e1, if_neg e1, upd_other _ _ (by omega)]
end
theorem upd_id (f : Nat → Int) {p : Nat} {v : Int} (h : f p = v) : upd f p v = f := by
  funext j
  unfold upd
  by_cases e : j = p
  · rw [if_pos e, e, h]
  · rw [if_neg e]

/-- A schedule (either program's) at block d, its tasks at block D, room for c of them. -/
structure Raw (w : World) (d D c : Nat) (T : Sc) : Prop where
  hd : Row w d 1 fun _ => .slice (some ⟨D, 0, none⟩) T.n c
  sl : Tasks w D T
  ne : d ≠ D
  pos : 1 ≤ T.n
  size : T.n ≤ 64
  cap : T.n ≤ c
section
variable {w w' : World} {d D c p : Nat} {T U : Sc} {F : Nat → Prop}
theorem Raw.c0 (h : Raw w d D c T) : w.cell? ⟨d, 0, none⟩ = some (.slice (some ⟨D, 0, none⟩) T.n c) := h.hd.cell (i := 0) (by omega)
theorem Raw.f1 (h : Raw w d D c T) (j : Nat) : w.frozen? ⟨D, j, none⟩ = false := Row.frozen h.sl j
theorem Raw.kept (h : Raw w d D c T) (hk : Kept F w w') (hd : ¬ F d) (hD : ¬ F D) : Raw w' d D c T :=
  ⟨h.hd.kept hk hd, Row.kept h.sl hk hD, h.ne, h.pos, h.size, h.cap⟩
theorem Raw.grow (h : Raw w d D c T) (hk : Grow w w') : Raw w' d D c T := h.kept hk id id
theorem Raw.lt (h : Raw w d D c T) : d < w.heap.size ∧ D < w.heap.size := ⟨h.hd.lt, Row.lt h.sl⟩
theorem Raw.setS (h : Raw w d D c T) (p : Nat) (v : Int) : Raw (w.setCell ⟨D, p * 3, none⟩ (.int .i64 v)) d D c ⟨T.n, upd T.S p v, T.P, T.O⟩ := ⟨h.hd.other h.ne _, h.sl.setS p v, h.ne, h.pos, h.size, h.cap⟩
theorem Raw.setP (h : Raw w d D c T) (p : Nat) (v : Int) : Raw (w.setCell ⟨D, p * 3 + 1, none⟩ (.int .i64 v)) d D c ⟨T.n, T.S, upd T.P p v, T.O⟩ := ⟨h.hd.other h.ne _, h.sl.setP p v, h.ne, h.pos, h.size, h.cap⟩
theorem Raw.setO (h : Raw w d D c T) (p : Nat) (v : Int) : Raw (w.setCell ⟨D, p * 3 + 2, none⟩ (.int .i64 v)) d D c ⟨T.n, T.S, T.P, upd T.O p v⟩ := ⟨h.hd.other h.ne _, h.sl.setO p v, h.ne, h.pos, h.size, h.cap⟩
theorem Raw.set (h : Raw w d D c T) (p : Nat) (s pc o : Int) : Raw (((w.setCell ⟨D, p * 3, none⟩ (.int .i64 s)).setCell ⟨D, p * 3 + 1, none⟩ (.int .i64 pc)).setCell ⟨D, p * 3 + 2, none⟩ (.int .i64 o)) d D c (T.set p s pc o) := ((h.setS p s).setP p pc).setO p o
theorem Raw.setSP (h : Raw w d D c T) (p : Nat) (s pc : Int) : Raw ((w.setCell ⟨D, p * 3, none⟩ (.int .i64 s)).setCell ⟨D, p * 3 + 1, none⟩ (.int .i64 pc)) d D c (T.set p s pc (T.O p)) := by
  have := (h.setS p s).setP p pc
  unfold Sc.set
  rwa [upd_id T.O rfl]
theorem Raw.setSO (h : Raw w d D c T) (p : Nat) (s o : Int) : Raw ((w.setCell ⟨D, p * 3, none⟩ (.int .i64 s)).setCell ⟨D, p * 3 + 2, none⟩ (.int .i64 o)) d D c (T.set p s (T.P p) o) := by
  have := (h.setS p s).setO p o
  unfold Sc.set
  rwa [upd_id T.P rfl]
theorem Raw.setS' (h : Raw w d D c T) (p : Nat) (s : Int) : Raw (w.setCell ⟨D, p * 3, none⟩ (.int .i64 s)) d D c (T.set p s (T.P p) (T.O p)) := by
  have := h.setS p s
  unfold Sc.set
  rwa [upd_id T.P rfl, upd_id T.O rfl]
theorem Raw.setP' (h : Raw w d D c T) (p : Nat) (pc : Int) : Raw (w.setCell ⟨D, p * 3 + 1, none⟩ (.int .i64 pc)) d D c (T.set p (T.S p) pc (T.O p)) := by
  have := h.setP p pc
  unfold Sc.set
  rwa [upd_id T.S rfl, upd_id T.O rfl]

/-- A schedule whose tasks may stand so. -/
structure SchAt (w : World) (d D c : Nat) (T : Sc) : Prop where
  r : Raw w d D c T
  ok : Sane T
theorem SchAt.kept (h : SchAt w d D c T) (hk : Kept F w w') (hd : ¬ F d) (hD : ¬ F D) : SchAt w' d D c T := ⟨h.r.kept hk hd hD, h.ok⟩
theorem SchAt.grow (h : SchAt w d D c T) (hk : Grow w w') : SchAt w' d D c T := h.kept hk id id

/-- Stores into D alone. -/
abbrev At (D : Nat) : Nat → Prop := fun k => k = D
theorem kept1 (w : World) (D i : Nat) (v : Value) : Kept (At D) w (w.setCell ⟨D, i, none⟩ v) := kept_set w D i v
theorem kept2 (w : World) (D i j : Nat) (u v : Value) : Kept (At D) w ((w.setCell ⟨D, i, none⟩ u).setCell ⟨D, j, none⟩ v) := (kept1 w D i u).trans (kept1 _ D j v)

/-! ### all, one, ready -/
theorem all_nil : Calls Try.prog 33 #[.pointer none] w fun e w' => e = .returned (.slice none 0 0) ∧ w = w' := by
  go_enter Try.func33, Try.ntmps33
  go_wp2
  go_ret
  exact ⟨rfl, rfl⟩
theorem all_any (h : Raw w d D c T) : Calls Try.prog 33 #[.pointer (some ⟨d, 0, none⟩)] w fun e w' => e = .returned (.slice (some ⟨D, 0, none⟩) T.n c) ∧ w = w' := by
  have c0 := h.c0
  clear h
  go_enter Try.func33, Try.ntmps33
  go_wp2
  go_ret
  exact ⟨rfl, rfl⟩
theorem one_nil (t : Int) : Calls Try.prog 28 #[.pointer none, .int .i64 t] w fun e w' => e = .returned (.pointer none) ∧ w = w' := by
  have HA := Lib.hid (all_nil (w := w))
  by_cases h0 : t < 0
  · go_enter Try.func28, Try.ntmps28
    go_wp2_with (go_at_call 33; (with_reducible refine HA.out.mono ?_); rintro e w' ⟨rfl, rfl⟩)
    go_ret
    exact ⟨rfl, rfl⟩
  · have h0' : 0 ≤ t := by omega
    clear h0
    go_enter Try.func28, Try.ntmps28
    go_wp2_with (go_at_call 33; (with_reducible refine HA.out.mono ?_); rintro e w' ⟨rfl, rfl⟩)
    go_ret
    exact ⟨rfl, rfl⟩
theorem one_none (h : Raw w d D c T) {t : Int} (ht : T.has t = false) : Calls Try.prog 28 #[.pointer (some ⟨d, 0, none⟩), .int .i64 t] w fun e w' => e = .returned (.pointer none) ∧ w = w' := by
  have HA := Lib.hid (all_any h)
  have hsz := h.size
  have hszi : (T.n : Int) ≤ 64 := by omega
  unfold Sc.has at ht
  rw [decide_eq_false_iff_not] at ht
  clear h
  by_cases h0 : t < 0
  · clear ht
    go_enter Try.func28, Try.ntmps28
    go_wp2_with (go_at_call 33; (with_reducible refine HA.out.mono ?_); rintro e w' ⟨rfl, rfl⟩)
    go_ret
    exact ⟨rfl, rfl⟩
  · have h0' : 0 ≤ t := by omega
    have h1 : (T.n : Int) ≤ t := by omega
    clear h0 ht
    go_enter Try.func28, Try.ntmps28
    go_wp2_with (go_at_call 33; (with_reducible refine HA.out.mono ?_); rintro e w' ⟨rfl, rfl⟩)
    go_ret
    exact ⟨rfl, rfl⟩
theorem one_in (h : Raw w d D c T) {k : Nat} (hk : k < T.n) : Calls Try.prog 28 #[.pointer (some ⟨d, 0, none⟩), .int .i64 (k : Int)] w fun e w' => e = .returned (.pointer (some ⟨D, k * 3, none⟩)) ∧ w = w' := by
  have HA := Lib.hid (all_any h)
  have hsz := h.size
  have hszi : (T.n : Int) ≤ 64 := by omega
  have hkz : (k : Int) < (T.n : Int) := by omega
  clear h
  go_enter Try.func28, Try.ntmps28
  go_wp2_with (go_at_call 33; (with_reducible refine HA.out.mono ?_); rintro e w' ⟨rfl, rfl⟩)
  go_ret
  exact ⟨rfl, rfl⟩
theorem ready_none (h : Raw w d D c T) {t : Int} (ht : T.has t = false) : Calls Try.prog 30 #[.pointer (some ⟨d, 0, none⟩), .int .i64 t] w fun e w' => e = .returned (.pointer none) ∧ w = w' := by
  have HA := Lib.hid (one_none h ht)
  clear h ht
  go_enter Try.func30, Try.ntmps30
  go_wp2_with (go_at_call 28; (with_reducible refine HA.out.mono ?_); rintro e w' ⟨rfl, rfl⟩)
  go_ret
  exact ⟨rfl, rfl⟩
theorem ready_off (h : Raw w d D c T) {k : Nat} (hk : k < T.n) (hs : T.S k ≠ 1) : Calls Try.prog 30 #[.pointer (some ⟨d, 0, none⟩), .int .i64 (k : Int)] w fun e w' => e = .returned (.pointer none) ∧ w = w' := by
  have HA := Lib.hid (one_in h hk)
  have r0 := h.sl.s hk
  have hs' : (T.S k != 1) = true := by simpa using hs
  clear h hk hs
  go_enter Try.func30, Try.ntmps30
  go_wp2_with (go_at_call 28; (with_reducible refine HA.out.mono ?_); rintro e w' ⟨rfl, rfl⟩)
  go_ret
  exact ⟨rfl, rfl⟩
theorem ready_in (h : Raw w d D c T) {k : Nat} (hk : k < T.n) (hs : T.S k = 1) : Calls Try.prog 30 #[.pointer (some ⟨d, 0, none⟩), .int .i64 (k : Int)] w fun e w' => e = .returned (.pointer (some ⟨D, k * 3, none⟩)) ∧ w = w' := by
  have HA := Lib.hid (one_in h hk)
  have r0 := h.sl.s hk
  rw [hs] at r0
  clear h hk hs
  go_enter Try.func30, Try.ntmps30
  go_wp2_with (go_at_call 28; (with_reducible refine HA.out.mono ?_); rintro e w' ⟨rfl, rfl⟩)
  go_ret
  exact ⟨rfl, rfl⟩

/-- An answer, and the schedule behind the call. -/
def BPost (d D c : Nat) (w : World) (b : Bool) (U : Sc) (e : Ending) (w' : World) : Prop := e = .returned (.bool b) ∧ SchAt w' d D c U ∧ Kept (At D) w w'
theorem has_cases (T : Sc) (t : Int) : T.has t = false ∨ ∃ k : Nat, t = (k : Int) ∧ k < T.n := by
  by_cases h : 0 ≤ t ∧ t < (T.n : Int)
  · obtain ⟨k, rfl⟩ := Int.eq_ofNat_of_zero_le h.1
    exact .inr ⟨k, rfl, by omega⟩
  · exact .inl (decide_eq_false h)

/-! ### Wake, Go, Block, Done -/
theorem wake_nil (t pc : Int) : Calls Try.prog 10 #[.pointer none, .int .i64 t, .int .i64 pc] w fun e w' => e = .returned (.bool false) ∧ w = w' := by
  have HA := Lib.hid (one_nil (w := w) t)
  go_enter Try.func10, Try.ntmps10
  go_wp2_with (go_at_call 28; (with_reducible refine HA.out.mono ?_); rintro e w' ⟨rfl, rfl⟩)
  go_ret
  exact ⟨rfl, rfl⟩
theorem wake_any (h : SchAt w d D c T) (t pc : Int) : Calls Try.prog 10 #[.pointer (some ⟨d, 0, none⟩), .int .i64 t, .int .i64 pc] w (BPost d D c w (T.wakeB t pc) (T.wake t pc)) := by
  rcases has_cases T t with ht | ⟨k, rfl, hk⟩
  · have HA := Lib.hid (one_none h.r ht)
    have H := Lib.hid h
    have hE := wakeB_none (pc := pc) ht
    rw [wake_off hE, hE]
    clear h ht hE
    go_enter Try.func10, Try.ntmps10
    go_wp2_with (go_at_call 28; (with_reducible refine HA.out.mono ?_); rintro e w' ⟨rfl, rfl⟩)
    go_ret
    exact ⟨rfl, H.out, Kept.refl _ _⟩
  · have HA := Lib.hid (one_in h.r hk)
    have r0 := h.r.sl.s hk
    have r1 := h.r.sl.q hk
    have f1 := h.r.f1
    have H := Lib.hid h
    by_cases hp : pc < 0
    · have hE : T.wakeB (k : Int) pc = false := wakeB_off (.inl hp)
      rw [wake_off hE, hE]
      clear h hE hk
      go_enter Try.func10, Try.ntmps10
      go_wp2_with (go_at_call 28; (with_reducible refine HA.out.mono ?_); rintro e w' ⟨rfl, rfl⟩)
      go_ret
      exact ⟨rfl, H.out, Kept.refl _ _⟩
    · have hp' : 0 ≤ pc := by omega
      by_cases h03 : T.S k = 0 ∨ T.S k = 3
      · have hE := wakeB_on hk hp' h03
        rw [wake_on hE, hE, Int.toNat_natCast]
        have HO : Hid (T.O k = -1) := h.ok.f k hk (by omega)
        clear h hE hk hp
        rcases h03 with e | e
        all_goals
          rw [e] at r0
          clear e
          go_enter Try.func10, Try.ntmps10
          go_wp2_with (go_at_call 28; (with_reducible refine HA.out.mono ?_); rintro e w' ⟨rfl, rfl⟩)
          go_ret
          refine ⟨rfl, ⟨?_, sane_set H.out.ok k (by omega) (fun _ => rfl)⟩, kept2 _ _ _ _ _ _⟩
          have := H.out.r.setSP k 1 pc
          rwa [HO.out] at this
      · have hE : T.wakeB (k : Int) pc = false := wakeB_off (.inr ⟨by omega, by omega⟩)
        rw [wake_off hE, hE]
        have e0 : (T.S k != 0) = true := by rw [bne_iff_ne]; omega
        have e3 : (T.S k != 3) = true := by rw [bne_iff_ne]; omega
        clear h hE hk hp h03
        go_enter Try.func10, Try.ntmps10
        go_wp2_with (go_at_call 28; (with_reducible refine HA.out.mono ?_); rintro e w' ⟨rfl, rfl⟩)
        go_ret
        exact ⟨rfl, H.out, Kept.refl _ _⟩
theorem go_any (h : SchAt w d D c T) (t pc : Int) : Calls Try.prog 12 #[.pointer (some ⟨d, 0, none⟩), .int .i64 t, .int .i64 pc] w (BPost d D c w (T.goB t pc) (T.go t pc)) := by
  have H := Lib.hid h
  rcases has_cases T t with ht | ⟨k, rfl, hk⟩
  · have HA := Lib.hid (ready_none h.r ht)
    have hE := goB_none (pc := pc) ht
    rw [go_off hE, hE]
    clear h ht hE
    go_enter Try.func12, Try.ntmps12
    go_wp2_with (go_at_call 30; (with_reducible refine HA.out.mono ?_); rintro e w' ⟨rfl, rfl⟩)
    go_ret
    exact ⟨rfl, H.out, Kept.refl _ _⟩
  by_cases hs : T.S k = 1
  · have HA := Lib.hid (ready_in h.r hk hs)
    have r1 := h.r.sl.q hk
    have f1 := h.r.f1
    by_cases hp : pc < 0
    · have hE : T.goB (k : Int) pc = false := goB_off (.inl hp)
      rw [go_off hE, hE]
      clear h hE hk
      go_enter Try.func12, Try.ntmps12
      go_wp2_with (go_at_call 30; (with_reducible refine HA.out.mono ?_); rintro e w' ⟨rfl, rfl⟩)
      go_ret
      exact ⟨rfl, H.out, Kept.refl _ _⟩
    · have hp' : 0 ≤ pc := by omega
      have hE := goB_on hk hp' hs
      rw [go_on hE, hE, Int.toNat_natCast]
      have HO : Hid (T.O k = -1) := h.ok.f k hk (by omega)
      have HS := Lib.hid hs
      clear h hE hk hp hs
      go_enter Try.func12, Try.ntmps12
      go_wp2_with (go_at_call 30; (with_reducible refine HA.out.mono ?_); rintro e w' ⟨rfl, rfl⟩)
      go_ret
      refine ⟨rfl, ⟨?_, sane_set H.out.ok k (by omega) (fun _ => rfl)⟩, kept1 _ _ _ _⟩
      have := H.out.r.setP' k pc
      rwa [HO.out, HS.out] at this
  · have HA := Lib.hid (ready_off h.r hk hs)
    have hE : T.goB (k : Int) pc = false := goB_off (.inr hs)
    rw [go_off hE, hE]
    clear h hE hk hs
    go_enter Try.func12, Try.ntmps12
    go_wp2_with (go_at_call 30; (with_reducible refine HA.out.mono ?_); rintro e w' ⟨rfl, rfl⟩)
    go_ret
    exact ⟨rfl, H.out, Kept.refl _ _⟩
theorem block_any (h : SchAt w d D c T) (t on : Int) : Calls Try.prog 14 #[.pointer (some ⟨d, 0, none⟩), .int .i64 t, .int .i64 on] w (BPost d D c w (T.goB t on) (T.block t on)) := by
  have H := Lib.hid h
  rcases has_cases T t with ht | ⟨k, rfl, hk⟩
  · have HA := Lib.hid (ready_none h.r ht)
    have hE := goB_none (pc := on) ht
    rw [block_off hE, hE]
    clear h ht hE
    go_enter Try.func14, Try.ntmps14
    go_wp2_with (go_at_call 30; (with_reducible refine HA.out.mono ?_); rintro e w' ⟨rfl, rfl⟩)
    go_ret
    exact ⟨rfl, H.out, Kept.refl _ _⟩
  by_cases hs : T.S k = 1
  · have HA := Lib.hid (ready_in h.r hk hs)
    have r0 := h.r.sl.s hk
    have r2 := h.r.sl.o hk
    have f1 := h.r.f1
    by_cases hp : on < 0
    · have hE : T.goB (k : Int) on = false := goB_off (.inl hp)
      rw [block_off hE, hE]
      clear h hE hk
      go_enter Try.func14, Try.ntmps14
      go_wp2_with (go_at_call 30; (with_reducible refine HA.out.mono ?_); rintro e w' ⟨rfl, rfl⟩)
      go_ret
      exact ⟨rfl, H.out, Kept.refl _ _⟩
    · have hp' : 0 ≤ on := by omega
      have hE := goB_on hk hp' hs
      rw [block_on hE, hE, Int.toNat_natCast]
      clear h hE hk hp hs
      go_enter Try.func14, Try.ntmps14
      go_wp2_with (go_at_call 30; (with_reducible refine HA.out.mono ?_); rintro e w' ⟨rfl, rfl⟩)
      go_ret
      exact ⟨rfl, ⟨H.out.r.setSO k 2 on, sane_set H.out.ok k (fun _ => hp') (fun x => absurd rfl x)⟩, kept2 _ _ _ _ _ _⟩
  · have HA := Lib.hid (ready_off h.r hk hs)
    have hE : T.goB (k : Int) on = false := goB_off (.inr hs)
    rw [block_off hE, hE]
    clear h hE hk hs
    go_enter Try.func14, Try.ntmps14
    go_wp2_with (go_at_call 30; (with_reducible refine HA.out.mono ?_); rintro e w' ⟨rfl, rfl⟩)
    go_ret
    exact ⟨rfl, H.out, Kept.refl _ _⟩
theorem done_any (h : SchAt w d D c T) (t : Int) : Calls Try.prog 16 #[.pointer (some ⟨d, 0, none⟩), .int .i64 t] w (BPost d D c w (T.doneB t) (T.done t)) := by
  have H := Lib.hid h
  rcases has_cases T t with ht | ⟨k, rfl, hk⟩
  · have HA := Lib.hid (ready_none h.r ht)
    have hE := doneB_none ht
    rw [done_off hE, hE]
    clear h ht hE
    go_enter Try.func16, Try.ntmps16
    go_wp2_with (go_at_call 30; (with_reducible refine HA.out.mono ?_); rintro e w' ⟨rfl, rfl⟩)
    go_ret
    exact ⟨rfl, H.out, Kept.refl _ _⟩
  by_cases hs : T.S k = 1
  · have HA := Lib.hid (ready_in h.r hk hs)
    have r0 := h.r.sl.s hk
    have f1 := h.r.f1
    have hE := doneB_on hk hs
    rw [done_on hE, hE, Int.toNat_natCast]
    have HO : Hid (T.O k = -1) := h.ok.f k hk (by omega)
    clear h hE hk hs
    go_enter Try.func16, Try.ntmps16
    go_wp2_with (go_at_call 30; (with_reducible refine HA.out.mono ?_); rintro e w' ⟨rfl, rfl⟩)
    go_ret
    refine ⟨rfl, ⟨?_, sane_set H.out.ok k (by omega) (fun _ => rfl)⟩, kept1 _ _ _ _⟩
    have := H.out.r.setS' k 3
    rwa [HO.out] at this
  · have HA := Lib.hid (ready_off h.r hk hs)
    have hE : T.doneB (k : Int) = false := doneB_off hs
    rw [done_off hE, hE]
    clear h hE hk hs
    go_enter Try.func16, Try.ntmps16
    go_wp2_with (go_at_call 30; (with_reducible refine HA.out.mono ?_); rintro e w' ⟨rfl, rfl⟩)
    go_ret
    exact ⟨rfl, H.out, Kept.refl _ _⟩
end
end Go.Proofs.Ytboglnaagigcmaa.SchC
