/-
  The document's state in memory (lavaboref13.S), and a call's answer; Held, room, give, Pins, fail, Zeros.
-/
import Derived.Test.YtjdlpknflhgkfaaRows
import Derived.Test.YtjdlpknflhgkfaaMdMath
import Derived.Test.YtjdlpknflhgkfaaGr
import Derived.Test.YtjdlpknflhgkfaaTxt
import Derived.Deep.LoopGhost
import Derived.Deep.Cut
import Derived.Deep.DeepCutAuto
import Derived.Deep.CutBlock
import Derived.Deep.CutRange
import Derived.RegionTactic
import Derived.WalkSpells
import Derived.Laws.ResultCell
namespace Go.Proofs.Ytjdlpknflhgkfaa.MdC
open Go.ChangeShapes Go.WideShapes Go.ChangeAt Go.RowKit
open Go.Proofs.Ytjdlpknflhgkfaa.Mem Go.Proofs.Ytjdlpknflhgkfaa.Blk Go.Proofs.Ytjdlpknflhgkfaa.Cells Go.Proofs.Ytjdlpknflhgkfaa.Orow Go.Proofs.Ytjdlpknflhgkfaa.GrC Go.Proofs.Ytjdlpknflhgkfaa.Txt Go.Proofs.Ytjdlpknflhgkfaa.MdM Go.Proofs.Ytjdlpknflhgkfaa.Stages
open Go.Proofs.Ytjdlpknflhgkfaa.HdM (lst hnd cnt sum lst_eq hnd_at hnd_none hnd_cases cnt_yes cnt_no cnt_le sum_le)

def tcell (T : Nat → Bool) (i : Nat) : Value := .bool (T i)
def bcell (B : Nat → List Int) (i : Nat) : Value := .string (strOfNums (B i))
/-- Three slices of the call's own, apart, in blocks of G. -/
structure SM (w : World) (G : Nat → Prop) (gT cT gB cB gH cH : Nat) (q cp : Nat → Nat) (a : Md) : Prop where
  tb : OR w gT 4 1 cT a.n (tcell a.T)
  bb : OR w gB 9 1 cB a.n (bcell a.B)
  hb : OR w gH 48 1 cH a.N (scell q cp)
  rb : ∀ i, i < a.N → OR w (q i) 3 1 (cp i) 6 (hcell (a.H i))
  inj : ∀ i j, i < a.N → j < a.N → q i = q j → i = j
  ne : gT ≠ gB ∧ gT ≠ gH ∧ gB ≠ gH
  nq : ∀ i, i < a.N → q i ≠ gT ∧ q i ≠ gB ∧ q i ≠ gH
  inG : G gT ∧ G gB ∧ G gH
  qG : ∀ i, i < a.N → G (q i)
abbrev sval (gT cT gB cB gH cH : Nat) (a : Md) : Value := .agg #[.slice (some ⟨gT, 0, none⟩) a.n cT, .slice (some ⟨gB, 0, none⟩) a.n cB, .slice (some ⟨gH, 0, none⟩) a.N cH]
/-- The value v is the state a; its blocks lie in G. -/
structure SAt (w : World) (G : Nat → Prop) (v : Value) (a : Md) : Prop where
  good : MdM.Good a
  mem : ∃ gT cT gB cB gH cH q cp, v = sval gT cT gB cB gH cH a ∧ SM w G gT cT gB cB gH cH q cp a

section
variable {w w' : World} {G F X : Nat → Prop} {v : Value} {gT cT gB cB gH cH : Nat} {q cp : Nat → Nat} {a : Md}
theorem SM.kept (h : SM w G gT cT gB cB gH cH q cp a) (hk : Kept F w w') (hF : ∀ k, G k → ¬ F k) : SM w' G gT cT gB cB gH cH q cp a :=
  ⟨h.tb.kept hk (hF _ h.inG.1), h.bb.kept hk (hF _ h.inG.2.1), h.hb.kept hk (hF _ h.inG.2.2), fun i hi => (h.rb i hi).kept hk (hF _ (h.qG i hi)), h.inj, h.ne, h.nq, h.inG, h.qG⟩
theorem SM.mono (h : SM w G gT cT gB cB gH cH q cp a) (hX : ∀ k, k < w.heap.size → G k → X k) : SM w X gT cT gB cB gH cH q cp a :=
  ⟨h.tb, h.bb, h.hb, h.rb, h.inj, h.ne, h.nq, ⟨hX _ h.tb.lt h.inG.1, hX _ h.bb.lt h.inG.2.1, hX _ h.hb.lt h.inG.2.2⟩, fun i hi => hX _ (h.rb i hi).lt (h.qG i hi)⟩
theorem SAt.kept (h : SAt w G v a) (hk : Kept F w w') (hF : ∀ k, G k → ¬ F k) : SAt w' G v a := by
  obtain ⟨gT, cT, gB, cB, gH, cH, q, cp, e, hm⟩ := h.mem
  exact ⟨h.good, gT, cT, gB, cB, gH, cH, q, cp, e, hm.kept hk hF⟩
theorem SAt.grow (h : SAt w G v a) (hk : Grow w w') : SAt w' G v a := h.kept hk fun _ _ x => x
theorem SAt.mono (h : SAt w G v a) (hX : ∀ k, k < w.heap.size → G k → X k) : SAt w X v a := by
  obtain ⟨gT, cT, gB, cB, gH, cH, q, cp, e, hm⟩ := h.mem
  exact ⟨h.good, gT, cT, gB, cB, gH, cH, q, cp, e, hm.mono hX⟩
/-- One handle has another page. -/
theorem SM.putH (h : SM w G gT cT gB cB gH cH q cp a) {c : Nat} (hc : c < a.N) (j : Nat) (p : Int) : SM (w.setCell ⟨q c, j, none⟩ (.int .i64 p)) G gT cT gB cB gH cH q cp (a.putH c j p) := by
  obtain ⟨n1, n2, n3⟩ := h.nq c hc
  refine ⟨h.tb.other (p := ⟨q c, j, none⟩) n1.symm _, h.bb.other (p := ⟨q c, j, none⟩) n2.symm _, h.hb.other (p := ⟨q c, j, none⟩) n3.symm _, fun i hi => ?_, h.inj, h.ne, h.nq, h.inG, h.qG⟩
  have hi : i < a.N := hi
  by_cases e : i = c
  · subst e
    refine ((h.rb i hi).set j _).congr fun y hy => ?_
    show (if y = j then Value.int .i64 p else .int .i64 (a.H i y)) = .int .i64 (if i = i ∧ y = j then p else a.H i y)
    by_cases e2 : y = j
    · rw [if_pos e2, if_pos ⟨rfl, e2⟩]
    · rw [if_neg e2, if_neg fun x => e2 x.2]
  · refine ((h.rb i hi).other (p := ⟨q c, j, none⟩) (fun e2 => e (h.inj i c hi hc e2)) _).congr fun y hy => ?_
    show Value.int .i64 (a.H i y) = .int .i64 (if i = c ∧ y = j then p else a.H i y)
    rw [if_neg fun x => e x.1]
/-- One body is another. -/
theorem SM.putB (h : SM w G gT cT gB cB gH cH q cp a) (p : Nat) (b : List Int) : SM (w.setCell ⟨gB, p, none⟩ (.string (strOfNums b))) G gT cT gB cB gH cH q cp (a.putB p b) :=
  ⟨h.tb.other (p := ⟨gB, p, none⟩) h.ne.1 _, (h.bb.set p _).congr fun i _ => by
    show (if i = p then Value.string (strOfNums b) else .string (strOfNums (a.B i))) = .string (strOfNums (upd a.B p b i))
    by_cases e : i = p
    · subst e; rw [if_pos rfl, upd_same]
    · rw [if_neg e, upd_other _ _ e], h.hb.other (p := ⟨gB, p, none⟩) h.ne.2.2.symm _, fun i hi => (h.rb i hi).other (p := ⟨gB, p, none⟩) (h.nq i hi).2.1 _, h.inj, h.ne, h.nq, h.inG, h.qG⟩
/-- One page is there, or not. -/
theorem SM.flag (h : SM w G gT cT gB cB gH cH q cp a) (p : Nat) (t : Bool) : SM (w.setCell ⟨gT, p, none⟩ (.bool t)) G gT cT gB cB gH cH q cp ⟨a.n, a.N, upd a.T p t, a.B, a.H⟩ :=
  ⟨(h.tb.set p _).congr fun i _ => by
    show (if i = p then Value.bool t else .bool (a.T i)) = .bool (upd a.T p t i)
    by_cases e : i = p
    · subst e; rw [if_pos rfl, upd_same]
    · rw [if_neg e, upd_other _ _ e], h.bb.other (p := ⟨gT, p, none⟩) h.ne.1.symm _, h.hb.other (p := ⟨gT, p, none⟩) h.ne.2.1.symm _, fun i hi => (h.rb i hi).other (p := ⟨gT, p, none⟩) (h.nq i hi).1 _, h.inj, h.ne, h.nq, h.inG, h.qG⟩

/-! ### An answer -/
/-- The value v is the answer r; its data lie in blocks from base on. -/
def ReV (w : World) (base : Nat) (v : Value) (r : Re) : Prop := ∃ A n cap, v = .agg #[.int .i64 r.c, .int .i64 r.p, .int .i64 r.h, .slice A n cap] ∧ Sl w w.heap.size .u8 A n r.d ∧ (0 < n → ∀ x, A = some x → base ≤ x.block)
theorem rev_none (w : World) (base : Nat) (c p h : Int) : ReV w base (.agg #[.int .i64 c, .int .i64 p, .int .i64 h, .slice none 0 0]) ⟨c, p, h, []⟩ :=
  ⟨none, 0, 0, rfl, Sl.nil _ _ _ _, fun h => absurd h (by omega)⟩
theorem ReV.grow {base : Nat} {r : Re} (h : ReV w base v r) (hk : Grow w w') : ReV w' base v r := by
  obtain ⟨A, n, cap, e, hs, h3⟩ := h
  exact ⟨A, n, cap, e, (Blk.Sl.kept hs hk (Nat.le_refl _) fun _ _ x => x).more hk.size, h3⟩

/-! ### A result that lies in a cell of the callee -/
theorem res_size : (Try.prog.info? 27).map (·.size) = some 4 := by kernel_rfl
theorem load_res {g : Nat} {t : TypeId} {x y z b : Value} (hg : Blk w g t [x, y, z, b]) : (loadVar 27 ⟨g, 0, none⟩).run Try.prog w = .ok (.agg #[x, y, z, b]) w :=
  run_loadVar_row w g t 27 #[x, y, z, b] (0, 0) _ hg Try.underlying27 rfl res_size
theorem ret_res {fn : Func} {R : Ending → World → Prop} {act : Act} {p g : Nat} {t : TypeId} {x y z b : Value} (h : fn.results = #[.cell p 27]) (hp : act.tmps.getD p undef = .pointer (some ⟨g, 0, none⟩)) (hg : Blk w g t [x, y, z, b]) (hd : act.defers = []) (hR : R (.returned (.agg #[x, y, z, b])) w) : bodyPost Try.prog fn R .ret act w := by
  refine bodyPost_ret ?_ hd hR
  have hp' : act.tmps[p]?.getD undef = .pointer (some ⟨g, 0, none⟩) := by simpa using hp
  simp [results, h, hp', asAddr, load_res hg]
theorem s_size : (Try.prog.info? 44).map (·.size) = some 3 := by kernel_rfl
theorem load_s {g : Nat} {t : TypeId} {x y z : Value} (hg : Blk w g t [x, y, z]) : (loadVar 44 ⟨g, 0, none⟩).run Try.prog w = .ok (.agg #[x, y, z]) w :=
  run_loadVar_row w g t 44 #[x, y, z] (0, 0) _ hg Try.underlying44 rfl s_size
theorem ret_s {fn : Func} {R : Ending → World → Prop} {act : Act} {p g : Nat} {t : TypeId} {x y z : Value} (h : fn.results = #[.cell p 44]) (hp : act.tmps.getD p undef = .pointer (some ⟨g, 0, none⟩)) (hg : Blk w g t [x, y, z]) (hd : act.defers = []) (hR : R (.returned (.agg #[x, y, z])) w) : bodyPost Try.prog fn R .ret act w := by
  refine bodyPost_ret ?_ hd hR
  have hp' : act.tmps[p]?.getD undef = .pointer (some ⟨g, 0, none⟩) := by simpa using hp
  simp [results, h, hp', asAddr, load_s hg]

/-! ### fail, Zeros -/
theorem infoU8 : (Try.prog.info? 5).map (fun i => (i.zero, i.size, i.bytes)) = some (some (.int .u8 0), 1, 1) := by kernel_rfl
theorem fail_any (w : World) (c : Int) : Calls Try.prog 56 #[.int .i64 c] w fun e w' => e = .returned (.agg #[.int .i64 c, .int .i64 0, .int .i64 0, .slice none 0 0]) ∧ Grow w w' := by
  go_enter Try.func56, Try.ntmps56
  go_wp2
  exact ret_res rfl rfl (Blk.new w 27 [.int .i64 c, .int .i64 0, .int .i64 0, .slice none 0 0]) rfl ⟨rfl, (Kept.refl _ _).alloc _⟩
theorem made16 (w : World) : (Instr.makeSlice 23 (.int .i64 16) (.int .i64 16)).run Try.prog w = .ok (.slice (some ⟨w.heap.size, 0, none⟩) 16 16) (w.alloc (.cells (madeCells #[.int .u8 0] 16) 5)) := by
  obtain ⟨i, hi, hz, hs, hb⟩ := info_parts infoU8
  have := run_make (P := Try.prog) w 23 5 i _ Try.underlying23 hi hz .i64 .i64 16 16 (by omega) (Int.le_refl _) (by rw [hb]; omega) (by omega)
  rw [hs, show (16 : Int).toNat = 16 by omega] at this
  exact this
theorem zeros_any (w : World) : Calls Try.prog 51 #[] w fun e w' => e = .returned (.string (strOfNums zeros)) ∧ Grow w w' := by
  have km := made16
  have hb := NBlk.made w 5 .u8 16
  have hcv := (Sl.of_blk0 (B := w.heap.size + 1) hb (n := 16) (by simp) (by omega)).str (P := Try.prog) 23 9 5 Try.underlying23 Try.underlying5 Try.underlying9 16
  have HB : Hid (Grow w (w.alloc (.cells (madeCells #[Value.int .u8 0] 16) 5))) := (Kept.refl _ _).alloc _
  clear hb
  go_enter Try.func51, Try.ntmps51
  go_wp2
  go_ret
  exact ⟨rfl, HB.out⟩

/-! ### Held, room, give, Pins -/
/-- What a walk reads of one client, behind a box of the state's own. -/
structure Cl (w : World) (s gT cT gB cB gH cH : Nat) (k b c : Nat) (a : Md) : Prop where
  s0 : w.cell? ⟨s, 0, none⟩ = some (.slice (some ⟨gT, 0, none⟩) a.n cT)
  s1 : w.cell? ⟨s, 1, none⟩ = some (.slice (some ⟨gB, 0, none⟩) a.n cB)
  s2 : w.cell? ⟨s, 2, none⟩ = some (.slice (some ⟨gH, 0, none⟩) a.N cH)
  sl : w.cell? ⟨gH, k, none⟩ = some (.slice (some ⟨b, 0, none⟩) 6 c)
  row : OR w b 3 1 c 6 (hcell (a.H k))
theorem SM.client (h : SM w G gT cT gB cB gH cH q cp a) {k : Nat} (hk : k < a.N) : Cl (w.alloc (.cells #[.slice (some ⟨gT, 0, none⟩) a.n cT, .slice (some ⟨gB, 0, none⟩) a.n cB, .slice (some ⟨gH, 0, none⟩) a.N cH] 44)) w.heap.size gT cT gB cB gH cH k (q k) (cp k) a := by
  have hb := Blk.new w 44 [.slice (some ⟨gT, 0, none⟩) a.n cT, .slice (some ⟨gB, 0, none⟩) a.n cB, .slice (some ⟨gH, 0, none⟩) a.N cH]
  have hg : Grow w (w.alloc (.cells #[.slice (some ⟨gT, 0, none⟩) a.n cT, .slice (some ⟨gB, 0, none⟩) a.n cB, .slice (some ⟨gH, 0, none⟩) a.N cH] 44)) := (Kept.refl _ _).alloc _
  exact ⟨hb.cell 0, hb.cell 1, hb.cell 2, hg.cellN (h.hb.cell (i := k) (by omega)) id, (h.rb k hk).kept hg id⟩
theorem held_any (h : SAt w G v a) (c j : Int) : Calls Try.prog 57 #[v, .int .i64 c, .int .i64 j] w fun e w' => e = .returned (.int .i64 (a.held c j)) ∧ Grow w w' := by
  obtain ⟨gT, cT, gB, cB, gH, cH, q, cp, rfl, hm⟩ := h.mem
  unfold sval
  have hN := h.good.N
  clear h
  by_cases hc : 0 ≤ c ∧ c < (a.N : Int)
  · obtain ⟨k, rfl⟩ := Int.eq_ofNat_of_zero_le hc.1
    have hk : k < a.N := by omega
    have hkz : (k : Int) < (a.N : Int) := hc.2
    have HC := Lib.hid (hm.client hk)
    have HG0 : Hid (Grow w (w.alloc (.cells #[.slice (some ⟨gT, 0, none⟩) a.n cT, .slice (some ⟨gB, 0, none⟩) a.n cB, .slice (some ⟨gH, 0, none⟩) a.N cH] 44))) := (Kept.refl _ _).alloc _
    by_cases hj : 0 ≤ j ∧ j < 6
    · obtain ⟨i, rfl⟩ := Int.eq_ofNat_of_zero_le hj.1
      have hi : i < 6 := by omega
      have hiz : (i : Int) < 6 := hj.2
      have r1 := hcell_get HC.out.row hi
      rw [held_in hk hi]
      clear hm hc hj hi hk hN
      go_enter Try.func57, Try.ntmps57
      go_upto_region 1 with (fail)
      generalize w.alloc (.cells #[.slice (some ⟨gT, 0, none⟩) a.n cT, .slice (some ⟨gB, 0, none⟩) a.n cB, .slice (some ⟨gH, 0, none⟩) a.N cH] 44) = w0 at HC HG0 r1 ⊢
      generalize w.heap.size = s at HC ⊢
      have s2 := HC.out.s2
      have sl := HC.out.sl
      go_wp2
      go_ret
      exact ⟨rfl, HG0.out⟩
    · rw [held_out fun x => hj x.2]
      by_cases h0 : j < 0
      · clear hm hc hj hk hN
        go_enter Try.func57, Try.ntmps57
        go_upto_region 1 with (fail)
        generalize w.alloc (.cells #[.slice (some ⟨gT, 0, none⟩) a.n cT, .slice (some ⟨gB, 0, none⟩) a.n cB, .slice (some ⟨gH, 0, none⟩) a.N cH] 44) = w0 at HC HG0 ⊢
        generalize w.heap.size = s at HC ⊢
        have s2 := HC.out.s2
        have sl := HC.out.sl
        go_wp2
        go_ret
        exact ⟨rfl, HG0.out⟩
      · have h1 : 0 ≤ j := by omega
        have h6 : 6 ≤ j := by omega
        clear hm hc hj hk hN h0
        go_enter Try.func57, Try.ntmps57
        go_upto_region 1 with (fail)
        generalize w.alloc (.cells #[.slice (some ⟨gT, 0, none⟩) a.n cT, .slice (some ⟨gB, 0, none⟩) a.n cB, .slice (some ⟨gH, 0, none⟩) a.N cH] 44) = w0 at HC HG0 ⊢
        generalize w.heap.size = s at HC ⊢
        have s2 := HC.out.s2
        have sl := HC.out.sl
        go_wp2
        go_ret
        exact ⟨rfl, HG0.out⟩
  · rw [held_out fun x => hc x.1]
    clear hm
    by_cases h0 : c < 0
    · clear hc hN
      go_enter Try.func57, Try.ntmps57
      go_wp2
      go_ret
      exact ⟨rfl, (Kept.refl _ _).alloc _⟩
    · have h1 : (a.N : Int) ≤ c := by omega
      have h2 : 0 ≤ c := by omega
      clear hc h0 hN
      go_enter Try.func57, Try.ntmps57
      go_wp2
      go_ret
      exact ⟨rfl, (Kept.refl _ _).alloc _⟩
theorem room_any (h : SAt w G v a) {k : Nat} (hk : k < a.N) : Calls Try.prog 58 #[v, .int .i64 (k : Int)] w fun e w' => e = .returned (.bool (!decide (a.free k = -1))) ∧ Grow w w' := by
  obtain ⟨gT, cT, gB, cB, gH, cH, q, cp, rfl, hm⟩ := h.mem
  unfold sval
  have HC := Lib.hid (hm.client hk)
  have HG0 : Hid (Grow w (w.alloc (.cells #[.slice (some ⟨gT, 0, none⟩) a.n cT, .slice (some ⟨gB, 0, none⟩) a.n cB, .slice (some ⟨gH, 0, none⟩) a.N cH] 44))) := (Kept.refl _ _).alloc _
  have HLO := Lib.hid fun (j : Nat) (hj : j < 6) => h.good.lo hk hj
  have hkz : (k : Int) < (a.N : Int) := by omega
  clear hm h hk
  go_enter Try.func58, Try.ntmps58
  go_upto_region 1 with (fail)
  generalize w.alloc (.cells #[.slice (some ⟨gT, 0, none⟩) a.n cT, .slice (some ⟨gB, 0, none⟩) a.n cB, .slice (some ⟨gH, 0, none⟩) a.N cH] 44) = w0 at HC HG0 ⊢
  generalize w.heap.size = s at HC ⊢
  have s2 := HC.out.s2
  have sl := HC.out.sl
  go_wp2
  go_loopg [5] 6 (fun gx i wr => ∃ j : Nat, j + gx = 6 ∧ i = .int .i64 (j : Int) ∧ w0 = wr ∧ ∀ t, t < j → a.H k t ≠ -1)
  case atStart => exact ⟨0, by omega, rfl, rfl, fun t h => absurd h (Nat.not_lt_zero t)⟩
  case round =>
    obtain ⟨j, hg, rfl, rfl, hno⟩ := hrel
    have HG := Lib.hid hg
    have HNO := Lib.hid hno
    clear hg hno
    by_cases hj : j < 6
    · have hjz : (j : Int) < 6 := by omega
      have r1 := hcell_get HC.out.row hj
      have hlo := HLO.out j hj
      by_cases hx : a.H k j = -1
      · have HE : Hid ((!decide (a.free k = -1)) = true) := by show (!decide (hnd (a.H k) 6 = -1)) = true; rw [hnd_at HNO.out hj hx]; simp
        rw [hx] at r1
        clear hx hlo hj
        go_wp2
        go_ret
        exact ⟨by rw [HE.out]; rfl, HG0.out⟩
      · have hx0 : 0 ≤ a.H k j := by omega
        have HX := Lib.hid hx
        clear hx hlo hj
        generalize a.H k j = x at r1 hx0
        go_wp2
        go_roundg (gk - 1)
        case measure => have := HG.out; omega
        case rel => exact ⟨j + 1, by have := HG.out; omega, by go_num, rfl, fun t ht => by
          by_cases e : t = j
          · subst e; exact HX.out
          · exact HNO.out t (by omega)⟩
    · have hj6 : j = 6 := by have := HG.out; omega
      subst hj6
      have HE : Hid ((!decide (a.free k = -1)) = false) := by show (!decide (hnd (a.H k) 6 = -1)) = false; rw [hnd_none HNO.out]; rfl
      clear hj
      go_wp2
      go_ret
      exact ⟨by rw [HE.out]; rfl, HG0.out⟩
end
end Go.Proofs.Ytjdlpknflhgkfaa.MdC
