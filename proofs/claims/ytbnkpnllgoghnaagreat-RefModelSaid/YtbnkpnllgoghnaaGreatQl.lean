/-
  Texts behind the statements of this seat: part 12.
-/
import Derived.Test.YtbnkpnllgoghnaaGreatQk
import Derived.Test.YtbnkpnllgoghnaaGreatQe
import Derived.Test.YtbnkpnllgoghnaaGreatQf
import Derived.ChangeArms
import Derived.Test.YtbnkpnllgoghnaaGreatQj
set_option linter.unusedVariables false

namespace Go.Proofs.YtbnkpnllgoghnaaGreat.MdNear
open Go.ChangeShapes Go.WideShapes Go.ChangeAt Go.RowKit
open Go.Proofs.YtbnkpnllgoghnaaGreat.Mem Go.Proofs.YtbnkpnllgoghnaaGreat.Blk Go.Proofs.YtbnkpnllgoghnaaGreat.Cells Go.Proofs.YtbnkpnllgoghnaaGreat.Orow Go.Proofs.YtbnkpnllgoghnaaGreat.Stages Go.Proofs.YtbnkpnllgoghnaaGreat.Trees
theorem call_size : (Tryz.prog.info? 57).map (·.size) = some 7 := by kernel_rfl
theorem load_call {w : World} {g : Nat} {t : TypeId} {a b c d e f x : Value} (hg : Blk w g t [a, b, c, d, e, f, x]) : (loadVar 57 ⟨g, 0, none⟩).run Tryz.prog w = .ok (.agg #[a, b, c, d, e, f, x]) w :=
  run_loadVar_row w g t 57 #[a, b, c, d, e, f, x] (0, 0) _ hg Tryz.underlying57 rfl call_size
theorem ret_call {w : World} {fn : Func} {R : Ending → World → Prop} {act : Act} {p g : Nat} {t : TypeId} {a b c d e f x : Value} (h : fn.results = #[.cell p 57]) (hp : act.tmps.getD p undef = .pointer (some ⟨g, 0, none⟩)) (hg : Blk w g t [a, b, c, d, e, f, x]) (hd : act.defers = []) (hR : R (.returned (.agg #[a, b, c, d, e, f, x])) w) : bodyPost Tryz.prog fn R .ret act w := by
  refine bodyPost_ret ?_ hd hR
  have hp' : act.tmps[p]?.getD undef = .pointer (some ⟨g, 0, none⟩) := by simpa using hp
  simp [results, h, hp', asAddr, load_call hg]
theorem store_call {w : World} {g : Nat} {t : TypeId} {a b c d e f x a' b' c' d' e' f' x' : Value} (hg : Blk w g t [a', b', c', d', e', f', x']) :
    Blk (w.setRow g #[a, b, c, d, e, f, x]) g t [a, b, c, d, e, f, x] ∧ Kept (fun k => k = g) w (w.setRow g #[a, b, c, d, e, f, x]) :=
  ⟨setRow_heap w g _ #[a, b, c, d, e, f, x] t _ hg, ⟨rfl, rfl, rfl, by simp, fun i hi hf => setRow_other w g i _ hf⟩⟩
/-- What Near tells: a call whose parts are small. -/
def NearP (P C : Nat) (A : Option Addr) (len cap : Nat) (w : World) (e : Ending) (w' : World) : Prop :=
  ∃ c k p h o n len' : Nat, e = .returned (.agg #[.int .i64 (c : Int), .int .i64 (k : Int), .int .i64 (p : Int), .int .i64 (h : Int), .int .i64 (o : Int), .int .i64 (n : Int), .slice A len' cap]) ∧ c < C ∧ 1 ≤ k ∧ k ≤ 8 ∧ p < P ∧ h < 3 ∧ o < 8 ∧ n < 9 ∧ len' = min len 8 ∧ Grow w w'
theorem three_new (w : World) (c k p h o n s : Value) :
    Grow w (((w.alloc (.cells #[c, k, p, h, o, n, s] 57)).alloc (.cells #[.int .i64 0, .int .i64 0, .int .i64 0, .int .i64 0, .int .i64 0, .int .i64 0, .slice none 0 0] 57)).alloc (.cells #[k, p, h, o, n, s] 30)) ∧
    Blk (((w.alloc (.cells #[c, k, p, h, o, n, s] 57)).alloc (.cells #[.int .i64 0, .int .i64 0, .int .i64 0, .int .i64 0, .int .i64 0, .int .i64 0, .slice none 0 0] 57)).alloc (.cells #[k, p, h, o, n, s] 30)) w.heap.size 57 [c, k, p, h, o, n, s] ∧
    Blk (((w.alloc (.cells #[c, k, p, h, o, n, s] 57)).alloc (.cells #[.int .i64 0, .int .i64 0, .int .i64 0, .int .i64 0, .int .i64 0, .int .i64 0, .slice none 0 0] 57)).alloc (.cells #[k, p, h, o, n, s] 30)) (w.heap.size + 1) 57 [.int .i64 0, .int .i64 0, .int .i64 0, .int .i64 0, .int .i64 0, .int .i64 0, .slice none 0 0] ∧
    Blk (((w.alloc (.cells #[c, k, p, h, o, n, s] 57)).alloc (.cells #[.int .i64 0, .int .i64 0, .int .i64 0, .int .i64 0, .int .i64 0, .int .i64 0, .slice none 0 0] 57)).alloc (.cells #[k, p, h, o, n, s] 30)) (w.heap.size + 1 + 1) 30 [k, p, h, o, n, s] := by
  have g1 : Grow w (w.alloc (.cells #[c, k, p, h, o, n, s] 57)) := (Kept.refl _ _).alloc _
  have b1 := Blk.new w 57 [c, k, p, h, o, n, s]
  have z1 : (w.alloc (.cells #[c, k, p, h, o, n, s] 57)).heap.size = w.heap.size + 1 := by simp
  generalize w.alloc (.cells #[c, k, p, h, o, n, s] 57) = u at *
  have g2 : Grow u (u.alloc (.cells #[.int .i64 0, .int .i64 0, .int .i64 0, .int .i64 0, .int .i64 0, .int .i64 0, .slice none 0 0] 57)) := (Kept.refl _ _).alloc _
  have b2 := Blk.new u 57 [.int .i64 0, .int .i64 0, .int .i64 0, .int .i64 0, .int .i64 0, .int .i64 0, .slice none 0 0]
  have z2 : (u.alloc (.cells #[.int .i64 0, .int .i64 0, .int .i64 0, .int .i64 0, .int .i64 0, .int .i64 0, .slice none 0 0] 57)).heap.size = u.heap.size + 1 := by simp
  generalize u.alloc (.cells #[.int .i64 0, .int .i64 0, .int .i64 0, .int .i64 0, .int .i64 0, .int .i64 0, .slice none 0 0] 57) = v at *
  have g3 : Grow v (v.alloc (.cells #[k, p, h, o, n, s] 30)) := (Kept.refl _ _).alloc _
  have b3 := Blk.new v 30 [k, p, h, o, n, s]
  rw [z1] at b2 z2
  rw [z2] at b3
  exact ⟨(g1.trans g2).trans g3, (b1.grow g2).grow g3, b2.grow g3, b3⟩
set_option maxRecDepth 4000 in
set_option maxHeartbeats 1000000 in
theorem near_any (c k p h o n : Int) (A : Option Addr) (len cap P C : Nat) (hP : 1 ≤ P) (hC : 1 ≤ C) (hPb : P ≤ 48) (hCb : C ≤ 6) (hl : len ≤ cap) (w : World) :
    Calls Tryz.prog 21 #[.agg #[.int .i64 c, .int .i64 k, .int .i64 p, .int .i64 h, .int .i64 o, .int .i64 n, .slice A len cap], .int .i64 (P : Int), .int .i64 (C : Int)] w (NearP P C A len cap w) := by
  obtain ⟨hg, hb1, hb2, hb3⟩ := three_new w (.int .i64 c) (.int .i64 k) (.int .i64 p) (.int .i64 h) (.int .i64 o) (.int .i64 n) (.slice A len cap)
  have HG := Lib.hid hg
  have HB1 := Lib.hid hb1
  have HB2 := Lib.hid hb2
  have HB3 := Lib.hid hb3
  obtain ⟨c', hc, hcr⟩ := tmod_nat c C (by omega)
  obtain ⟨k', hk, hkr⟩ := tmod_nat k 8 (by omega)
  obtain ⟨p', hp, hpr⟩ := tmod_nat p P (by omega)
  obtain ⟨h', hh, hhr⟩ := tmod_nat h 3 (by omega)
  obtain ⟨o', ho, hor⟩ := tmod_nat o 8 (by omega)
  obtain ⟨n', hn, hnr⟩ := tmod_nat n 9 (by omega)
  replace hk : (IntKind.u64.wrap k).tmod 8 = (k' : Int) := hk
  replace hh : (IntKind.u64.wrap h).tmod 3 = (h' : Int) := hh
  replace ho : (IntKind.u64.wrap o).tmod 8 = (o' : Int) := ho
  replace hn : (IntKind.u64.wrap n).tmod 9 = (n' : Int) := hn
  have wP : IntKind.u64.wrap (P : Int) = (P : Int) := IntWalk.u64_in _ (by omega)
  have wC : IntKind.u64.wrap (C : Int) = (C : Int) := IntWalk.u64_in _ (by omega)
  have ic : IntKind.i64.wrap (c' : Int) = (c' : Int) := IntWalk.i64_in _ (by omega)
  have ik : IntKind.i64.wrap (k' : Int) = (k' : Int) := IntWalk.i64_in _ (by omega)
  have ik1 : IntKind.i64.wrap (1 + (k' : Int)) = 1 + (k' : Int) := IntWalk.i64_in _ (by omega)
  have ip : IntKind.i64.wrap (p' : Int) = (p' : Int) := IntWalk.i64_in _ (by omega)
  have ih : IntKind.i64.wrap (h' : Int) = (h' : Int) := IntWalk.i64_in _ (by omega)
  have io : IntKind.i64.wrap (o' : Int) = (o' : Int) := IntWalk.i64_in _ (by omega)
  have i2 : IntKind.i64.wrap (n' : Int) = (n' : Int) := IntWalk.i64_in _ (by omega)
  have nP : ((P : Int) == 0) = false := by rw [beq_eq_false_iff_ne]; omega
  have nC : ((C : Int) == 0) = false := by rw [beq_eq_false_iff_ne]; omega
  have nP' : ¬ ((P : Int) = 0) := by omega
  have nC' : ¬ ((C : Int) = 0) := by omega
  obtain ⟨Q, hQ⟩ : ∃ Q, Q = NearP P C A len cap w := ⟨_, rfl⟩
  have HQ := Lib.hid hQ
  rw [← hQ]
  have HR := Lib.hid (And.intro hcr (And.intro hkr (And.intro hpr (And.intro hhr (And.intro hor hnr)))))
  clear hg hb1 hb2 hb3 hQ hcr hkr hpr hhr hor hnr
  go_enter Tryz.func21, Tryz.ntmps21
  go_upto_region 2 with (fail)
  generalize ((w.alloc (.cells #[.int .i64 c, .int .i64 k, .int .i64 p, .int .i64 h, .int .i64 o, .int .i64 n, .slice A len cap] 57)).alloc (.cells #[.int .i64 0, .int .i64 0, .int .i64 0, .int .i64 0, .int .i64 0, .int .i64 0, .slice none 0 0] 57)).alloc (.cells #[.int .i64 k, .int .i64 p, .int .i64 h, .int .i64 o, .int .i64 n, .slice A len cap] 30) = w0 at HG HB1 HB2 HB3 ⊢
  have HS0 : Hid (w.heap.size = w.heap.size) := rfl
  obtain ⟨s, hs⟩ : ∃ s, s = w.heap.size := ⟨_, rfl⟩
  have HS := Lib.hid hs
  rw [← hs] at HB1 HB2 HB3 ⊢
  clear hs HS0
  have c0 := HB3.out.cell 0
  have cf := HB3.out.frozen 0
  simp only [List.getElem?_cons_zero] at c0
  go_upto_region 3 with (fail)
  clear c0 cf
  have HB4 : Hid (Blk (w0.setCell ⟨s + 1 + 1, 0, none⟩ (.int .i64 (1 + (k' : Int)))) (s + 1 + 1) 30 [.int .i64 (1 + (k' : Int)), .int .i64 p, .int .i64 h, .int .i64 o, .int .i64 n, .slice A len cap]) := HB3.out.set 0 _
  have HK4 : Hid (Kept (· = s + 1 + 1) w0 (w0.setCell ⟨s + 1 + 1, 0, none⟩ (.int .i64 (1 + (k' : Int))))) := kept_set w0 (s + 1 + 1) 0 _
  generalize w0.setCell ⟨s + 1 + 1, 0, none⟩ (.int .i64 (1 + (k' : Int))) = w1 at HB4 HK4 ⊢
  have c1 := HB4.out.cell 1
  have c2 := HB4.out.cell 2
  have cf : w1.drew.frozen? ⟨s + 1 + 1, 1, none⟩ = false := HB4.out.frozen 1
  simp only [List.getElem?_cons_zero, List.getElem?_cons_succ] at c1 c2
  have q1 := up_cell (F := fun _ => False) (w := w1.drew) (p := ⟨s + 1 + 1, 1, none⟩) c1 id
  have q2 := up_cell (F := fun _ => False) (w := w1.drew) (p := ⟨s + 1 + 1, 2, none⟩) c2 id
  have HB5 : Hid (Blk (w1.setCell ⟨s + 1 + 1, 1, none⟩ (.int .i64 (p' : Int))).drew (s + 1 + 1) 30 [.int .i64 (1 + (k' : Int)), .int .i64 (p' : Int), .int .i64 h, .int .i64 o, .int .i64 n, .slice A len cap]) := Blk.drew (HB4.out.set 1 _)
  have HK5 : Hid (Kept (· = s + 1 + 1) w1.drew (w1.setCell ⟨s + 1 + 1, 1, none⟩ (.int .i64 (p' : Int))).drew) := kept_set w1.drew (s + 1 + 1) 1 _
  refine wp_region_tree Grow (Kept (· = s + 1 + 1)) (kept_refl _) (kept_trans _) (kept_refl _) (kept_trans _) (fun _ _ h => h.mono fun _ _ x => x.elim) [13, 15]
    (.look true [0, 1, 2, 3, 4, 5, 6, 7, 8, 12] (.one false [9, 10, 11] 13 (.one false [14] 15 (.last false [])))) (by kernel_rfl) (by kernel_rfl) ?_
  refine tr_lookE fun K hK => ?_
  simp only [sel, List.map_cons, List.map_nil, List.getD_cons_succ, List.getD_cons_zero]
  repeat (go_big_quiet_step (fail))
  refine wpQuiet_nil (hK _ ?_)
  clear hK K q1 q2
  refine tr_oneL fun K hK => ?_
  simp only [sel, List.map_cons, List.map_nil, List.getD_cons_succ, List.getD_cons_zero]
  repeat (go_big_quiet_step (fail))
  refine wpQuiet_nil ?_
  go_wp2
  refine norm_up (hK _ _ (Lr_late (by decide) HK5.out) ?_)
  clear hK K c1 c2 cf
  generalize (w1.setCell ⟨s + 1 + 1, 1, none⟩ (.int .i64 (p' : Int))).drew = w2 at HB5 HK5 ⊢
  have c2 := HB5.out.cell 2
  have cf : w2.frozen? ⟨s + 1 + 1, 2, none⟩ = false := HB5.out.frozen 2
  simp only [List.getElem?_cons_zero, List.getElem?_cons_succ] at c2
  refine tr_oneL fun K hK => ?_
  simp only [sel, List.map_cons, List.map_nil, List.getD_cons_succ, List.getD_cons_zero]
  repeat (go_big_quiet_step (fail))
  refine wpQuiet_nil ?_
  go_wp2
  refine norm_up (hK _ _ (Lr_late (by decide) (kept_set w2 (s + 1 + 1) 2 (.int .i64 (h' : Int)))) ?_)
  clear hK K c2 cf
  refine tr_lastL fun K hK => ?_
  simp only [sel, List.map_nil]
  refine wpQuiet_nil (hK _ ?_)
  clear hK K
  have HB6 : Hid (Blk (w2.setCell ⟨s + 1 + 1, 2, none⟩ (.int .i64 (h' : Int))) (s + 1 + 1) 30 [.int .i64 (1 + (k' : Int)), .int .i64 (p' : Int), .int .i64 (h' : Int), .int .i64 o, .int .i64 n, .slice A len cap]) := HB5.out.set 2 _
  have HK6 : Hid (Kept (· = s + 1 + 1) w2 (w2.setCell ⟨s + 1 + 1, 2, none⟩ (.int .i64 (h' : Int)))) := kept_set w2 (s + 1 + 1) 2 _
  generalize w2.setCell ⟨s + 1 + 1, 2, none⟩ (.int .i64 (h' : Int)) = w3 at HB6 HK6 ⊢
  have c3 := HB6.out.cell 3
  have c4 := HB6.out.cell 4
  have cf := HB6.out.frozen
  simp only [List.getElem?_cons_zero, List.getElem?_cons_succ] at c3 c4
  go_upto_region 5 with (fail)
  clear c3 c4 cf
  have HB7 : Hid (Blk ((w3.setCell ⟨s + 1 + 1, 3, none⟩ (.int .i64 (o' : Int))).setCell ⟨s + 1 + 1, 4, none⟩ (.int .i64 (n' : Int))) (s + 1 + 1) 30 [.int .i64 (1 + (k' : Int)), .int .i64 (p' : Int), .int .i64 (h' : Int), .int .i64 (o' : Int), .int .i64 (n' : Int), .slice A len cap]) := (HB6.out.set 3 _).set 4 _
  have HK7 : Hid (Kept (· = s + 1 + 1) w0 ((w3.setCell ⟨s + 1 + 1, 3, none⟩ (.int .i64 (o' : Int))).setCell ⟨s + 1 + 1, 4, none⟩ (.int .i64 (n' : Int)))) := (((HK4.out.drew.trans HK5.out).trans HK6.out).trans (kept_set w3 (s + 1 + 1) 3 _)).trans (kept_set _ (s + 1 + 1) 4 _)
  generalize (w3.setCell ⟨s + 1 + 1, 3, none⟩ (.int .i64 (o' : Int))).setCell ⟨s + 1 + 1, 4, none⟩ (.int .i64 (n' : Int)) = w4 at HB7 HK7 ⊢
  clear HB3 HB4 HB5 HB6 HK4 HK5 HK6
  have c5 := HB7.out.cell 5
  have cf := HB7.out.frozen 5
  simp only [List.getElem?_cons_zero, List.getElem?_cons_succ] at c5
  have hlc : (len : Int) ≤ (cap : Int) := by omega
  by_cases h8 : 8 < len
  · have h8z : (8 : Int) < (len : Int) := by omega
    have h8c : (8 : Int) ≤ (cap : Int) := by omega
    go_upto_region 7 with (fail)
    clear c5 cf
    have HB8 : Hid (Blk (w4.setCell ⟨s + 1 + 1, 5, none⟩ (.slice A 8 cap)) (s + 1 + 1) 30 [.int .i64 (1 + (k' : Int)), .int .i64 (p' : Int), .int .i64 (h' : Int), .int .i64 (o' : Int), .int .i64 (n' : Int), .slice A 8 cap]) := HB7.out.set 5 _
    have HKA : Hid (Kept (· = s + 1 + 1) w0 (w4.setCell ⟨s + 1 + 1, 5, none⟩ (.slice A 8 cap))) := HK7.out.trans (kept_set w4 (s + 1 + 1) 5 _)
    generalize w4.setCell ⟨s + 1 + 1, 5, none⟩ (.slice A 8 cap) = w5 at HB8 HKA ⊢
    have HC5 := Lib.hid (HB1.out.kept HKA.out (fun (e : s = s + 1 + 1) => by omega))
    have HD5 := Lib.hid (HB2.out.kept HKA.out (fun (e : s + 1 = s + 1 + 1) => by omega))
    have r0 := HC5.out.cell 0
    have o0 := HB8.out.cell 0
    have o1 := HB8.out.cell 1
    have o2 := HB8.out.cell 2
    have o3 := HB8.out.cell 3
    have o4 := HB8.out.cell 4
    have o5 := HB8.out.cell 5
    simp only [List.getElem?_cons_zero, List.getElem?_cons_succ] at r0 o0 o1 o2 o3 o4 o5
    have q0 := up_cell (F := fun x => x = s + 1) (w := w5.drew) (p := ⟨s, 0, none⟩) r0 (fun e => by have e : s = s + 1 := e; omega)
    have q1 := up_cell (F := fun x => x = s + 1) (w := w5.drew) (p := ⟨s + 1 + 1, 0, none⟩) o0 (fun e => by have e : s + 1 + 1 = s + 1 := e; omega)
    have q2 := up_cell (F := fun x => x = s + 1) (w := w5.drew) (p := ⟨s + 1 + 1, 1, none⟩) o1 (fun e => by have e : s + 1 + 1 = s + 1 := e; omega)
    have q3 := up_cell (F := fun x => x = s + 1) (w := w5.drew) (p := ⟨s + 1 + 1, 2, none⟩) o2 (fun e => by have e : s + 1 + 1 = s + 1 := e; omega)
    have q4 := up_cell (F := fun x => x = s + 1) (w := w5.drew) (p := ⟨s + 1 + 1, 3, none⟩) o3 (fun e => by have e : s + 1 + 1 = s + 1 := e; omega)
    have q5 := up_cell (F := fun x => x = s + 1) (w := w5.drew) (p := ⟨s + 1 + 1, 4, none⟩) o4 (fun e => by have e : s + 1 + 1 = s + 1 := e; omega)
    have q6 := up_cell (F := fun x => x = s + 1) (w := w5.drew) (p := ⟨s + 1 + 1, 5, none⟩) o5 (fun e => by have e : s + 1 + 1 = s + 1 := e; omega)
    have HST := Lib.hid (store_call (a := .int .i64 (c' : Int)) (b := .int .i64 (1 + (k' : Int))) (c := .int .i64 (p' : Int)) (d := .int .i64 (h' : Int)) (e := .int .i64 (o' : Int)) (f := .int .i64 (n' : Int)) (x := .slice A 8 cap) (Blk.drew HD5.out))
    clear r0 o0 o1 o2 o3 o4 o5
    refine wp_region_stages (Kept (fun x => x = s + 1)) (kept_refl _) (kept_trans _) [([0, 1, 2, 3, 4, 5, 6, 7, 8], 9)] [] (by kernel_rfl) (by kernel_rfl) ?_
    simp only [selSt, sel, List.map_cons, List.map_nil, List.getD_cons_succ, List.getD_cons_zero]
    refine st_cons fun K hK => ?_
    repeat (go_big_quiet_step (fail))
    refine wpQuiet_nil ?_
    clear q0 q1 q2 q3 q4 q5 q6
    refine wpList_plain rfl fun _ hK0 => wp_store_row 57 _ _ rfl (s + 1) #[.int .i64 (c' : Int), .int .i64 (1 + (k' : Int)), .int .i64 (p' : Int), .int .i64 (h' : Int), .int .i64 (o' : Int), .int .i64 (n' : Int), .slice A 8 cap] rfl rfl _ _ (Blk.drew HD5.out) call_size rfl (by simp [Value.oneCell']) (hK0 _ _ ?_)
    go_wp2
    refine norm_up (hK _ _ HST.out.2 (st_nil fun K3 hK3 => wpQuiet_nil (hK3 _ ?_)))
    clear hK0 hK K hK3 K3
    have HBA := Lib.hid HST.out.1
    have HKF : Hid (Grow w (w5.drew.setRow (s + 1) #[.int .i64 (c' : Int), .int .i64 (1 + (k' : Int)), .int .i64 (p' : Int), .int .i64 (h' : Int), .int .i64 (o' : Int), .int .i64 (n' : Int), .slice A 8 cap])) := (HG.out.then HKA.out fun x hx (e : x = s + 1 + 1) => by have := HS.out; omega).drew.then HST.out.2 fun x hx (e : x = s + 1) => by have := HS.out; omega
    go_wp2
    rw [HQ.out]
    have hr := HR.out
    exact ret_call rfl rfl HBA.out rfl ⟨c', 1 + k', p', h', o', n', 8, rfl, hr.1, by omega, by omega, hr.2.2.1, hr.2.2.2.1, hr.2.2.2.2.1, hr.2.2.2.2.2, by omega, HKF.out⟩
  · have h8z : ¬ (8 : Int) < (len : Int) := by omega
    have h8z' : (len : Int) ≤ 8 := by omega
    go_upto_region 7 with (fail)
    clear c5 cf
    have HB8 := HB7
    have HKA := HK7
    obtain ⟨w5, hw5⟩ : ∃ w5, w5 = w4 := ⟨_, rfl⟩
    rw [← hw5] at HB8 HKA ⊢
    clear hw5 HB7 HK7
    have HC5 := Lib.hid (HB1.out.kept HKA.out (fun (e : s = s + 1 + 1) => by omega))
    have HD5 := Lib.hid (HB2.out.kept HKA.out (fun (e : s + 1 = s + 1 + 1) => by omega))
    have r0 := HC5.out.cell 0
    have o0 := HB8.out.cell 0
    have o1 := HB8.out.cell 1
    have o2 := HB8.out.cell 2
    have o3 := HB8.out.cell 3
    have o4 := HB8.out.cell 4
    have o5 := HB8.out.cell 5
    simp only [List.getElem?_cons_zero, List.getElem?_cons_succ] at r0 o0 o1 o2 o3 o4 o5
    have q0 := up_cell (F := fun x => x = s + 1) (w := w5.drew) (p := ⟨s, 0, none⟩) r0 (fun e => by have e : s = s + 1 := e; omega)
    have q1 := up_cell (F := fun x => x = s + 1) (w := w5.drew) (p := ⟨s + 1 + 1, 0, none⟩) o0 (fun e => by have e : s + 1 + 1 = s + 1 := e; omega)
    have q2 := up_cell (F := fun x => x = s + 1) (w := w5.drew) (p := ⟨s + 1 + 1, 1, none⟩) o1 (fun e => by have e : s + 1 + 1 = s + 1 := e; omega)
    have q3 := up_cell (F := fun x => x = s + 1) (w := w5.drew) (p := ⟨s + 1 + 1, 2, none⟩) o2 (fun e => by have e : s + 1 + 1 = s + 1 := e; omega)
    have q4 := up_cell (F := fun x => x = s + 1) (w := w5.drew) (p := ⟨s + 1 + 1, 3, none⟩) o3 (fun e => by have e : s + 1 + 1 = s + 1 := e; omega)
    have q5 := up_cell (F := fun x => x = s + 1) (w := w5.drew) (p := ⟨s + 1 + 1, 4, none⟩) o4 (fun e => by have e : s + 1 + 1 = s + 1 := e; omega)
    have q6 := up_cell (F := fun x => x = s + 1) (w := w5.drew) (p := ⟨s + 1 + 1, 5, none⟩) o5 (fun e => by have e : s + 1 + 1 = s + 1 := e; omega)
    have HST := Lib.hid (store_call (a := .int .i64 (c' : Int)) (b := .int .i64 (1 + (k' : Int))) (c := .int .i64 (p' : Int)) (d := .int .i64 (h' : Int)) (e := .int .i64 (o' : Int)) (f := .int .i64 (n' : Int)) (x := .slice A len cap) (Blk.drew HD5.out))
    clear r0 o0 o1 o2 o3 o4 o5
    refine wp_region_stages (Kept (fun x => x = s + 1)) (kept_refl _) (kept_trans _) [([0, 1, 2, 3, 4, 5, 6, 7, 8], 9)] [] (by kernel_rfl) (by kernel_rfl) ?_
    simp only [selSt, sel, List.map_cons, List.map_nil, List.getD_cons_succ, List.getD_cons_zero]
    refine st_cons fun K hK => ?_
    repeat (go_big_quiet_step (fail))
    refine wpQuiet_nil ?_
    clear q0 q1 q2 q3 q4 q5 q6
    refine wpList_plain rfl fun _ hK0 => wp_store_row 57 _ _ rfl (s + 1) #[.int .i64 (c' : Int), .int .i64 (1 + (k' : Int)), .int .i64 (p' : Int), .int .i64 (h' : Int), .int .i64 (o' : Int), .int .i64 (n' : Int), .slice A len cap] rfl rfl _ _ (Blk.drew HD5.out) call_size rfl (by simp [Value.oneCell']) (hK0 _ _ ?_)
    go_wp2
    refine norm_up (hK _ _ HST.out.2 (st_nil fun K3 hK3 => wpQuiet_nil (hK3 _ ?_)))
    clear hK0 hK K hK3 K3
    have HBA := Lib.hid HST.out.1
    have HKF : Hid (Grow w (w5.drew.setRow (s + 1) #[.int .i64 (c' : Int), .int .i64 (1 + (k' : Int)), .int .i64 (p' : Int), .int .i64 (h' : Int), .int .i64 (o' : Int), .int .i64 (n' : Int), .slice A len cap])) := (HG.out.then HKA.out fun x hx (e : x = s + 1 + 1) => by have := HS.out; omega).drew.then HST.out.2 fun x hx (e : x = s + 1) => by have := HS.out; omega
    go_wp2
    rw [HQ.out]
    have hr := HR.out
    exact ret_call rfl rfl HBA.out rfl ⟨c', 1 + k', p', h', o', n', len, rfl, hr.1, by omega, by omega, hr.2.2.1, hr.2.2.2.1, hr.2.2.2.2.1, hr.2.2.2.2.2, by omega, HKF.out⟩
end Go.Proofs.YtbnkpnllgoghnaaGreat.MdNear

namespace Go.Proofs.YtbnkpnllgoghnaaGreat.RgN
open Go.ChangeShapes Go.WideShapes Go.ChangeAt Go.RowKit
open Go.Proofs.YtbnkpnllgoghnaaGreat.Mem Go.Proofs.YtbnkpnllgoghnaaGreat.Blk Go.Proofs.YtbnkpnllgoghnaaGreat.Cells Go.Proofs.YtbnkpnllgoghnaaGreat.Orow Go.Proofs.YtbnkpnllgoghnaaGreat.RgB Go.Proofs.YtbnkpnllgoghnaaGreat.Calls13 Go.Proofs.YtbnkpnllgoghnaaGreat.MdM
open Go.Proofs.YtbnkpnllgoghnaaGreat.RgS Go.Proofs.YtbnkpnllgoghnaaGreat.RgQ Go.Proofs.YtbnkpnllgoghnaaGreat.RfP
/-! ### A pool that a statement made -/
structure Std (w wr : World) (c : Nat → Nat) (ν : Nm) (p : RfM.Pl) (k : Nat) : Prop where
  x : PAt wr c ν p k
  g : Grow w wr
  z : ∀ i, i < w.heap.size → c i = 0
section
variable {w wr w' : World} {c c' : Nat → Nat} {ν : Nm} {p p' : RfM.Pl} {k k' g n : Nat} {F : Nat → Prop} {bs : List (Nat × List Value)} {t : IntKind} {A : Option Addr} {zs : List Int}
theorem Std.went (h : Std w wr c ν p k) (hw : Went wr c w' c') (hp : PAt w' c' ν p' k') : Std w w' c' ν p' k' :=
  ⟨hp, h.g.then hw.kept fun i hi m => by have := h.z i hi; have := m.2; omega, fun i hi => (hw.old i (Nat.lt_of_lt_of_le hi h.g.size)).trans (h.z i hi)⟩
theorem Std.grow (h : Std w wr c ν p k) (hk : Grow wr w') : Std w w' (paint wr.heap.size 0 c) ν p k := ⟨h.x.grow hk, h.g.trans hk, fun i hi => (paint_old (Nat.lt_of_lt_of_le hi h.g.size)).trans (h.z i hi)⟩
theorem Std.put (h : Std w wr c ν p k) (hk : Kept F wr w') (hF : ∀ i, i < wr.heap.size → F i → w.heap.size ≤ i ∧ Out c i) : Std w w' c ν p k :=
  ⟨h.x.keep hk (fun i h1 h2 => (hF i h1 h2).2) fun _ _ => rfl, h.g.then hk fun i h1 h2 => absurd (hF i (Nat.lt_of_lt_of_le h1 h.g.size) h2).1 (by omega), h.z⟩
theorem Boxes.put (h : Boxes wr c bs) (hk : Kept F wr w') (hF : ∀ b ∈ bs, ¬ F b.1) : Boxes w' c bs := fun b hb => ⟨(h b hb).1.kept hk (hF b hb), (h b hb).2⟩
theorem Dt.put (h : Dt wr c t A n zs) (hk : Kept F wr w') (hF : 0 < n → ∀ x, A = some x → ¬ F x.block) : Dt w' c t A n zs := ⟨(sl_kept h.s hk hF).more hk.size, h.o⟩
theorem new_std (hp : PAt w' c ν p k) (hg : Grow w w') (hz : ∀ i, i < w.heap.size → c i = 0) : Std w w' c ν p k := ⟨hp, hg, hz⟩
end
theorem infoB : (Tryz.prog.info? 5).map (fun i => (i.zero, i.size, i.bytes)) = some (some (.int .u8 0), 1, 1) := by kernel_rfl
section
variable {w w' : World} {A : Option Addr} {n c B len cap : Nat} {zs : List Int}
/-- 'append([]byte{}, b...)'. -/
theorem append_bytes (h : Sl w B .u8 A n zs) (hB : B ≤ w.heap.size) (h0 : 0 < n) (hn : n ≤ 100000) (ty : TypeId) :
    ∃ g cap w', (Builtin.append_ #[22, 22] ty #[.slice (some ⟨w.heap.size, 0, none⟩) 0 0, .slice A n c]).run Tryz.prog (w.alloc (.cells #[] 5)) = .ok (.slice (some ⟨g, 0, none⟩) n cap) w' ∧ OR w' g 5 1 cap n (ArB.bcell zs) ∧ w.heap.size ≤ g ∧ Grow w w' := by
  obtain ⟨i0, hi0, hz0, hz1, hz2⟩ := info_parts infoB
  obtain ⟨b, off, rfl, hb, hcell⟩ := h.at_ h0
  have hown0 : (w.alloc (.cells #[] 5)).ownsRow w.heap.size 5 1 (.slice (some ⟨w.heap.size, 0, none⟩) 0 0) 0 [] := World.ownsRow_lit w #[] 0 (Nat.le_refl _) (Nat.zero_le _) rfl
  have hg0 : Grow w (w.alloc (.cells #[] 5)) := (Kept.refl _ _).alloc _
  have hl : (zs.map (Value.int .u8)).length = n * 1 := by rw [List.length_map, h.len, Nat.mul_one]
  obtain ⟨g, cap, w', hr, h2, h3, h4, h5⟩ := run_append_lies (P := Tryz.prog) (w := w.alloc (.cells #[] 5)) 22 ty w.heap.size 5 i0 (.int .u8 0) 1 1 Tryz.underlying22 hi0 hz0 hz1 hz2 rfl (by omega) (.slice (some ⟨w.heap.size, 0, none⟩) 0 0) 0 [] hown0 ⟨b, off, none⟩ n c (zs.map (Value.int .u8)) hl
    (fun j u hu => by
      have hj : j < zs.length := by
        rcases Nat.lt_or_ge j zs.length with h | h
        · exact h
        · rw [List.getElem?_eq_none (by simpa using h)] at hu; cases hu
      have e : (⟨b, off, none⟩ : Addr).add j = ⟨b, off + j, none⟩ := by unfold Addr.add; split <;> simp_all
      rw [e, hg0.cellN (hcell j (by have := h.len; omega)) id, ← hu]
      simp [List.getD_eq_getElem?_getD, List.getElem?_eq_getElem hj])
    (ints_oneCell _ _) h0 (by unfold maxLen; omega) (by omega) hg0.size _ rfl
  rw [Nat.zero_add, List.nil_append] at h2
  rw [Nat.zero_add] at hr
  obtain ⟨ho, hlow⟩ := OR.of_own (f := ArB.bcell zs) h2 fun j hj => by
    have hj : j < zs.length := by rw [h.len]; omega
    unfold ArB.bcell
    simp [List.getD_eq_getElem?_getD, List.getElem?_eq_getElem hj]
  exact ⟨g, cap, w', hr, ho, hlow, hg0.grown h3 fun k hk hlt => by simp [Value.ownBlock] at hk; omega⟩
/-! ### Fine -/
def FineP (w : World) (A : Option Addr) (len : Nat) (m : Int) (e : Ending) (w' : World) : Prop := w = w' ∧ (e = .returned (.bool false) ∨ (e = .returned (.bool true) ∧ (len : Int) ≤ m ∧ ∀ b off, A = some ⟨b, off, none⟩ → ∀ i, i < len → ∀ x, CallAt w b (off + i * 7) x → x.len ≤ 40))
theorem fine_any (m : Int) (h : CallsAt w A len cap) : Calls Tryz.prog 18 #[.slice A len cap, .int .i64 m] w (FineP w A len m) := by
  obtain ⟨hlc, hcm, hops⟩ := h
  unfold maxLen at hcm
  have HOPS := Lib.hid hops
  clear hops
  go_enter Tryz.func18, Tryz.ntmps18
  go_wp2
  go_loopg [5] len (fun gx i wr => ∃ j : Nat, j + gx = len ∧ i = .int .i64 (j : Int) ∧ w = wr ∧ ∀ b off, A = some ⟨b, off, none⟩ → ∀ i, i < j → ∀ x, CallAt w b (off + i * 7) x → x.len ≤ 40)
  case atStart => exact ⟨0, by omega, rfl, rfl, fun _ _ _ i hi => absurd hi (Nat.not_lt_zero i)⟩
  case round =>
    obtain ⟨j, hg, rfl, rfl, hno⟩ := hrel
    have HG := Lib.hid hg
    have HNO := Lib.hid hno
    clear hg hno
    by_cases hj : j < len
    · have hjz : (j : Int) < (len : Int) := by omega
      obtain ⟨b, off, rfl, hb, hall⟩ := HOPS.out (by omega)
      obtain ⟨x, hx⟩ := hall j hj
      have HX := Lib.hid hx
      have cd := hx.d
      clear hall hx
      by_cases h40 : 40 < x.len
      · have h40z : (40 : Int) < (x.len : Int) := by omega
        clear h40
        go_wp2
        go_ret
        exact ⟨rfl, .inl rfl⟩
      · have h40z : ¬ ((40 : Int) < (x.len : Int)) := by omega
        have H40 := Lib.hid h40
        clear h40
        go_wp2
        go_roundg (gk - 1)
        case measure => have := HG.out; omega
        case rel => exact ⟨j + 1, by have := HG.out; omega, by go_num, rfl, fun b' off' e i hi y hy => by
          injection e with e
          injection e with e1 e2
          subst e1 e2
          by_cases ei : i = j
          · subst ei
            have h1 := hy.d
            rw [HX.out.d] at h1
            injection h1 with h1
            injection h1 with _ h2 _
            have := H40.out
            omega
          · exact HNO.out _ _ rfl i (by omega) y hy⟩
    · have hjn : j = len := by have := HG.out; omega
      subst hjn
      by_cases hm : (j : Int) ≤ m
      · have HM := Lib.hid hm
        clear hj
        go_wp2
        go_ret
        exact ⟨rfl, .inr ⟨by simp, HM.out, HNO.out⟩⟩
      · have hm' : m < (j : Int) := by omega
        clear hj hm
        go_wp2
        go_ret
        exact ⟨rfl, .inl (by simp; try omega)⟩
end
end Go.Proofs.YtbnkpnllgoghnaaGreat.RgN

namespace Go.Proofs.YtbnkpnllgoghnaaGreat.RfO
open Go.Proofs.YtbnkpnllgoghnaaGreat.MdM (Md MdOp Re)
open Go.Proofs.YtbnkpnllgoghnaaGreat.ArM (Ar Fr fFree fUsed)
open Go.Proofs.YtbnkpnllgoghnaaGreat.TabM (upd upd_same upd_other)
open Go.Proofs.YtbnkpnllgoghnaaGreat.Dev (Dv)
open Go.Proofs.YtbnkpnllgoghnaaGreat.RfM Go.Proofs.YtbnkpnllgoghnaaGreat.RfI Go.Proofs.YtbnkpnllgoghnaaGreat.RfR Go.Proofs.YtbnkpnllgoghnaaGreat.RfF Go.Proofs.YtbnkpnllgoghnaaGreat.RfX
/-- As many frames, the same queue, the same pages in them. -/
structure Like (A A' : Ar) : Prop where
  n : A'.n = A.n
  Q : A'.Q = A.Q
  F : ∀ x, (A'.F x).st = (A.F x).st ∧ (A'.F x).pg = (A.F x).pg
theorem Like.refl (A : Ar) : Like A A := ⟨rfl, rfl, fun _ => ⟨rfl, rfl⟩⟩
theorem Like.trans {a b c : Ar} (h : Like a b) (k : Like b c) : Like a c := ⟨k.n.trans h.n, k.Q.trans h.Q, fun x => ⟨(k.F x).1.trans (h.F x).1, (k.F x).2.trans (h.F x).2⟩⟩
theorem Like.turn (A : Ar) {f : Nat} {v : Fr} (h1 : v.st = (A.F f).st) (h2 : v.pg = (A.F f).pg) : Like A (A.turn f v) := ⟨rfl, rfl, fun x => by
  show (upd A.F f v x).st = _ ∧ (upd A.F f v x).pg = _
  by_cases e : x = f
  · subst e; rw [upd_same]; exact ⟨h1, h2⟩
  · rw [upd_other _ _ e]; exact ⟨rfl, rfl⟩⟩
theorem Like.mark (A : Ar) (x : Int) (d : Bool) : Like A (A.mark x d) := by
  unfold Ar.mark
  split
  · exact .turn A rfl rfl
  · exact .refl A
theorem Like.pin (A : Ar) (x : Int) : Like A (A.pin x) := by
  unfold Ar.pin
  split
  · exact .turn A rfl rfl
  · exact .refl A
theorem Like.unpin (A : Ar) (x : Int) : Like A (A.unpin x) := by
  unfold Ar.unpin
  split
  · exact .turn A rfl rfl
  · exact .refl A
theorem Like.wr (p : Pl) (f : Nat) : Like p.A (p.wr f).A := by
  show Like p.A (if p.wrC f = 0 then p.A.mark (f : Int) false else p.A)
  split
  · exact .mark _ _ _
  · exact .refl _
/-- Pages 0 to k - 1 are there, each in the frame of its number; nobody has a handle; the order is L. -/
structure Seq (p : Pl) (m n k : Nat) (L : List Nat) : Prop where
  i : Inv p
  fn : p.A.n = n
  xm : p.X.n = m
  xN : p.X.N = 1
  bad : p.D.bad = 0
  T : ∀ x, x < m → p.X.T x = decide (x < k)
  H : ∀ j, j < 6 → p.X.H 0 j = -1
  Q : p.A.Q = List.range' k (n - k)
  pg : ∀ x, x < n → (p.A.F x).st = 1 → (p.A.F x).pg = (x : Int)
  L : p.L = L
section
variable {p : Pl} {m n k q w : Nat} {L L' : List Nat} {o o2 : MdOp}
theorem Seq.st (s : Seq p m n k L) {x : Nat} (hx : x < n) : (p.A.F x).st = if x < k then 1 else 0 := by
  have h := s.i.ga.q x
  rw [s.Q, s.fn, List.mem_range'_1] at h
  rcases s.i.st x (by rw [s.fn]; exact hx) with e | e
  · rw [if_neg (by have := h.2 ⟨hx, e⟩; omega), e]
  · rw [if_pos, e]
    by_cases hk : x < k
    · exact hk
    · have := (h.1 ⟨by omega, by omega⟩).2
      omega
theorem Seq.pins (s : Seq p m n k L) (q : Nat) : p.X.pins (q : Int) = 0 := by
  unfold Md.pins
  rw [if_neg (by omega), s.xN]
  show 0 + HdM.cnt (p.X.H 0) (q : Int) 6 = 0
  have : ∀ j, j ≤ 6 → HdM.cnt (p.X.H 0) (q : Int) j = 0 := fun j hj => by
    induction j with
    | zero => rfl
    | succ j ih => rw [HdM.cnt_no (by rw [s.H j (by omega)]; omega)]; exact ih (by omega)
  rw [this 6 (by omega)]
theorem Seq.free (s : Seq p m n k L) : p.X.free 0 = 0 := HdM.hnd_at (k := 0) (fun j h => absurd h (Nat.not_lt_zero j)) (by decide) (s.H 0 (by decide))
theorem Seq.gap (s : Seq p m n k L) (hk : k < m) : p.X.gap = k := by
  unfold Md.gap
  refine HdM.lst_eq (fun j hj => ?_) (.inr ⟨by rw [s.xm]; exact hk, ?_⟩)
  · rw [s.T j (by omega), decide_eq_true hj]; exact (by decide : (0 : Int) ≠ -1)
  · show (if p.X.T k then (0 : Int) else -1) = -1
    rw [s.T k hk, decide_eq_false (Nat.lt_irrefl k)]; rfl
theorem Seq.none (s : Seq p m n k L) (hq : k ≤ q) : ∀ x, x < p.A.n → (p.A.F x).st = 1 → (p.A.F x).pg ≠ (q : Int) := fun x hx sx e => by
  rw [s.fn] at hx
  have h1 := s.st hx
  rw [s.pg x hx sx] at e
  rw [sx] at h1
  split at h1
  · omega
  · exact absurd h1 (by decide)
theorem none_find {A : Ar} {x : Int} (h : ∀ f, f < A.n → (A.F f).st = 1 → (A.F f).pg ≠ x) : A.find x = -1 := by
  rcases ArM.find_cases A x with ⟨e, _⟩ | ⟨f, h1, h2, h3, _⟩
  · exact e
  · exact absurd h3 (h f h1 h2)
/-- What the model makes of a new page. -/
theorem Seq.new (s : Seq p m n k L) (hk : k < m) (ho : o.k = 1) : p.X.run 0 o = (⟨0, (k : Int), 0, []⟩, (p.X.putT k true).putH 0 0 (k : Int)) := by
  have e : p.X.run 0 o = p.X.new 0 := by
    have := s.xN
    unfold Md.run
    rw [if_neg (by omega), if_pos ho]
    rfl
  rw [e]
  unfold Md.new
  have := s.xm
  rw [s.free, if_neg (by decide), s.gap hk, if_neg (by omega)]
  rfl
theorem act_new {r : Re} (ho : o.k = 1) (h0 : (p.room r.p).1.2 = 0) : p.act 0 o r = ((p.room r.p).1, ⟨(p.room r.p).2.X, (p.room r.p).2.D, (p.room r.p).2.A.mark (p.room r.p).1.1 true, (p.room r.p).2.L⟩) := by
  unfold Pl.act
  rw [if_pos ho, if_pos h0]
/-- A frame is taken for a page that has none. -/
theorem take_is {A : Ar} {D : Dv} {X : Md} {L t : List Nat} {f : Nat} (hq : q < 48) (hno : ∀ x, x < A.n → (A.F x).st = 1 → (A.F x).pg ≠ (q : Int)) (hQ : A.Q = f :: t) (hf : f ∉ L) (h32 : f < 32) :
    (⟨X, D, A, L⟩ : Pl).take (q : Int) = (((f : Int), 0), ⟨X, D, ⟨A.n, upd A.F f (fUsed (q : Int)), upd A.B f ArM.zeros, t⟩, f :: L⟩) := by
  have hcan : A.can (q : Int) = true := by
    unfold Ar.can
    rw [none_find hno, decide_eq_true (by omega), decide_eq_true (by omega), decide_eq_true (by decide)]
    rfl
  have hc : A.takeC (q : Int) = (f : Int) := by
    unfold Ar.takeC
    rw [if_pos hcan, hQ]
    rfl
  have hA : A.take (q : Int) = ⟨A.n, upd A.F f (fUsed (q : Int)), upd A.B f ArM.zeros, t⟩ := by
    unfold Ar.take
    rw [if_pos hcan, hQ]
    rfl
  unfold Pl.take
  dsimp only
  rw [hc, hA, front_new hf h32]
/-- What a call that finds room makes: the model's state, the frame pinned. -/
theorem new_is {f : Nat} {p1 : Pl} {X' : Md} (hr : p.X.run 0 o = (⟨0, (k : Int), 0, []⟩, X')) (ho : o.k = 1) (e : p.room (k : Int) = (((f : Int), 0), p1)) : p.run 0 o = (⟨0, (k : Int), 0, []⟩, ⟨X', p1.D, (p1.A.mark (f : Int) true).pin (f : Int), p1.L⟩) := by
  have hact : p.act 0 o (p.X.run 0 o).1 = (((f : Int), 0), ⟨p1.X, p1.D, p1.A.mark (f : Int) true, p1.L⟩) := by
    rw [hr, act_new ho (by show (p.room (k : Int)).1.2 = 0; rw [e])]
    show ((p.room (k : Int)).1, _) = _
    rw [e]
  rw [run_ok (by rw [hr]), hact, fin_ok rfl, hr]
  dsimp only
  rw [if_pos (by omega)]
/-- A handle let go. -/
theorem unpin_is {f : Nat} (hN : p.X.N = 1) (hH : p.X.H 0 0 = (q : Int)) (ho : o.k = 5) (hh : o.h = 0) (hf : p.A.find (q : Int) = (f : Int)) : p.run 0 o = (MdM.err 0, ⟨p.X.putH 0 0 (-1), p.D, p.A.unpin (f : Int), p.L⟩) := by
  have hheld : p.X.held 0 0 = (q : Int) := by
    unfold Md.held
    rw [if_pos ⟨by omega, by omega⟩]
    exact hH
  have hr : p.X.run 0 o = (MdM.err 0, p.X.putH 0 0 (-1)) := by
    unfold Md.run
    rw [if_neg (by omega), if_neg (by omega), if_neg (by omega), if_neg (by omega), if_neg (by omega), if_pos ho]
    unfold Md.onHand
    rw [hh, hheld, if_neg (by omega)]
    rfl
  have hact : p.act 0 o (p.X.run 0 o).1 = ((-1, 0), ⟨p.X, p.D, p.A.unpin (f : Int), p.L⟩) := by
    unfold Pl.act
    rw [if_neg (by omega), if_neg (by omega), if_neg (by omega), if_neg (by omega), if_pos ho, hh, hheld, hf]
  rw [run_ok (by rw [hr]; rfl), hact, fin_ok rfl, hr]
  dsimp only
  rw [if_neg (by decide)]
/-- The next page is made, and let go. -/
theorem Seq.step (s : Seq p m n k L) (hk : k < n) (hm : n < m) (ho : o.k = 1) (h2 : o2.k = 5) (hh : o2.h = 0) (hd : o.d = []) (hd2 : o2.d = []) :
    (p.run 0 o).1.c = 0 ∧ ((p.run 0 o).2.run 0 o2).1.c = 0 ∧ Seq ((p.run 0 o).2.run 0 o2).2 m n (k + 1) (k :: L) := by
  have hkm : k < m := by omega
  have h48 : m ≤ 48 := by have := s.i.gx.n.2; rw [s.xm] at this; exact this
  have h32 : n ≤ 32 := by have := s.i.ga.n; rw [s.fn] at this; exact this
  have hno := s.none (Nat.le_refl k)
  have hQ : p.A.Q = k :: List.range' (k + 1) (n - (k + 1)) := by
    rw [s.Q, show n - k = (n - (k + 1)) + 1 by omega, List.range'_succ]
  have hkL : k ∉ L := fun h => by
    rw [← s.L] at h
    have h1 := ((s.i.mem k).1 h).2
    rw [s.st hk, if_neg (Nat.lt_irrefl k)] at h1
    exact absurd h1 (by decide)
  have hr := s.new hkm ho
  have hroom : p.room (k : Int) = (((k : Int), 0), ⟨p.X, p.D, ⟨p.A.n, upd p.A.F k (fUsed (k : Int)), upd p.A.B k ArM.zeros, List.range' (k + 1) (n - (k + 1))⟩, k :: L⟩) := by
    unfold Pl.room
    rw [if_neg (by rw [hQ]; exact List.cons_ne_nil _ _)]
    have := take_is (X := p.X) (D := p.D) (q := k) (by omega) hno hQ hkL (by omega)
    rw [← s.L] at this ⊢
    exact this
  have e1 := new_is hr ho hroom
  have H1 : RunP p 0 o (p.run 0 o) := run_spec s.i 0 o (by rw [hd]; exact fun c hc => by cases hc)
  rw [e1] at H1 ⊢
  generalize hA1 : (Ar.pin (Ar.mark ⟨p.A.n, upd p.A.F k (fUsed (k : Int)), upd p.A.B k ArM.zeros, List.range' (k + 1) (n - (k + 1))⟩ (k : Int) true) (k : Int)) = A1 at H1 ⊢
  have l1 : Like ⟨p.A.n, upd p.A.F k (fUsed (k : Int)), upd p.A.B k ArM.zeros, List.range' (k + 1) (n - (k + 1))⟩ A1 := by
    rw [← hA1]
    exact (Like.mark _ _ _).trans (.pin _ _)
  have i1 : Inv ⟨(p.X.putT k true).putH 0 0 (k : Int), p.D, A1, k :: L⟩ := by
    rcases H1 with ⟨p', e, i', _⟩ | ⟨e, _⟩ | ⟨p', e, _, _, _, hb⟩
    · injection e with _ e
      rw [e]; exact i'
    · injection e with e _
      have := congrArg Re.c e
      exact absurd this (by show (0 : Int) ≠ 8; decide)
    · exact absurd s.bad hb
  have hf1 : A1.find (k : Int) = (k : Int) := by
    refine ArM.find_at i1.ga ?_ ?_ ?_
    · show k < A1.n
      rw [l1.n]
      show k < p.A.n
      rw [s.fn]; exact hk
    · show (A1.F k).st = 1
      rw [(l1.F k).1]
      show (upd p.A.F k _ k).st = 1
      rw [upd_same]; rfl
    · show (A1.F k).pg = (k : Int)
      rw [(l1.F k).2]
      show (upd p.A.F k _ k).pg = _
      rw [upd_same]; rfl
  have hH0 : ((p.X.putT k true).putH 0 0 (k : Int)).H 0 0 = (k : Int) := by
    show (if (0 : Nat) = 0 ∧ (0 : Nat) = 0 then (k : Int) else p.X.H 0 0) = _
    exact if_pos ⟨rfl, rfl⟩
  have e2 := unpin_is (p := ⟨(p.X.putT k true).putH 0 0 (k : Int), p.D, A1, k :: L⟩) (o := o2) (q := k) (f := k) s.xN hH0 h2 hh hf1
  have H2 : RunP _ 0 o2 (Pl.run _ 0 o2) := run_spec i1 0 o2 (by rw [hd2]; exact fun c hc => by cases hc)
  dsimp only at H2 ⊢
  rw [e2] at H2 ⊢
  have l2 := l1.trans (Like.unpin A1 (k : Int))
  dsimp only at H2 ⊢ l2
  refine ⟨rfl, rfl, ?_⟩
  refine ⟨?_, l2.n.trans s.fn, s.xm, s.xN, s.bad, fun x hx => ?_, fun j hj => ?_, l2.Q, fun x hx sx => ?_, rfl⟩
  · rcases H2 with ⟨p', e, i', _⟩ | ⟨e, _⟩ | ⟨p', e, _, _, _, hb⟩
    · injection e with _ e
      rw [e]; exact i'
    · injection e with e _
      have := congrArg Re.c e
      exact absurd this (by show (0 : Int) ≠ 8; decide)
    · exact absurd s.bad hb
  · show MdM.upd p.X.T k true x = _
    by_cases e : x = k
    · subst e; rw [MdM.upd_same, decide_eq_true (by omega)]
    · rw [MdM.upd_other _ _ e, s.T x hx]
      exact decide_eq_decide.2 (by omega)
  · show (if (0 : Nat) = 0 ∧ j = 0 then (-1 : Int) else if (0 : Nat) = 0 ∧ j = 0 then (k : Int) else p.X.H 0 j) = -1
    split
    · rfl
    · exact s.H j hj
  · have sx : ((A1.unpin (k : Int)).F x).st = 1 := sx
    show ((A1.unpin (k : Int)).F x).pg = _
    rw [(l2.F x).1] at sx
    rw [(l2.F x).2]
    by_cases e : x = k
    · subst e; show (upd p.A.F x _ x).pg = _; rw [upd_same]; rfl
    · have sx : (upd p.A.F k _ x).st = 1 := sx
      show (upd p.A.F k _ x).pg = _
      rw [upd_other _ _ e] at sx ⊢
      exact s.pg x hx sx
/-- A page that has a frame is fetched, and let go. -/
theorem Seq.use (s : Seq p m n n L) (hq : q < n) (hm : n < m) (ho : o.k = 2) (hp : o.p = (q : Int)) (h2 : o2.k = 5) (hh : o2.h = 0) (hd : o.d = []) (hd2 : o2.d = []) :
    (p.run 0 o).1.c = 0 ∧ ((p.run 0 o).2.run 0 o2).1.c = 0 ∧ Seq ((p.run 0 o).2.run 0 o2).2 m n n (q :: L.erase q) := by
  have hr : p.X.run 0 o = (⟨0, (q : Int), 0, []⟩, p.X.putH 0 0 (q : Int)) := by
    have := s.xN
    have h1 := s.xm
    unfold Md.run
    rw [if_neg (by omega), if_neg (by omega), if_pos ho]
    unfold Md.onPage
    rw [hp, if_neg (by omega), Int.toNat_natCast, s.T q (by omega), decide_eq_true hq, if_neg (by decide)]
    show p.X.fetch 0 q = _
    unfold Md.fetch
    rw [s.free, if_neg (by decide)]
    rfl
  have hqs : (p.A.F q).st = 1 := by rw [s.st hq, if_pos hq]
  have hqn : q < p.A.n := by rw [s.fn]; exact hq
  have hfd : p.A.find (q : Int) = (q : Int) := ArM.find_at s.i.ga hqn hqs (s.pg q hq hqs)
  obtain ⟨hfr, hnd, hmem⟩ := front_list s.i hqn hqs
  have e1 : p.run 0 o = (⟨0, (q : Int), 0, []⟩, ⟨p.X.putH 0 0 (q : Int), p.D, p.A.pin (q : Int), q :: L.erase q⟩) := by
    have hact : p.act 0 o (p.X.run 0 o).1 = (((q : Int), 0), ⟨p.X, p.D, p.A, q :: p.L.erase q⟩) := by
      unfold Pl.act
      rw [if_neg (by omega), if_pos ho, hp]
      unfold Pl.fetch
      rw [hfd, if_pos (by omega), hfr]
    rw [run_ok (by rw [hr]), hact, fin_ok rfl, hr]
    dsimp only
    rw [if_pos (by omega), s.L]
  have H1 : RunP p 0 o (p.run 0 o) := run_spec s.i 0 o (by rw [hd]; exact fun c hc => by cases hc)
  rw [e1] at H1 ⊢
  have l1 := Like.pin p.A (q : Int)
  generalize p.A.pin (q : Int) = A1 at H1 l1 ⊢
  have i1 : Inv ⟨p.X.putH 0 0 (q : Int), p.D, A1, q :: L.erase q⟩ := by
    rcases H1 with ⟨p', e, i', _⟩ | ⟨e, _⟩ | ⟨p', e, _, _, _, hb⟩
    · injection e with _ e
      rw [e]; exact i'
    · injection e with e _
      have := congrArg Re.c e
      exact absurd this (by show (0 : Int) ≠ 8; decide)
    · exact absurd s.bad hb
  have hf1 : A1.find (q : Int) = (q : Int) := by
    refine ArM.find_at i1.ga ?_ ?_ ?_
    · show q < A1.n
      rw [l1.n]; exact hqn
    · show (A1.F q).st = 1
      rw [(l1.F q).1]; exact hqs
    · show (A1.F q).pg = (q : Int)
      rw [(l1.F q).2]; exact s.pg q hq hqs
  have hH0 : (p.X.putH 0 0 (q : Int)).H 0 0 = (q : Int) := by
    show (if (0 : Nat) = 0 ∧ (0 : Nat) = 0 then (q : Int) else p.X.H 0 0) = _
    exact if_pos ⟨rfl, rfl⟩
  have e2 := unpin_is (p := ⟨p.X.putH 0 0 (q : Int), p.D, A1, q :: L.erase q⟩) (o := o2) (q := q) (f := q) s.xN hH0 h2 hh hf1
  have H2 : RunP _ 0 o2 (Pl.run _ 0 o2) := run_spec i1 0 o2 (by rw [hd2]; exact fun c hc => by cases hc)
  dsimp only at H2 ⊢
  rw [e2] at H2 ⊢
  have l2 := l1.trans (Like.unpin A1 (q : Int))
  dsimp only at H2 ⊢ l2
  refine ⟨rfl, rfl, ?_⟩
  refine ⟨?_, l2.n.trans s.fn, s.xm, s.xN, s.bad, s.T, fun j hj => ?_, l2.Q.trans s.Q, fun x hx sx => ?_, rfl⟩
  · rcases H2 with ⟨p', e, i', _⟩ | ⟨e, _⟩ | ⟨p', e, _, _, _, hb⟩
    · injection e with _ e
      rw [e]; exact i'
    · injection e with e _
      have := congrArg Re.c e
      exact absurd this (by show (0 : Int) ≠ 8; decide)
    · exact absurd s.bad hb
  · show (if (0 : Nat) = 0 ∧ j = 0 then (-1 : Int) else if (0 : Nat) = 0 ∧ j = 0 then (q : Int) else p.X.H 0 j) = -1
    split
    · rfl
    · exact s.H j hj
  · have sx : ((A1.unpin (q : Int)).F x).st = 1 := sx
    show ((A1.unpin (q : Int)).F x).pg = _
    rw [(l2.F x).1] at sx
    rw [(l2.F x).2]
    exact s.pg x hx sx
theorem erase_last {l : List Nat} (h : (l ++ [w]).Nodup) : (l ++ [w]).erase w = l := by
  have hw : w ∉ l := fun hm => (List.nodup_append.1 h).2.2 w hm w (List.mem_singleton.2 rfl) rfl
  rw [List.erase_append_right _ hw]
  simp
/-- With all frames used, one more page: the last of the order goes, its frame is the new page's, and at the front. -/
theorem Seq.over (s : Seq p m n n (L' ++ [w])) (hm : n < m) (ho : o.k = 1) (hd : o.d = []) :
    (p.run 0 o).1.c = 0 ∧ Inv (p.run 0 o).2 ∧ (p.run 0 o).2.A.n = n ∧ (p.run 0 o).2.L = w :: L' ∧ w < n ∧ ((p.run 0 o).2.A.F w).pg = (n : Int) ∧ ∀ x ∈ L', x < n ∧ x ≠ w ∧ ((p.run 0 o).2.A.F x).pg = (x : Int) := by
  have h48 : m ≤ 48 := by have := s.i.gx.n.2; rw [s.xm] at this; exact this
  have h32 : n ≤ 32 := by have := s.i.ga.n; rw [s.fn] at this; exact this
  have hno := s.none (Nat.le_refl n)
  have hQ : p.A.Q = [] := by rw [s.Q, Nat.sub_self]; rfl
  have hr := s.new hm ho
  have hwL : w ∈ p.L := by rw [s.L]; exact List.mem_append_right _ (List.mem_singleton.2 rfl)
  obtain ⟨hwn, hws⟩ := (s.i.mem w).1 hwL
  have hw : w < n := by rw [s.fn] at hwn; exact hwn
  have hnd : (L' ++ [w]).Nodup := by rw [← s.L]; exact s.i.nd
  have hwL' : w ∉ L' := fun hx => (List.nodup_append.1 hnd).2.2 w hx w (List.mem_singleton.2 rfl) rfl
  have hpg := s.pg w hw hws
  have hpin : ∀ f, f < n → (p.A.F f).st = 1 → (p.A.F f).pn = 0 := fun f hf hs => by
    have h1 := (s.i.use f f (by rw [s.fn]; exact hf) hs (s.pg f hf hs) (by simp)).2.1
    rw [h1, s.pins f]; rfl
  have hvic : p.vic = some w := by
    unfold Pl.vic
    have : p.L.filter (fun f => decide ((p.A.F f).pn = 0)) = p.L := List.filter_eq_self.2 fun f hf => by
      obtain ⟨h1, h2⟩ := (s.i.mem f).1 hf
      rw [s.fn] at h1
      exact decide_eq_true (hpin f h1 h2)
    rw [this, s.L, List.getLast?_append]
    rfl
  have key : ∀ p1 : Pl, Like p.A p1.A → p1.L = p.L → (p1.A.F w).pn = 0 → ∃ p2 : Pl, (p1.drop w).take (n : Int) = (((w : Int), 0), p2) ∧ p2.A.n = n ∧ p2.L = w :: L' ∧ (∀ x, p2.A.F x = upd p1.A.F w (fUsed (n : Int)) x) := fun p1 l1 hL hp0 => by
    have hu : p1.A.used (w : Int) = true := ArM.used_iff.2 ⟨w, rfl, by rw [l1.n]; exact hwn, by rw [(l1.F w).1]; exact hws⟩
    have hA : p1.A.drop (w : Int) = p1.A.dropF w := by
      unfold Ar.drop Ar.dropC
      rw [if_pos hu, Int.toNat_natCast, hp0]
      rfl
    have hD : p1.drop w = ⟨p1.X, p1.D, p1.A.dropF w, L'⟩ := by
      unfold Pl.drop
      rw [hA, (out_mem (by rw [hL]; exact hwL)).2, hL, s.L, erase_last hnd]
    rw [hD]
    have ht := take_is (A := p1.A.dropF w) (X := p1.X) (D := p1.D) (L := L') (q := n) (f := w) (t := []) (by omega) (fun x hx sx => ?_) (by show p1.A.Q ++ [w] = _; rw [l1.Q, hQ]; rfl) hwL' (by omega)
    · refine ⟨_, ht, l1.n.trans s.fn, rfl, fun x => ?_⟩
      show upd (upd p1.A.F w fFree) w (fUsed (n : Int)) x = _
      by_cases e : x = w
      · subst e; rw [upd_same, upd_same]
      · rw [upd_other _ _ e, upd_other _ _ e, upd_other _ _ e]
    · have sx : (upd p1.A.F w fFree x).st = 1 := sx
      show (upd p1.A.F w fFree x).pg ≠ _
      by_cases e : x = w
      · subst e; rw [upd_same] at sx; exact absurd sx (by show (0 : Int) ≠ 1; decide)
      · rw [upd_other _ _ e] at sx ⊢
        rw [(l1.F x).1] at sx
        rw [(l1.F x).2]
        have hx : x < p1.A.n := hx
        rw [l1.n] at hx
        exact hno x hx sx
  have hroom : ∃ (p1 p2 : Pl), p.room (n : Int) = (((w : Int), 0), p2) ∧ Like p.A p1.A ∧ p2.A.n = n ∧ p2.L = w :: L' ∧ ∀ x, p2.A.F x = upd p1.A.F w (fUsed (n : Int)) x := by
    unfold Pl.room
    rw [if_pos hQ, hvic]
    dsimp only
    unfold Pl.evict
    split
    · have hw0 : p.wrC w = 0 := by
        rcases (wr_spec s.i hwn hws hpg (by simp)).2.2.2.2.2 with ⟨h, _⟩ | ⟨_, h, _⟩
        · exact h
        · have := s.bad; omega
      rw [if_pos hw0]
      have hpn0 : ((p.wr w).A.F w).pn = 0 := by
        rcases (wr_spec s.i hwn hws hpg (by simp)).2.2.2.2.2 with ⟨_, h, _⟩ | ⟨_, h, _⟩
        · rw [h, upd_same]; exact hpin w hw hws
        · have := s.bad; omega
      obtain ⟨p2, e, h1, h2, h3⟩ := key (p.wr w) (.wr p w) rfl hpn0
      exact ⟨_, p2, e, .wr p w, h1, h2, h3⟩
    · obtain ⟨p2, e, h1, h2, h3⟩ := key p (.refl _) rfl (hpin w hw hws)
      exact ⟨_, p2, e, .refl _, h1, h2, h3⟩
  obtain ⟨p1, p2, er, l1, n2, L2, F2⟩ := hroom
  have e1 := new_is hr ho er
  have H1 : RunP p 0 o (p.run 0 o) := run_spec s.i 0 o (by rw [hd]; exact fun c hc => by cases hc)
  rw [e1] at H1 ⊢
  have l2 := (Like.mark p2.A (w : Int) true).trans (.pin _ (w : Int))
  refine ⟨rfl, ?_, l2.n.trans n2, L2, hw, ?_, fun x hx => ?_⟩
  · rcases H1 with ⟨p', e, i', _⟩ | ⟨e, _⟩ | ⟨p', e, _, _, _, hb⟩
    · injection e with _ e
      rw [e]; exact i'
    · injection e with e _
      have := congrArg Re.c e
      exact absurd this (by show (0 : Int) ≠ 8; decide)
    · exact absurd s.bad hb
  · show (((p2.A.mark (w : Int) true).pin (w : Int)).F w).pg = _
    rw [(l2.F w).2, F2, upd_same]; rfl
  · have hx' : x ∈ p.L := by rw [s.L]; exact List.mem_append_left _ hx
    obtain ⟨h1, h2⟩ := (s.i.mem x).1 hx'
    rw [s.fn] at h1
    have hne : x ≠ w := fun e => hwL' (e ▸ hx)
    refine ⟨h1, hne, ?_⟩
    show (((p2.A.mark (w : Int) true).pin (w : Int)).F x).pg = _
    rw [(l2.F x).2, F2, upd_other _ _ hne, (l1.F x).2]
    exact s.pg x h1 h2
/-- A new pool. -/
theorem seq_fresh (h1 : 1 ≤ m) (h2 : m ≤ 48) (h3 : 1 ≤ n) (h4 : n ≤ 32) : Seq (RfM.fresh m 1 n) m n 0 [] :=
  ⟨inv_fresh h1 h2 (by decide) (by decide) h3 h4, rfl, rfl, rfl, rfl, fun _ _ => rfl, fun _ _ => rfl, by
    show List.range n = _
    rw [Nat.sub_zero, List.range_eq_range'], fun _ _ h => absurd h (by show (0 : Int) ≠ 1; decide), rfl⟩
/-! ### The order is that of the last use -/
/-- From the front on: used later first. -/
def Late (t : Nat → Int) (L : List Nat) : Prop := L.Pairwise fun a b => t b < t a
theorem Late.cons {t : Nat → Int} {v : Int} (h : Late t L) (hs : L'.Sublist L) (hq : q ∉ L') (hv : ∀ x ∈ L', t x < v) : Late (upd t q v) (q :: L') := by
  have same : ∀ x ∈ L', upd t q v x = t x := fun x hx => upd_other _ _ fun e => hq (e ▸ hx)
  refine List.pairwise_cons.2 ⟨fun x hx => ?_, ?_⟩
  · rw [same x hx, upd_same]; exact hv x hx
  · exact (List.Pairwise.sublist hs h).imp_of_mem fun {a b} ha hb h => by rw [same a ha, same b hb]; exact h
theorem Late.last {t : Nat → Int} (h : Late t (L' ++ [w])) : ∀ x ∈ L', t w < t x := fun x hx => (List.pairwise_append.1 h).2.2 x hx w (List.mem_singleton.2 rfl)
end
end Go.Proofs.YtbnkpnllgoghnaaGreat.RfO

namespace Go.Proofs.YtbnkpnllgoghnaaGreat.Args13
open Go.ChangeShapes Go.WideShapes Go.ChangeAt Go.RowKit Go.Deep
open Go.Proofs.YtbnkpnllgoghnaaGreat.Mem Go.Proofs.YtbnkpnllgoghnaaGreat.Blk Go.Proofs.YtbnkpnllgoghnaaGreat.MdM Go.Proofs.YtbnkpnllgoghnaaGreat.PmC Go.Proofs.YtbnkpnllgoghnaaGreat.Calls13
section
variable {H : Type} {enc : TypeId × Value → H} {w : World} {base : Nat} {spare : Nat → Bool} {held : Bool}
theorem plain_spot {a : Addr} {v : Value} (h : w.cell? a = some v) : ∃ b off, a = ⟨b, off, none⟩ := by
  obtain ⟨b, off, spot⟩ := a
  have hspot : spot = none := by simpa [Addr.add] using World.cell?_spot h
  subst hspot
  exact ⟨b, off, rfl⟩
theorem add_plain (b off q : Nat) : (⟨b, off, none⟩ : Addr).add q = ⟨b, off + q, none⟩ := by unfold Addr.add; split <;> simp_all
theorem add_zero (a : Addr) : a.add 0 = a := by unfold Addr.add; simp
theorem ints_open {A : Option Addr} {len cap fuel : Nat} {x : DataW H × List MemPlace} (h : DataW.trod enc Tryz.prog w base spare held fuel 33 [.slice A len cap] = some x) : ∃ d, Sl w w.heap.size .i64 A len d := by
  have hc1 : Tryz.prog.cellsOf 3 = 1 := by kernel_rfl
  rcases open_slice1 Tryz.underlying33 hc1 h with ⟨h0, _⟩ | ⟨a, l, c, m, n, V, D, Pl, hcs, _, hl, hm, hmm, _, hi⟩
  · simp at h0
    obtain ⟨rfl, rfl, rfl⟩ := h0
    exact ⟨[], Sl.nil _ _ _ _⟩
  · simp at hcs
    obtain ⟨rfl, rfl, rfl⟩ := hcs
    have hlm : len ≤ m := by rw [hmm]; split <;> omega
    have key : ∀ i, i < len → V i = .int .i64 (num (V i)) := fun i hil => by
      obtain ⟨_, ht⟩ := hi i (by omega)
      obtain ⟨z, e, _, _⟩ := DataW.trod_int Tryz.underlying3 ht
      simp at e
      rw [e]
      rfl
    refine ⟨(List.range len).map fun i => num (V i), ⟨by simp, fun h0 => ?_⟩⟩
    have a0 := (hi 0 (by omega)).1
    rw [add_zero] at a0
    obtain ⟨b, off, rfl⟩ := plain_spot a0
    refine ⟨b, off, rfl, block_lt_of_cell a0, fun j hj => ?_⟩
    have aj := (hi j (by omega)).1
    rw [add_plain] at aj
    rw [aj, key j hj]
    simp [List.getD_eq_getElem?_getD, hj]
end
end Go.Proofs.YtbnkpnllgoghnaaGreat.Args13

namespace Go.Proofs.YtbnkpnllgoghnaaGreat.PmE
open Go.ChangeShapes Go.WideShapes Go.ChangeAt Go.RowKit
open Go.Proofs.YtbnkpnllgoghnaaGreat.Mem Go.Proofs.YtbnkpnllgoghnaaGreat.Blk Go.Proofs.YtbnkpnllgoghnaaGreat.Cells Go.Proofs.YtbnkpnllgoghnaaGreat.Orow Go.Proofs.YtbnkpnllgoghnaaGreat.GrC Go.Proofs.YtbnkpnllgoghnaaGreat.MdM Go.Proofs.YtbnkpnllgoghnaaGreat.MdC Go.Proofs.YtbnkpnllgoghnaaGreat.MdR Go.Proofs.YtbnkpnllgoghnaaGreat.MdD Go.Proofs.YtbnkpnllgoghnaaGreat.PmC Go.Proofs.YtbnkpnllgoghnaaGreat.PmI Go.Proofs.YtbnkpnllgoghnaaGreat.PmM Go.Proofs.YtbnkpnllgoghnaaGreat.PmP Go.Proofs.YtbnkpnllgoghnaaGreat.PmT Go.Proofs.YtbnkpnllgoghnaaGreat.PmU Go.Proofs.YtbnkpnllgoghnaaGreat.PmV Go.Proofs.YtbnkpnllgoghnaaGreat.PmW Go.Proofs.YtbnkpnllgoghnaaGreat.PmR Go.Proofs.YtbnkpnllgoghnaaGreat.PmK Go.Proofs.YtbnkpnllgoghnaaGreat.PmD Go.Proofs.YtbnkpnllgoghnaaGreat.Stages Go.Proofs.YtbnkpnllgoghnaaGreat.Trees
section
variable {w : World} {AT AB AH D : Option Addr} {cT cB cH dl dc : Nat} {z : St} {o : MdOp} {a : Md}
/-- The boxes at the head of a call. -/
structure Fr4 (w w0 : World) (s : Nat) (AT : Option Addr) (cT : Nat) (AB : Option Addr) (cB : Nat) (AH : Option Addr) (cH : Nat) (z : St) (o : MdOp) (D : Option Addr) (dl dc : Nat) : Prop where
  sb : Blk w0 s 64 [.slice AT z.nT cT, .slice AB z.nB cB, .slice AH z.nH cH]
  ob : Blk w0 (s + 1) 30 [.int .i64 o.k, .int .i64 o.p, .int .i64 o.h, .int .i64 o.o, .int .i64 o.n, .slice D dl dc]
  zb : Blk w0 (s + 1 + 1) 64 [.slice none 0 0, .slice none 0 0, .slice none 0 0]
  rb : Blk w0 (s + 1 + 1 + 1) 27 [.int .i64 0, .int .i64 0, .int .i64 0, .slice none 0 0]
  gr : Grow w w0
  sz : s = w.heap.size
theorem fr4_new (w : World) (AT : Option Addr) (cT : Nat) (AB : Option Addr) (cB : Nat) (AH : Option Addr) (cH : Nat) (z : St) (o : MdOp) (D : Option Addr) (dl dc : Nat) : Fr4 w ((((w.alloc (.cells #[.slice AT z.nT cT, .slice AB z.nB cB, .slice AH z.nH cH] 64)).alloc (.cells #[.int .i64 o.k, .int .i64 o.p, .int .i64 o.h, .int .i64 o.o, .int .i64 o.n, .slice D dl dc] 30)).alloc (.cells #[.slice none 0 0, .slice none 0 0, .slice none 0 0] 64)).alloc (.cells #[.int .i64 0, .int .i64 0, .int .i64 0, .slice none 0 0] 27)) w.heap.size AT cT AB cB AH cH z o D dl dc := by
  have b1 := Blk.new w 64 [.slice AT z.nT cT, .slice AB z.nB cB, .slice AH z.nH cH]
  have g1 : Grow w (w.alloc (.cells #[.slice AT z.nT cT, .slice AB z.nB cB, .slice AH z.nH cH] 64)) := (Kept.refl _ _).alloc _
  have z1 : (w.alloc (.cells #[.slice AT z.nT cT, .slice AB z.nB cB, .slice AH z.nH cH] 64)).heap.size = w.heap.size + 1 := by simp
  generalize w.alloc (.cells #[.slice AT z.nT cT, .slice AB z.nB cB, .slice AH z.nH cH] 64) = u1 at *
  have b2 := Blk.new u1 30 [.int .i64 o.k, .int .i64 o.p, .int .i64 o.h, .int .i64 o.o, .int .i64 o.n, .slice D dl dc]
  have g2 : Grow u1 (u1.alloc (.cells #[.int .i64 o.k, .int .i64 o.p, .int .i64 o.h, .int .i64 o.o, .int .i64 o.n, .slice D dl dc] 30)) := (Kept.refl _ _).alloc _
  have z2 : (u1.alloc (.cells #[.int .i64 o.k, .int .i64 o.p, .int .i64 o.h, .int .i64 o.o, .int .i64 o.n, .slice D dl dc] 30)).heap.size = w.heap.size + 1 + 1 := by simp [z1]
  rw [z1] at b2
  generalize u1.alloc (.cells #[.int .i64 o.k, .int .i64 o.p, .int .i64 o.h, .int .i64 o.o, .int .i64 o.n, .slice D dl dc] 30) = u2 at *
  have b3 := Blk.new u2 64 [.slice none 0 0, .slice none 0 0, .slice none 0 0]
  have g3 : Grow u2 (u2.alloc (.cells #[.slice none 0 0, .slice none 0 0, .slice none 0 0] 64)) := (Kept.refl _ _).alloc _
  have z3 : (u2.alloc (.cells #[.slice none 0 0, .slice none 0 0, .slice none 0 0] 64)).heap.size = w.heap.size + 1 + 1 + 1 := by simp [z2]
  rw [z2] at b3
  generalize u2.alloc (.cells #[.slice none 0 0, .slice none 0 0, .slice none 0 0] 64) = u3 at *
  have b4 := Blk.new u3 27 [.int .i64 0, .int .i64 0, .int .i64 0, .slice none 0 0]
  have g4 : Grow u3 (u3.alloc (.cells #[.int .i64 0, .int .i64 0, .int .i64 0, .slice none 0 0] 27)) := (Kept.refl _ _).alloc _
  rw [z3] at b4
  exact ⟨((b1.grow g2).grow g3).grow g4, (b2.grow g3).grow g4, b3.grow g4, b4, ((g1.trans g2).trans g3).trans g4, rfl⟩
theorem Fr4.stK {w0 w1 : World} {s : Nat} (H : Fr4 w w0 s AT cT AB cB AH cH z o D dl dc) (hk : Grow w0 w1) : w1.cell? ⟨s + 1 + 1, 0, none⟩ = some (.slice none 0 0) ∧ w1.cell? ⟨s + 1 + 1, 1, none⟩ = some (.slice none 0 0) ∧ w1.cell? ⟨s + 1 + 1, 2, none⟩ = some (.slice none 0 0) ∧ ∀ j, w1.frozen? ⟨s + 1 + 1, j, none⟩ = false := by
  have hb := H.zb.grow hk
  exact ⟨hb.cell 0, hb.cell 1, hb.cell 2, hb.frozen⟩
/-- What Do makes and tells. -/
def DoP (a : Md) (c : Int) (o : MdOp) (w : World) (e : Ending) (w' : World) : Prop := ∃ sv rv, e = .returned (.tuple #[sv, rv]) ∧ PAt w' (w.heap.size ≤ ·) sv (a.run c o).2 ∧ RePV w' w.heap.size rv (a.run c o).1 ∧ Grow w w'
set_option maxHeartbeats 8000000 in
theorem do_c0 (hp : Parts w AT cT AB cB AH cH z) (hfw : z.few) (c : Int) (hza : z = stOf a) (hgd : MdM.Good a) (hc : c < 0) : Calls Tryz.prog 26 #[.agg #[.slice AT z.nT cT, .slice AB z.nB cB, .slice AH z.nH cH], .int .i64 c, .agg #[.int .i64 o.k, .int .i64 o.p, .int .i64 o.h, .int .i64 o.o, .int .i64 o.n, .slice D dl dc]] w (DoP a c o w) := by
  have HF := Lib.hid (fr4_new w AT cT AB cB AH cH z o D dl dc)
  have HP0 := Lib.hid (hp.grow HF.out.gr)
  have HFW := Lib.hid hfw
  obtain ⟨P, hP⟩ : ∃ P, P = DoP a c o w := ⟨_, rfl⟩
  have HP := Lib.hid hP
  rw [← hP]
  have HMY : Hid z.may := hza ▸ good_may hgd
  have HZA := Lib.hid hza
  have HGD := Lib.hid hgd
  have HC : Hid (¬ (0 ≤ c ∧ c < (a.N : Int))) := fun x => by omega
  clear hza hgd
  clear hp hfw hP
  go_enter Tryz.func26, Tryz.ntmps26
  go_upto_region 1 with (fail)
  generalize (((w.alloc (.cells #[.slice AT z.nT cT, .slice AB z.nB cB, .slice AH z.nH cH] 64)).alloc (.cells #[.int .i64 o.k, .int .i64 o.p, .int .i64 o.h, .int .i64 o.o, .int .i64 o.n, .slice D dl dc] 30)).alloc (.cells #[.slice none 0 0, .slice none 0 0, .slice none 0 0] 64)).alloc (.cells #[.int .i64 0, .int .i64 0, .int .i64 0, .slice none 0 0] 27) = w0 at *
  obtain ⟨s, hs⟩ : ∃ s, s = w.heap.size := ⟨_, rfl⟩
  rw [← hs] at HF ⊢
  have HSZ := Lib.hid hs
  clear hs
  have HCL := Lib.hid (clone_any HP0.out HFW.out)
  have HMAY := Lib.hid fun (w' : World) (hk : Grow w0 w') => may_any (HP0.out.grow hk) HFW.out
  unfold stv at HCL HMAY
  have s0 := HF.out.sb.cell 0
  have s1 := HF.out.sb.cell 1
  have s2 := HF.out.sb.cell 2
  simp only [List.getElem?_cons_zero, List.getElem?_cons_succ] at s0 s1 s2
  go_upto_region 2 with (go_at_call 74; (with_reducible refine HCL.out.mono ?_); rintro e wc ⟨nv, rfl, ⟨AT', cT', AB', cB', AH', cH', rfl, hown⟩, hgc⟩; have HOWN := Lib.hid hown; have HGC := Lib.hid hgc; clear hown hgc)
  have hb8 := Blk.new wc 64 [.slice AT' z.nT cT', .slice AB' z.nB cB', .slice AH' z.nH cH']
  have hg8 : Grow wc (wc.alloc (.cells #[.slice AT' z.nT cT', .slice AB' z.nB cB', .slice AH' z.nH cH'] 64)) := (Kept.refl _ _).alloc _
  have HB8 := Lib.hid hb8
  have HG8 : Hid (Grow w0 (wc.alloc (.cells #[.slice AT' z.nT cT', .slice AB' z.nB cB', .slice AH' z.nH cH'] 64))) := HGC.out.trans hg8
  have HOW := Lib.hid (HOWN.out.grow hg8)
  have HOWG := Lib.hid ((HOWN.out.mono (X := fun k => w0.heap.size ≤ k ∧ k < wc.heap.size) fun k hk h => ⟨h, hk⟩).grow hg8)
  clear hb8 hg8 s0 s1 s2
  obtain ⟨b8, hb⟩ : ∃ b8, b8 = wc.heap.size := ⟨_, rfl⟩
  rw [← hb] at HB8 HOWG ⊢
  have HBE := Lib.hid hb
  clear hb HOWN
  generalize wc.alloc (.cells #[.slice AT' z.nT cT', .slice AB' z.nB cB', .slice AH' z.nH cH'] 64) = w8 at *
  have s0 := (HF.out.sb.grow HG8.out).cell 0
  have s1 := (HF.out.sb.grow HG8.out).cell 1
  have s2 := (HF.out.sb.grow HG8.out).cell 2
  simp only [List.getElem?_cons_zero, List.getElem?_cons_succ] at s0 s1 s2
  have HM := Lib.hid (HMAY.out _ HG8.out)
  go_upto_region 3 with (go_at_call 75; (with_reducible refine HM.out.mono ?_); rintro e wm ⟨⟨bm, rfl, hbm⟩, hgm⟩; have HGM := Lib.hid hgm; have s0 := hgm.cellN s0 id; have s1 := hgm.cellN s1 id; have s2 := hgm.cellN s2 id; have HBM := Lib.hid hbm; clear hgm hbm; obtain rfl : bm = true := HBM.out.2 HMY.out)
  have HGW : Hid (Grow w0 wm) := HG8.out.trans HGM.out
  have b0 := (HB8.out.grow HGM.out).cell 0
  have b1 := (HB8.out.grow HGM.out).cell 1
  have b2 := (HB8.out.grow HGM.out).cell 2
  simp only [List.getElem?_cons_zero, List.getElem?_cons_succ] at b0 b1 b2
  have hb8l := HBE.out
  have hszl := HF.out.rb.lt
  have hgcs := HGC.out.size
  have HLT : Hid (s + 1 + 1 + 1 < b8) := by show s + 1 + 1 + 1 < b8; omega
  clear hb8l hszl hgcs
  have q0 := up_cell (F := fun x => x = s + 1 + 1 ∨ x = s + 1 + 1 + 1) (w := wm.drew) (p := ⟨b8, 0, none⟩) b0 (fun e => by have := HLT.out; rcases e with e | e <;> (have e : b8 = _ := e; omega))
  have q1 := up_cell (F := fun x => x = s + 1 + 1 ∨ x = s + 1 + 1 + 1) (w := wm.drew) (p := ⟨b8, 1, none⟩) b1 (fun e => by have := HLT.out; rcases e with e | e <;> (have e : b8 = _ := e; omega))
  have q2 := up_cell (F := fun x => x = s + 1 + 1 ∨ x = s + 1 + 1 + 1) (w := wm.drew) (p := ⟨b8, 2, none⟩) b2 (fun e => by have := HLT.out; rcases e with e | e <;> (have e : b8 = _ := e; omega))
  refine wp_region_stages (Kept (fun x => x = s + 1 + 1 ∨ x = s + 1 + 1 + 1)) (kept_refl _) (kept_trans _) [([0], 1), ([], 2), ([], 3)] [] (by kernel_rfl) (by kernel_rfl) ?_
  simp only [selSt, sel, List.map_cons, List.map_nil, List.getD_cons_succ, List.getD_cons_zero]
  refine st_cons fun K1 hK1 => ?_
  repeat (go_big_quiet_step (fail))
  refine wpQuiet_nil ?_
  clear q0 q1 q2 b0 b1 b2 s0 s1 s2
  go_wp2_with (go_at_call 76; (with_reducible refine (code_any _ 1).mono ?_); rintro e we ⟨rfl, hge⟩; have HGE := Lib.hid hge; clear hge)
  refine norm_up (hK1 _ _ (Grow.kept HGE.out) ?_)
  clear hK1 K1
  have HGX : Hid (Grow w0 we) := (HGW.out.drew).trans HGE.out
  obtain ⟨z0, z1, z2, zf⟩ := HF.out.stK HGX.out
  refine st_cons fun K2 hK2 => ?_
  refine wpQuiet_nil ?_
  go_wp2
  refine norm_up (hK2 _ _ (put3_kept we (s + 1 + 1) _ _ _ (fun x e => .inl e)) ?_)
  clear hK2 K2 z0 z1 z2 zf
  have HZ3 := Lib.hid (put3_blk (x := .slice AT' z.nT cT') (y := .slice AB' z.nB cB') (u := .slice AH' z.nH cH') (HF.out.zb.grow HGX.out))
  have HK3 : Hid (Kept (fun x => x = s + 1 + 1) we (put3 we (s + 1 + 1) (.slice AT' z.nT cT') (.slice AB' z.nB cB') (.slice AH' z.nH cH'))) := put3_kept we (s + 1 + 1) _ _ _ (fun x e => e)
  have HZ3 : Hid (Blk (((we.setCell ⟨s + 1 + 1, 0, none⟩ (.slice AT' z.nT cT')).setCell ⟨s + 1 + 1, 1, none⟩ (.slice AB' z.nB cB')).setCell ⟨s + 1 + 1, 2, none⟩ (.slice AH' z.nH cH')) (s + 1 + 1) 64 [.slice AT' z.nT cT', .slice AB' z.nB cB', .slice AH' z.nH cH']) := HZ3.out
  have HK3 : Hid (Kept (fun x => x = s + 1 + 1) we (((we.setCell ⟨s + 1 + 1, 0, none⟩ (.slice AT' z.nT cT')).setCell ⟨s + 1 + 1, 1, none⟩ (.slice AB' z.nB cB')).setCell ⟨s + 1 + 1, 2, none⟩ (.slice AH' z.nH cH'))) := HK3.out
  have hrb : Blk (((we.setCell ⟨s + 1 + 1, 0, none⟩ (.slice AT' z.nT cT')).setCell ⟨s + 1 + 1, 1, none⟩ (.slice AB' z.nB cB')).setCell ⟨s + 1 + 1, 2, none⟩ (.slice AH' z.nH cH')) (s + 1 + 1 + 1) 27 [.int .i64 0, .int .i64 0, .int .i64 0, .slice none 0 0] := (HF.out.rb.grow HGX.out).kept HK3.out (fun e => by have e : s + 1 + 1 + 1 = s + 1 + 1 := e; omega)
  generalize ((we.setCell ⟨s + 1 + 1, 0, none⟩ (.slice AT' z.nT cT')).setCell ⟨s + 1 + 1, 1, none⟩ (.slice AB' z.nB cB')).setCell ⟨s + 1 + 1, 2, none⟩ (.slice AH' z.nH cH') = w3 at HZ3 HK3 hrb ⊢
  have HRB := Lib.hid hrb
  have t0 := hrb.cell 0
  have t1 := hrb.cell 1
  have t2 := hrb.cell 2
  have t3 := hrb.cell 3
  have tf := hrb.frozen
  simp only [List.getElem?_cons_zero, List.getElem?_cons_succ] at t0 t1 t2 t3
  clear hrb
  refine st_cons fun K4 hK4 => ?_
  refine wpQuiet_nil ?_
  go_wp2
  refine norm_up (hK4 _ _ ((put4_kept w3 (s + 1 + 1 + 1) (.int .i64 1) (.int .i64 0) (.int .i64 0) (.slice none 0 0)).mono fun x _ e => .inr e) (st_nil fun K5 hK5 => wpQuiet_nil (hK5 _ ?_)))
  clear hK4 K4 hK5 K5 t0 t1 t2 t3 tf
  go_wp2
  have HK6 := Lib.hid (put4_kept w3 (s + 1 + 1 + 1) (.int .i64 1) (.int .i64 0) (.int .i64 0) (.slice none 0 0))
  have hz6 := HZ3.out.kept HK6.out (fun e => by have e : s + 1 + 1 = s + 1 + 1 + 1 := e; omega)
  have hr6 := put4_blk (x := .int .i64 1) (y := .int .i64 0) (z := .int .i64 0) (d := .slice none 0 0) HRB.out
  have hgw : Grow w we := HF.out.gr.trans HGX.out
  have hfin : Grow w (put4 w3 (s + 1 + 1 + 1) (.int .i64 1) (.int .i64 0) (.int .i64 0) (.slice none 0 0)) := (hgw.then HK3.out fun k hk e => by have := HSZ.out; have e : k = s + 1 + 1 := e; omega).then HK6.out fun k hk e => by have := HSZ.out; have e : k = s + 1 + 1 + 1 := e; omega
  have how : PmD.Own (put4 w3 (s + 1 + 1 + 1) (.int .i64 1) (.int .i64 0) (.int .i64 0) (.slice none 0 0)) (w0.heap.size ≤ ·) (.agg #[.slice AT' z.nT cT', .slice AB' z.nB cB', .slice AH' z.nH cH']) z := by
    have hl := HF.out.rb.lt
    have h1 := HOW.out.grow ((HGM.out.drew).trans HGE.out)
    have h2 := h1.kept HK3.out (fun k hk e => by have e : k = s + 1 + 1 := e; have hk : w0.heap.size ≤ k := hk; omega)
    exact h2.kept HK6.out (fun k hk e => by have e : k = s + 1 + 1 + 1 := e; have hk : w0.heap.size ≤ k := hk; omega)
  rw [HP.out]
  refine ret_st_res rfl rfl rfl hz6 hr6 rfl ?_
  have hpa := (how.patZ HZA.out HGD.out).mono (X := fun k => w.heap.size ≤ k) fun k _ (h : w0.heap.size ≤ k) => by have := HF.out.gr.size; omega
  unfold DoP
  rw [run_out HC.out]
  exact ⟨_, _, rfl, hpa, repv_none _ _ _ _ _, hfin⟩
set_option maxHeartbeats 8000000 in
theorem do_c1 (hp : Parts w AT cT AB cB AH cH z) (hfw : z.few) (c : Int) (hza : z = stOf a) (hgd : MdM.Good a) (h0 : 0 ≤ c) (hc : (z.nH : Int) ≤ c) : Calls Tryz.prog 26 #[.agg #[.slice AT z.nT cT, .slice AB z.nB cB, .slice AH z.nH cH], .int .i64 c, .agg #[.int .i64 o.k, .int .i64 o.p, .int .i64 o.h, .int .i64 o.o, .int .i64 o.n, .slice D dl dc]] w (DoP a c o w) := by
  have HF := Lib.hid (fr4_new w AT cT AB cB AH cH z o D dl dc)
  have HP0 := Lib.hid (hp.grow HF.out.gr)
  have HFW := Lib.hid hfw
  obtain ⟨P, hP⟩ : ∃ P, P = DoP a c o w := ⟨_, rfl⟩
  have HP := Lib.hid hP
  rw [← hP]
  have HMY : Hid z.may := hza ▸ good_may hgd
  have HZA := Lib.hid hza
  have HGD := Lib.hid hgd
  have HC : Hid (¬ (0 ≤ c ∧ c < (a.N : Int))) := fun x => absurd x.2 (by rw [hza] at hc; exact Int.not_lt.2 hc)
  clear hza hgd
  clear hp hfw hP
  go_enter Tryz.func26, Tryz.ntmps26
  go_upto_region 1 with (fail)
  generalize (((w.alloc (.cells #[.slice AT z.nT cT, .slice AB z.nB cB, .slice AH z.nH cH] 64)).alloc (.cells #[.int .i64 o.k, .int .i64 o.p, .int .i64 o.h, .int .i64 o.o, .int .i64 o.n, .slice D dl dc] 30)).alloc (.cells #[.slice none 0 0, .slice none 0 0, .slice none 0 0] 64)).alloc (.cells #[.int .i64 0, .int .i64 0, .int .i64 0, .slice none 0 0] 27) = w0 at *
  obtain ⟨s, hs⟩ : ∃ s, s = w.heap.size := ⟨_, rfl⟩
  rw [← hs] at HF ⊢
  have HSZ := Lib.hid hs
  clear hs
  have HCL := Lib.hid (clone_any HP0.out HFW.out)
  have HMAY := Lib.hid fun (w' : World) (hk : Grow w0 w') => may_any (HP0.out.grow hk) HFW.out
  unfold stv at HCL HMAY
  have s0 := HF.out.sb.cell 0
  have s1 := HF.out.sb.cell 1
  have s2 := HF.out.sb.cell 2
  simp only [List.getElem?_cons_zero, List.getElem?_cons_succ] at s0 s1 s2
  go_upto_region 2 with (go_at_call 74; (with_reducible refine HCL.out.mono ?_); rintro e wc ⟨nv, rfl, ⟨AT', cT', AB', cB', AH', cH', rfl, hown⟩, hgc⟩; have HOWN := Lib.hid hown; have HGC := Lib.hid hgc; clear hown hgc)
  have hb8 := Blk.new wc 64 [.slice AT' z.nT cT', .slice AB' z.nB cB', .slice AH' z.nH cH']
  have hg8 : Grow wc (wc.alloc (.cells #[.slice AT' z.nT cT', .slice AB' z.nB cB', .slice AH' z.nH cH'] 64)) := (Kept.refl _ _).alloc _
  have HB8 := Lib.hid hb8
  have HG8 : Hid (Grow w0 (wc.alloc (.cells #[.slice AT' z.nT cT', .slice AB' z.nB cB', .slice AH' z.nH cH'] 64))) := HGC.out.trans hg8
  have HOW := Lib.hid (HOWN.out.grow hg8)
  have HOWG := Lib.hid ((HOWN.out.mono (X := fun k => w0.heap.size ≤ k ∧ k < wc.heap.size) fun k hk h => ⟨h, hk⟩).grow hg8)
  clear hb8 hg8 s0 s1 s2
  obtain ⟨b8, hb⟩ : ∃ b8, b8 = wc.heap.size := ⟨_, rfl⟩
  rw [← hb] at HB8 HOWG ⊢
  have HBE := Lib.hid hb
  clear hb HOWN
  generalize wc.alloc (.cells #[.slice AT' z.nT cT', .slice AB' z.nB cB', .slice AH' z.nH cH'] 64) = w8 at *
  have s0 := (HF.out.sb.grow HG8.out).cell 0
  have s1 := (HF.out.sb.grow HG8.out).cell 1
  have s2 := (HF.out.sb.grow HG8.out).cell 2
  simp only [List.getElem?_cons_zero, List.getElem?_cons_succ] at s0 s1 s2
  have HM := Lib.hid (HMAY.out _ HG8.out)
  go_upto_region 3 with (go_at_call 75; (with_reducible refine HM.out.mono ?_); rintro e wm ⟨⟨bm, rfl, hbm⟩, hgm⟩; have HGM := Lib.hid hgm; have s0 := hgm.cellN s0 id; have s1 := hgm.cellN s1 id; have s2 := hgm.cellN s2 id; have HBM := Lib.hid hbm; clear hgm hbm; obtain rfl : bm = true := HBM.out.2 HMY.out)
  have HGW : Hid (Grow w0 wm) := HG8.out.trans HGM.out
  have b0 := (HB8.out.grow HGM.out).cell 0
  have b1 := (HB8.out.grow HGM.out).cell 1
  have b2 := (HB8.out.grow HGM.out).cell 2
  simp only [List.getElem?_cons_zero, List.getElem?_cons_succ] at b0 b1 b2
  have hb8l := HBE.out
  have hszl := HF.out.rb.lt
  have hgcs := HGC.out.size
  have HLT : Hid (s + 1 + 1 + 1 < b8) := by show s + 1 + 1 + 1 < b8; omega
  clear hb8l hszl hgcs
  have q0 := up_cell (F := fun x => x = s + 1 + 1 ∨ x = s + 1 + 1 + 1) (w := wm.drew) (p := ⟨b8, 0, none⟩) b0 (fun e => by have := HLT.out; rcases e with e | e <;> (have e : b8 = _ := e; omega))
  have q1 := up_cell (F := fun x => x = s + 1 + 1 ∨ x = s + 1 + 1 + 1) (w := wm.drew) (p := ⟨b8, 1, none⟩) b1 (fun e => by have := HLT.out; rcases e with e | e <;> (have e : b8 = _ := e; omega))
  have q2 := up_cell (F := fun x => x = s + 1 + 1 ∨ x = s + 1 + 1 + 1) (w := wm.drew) (p := ⟨b8, 2, none⟩) b2 (fun e => by have := HLT.out; rcases e with e | e <;> (have e : b8 = _ := e; omega))
  refine wp_region_stages (Kept (fun x => x = s + 1 + 1 ∨ x = s + 1 + 1 + 1)) (kept_refl _) (kept_trans _) [([0], 1), ([], 2), ([], 3)] [] (by kernel_rfl) (by kernel_rfl) ?_
  simp only [selSt, sel, List.map_cons, List.map_nil, List.getD_cons_succ, List.getD_cons_zero]
  refine st_cons fun K1 hK1 => ?_
  repeat (go_big_quiet_step (fail))
  refine wpQuiet_nil ?_
  clear q0 q1 q2 b0 b1 b2 s0 s1 s2
  go_wp2_with (go_at_call 76; (with_reducible refine (code_any _ 1).mono ?_); rintro e we ⟨rfl, hge⟩; have HGE := Lib.hid hge; clear hge)
  refine norm_up (hK1 _ _ (Grow.kept HGE.out) ?_)
  clear hK1 K1
  have HGX : Hid (Grow w0 we) := (HGW.out.drew).trans HGE.out
  obtain ⟨z0, z1, z2, zf⟩ := HF.out.stK HGX.out
  refine st_cons fun K2 hK2 => ?_
  refine wpQuiet_nil ?_
  go_wp2
  refine norm_up (hK2 _ _ (put3_kept we (s + 1 + 1) _ _ _ (fun x e => .inl e)) ?_)
  clear hK2 K2 z0 z1 z2 zf
  have HZ3 := Lib.hid (put3_blk (x := .slice AT' z.nT cT') (y := .slice AB' z.nB cB') (u := .slice AH' z.nH cH') (HF.out.zb.grow HGX.out))
  have HK3 : Hid (Kept (fun x => x = s + 1 + 1) we (put3 we (s + 1 + 1) (.slice AT' z.nT cT') (.slice AB' z.nB cB') (.slice AH' z.nH cH'))) := put3_kept we (s + 1 + 1) _ _ _ (fun x e => e)
  have HZ3 : Hid (Blk (((we.setCell ⟨s + 1 + 1, 0, none⟩ (.slice AT' z.nT cT')).setCell ⟨s + 1 + 1, 1, none⟩ (.slice AB' z.nB cB')).setCell ⟨s + 1 + 1, 2, none⟩ (.slice AH' z.nH cH')) (s + 1 + 1) 64 [.slice AT' z.nT cT', .slice AB' z.nB cB', .slice AH' z.nH cH']) := HZ3.out
  have HK3 : Hid (Kept (fun x => x = s + 1 + 1) we (((we.setCell ⟨s + 1 + 1, 0, none⟩ (.slice AT' z.nT cT')).setCell ⟨s + 1 + 1, 1, none⟩ (.slice AB' z.nB cB')).setCell ⟨s + 1 + 1, 2, none⟩ (.slice AH' z.nH cH'))) := HK3.out
  have hrb : Blk (((we.setCell ⟨s + 1 + 1, 0, none⟩ (.slice AT' z.nT cT')).setCell ⟨s + 1 + 1, 1, none⟩ (.slice AB' z.nB cB')).setCell ⟨s + 1 + 1, 2, none⟩ (.slice AH' z.nH cH')) (s + 1 + 1 + 1) 27 [.int .i64 0, .int .i64 0, .int .i64 0, .slice none 0 0] := (HF.out.rb.grow HGX.out).kept HK3.out (fun e => by have e : s + 1 + 1 + 1 = s + 1 + 1 := e; omega)
  generalize ((we.setCell ⟨s + 1 + 1, 0, none⟩ (.slice AT' z.nT cT')).setCell ⟨s + 1 + 1, 1, none⟩ (.slice AB' z.nB cB')).setCell ⟨s + 1 + 1, 2, none⟩ (.slice AH' z.nH cH') = w3 at HZ3 HK3 hrb ⊢
  have HRB := Lib.hid hrb
  have t0 := hrb.cell 0
  have t1 := hrb.cell 1
  have t2 := hrb.cell 2
  have t3 := hrb.cell 3
  have tf := hrb.frozen
  simp only [List.getElem?_cons_zero, List.getElem?_cons_succ] at t0 t1 t2 t3
  clear hrb
  refine st_cons fun K4 hK4 => ?_
  refine wpQuiet_nil ?_
  go_wp2
  refine norm_up (hK4 _ _ ((put4_kept w3 (s + 1 + 1 + 1) (.int .i64 1) (.int .i64 0) (.int .i64 0) (.slice none 0 0)).mono fun x _ e => .inr e) (st_nil fun K5 hK5 => wpQuiet_nil (hK5 _ ?_)))
  clear hK4 K4 hK5 K5 t0 t1 t2 t3 tf
  go_wp2
  have HK6 := Lib.hid (put4_kept w3 (s + 1 + 1 + 1) (.int .i64 1) (.int .i64 0) (.int .i64 0) (.slice none 0 0))
  have hz6 := HZ3.out.kept HK6.out (fun e => by have e : s + 1 + 1 = s + 1 + 1 + 1 := e; omega)
  have hr6 := put4_blk (x := .int .i64 1) (y := .int .i64 0) (z := .int .i64 0) (d := .slice none 0 0) HRB.out
  have hgw : Grow w we := HF.out.gr.trans HGX.out
  have hfin : Grow w (put4 w3 (s + 1 + 1 + 1) (.int .i64 1) (.int .i64 0) (.int .i64 0) (.slice none 0 0)) := (hgw.then HK3.out fun k hk e => by have := HSZ.out; have e : k = s + 1 + 1 := e; omega).then HK6.out fun k hk e => by have := HSZ.out; have e : k = s + 1 + 1 + 1 := e; omega
  have how : PmD.Own (put4 w3 (s + 1 + 1 + 1) (.int .i64 1) (.int .i64 0) (.int .i64 0) (.slice none 0 0)) (w0.heap.size ≤ ·) (.agg #[.slice AT' z.nT cT', .slice AB' z.nB cB', .slice AH' z.nH cH']) z := by
    have hl := HF.out.rb.lt
    have h1 := HOW.out.grow ((HGM.out.drew).trans HGE.out)
    have h2 := h1.kept HK3.out (fun k hk e => by have e : k = s + 1 + 1 := e; have hk : w0.heap.size ≤ k := hk; omega)
    exact h2.kept HK6.out (fun k hk e => by have e : k = s + 1 + 1 + 1 := e; have hk : w0.heap.size ≤ k := hk; omega)
  rw [HP.out]
  refine ret_st_res rfl rfl rfl hz6 hr6 rfl ?_
  have hpa := (how.patZ HZA.out HGD.out).mono (X := fun k => w.heap.size ≤ k) fun k _ (h : w0.heap.size ≤ k) => by have := HF.out.gr.size; omega
  unfold DoP
  rw [run_out HC.out]
  exact ⟨_, _, rfl, hpa, repv_none _ _ _ _ _, hfin⟩
set_option maxHeartbeats 8000000 in
theorem do_in (hp : Parts w AT cT AB cB AH cH z) (hfw : z.few) (c : Int) (hza : z = stOf a) (hgd : MdM.Good a) {kc : Nat} (hkc : kc < z.nH) (hcc : c = (kc : Int)) (h63 : o.o ≤ 9223372036854775807) (hd : Sl w w.heap.size .u8 D dl o.d) (hby : Bytes o.d) : Calls Tryz.prog 26 #[.agg #[.slice AT z.nT cT, .slice AB z.nB cB, .slice AH z.nH cH], .int .i64 c, .agg #[.int .i64 o.k, .int .i64 o.p, .int .i64 o.h, .int .i64 o.o, .int .i64 o.n, .slice D dl dc]] w (DoP a c o w) := by
  have HF := Lib.hid (fr4_new w AT cT AB cB AH cH z o D dl dc)
  have HP0 := Lib.hid (hp.grow HF.out.gr)
  have HFW := Lib.hid hfw
  obtain ⟨P, hP⟩ : ∃ P, P = DoP a c o w := ⟨_, rfl⟩
  have HP := Lib.hid hP
  rw [← hP]
  have HMY : Hid z.may := hza ▸ good_may hgd
  have HZA := Lib.hid hza
  have HGD := Lib.hid hgd
  have HKN : Hid (kc < a.N) := by show kc < (stOf a).nH; rw [← hza]; exact hkc
  have HKC := Lib.hid hkc
  have H63 := Lib.hid h63
  have HD := Lib.hid hd
  have HBY := Lib.hid hby
  subst hcc
  have hkz : (kc : Int) < (z.nH : Int) := by omega
  clear hza hgd hkc h63 hd hby
  clear hp hfw hP
  go_enter Tryz.func26, Tryz.ntmps26
  go_upto_region 1 with (fail)
  generalize (((w.alloc (.cells #[.slice AT z.nT cT, .slice AB z.nB cB, .slice AH z.nH cH] 64)).alloc (.cells #[.int .i64 o.k, .int .i64 o.p, .int .i64 o.h, .int .i64 o.o, .int .i64 o.n, .slice D dl dc] 30)).alloc (.cells #[.slice none 0 0, .slice none 0 0, .slice none 0 0] 64)).alloc (.cells #[.int .i64 0, .int .i64 0, .int .i64 0, .slice none 0 0] 27) = w0 at *
  obtain ⟨s, hs⟩ : ∃ s, s = w.heap.size := ⟨_, rfl⟩
  rw [← hs] at HF ⊢
  have HSZ := Lib.hid hs
  clear hs
  have HCL := Lib.hid (clone_any HP0.out HFW.out)
  have HMAY := Lib.hid fun (w' : World) (hk : Grow w0 w') => may_any (HP0.out.grow hk) HFW.out
  unfold stv at HCL HMAY
  have s0 := HF.out.sb.cell 0
  have s1 := HF.out.sb.cell 1
  have s2 := HF.out.sb.cell 2
  simp only [List.getElem?_cons_zero, List.getElem?_cons_succ] at s0 s1 s2
  go_upto_region 2 with (go_at_call 74; (with_reducible refine HCL.out.mono ?_); rintro e wc ⟨nv, rfl, ⟨AT', cT', AB', cB', AH', cH', rfl, hown⟩, hgc⟩; have HOWN := Lib.hid hown; have HGC := Lib.hid hgc; clear hown hgc)
  have hb8 := Blk.new wc 64 [.slice AT' z.nT cT', .slice AB' z.nB cB', .slice AH' z.nH cH']
  have hg8 : Grow wc (wc.alloc (.cells #[.slice AT' z.nT cT', .slice AB' z.nB cB', .slice AH' z.nH cH'] 64)) := (Kept.refl _ _).alloc _
  have HB8 := Lib.hid hb8
  have HG8 : Hid (Grow w0 (wc.alloc (.cells #[.slice AT' z.nT cT', .slice AB' z.nB cB', .slice AH' z.nH cH'] 64))) := HGC.out.trans hg8
  have HOW := Lib.hid (HOWN.out.grow hg8)
  have HOWG := Lib.hid ((HOWN.out.mono (X := fun k => w0.heap.size ≤ k ∧ k < wc.heap.size) fun k hk h => ⟨h, hk⟩).grow hg8)
  clear hb8 hg8 s0 s1 s2
  obtain ⟨b8, hb⟩ : ∃ b8, b8 = wc.heap.size := ⟨_, rfl⟩
  rw [← hb] at HB8 HOWG ⊢
  have HBE := Lib.hid hb
  clear hb HOWN
  generalize wc.alloc (.cells #[.slice AT' z.nT cT', .slice AB' z.nB cB', .slice AH' z.nH cH'] 64) = w8 at *
  have s0 := (HF.out.sb.grow HG8.out).cell 0
  have s1 := (HF.out.sb.grow HG8.out).cell 1
  have s2 := (HF.out.sb.grow HG8.out).cell 2
  simp only [List.getElem?_cons_zero, List.getElem?_cons_succ] at s0 s1 s2
  have HM := Lib.hid (HMAY.out _ HG8.out)
  go_upto_region 4 with (go_at_call 75; (with_reducible refine HM.out.mono ?_); rintro e wm ⟨⟨bm, rfl, hbm⟩, hgm⟩; have HGM := Lib.hid hgm; have s0 := hgm.cellN s0 id; have s1 := hgm.cellN s1 id; have s2 := hgm.cellN s2 id; have HBM := Lib.hid hbm; clear hgm hbm; obtain rfl : bm = true := HBM.out.2 HMY.out)
  have HGW : Hid (Grow w0 wm) := HG8.out.trans HGM.out
  obtain ⟨gT, cT2, gB, cB2, gH, cH2, qb, cb, q, cp, e, hpm⟩ := ((HOWG.out.grow HGM.out.drew).patZ HZA.out HGD.out).mem
  simp only [sval, Value.agg.injEq, Array.mk.injEq, List.cons.injEq, Value.slice.injEq] at e
  obtain ⟨⟨rfl, -, rfl⟩, ⟨rfl, -, rfl⟩, ⟨rfl, -, rfl⟩, -⟩ := e
  have HPM := Lib.hid hpm
  have hrow := hpm.hb.cell (i := kc) (by have := HKN.out; omega)
  unfold scell at hrow
  clear hpm
  have b0 := (HB8.out.grow HGM.out.drew).cell 0
  have b1 := (HB8.out.grow HGM.out.drew).cell 1
  have b2 := (HB8.out.grow HGM.out.drew).cell 2
  have o0 := (HF.out.ob.grow HGW.out.drew).cell 0
  have o1 := (HF.out.ob.grow HGW.out.drew).cell 1
  have o2 := (HF.out.ob.grow HGW.out.drew).cell 2
  have o3 := (HF.out.ob.grow HGW.out.drew).cell 3
  have o4 := (HF.out.ob.grow HGW.out.drew).cell 4
  have o5 := (HF.out.ob.grow HGW.out.drew).cell 5
  simp only [List.getElem?_cons_zero, List.getElem?_cons_succ] at b0 b1 b2 o0 o1 o2 o3 o4 o5
  have hb8l := HBE.out
  have hszl := HF.out.rb.lt
  have hgcs := HGC.out.size
  have HLT : Hid (s + 1 + 1 + 1 < w0.heap.size ∧ w0.heap.size ≤ b8) := by show s + 1 + 1 + 1 < w0.heap.size ∧ w0.heap.size ≤ b8; omega
  clear hb8l hszl hgcs s0 s1 s2
  have HST : Hid (Calls Tryz.prog 77 #[.agg #[.slice (some ⟨gT, 0, none⟩) z.nT cT', .slice (some ⟨gB, 0, none⟩) z.nB cB', .slice (some ⟨gH, 0, none⟩) z.nH cH'], .slice (some ⟨q kc, 0, none⟩) 6 (cp kc), .agg #[.int .i64 o.k, .int .i64 o.p, .int .i64 o.h, .int .i64 o.o, .int .i64 o.n, .slice D dl dc]] wm.drew (PPost (fun k => w0.heap.size ≤ k ∧ k < b8) (sval gT cT' gB cB' gH cH' a) wm.drew (a.run (kc : Int) o))) := by
    have e5 : z.nT = a.n ∧ z.nB = a.n ∧ z.nH = a.N := by rw [HZA.out]; exact ⟨rfl, rfl, rfl⟩
    rw [e5.1, e5.2.1, e5.2.2]
    exact step_any (k := kc) ⟨HGD.out, HPM.out, fun k hk => Nat.lt_of_lt_of_le hk.2 (by have := (HB8.out.grow HGM.out.drew).lt; omega)⟩ HKN.out H63.out ((Blk.Sl.kept HD.out (HF.out.gr.trans HGW.out.drew) (Nat.le_refl _) fun _ _ x => x).more (HF.out.gr.trans HGW.out.drew).size) HBY.out
  have q0 := up_cell (F := (fun x => (w0.heap.size ≤ x ∧ x < b8) ∨ x = s + 1 + 1 ∨ x = s + 1 + 1 + 1)) (w := wm.drew) (p := ⟨b8, 0, none⟩) b0 (fun e => by have := HLT.out; rcases e with e | e | e; (have e1 : b8 < b8 := e.2; have e2 : w0.heap.size ≤ b8 := e.1; omega); (have e : b8 = s + 1 + 1 := e; omega); (have e : b8 = s + 1 + 1 + 1 := e; omega))
  have q1 := up_cell (F := (fun x => (w0.heap.size ≤ x ∧ x < b8) ∨ x = s + 1 + 1 ∨ x = s + 1 + 1 + 1)) (w := wm.drew) (p := ⟨b8, 1, none⟩) b1 (fun e => by have := HLT.out; rcases e with e | e | e; (have e1 : b8 < b8 := e.2; have e2 : w0.heap.size ≤ b8 := e.1; omega); (have e : b8 = s + 1 + 1 := e; omega); (have e : b8 = s + 1 + 1 + 1 := e; omega))
  have q2 := up_cell (F := (fun x => (w0.heap.size ≤ x ∧ x < b8) ∨ x = s + 1 + 1 ∨ x = s + 1 + 1 + 1)) (w := wm.drew) (p := ⟨b8, 2, none⟩) b2 (fun e => by have := HLT.out; rcases e with e | e | e; (have e1 : b8 < b8 := e.2; have e2 : w0.heap.size ≤ b8 := e.1; omega); (have e : b8 = s + 1 + 1 := e; omega); (have e : b8 = s + 1 + 1 + 1 := e; omega))
  have p0 := up_cell (F := (fun x => (w0.heap.size ≤ x ∧ x < b8) ∨ x = s + 1 + 1 ∨ x = s + 1 + 1 + 1)) (w := wm.drew) (p := ⟨s + 1, 0, none⟩) o0 (fun e => by have := HLT.out; rcases e with e | e | e; (have e1 : s + 1 < b8 := e.2; have e2 : w0.heap.size ≤ s + 1 := e.1; omega); (have e : s + 1 = s + 1 + 1 := e; omega); (have e : s + 1 = s + 1 + 1 + 1 := e; omega))
  have p1 := up_cell (F := (fun x => (w0.heap.size ≤ x ∧ x < b8) ∨ x = s + 1 + 1 ∨ x = s + 1 + 1 + 1)) (w := wm.drew) (p := ⟨s + 1, 1, none⟩) o1 (fun e => by have := HLT.out; rcases e with e | e | e; (have e1 : s + 1 < b8 := e.2; have e2 : w0.heap.size ≤ s + 1 := e.1; omega); (have e : s + 1 = s + 1 + 1 := e; omega); (have e : s + 1 = s + 1 + 1 + 1 := e; omega))
  have p2 := up_cell (F := (fun x => (w0.heap.size ≤ x ∧ x < b8) ∨ x = s + 1 + 1 ∨ x = s + 1 + 1 + 1)) (w := wm.drew) (p := ⟨s + 1, 2, none⟩) o2 (fun e => by have := HLT.out; rcases e with e | e | e; (have e1 : s + 1 < b8 := e.2; have e2 : w0.heap.size ≤ s + 1 := e.1; omega); (have e : s + 1 = s + 1 + 1 := e; omega); (have e : s + 1 = s + 1 + 1 + 1 := e; omega))
  have p3 := up_cell (F := (fun x => (w0.heap.size ≤ x ∧ x < b8) ∨ x = s + 1 + 1 ∨ x = s + 1 + 1 + 1)) (w := wm.drew) (p := ⟨s + 1, 3, none⟩) o3 (fun e => by have := HLT.out; rcases e with e | e | e; (have e1 : s + 1 < b8 := e.2; have e2 : w0.heap.size ≤ s + 1 := e.1; omega); (have e : s + 1 = s + 1 + 1 := e; omega); (have e : s + 1 = s + 1 + 1 + 1 := e; omega))
  have p4 := up_cell (F := (fun x => (w0.heap.size ≤ x ∧ x < b8) ∨ x = s + 1 + 1 ∨ x = s + 1 + 1 + 1)) (w := wm.drew) (p := ⟨s + 1, 4, none⟩) o4 (fun e => by have := HLT.out; rcases e with e | e | e; (have e1 : s + 1 < b8 := e.2; have e2 : w0.heap.size ≤ s + 1 := e.1; omega); (have e : s + 1 = s + 1 + 1 := e; omega); (have e : s + 1 = s + 1 + 1 + 1 := e; omega))
  have p5 := up_cell (F := (fun x => (w0.heap.size ≤ x ∧ x < b8) ∨ x = s + 1 + 1 ∨ x = s + 1 + 1 + 1)) (w := wm.drew) (p := ⟨s + 1, 5, none⟩) o5 (fun e => by have := HLT.out; rcases e with e | e | e; (have e1 : s + 1 < b8 := e.2; have e2 : w0.heap.size ≤ s + 1 := e.1; omega); (have e : s + 1 = s + 1 + 1 := e; omega); (have e : s + 1 = s + 1 + 1 + 1 := e; omega))
  have hle8 := (HB8.out.grow HGM.out.drew).lt
  refine wp_region_tree (Kept (fun x => x = s + 1 + 1 ∨ x = s + 1 + 1 + 1)) (Kept (fun x => (w0.heap.size ≤ x ∧ x < b8) ∨ x = s + 1 + 1 ∨ x = s + 1 + 1 + 1)) (kept_refl _) (kept_trans _) (kept_refl _) (kept_trans _) (fun _ _ h => h.mono fun _ _ x => .inr x) [8]
    (.look false [0, 1, 2, 3, 4, 5, 7] (.one true [6] 8 (.one false [] 9 (.one false [] 10 (.last false []))))) (by kernel_rfl) (by kernel_rfl) ?_
  refine tr_lookL fun K1 hK1 => ?_
  simp only [sel, List.map_cons, List.map_nil, List.getD_cons_succ, List.getD_cons_zero]
  repeat (go_big_quiet_step (fail))
  refine wpQuiet_nil (hK1 _ ?_)
  clear hK1 K1 q0 q1 q2 p0 p1 p2 p3 p4 p5
  have q6 := up_cell (F := (fun x => x = s + 1 + 1 ∨ x = s + 1 + 1 + 1)) (w := wm.drew) (p := ⟨gH, kc, none⟩) hrow (fun e => by
    have h1 := HLT.out
    have h2 : w0.heap.size ≤ gH := HPM.out.inG.2.2.1
    rcases e with e | e
    · have e : gH = s + 1 + 1 := e; omega
    · have e : gH = s + 1 + 1 + 1 := e; omega)
  refine tr_oneE fun K2 hK2 => ?_
  simp only [sel, List.map_cons, List.map_nil, List.getD_cons_succ, List.getD_cons_zero]
  repeat (go_big_quiet_step (fail))
  refine wpQuiet_nil ?_
  clear q6 hrow b0 b1 b2 o0 o1 o2 o3 o4 o5
  go_wp2_with (go_at_call 77; (with_reducible refine HST.out.mono ?_); rintro e w4 ⟨⟨rv, rfl, A, n, cap, rfl, hz, hA, hfz⟩, hpa, hk4⟩; have HZ := Lib.hid hz; have HFZ := Lib.hid hfz; have HA := Lib.hid hA; have HPA := Lib.hid hpa; have HK4 := Lib.hid hk4; clear hz hA hfz hpa hk4)
  refine norm_up (hK2 _ _ (Lr_late (by decide) (HK4.out.mono fun x _ h => .inl h)) ?_)
  clear hK2 K2 HST
  obtain ⟨RM, hrm⟩ : ∃ RM, RM = a.run (kc : Int) o := ⟨_, rfl⟩
  have HRM := Lib.hid hrm
  rw [← hrm] at HZ HPA ⊢
  clear hrm
  have HNG : Hid (∀ k, k < w0.heap.size → ¬ (w0.heap.size ≤ k ∧ k < b8)) := fun k h1 h2 => by omega
  have HZB := Lib.hid ((HF.out.zb.grow HGW.out.drew).kept HK4.out (HNG.out _ (by have := HLT.out; omega)))
  have HRB := Lib.hid ((HF.out.rb.grow HGW.out.drew).kept HK4.out (HNG.out _ HLT.out.1))
  have z0 := HZB.out.cell 0
  have z1 := HZB.out.cell 1
  have z2 := HZB.out.cell 2
  have zf := HZB.out.frozen
  simp only [List.getElem?_cons_zero, List.getElem?_cons_succ] at z0 z1 z2
  refine tr_oneL fun K3 hK3 => ?_
  simp only [sel, List.map_cons, List.map_nil, List.getD_cons_succ, List.getD_cons_zero]
  refine wpQuiet_nil ?_
  go_wp2
  refine norm_up (hK3 _ _ (Lr_early (by decide) (put3_kept w4 (s + 1 + 1) (.slice (some ⟨gT, 0, none⟩) z.nT cT') (.slice (some ⟨gB, 0, none⟩) z.nB cB') (.slice (some ⟨gH, 0, none⟩) z.nH cH') (fun x e => .inl e))) ?_)
  clear hK3 K3 z0 z1 z2 zf
  have HZ3 : Hid (Blk (((w4.setCell ⟨s + 1 + 1, 0, none⟩ (.slice (some ⟨gT, 0, none⟩) z.nT cT')).setCell ⟨s + 1 + 1, 1, none⟩ (.slice (some ⟨gB, 0, none⟩) z.nB cB')).setCell ⟨s + 1 + 1, 2, none⟩ (.slice (some ⟨gH, 0, none⟩) z.nH cH')) (s + 1 + 1) 64 [.slice (some ⟨gT, 0, none⟩) z.nT cT', .slice (some ⟨gB, 0, none⟩) z.nB cB', .slice (some ⟨gH, 0, none⟩) z.nH cH']) := put3_blk HZB.out
  have HK5 : Hid (Kept (fun x => x = s + 1 + 1) w4 (((w4.setCell ⟨s + 1 + 1, 0, none⟩ (.slice (some ⟨gT, 0, none⟩) z.nT cT')).setCell ⟨s + 1 + 1, 1, none⟩ (.slice (some ⟨gB, 0, none⟩) z.nB cB')).setCell ⟨s + 1 + 1, 2, none⟩ (.slice (some ⟨gH, 0, none⟩) z.nH cH'))) := put3_kept w4 (s + 1 + 1) _ _ _ (fun x e => e)
  have hrb : Blk (((w4.setCell ⟨s + 1 + 1, 0, none⟩ (.slice (some ⟨gT, 0, none⟩) z.nT cT')).setCell ⟨s + 1 + 1, 1, none⟩ (.slice (some ⟨gB, 0, none⟩) z.nB cB')).setCell ⟨s + 1 + 1, 2, none⟩ (.slice (some ⟨gH, 0, none⟩) z.nH cH')) (s + 1 + 1 + 1) 27 [.int .i64 0, .int .i64 0, .int .i64 0, .slice none 0 0] := HRB.out.kept HK5.out (fun e => by have e : s + 1 + 1 + 1 = s + 1 + 1 := e; omega)
  generalize ((w4.setCell ⟨s + 1 + 1, 0, none⟩ (.slice (some ⟨gT, 0, none⟩) z.nT cT')).setCell ⟨s + 1 + 1, 1, none⟩ (.slice (some ⟨gB, 0, none⟩) z.nB cB')).setCell ⟨s + 1 + 1, 2, none⟩ (.slice (some ⟨gH, 0, none⟩) z.nH cH') = w5 at HZ3 HK5 hrb ⊢
  have HRB5 := Lib.hid hrb
  have t0 := hrb.cell 0
  have t1 := hrb.cell 1
  have t2 := hrb.cell 2
  have t3 := hrb.cell 3
  have tf := hrb.frozen
  simp only [List.getElem?_cons_zero, List.getElem?_cons_succ] at t0 t1 t2 t3
  clear hrb
  refine tr_oneL fun K4 hK4 => ?_
  simp only [sel, List.map_cons, List.map_nil, List.getD_cons_succ, List.getD_cons_zero]
  refine wpQuiet_nil ?_
  go_wp2
  have HK6 := Lib.hid (put4_kept w5 (s + 1 + 1 + 1) (.int .i64 RM.1.c) (.int .i64 RM.1.p) (.int .i64 RM.1.h) (.slice A n cap))
  refine norm_up (hK4 _ _ (Lr_early (by decide) (HK6.out.mono fun x _ e => .inr e)) ?_)
  clear hK4 K4 t0 t1 t2 t3 tf
  refine tr_lastL fun K5 hK5 => ?_
  simp only [sel, List.map_nil]
  refine wpQuiet_nil (hK5 _ ?_)
  clear hK5 K5
  go_wp2
  have hz6 := HZ3.out.kept HK6.out (fun e => by have e : s + 1 + 1 = s + 1 + 1 + 1 := e; omega)
  have hr6 := put4_blk (x := .int .i64 RM.1.c) (y := .int .i64 RM.1.p) (z := .int .i64 RM.1.h) (d := .slice A n cap) HRB5.out
  have hg1 : Grow w w4 := (HF.out.gr.trans HGW.out.drew).then HK4.out fun k hk e => by have e : w0.heap.size ≤ k ∧ k < b8 := e; have := HF.out.gr.size; omega
  have hfin : Grow w (put4 w5 (s + 1 + 1 + 1) (.int .i64 RM.1.c) (.int .i64 RM.1.p) (.int .i64 RM.1.h) (.slice A n cap)) := (hg1.then HK5.out fun k hk e => by have := HSZ.out; have e : k = s + 1 + 1 := e; omega).then HK6.out fun k hk e => by have := HSZ.out; have e : k = s + 1 + 1 + 1 := e; omega
  have hpa := ((HPA.out.kept HK5.out (fun k hk e => HNG.out k (by have e : k = s + 1 + 1 := e; have := HLT.out; omega) hk)).kept HK6.out (fun k hk e => HNG.out k (by have e : k = s + 1 + 1 + 1 := e; have := HLT.out; omega) hk)).mono (X := fun k => w.heap.size ≤ k) fun k _ h => by have h : w0.heap.size ≤ k ∧ k < b8 := h; have := HF.out.gr.size; omega
  rw [HP.out]
  have hre : RePV (put4 w5 (s + 1 + 1 + 1) (.int .i64 RM.1.c) (.int .i64 RM.1.p) (.int .i64 RM.1.h) (.slice A n cap)) w.heap.size (.agg #[.int .i64 RM.1.c, .int .i64 RM.1.p, .int .i64 RM.1.h, .slice A n cap]) RM.1 := by
    refine ⟨A, n, cap, rfl, ⟨HZ.out.1, fun hn => ?_⟩, fun hn x e => ?_, ?_⟩
    · obtain ⟨b, off, e, hb, hc⟩ := HZ.out.2 hn
      have h1 : wm.drew.heap.size ≤ b := HA.out hn _ e
      have h2 := (HB8.out.grow HGM.out.drew).lt
      have h3 := HLT.out
      exact ⟨b, off, e, Nat.lt_of_lt_of_le hb (Nat.le_trans HK5.out.size HK6.out.size), fun j hj => HK6.out.cellN (HK5.out.cellN (hc j hj) (fun e => by have e : b = s + 1 + 1 := e; omega)) (fun e => by have e : b = s + 1 + 1 + 1 := e; omega)⟩
    · have h1 : wm.drew.heap.size ≤ x.block := HA.out hn _ e
      have h2 := (HF.out.gr.trans HGW.out.drew).size
      omega
    · have hbl : 0 < n → ∀ x, A = some x → x.block < w4.heap.size ∧ s + 1 + 1 + 1 < x.block := fun hn x e => by
        have h1 : wm.drew.heap.size ≤ x.block := HA.out hn _ e
        have h2 := (HB8.out.grow HGM.out.drew).lt
        have h3 := HLT.out
        exact ⟨sl_lt HZ.out hn e, by omega⟩
      exact (HFZ.out.kept HK5.out fun hn x e => ⟨(hbl hn x e).1, fun e2 => by have e2 : x.block = s + 1 + 1 := e2; have := (hbl hn x e).2; omega⟩).kept HK6.out fun hn x e => ⟨Nat.lt_of_lt_of_le (hbl hn x e).1 HK5.out.size, fun e2 => by have e2 : x.block = s + 1 + 1 + 1 := e2; have := (hbl hn x e).2; omega⟩
  have hmd : sval gT cT' gB cB' gH cH' a = .agg #[.slice (some ⟨gT, 0, none⟩) z.nT cT', .slice (some ⟨gB, 0, none⟩) z.nB cB', .slice (some ⟨gH, 0, none⟩) z.nH cH'] := by
    have e5 : z.nT = a.n ∧ z.nB = a.n ∧ z.nH = a.N := by rw [HZA.out]; exact ⟨rfl, rfl, rfl⟩
    rw [e5.1, e5.2.1, e5.2.2]
  rw [hmd] at hpa
  exact ret_st_res rfl rfl rfl hz6 hr6 rfl ⟨_, _, rfl, HRM.out ▸ hpa, HRM.out ▸ hre, hfin⟩
theorem mdo_any {a : Md} {v ov : Value} (hs : Seen w v (stOf a)) (g : MdM.Good a) (c : Int) (ho : OpV w w.heap.size ov o) (h63 : o.o ≤ 9223372036854775807) : Calls Tryz.prog 26 #[v, .int .i64 c, ov] w (DoP a c o w) := by
  obtain ⟨AT, cT, AB, cB, AH, cH, rfl, hp⟩ := hs
  obtain ⟨D, dl, dc, rfl, hd, hby, _, _⟩ := ho
  by_cases h0 : c < 0
  · exact do_c0 hp (good_few g) c rfl g h0
  · by_cases h1 : (a.N : Int) ≤ c
    · exact do_c1 hp (good_few g) c rfl g (by omega) h1
    · obtain ⟨kc, rfl⟩ := Int.eq_ofNat_of_zero_le (show 0 ≤ c by omega)
      exact do_in hp (good_few g) _ rfl g (kc := kc) (by show kc < a.N; omega) rfl h63 hd hby
end
end Go.Proofs.YtbnkpnllgoghnaaGreat.PmE

namespace Go.Proofs.YtbnkpnllgoghnaaGreat.PmF
open Go.ChangeShapes Go.WideShapes Go.ChangeAt Go.RowKit
open Go.Proofs.YtbnkpnllgoghnaaGreat.Mem Go.Proofs.YtbnkpnllgoghnaaGreat.Blk Go.Proofs.YtbnkpnllgoghnaaGreat.Cells Go.Proofs.YtbnkpnllgoghnaaGreat.Orow Go.Proofs.YtbnkpnllgoghnaaGreat.GrC Go.Proofs.YtbnkpnllgoghnaaGreat.MdM Go.Proofs.YtbnkpnllgoghnaaGreat.MdC Go.Proofs.YtbnkpnllgoghnaaGreat.MdD Go.Proofs.YtbnkpnllgoghnaaGreat.PmC Go.Proofs.YtbnkpnllgoghnaaGreat.PmM Go.Proofs.YtbnkpnllgoghnaaGreat.PmS Go.Proofs.YtbnkpnllgoghnaaGreat.PmE Go.Proofs.YtbnkpnllgoghnaaGreat.PmN Go.Proofs.YtbnkpnllgoghnaaGreat.PmP Go.Proofs.YtbnkpnllgoghnaaGreat.Stages
section
variable {w w' : World} {G : Nat → Prop} {A A' AT AB AH D : Option Addr} {n n' m m' nT cT nB cB nH cH dl dc : Nat} {zs ys d rd : List Int} {c p h c' p' h' rc rp rh : Int} {a U : Md} {R : Re}
set_option maxHeartbeats 2000000 in
theorem sameRes_any (hz : Sl w w.heap.size .u8 A n zs) (hy : Sl w w.heap.size .u8 A' n' ys) (bz : Bytes zs) (by' : Bytes ys) : Calls Tryz.prog 27 #[.agg #[.int .i64 c, .int .i64 p, .int .i64 h, .slice A n m], .agg #[.int .i64 c', .int .i64 p', .int .i64 h', .slice A' n' m']] w (Tells (c = c' ∧ p = p' ∧ h = h' ∧ zs = ys) w) := by
  have hb := Blk.new w 27 [.int .i64 c, .int .i64 p, .int .i64 h, .slice A n m]
  have hg : Grow w (w.alloc (.cells #[.int .i64 c, .int .i64 p, .int .i64 h, .slice A n m] 27)) := (Kept.refl _ _).alloc _
  have hz1 : (w.alloc (.cells #[.int .i64 c, .int .i64 p, .int .i64 h, .slice A n m] 27)).heap.size = w.heap.size + 1 := by simp
  have hb2 := Blk.new (w.alloc (.cells #[.int .i64 c, .int .i64 p, .int .i64 h, .slice A n m] 27)) 27 [.int .i64 c', .int .i64 p', .int .i64 h', .slice A' n' m']
  have hg2 : Grow (w.alloc (.cells #[.int .i64 c, .int .i64 p, .int .i64 h, .slice A n m] 27)) ((w.alloc (.cells #[.int .i64 c, .int .i64 p, .int .i64 h, .slice A n m] 27)).alloc (.cells #[.int .i64 c', .int .i64 p', .int .i64 h', .slice A' n' m'] 27)) := (Kept.refl _ _).alloc _
  rw [hz1] at hb2
  have hb1 := hb.grow hg2
  have HG0 := Lib.hid (hg.trans hg2)
  have HE := Lib.hid (equal_bytes (c := m) (c' := m') (sl_grow hz HG0.out) (sl_grow hy HG0.out) bz by')
  have s0 := hb1.cell 0
  have s1 := hb1.cell 1
  have s2 := hb1.cell 2
  have s3 := hb1.cell 3
  have t0 := hb2.cell 0
  have t1 := hb2.cell 1
  have t2 := hb2.cell 2
  have t3 := hb2.cell 3
  simp only [List.getElem?_cons_zero, List.getElem?_cons_succ] at s0 s1 s2 s3 t0 t1 t2 t3
  clear hb hg hz1 hb2 hg2 hb1 hz hy bz by'
  obtain ⟨P, hP⟩ : ∃ P, P = Tells (c = c' ∧ p = p' ∧ h = h' ∧ zs = ys) w := ⟨_, rfl⟩
  have HP := Lib.hid hP
  rw [← hP]
  clear hP
  by_cases e1 : c = c'
  · subst e1
    by_cases e2 : p = p'
    · subst e2
      by_cases e3 : h = h'
      · subst e3
        go_enter Tryz.func27, Tryz.ntmps27
        go_upto_region 1 with (fail)
        generalize (w.alloc (.cells #[.int .i64 c, .int .i64 p, .int .i64 h, .slice A n m] 27)).alloc (.cells #[.int .i64 c, .int .i64 p, .int .i64 h, .slice A' n' m'] 27) = w0 at *
        go_wp2_with (go_at_call 78; (with_reducible refine HE.out.mono ?_); rintro e w1 ⟨⟨b1, rfl, hb1⟩, hg1⟩; have HG1 := Lib.hid hg1; have HB1 := Lib.hid hb1; clear hg1 hb1)
        rw [HP.out]
        exact ⟨⟨b1, rfl, fun x => ⟨trivial, trivial, trivial, HB1.out.1 x⟩, fun x => HB1.out.2 x.2.2.2⟩, HG0.out.trans HG1.out⟩
      · have HN : Hid (¬ (c = c ∧ p = p ∧ h = h' ∧ zs = ys)) := fun x => e3 x.2.2.1
        have hb : (h == h') = false := by simpa using e3
        clear e3
        go_enter Tryz.func27, Tryz.ntmps27
        go_upto_region 1 with (fail)
        generalize (w.alloc (.cells #[.int .i64 c, .int .i64 p, .int .i64 h, .slice A n m] 27)).alloc (.cells #[.int .i64 c, .int .i64 p, .int .i64 h', .slice A' n' m'] 27) = w0 at *
        go_wp2
        rw [HP.out]
        exact Tells.no HN.out HG0.out
    · have HN : Hid (¬ (c = c ∧ p = p' ∧ h = h' ∧ zs = ys)) := fun x => e2 x.2.1
      have hb : (p == p') = false := by simpa using e2
      clear e2
      go_enter Tryz.func27, Tryz.ntmps27
      go_upto_region 1 with (fail)
      generalize (w.alloc (.cells #[.int .i64 c, .int .i64 p, .int .i64 h, .slice A n m] 27)).alloc (.cells #[.int .i64 c, .int .i64 p', .int .i64 h', .slice A' n' m'] 27) = w0 at *
      go_wp2
      rw [HP.out]
      exact Tells.no HN.out HG0.out
  · have HN : Hid (¬ (c = c' ∧ p = p' ∧ h = h' ∧ zs = ys)) := fun x => e1 x.1
    have hb : (c == c') = false := by simpa using e1
    clear e1
    go_enter Tryz.func27, Tryz.ntmps27
    go_upto_region 1 with (fail)
    generalize (w.alloc (.cells #[.int .i64 c, .int .i64 p, .int .i64 h, .slice A n m] 27)).alloc (.cells #[.int .i64 c', .int .i64 p', .int .i64 h', .slice A' n' m'] 27) = w0 at *
    go_wp2
    rw [HP.out]
    exact Tells.no HN.out HG0.out
/-- What a call of Do makes and tells, in parts. -/
def DoQ (rc rp rh : Int) (rd : List Int) (U : Md) (w : World) (e : Ending) (w' : World) : Prop := ∃ AT nT cT AB nB cB AH nH cH A n cap, e = .returned (.tuple #[.agg #[.slice AT nT cT, .slice AB nB cB, .slice AH nH cH], .agg #[.int .i64 rc, .int .i64 rp, .int .i64 rh, .slice A n cap]]) ∧ PAt w' (w.heap.size ≤ ·) (.agg #[.slice AT nT cT, .slice AB nB cB, .slice AH nH cH]) U ∧ (Sl w' w'.heap.size .u8 A n rd ∧ (0 < n → ∀ x, A = some x → w.heap.size ≤ x.block) ∧ PmT.Fz w' A n) ∧ Grow w w'
theorem pat_form {v : Value} (h : PAt w G v a) : ∃ AT cT AB cB AH cH, v = .agg #[.slice AT a.n cT, .slice AB a.n cB, .slice AH a.N cH] := by
  obtain ⟨gT, cT, gB, cB, gH, cH, qb, cb, q, cp, rfl, _⟩ := h.mem
  exact ⟨_, _, _, _, _, _, rfl⟩
theorem t_do {v : Value} (hs : PAt w G v a) (c k p h o n : Int) (hd : Sl w w.heap.size .u8 D dl d) (hb : Bytes d) (hl : dl ≤ dc) (hm : dc ≤ maxLen) (h63 : o ≤ 9223372036854775807) (hr : a.run c ⟨k, p, h, o, n, d⟩ = (⟨rc, rp, rh, rd⟩, U)) :
    Calls Tryz.prog 26 #[v, .int .i64 c, .agg #[.int .i64 k, .int .i64 p, .int .i64 h, .int .i64 o, .int .i64 n, .slice D dl dc]] w (DoQ rc rp rh rd U w) := by
  refine (mdo_any hs.seen hs.good c (o := ⟨k, p, h, o, n, d⟩) ⟨D, dl, dc, rfl, hd, hb, hl, hm⟩ h63).mono fun e w' hq => ?_
  unfold DoP at hq
  rw [hr] at hq
  obtain ⟨sv, rv, rfl, hpa, ⟨A, n, cap, rfl, hz, hA, hfz⟩, hg⟩ := hq
  obtain ⟨AT, cT, AB, cB, AH, cH, rfl⟩ := pat_form hpa
  exact ⟨_, _, _, _, _, _, _, _, _, _, _, _, rfl, hpa, ⟨hz, hA, hfz⟩, hg⟩
theorem t_pins {v : Value} {z : Int} (hs : PAt w G v a) (p : Int) (hz : (a.pins p : Int) = z) : Calls Tryz.prog 28 #[v, .int .i64 p] w fun e w' => e = .returned (.int .i64 z) ∧ Grow w w' := by
  subst hz
  obtain ⟨AT, cT, AB, cB, AH, cH, rfl, hp⟩ := hs.seen
  exact ppins_any hp hs.good p
/-! ### Boxes of a law's variables -/
/-- Box b holds the state a; block m is none of the state's. -/
def SB (w : World) (m b : Nat) (a : Md) : Prop := ∃ AT nT cT AB nB cB AH nH cH, Blk w b 64 [.slice AT nT cT, .slice AB nB cB, .slice AH nH cH] ∧ PAt w (fun k => k ≠ m) (.agg #[.slice AT nT cT, .slice AB nB cB, .slice AH nH cH]) a
theorem SB.kept {m b : Nat} (h : SB w m b a) (hk : Kept (fun k => k = m) w w') (hb : b ≠ m) : SB w' m b a := by
  obtain ⟨AT, nT, cT, AB, nB, cB, AH, nH, cH, h1, h2⟩ := h
  exact ⟨AT, nT, cT, AB, nB, cB, AH, nH, cH, h1.kept hk hb, h2.kept hk fun k x e => x e⟩
theorem SB.grow {m b : Nat} (h : SB w m b a) (hk : Grow w w') : SB w' m b a := by
  obtain ⟨AT, nT, cT, AB, nB, cB, AH, nH, cH, h1, h2⟩ := h
  exact ⟨AT, nT, cT, AB, nB, cB, AH, nH, cH, h1.grow hk, h2.grow hk⟩
theorem SB.good {m b : Nat} (h : SB w m b a) : MdM.Good a := by
  obtain ⟨AT, nT, cT, AB, nB, cB, AH, nH, cH, h1, h2⟩ := h
  exact h2.good
theorem SB.lt {m b : Nat} (h : SB w m b a) : b < w.heap.size := by
  obtain ⟨AT, nT, cT, AB, nB, cB, AH, nH, cH, h1, h2⟩ := h
  exact h1.lt
/-- The overwritten box has three cells, which may be written. -/
theorem SB.box {m b : Nat} (h : SB w m b a) : ∃ x y z, Blk w b 64 [x, y, z] := by
  obtain ⟨AT, nT, cT, AB, nB, cB, AH, nH, cH, h1, h2⟩ := h
  exact ⟨_, _, _, h1⟩
section
variable {X1 X2 X3 : Option Addr} {n1 n2 n3 c1 c2 c3 : Nat}
end
end
end Go.Proofs.YtbnkpnllgoghnaaGreat.PmF

namespace Go.Proofs.YtbnkpnllgoghnaaGreat.Told13
open Go.ChangeShapes Go.WideShapes Go.ChangeAt Go.RowKit
open Go.Proofs.YtbnkpnllgoghnaaGreat.Mem Go.Proofs.YtbnkpnllgoghnaaGreat.Blk Go.Proofs.YtbnkpnllgoghnaaGreat.Cells Go.Proofs.YtbnkpnllgoghnaaGreat.Orow Go.Proofs.YtbnkpnllgoghnaaGreat.GrC Go.Proofs.YtbnkpnllgoghnaaGreat.MdM Go.Proofs.YtbnkpnllgoghnaaGreat.MdC Go.Proofs.YtbnkpnllgoghnaaGreat.MdD Go.Proofs.YtbnkpnllgoghnaaGreat.PmC Go.Proofs.YtbnkpnllgoghnaaGreat.PmM Go.Proofs.YtbnkpnllgoghnaaGreat.PmS Go.Proofs.YtbnkpnllgoghnaaGreat.PmE Go.Proofs.YtbnkpnllgoghnaaGreat.PmN Go.Proofs.YtbnkpnllgoghnaaGreat.PmF Go.Proofs.YtbnkpnllgoghnaaGreat.Stages
def s0 : Md := fresh 2 1
def o1 : MdOp := ⟨1, 0, 0, 0, 0, []⟩
def s1 : Md := (s0.run 0 o1).2
def o2 : MdOp := ⟨4, 0, 0, 14, 0, [120, 121]⟩
def s2 : Md := (s1.run 0 o2).2
def o3 : MdOp := ⟨3, 0, 0, 13, 3, []⟩
def o4 : MdOp := ⟨8, 0, 0, 0, 0, []⟩
def o5 : MdOp := ⟨5, 0, 0, 0, 0, []⟩
def s3 : Md := (s2.run 0 o5).2
theorem p1 : s0.run 0 ⟨1, 0, 0, 0, 0, []⟩ = (⟨0, 0, 0, []⟩, s1) := rfl
theorem p2 : s1.run 0 ⟨4, 0, 0, 14, 0, [120, 121]⟩ = (⟨0, 0, 0, []⟩, s2) := rfl
theorem p3 : s2.run 0 ⟨3, 0, 0, 13, 3, []⟩ = (⟨0, 0, 0, [0, 120, 121]⟩, s2) := rfl
theorem p4 : s2.run 0 ⟨8, 0, 0, 0, 0, []⟩ = (⟨7, 0, 0, []⟩, s2) := rfl
theorem p5 : s2.run 0 ⟨5, 0, 0, 0, 0, []⟩ = (⟨0, 0, 0, []⟩, s3) := rfl
theorem p6 : s3.run 0 ⟨3, 0, 0, 0, 0, []⟩ = (⟨5, 0, 0, []⟩, s3) := rfl
theorem q1 : ((s2.pins 0 : Nat) : Int) = 1 := rfl
theorem q2 : ((s3.pins 0 : Nat) : Int) = 0 := rfl
theorem e1 : true = true ↔ (stOf s3).same (stOf s3) := ⟨fun _ => same_refl _, fun _ => rfl⟩
theorem e2 : false = true ↔ (stOf s2).same (stOf s3) := by
  refine ⟨fun h => Bool.noConfusion h, fun h => ?_⟩
  have := h.H 0 (by decide)
  exact absurd this (by decide)
end Go.Proofs.YtbnkpnllgoghnaaGreat.Told13

namespace Go.Proofs.YtbnkpnllgoghnaaGreat.Law13
open Go.Proofs.YtbnkpnllgoghnaaGreat.MdM Go.Proofs.YtbnkpnllgoghnaaGreat.PmW
open Go.Proofs.YtbnkpnllgoghnaaGreat.HdM (lst hnd cnt sum lst_eq hnd_at hnd_none hnd_cases cnt_yes cnt_no cnt_le sum_le lst_at lst_le)
theorem cnt_none {f : Nat → Int} {p : Int} (h : ∀ i, f i ≠ p) : ∀ m, cnt f p m = 0
  | 0 => rfl
  | m + 1 => by show cnt f p m + (if f m = p then 1 else 0) = 0; rw [cnt_none h m, if_neg (h m)]
/-! ### Two pages, two clients; page 0 is there, and pinned by turns -/
end Go.Proofs.YtbnkpnllgoghnaaGreat.Law13

namespace Go.Proofs.YtbnkpnllgoghnaaGreat.Law13b
open Go.ChangeShapes Go.WideShapes Go.ChangeAt Go.RowKit
open Go.Proofs.YtbnkpnllgoghnaaGreat.Mem Go.Proofs.YtbnkpnllgoghnaaGreat.Blk Go.Proofs.YtbnkpnllgoghnaaGreat.Cells Go.Proofs.YtbnkpnllgoghnaaGreat.Orow Go.Proofs.YtbnkpnllgoghnaaGreat.MdM Go.Proofs.YtbnkpnllgoghnaaGreat.MdC Go.Proofs.YtbnkpnllgoghnaaGreat.MdD Go.Proofs.YtbnkpnllgoghnaaGreat.PmC Go.Proofs.YtbnkpnllgoghnaaGreat.PmF Go.Proofs.YtbnkpnllgoghnaaGreat.PmW Go.Proofs.YtbnkpnllgoghnaaGreat.Law13
section
variable {w : World} {a : Md} {X1 X2 X3 : Option Addr} {n1 n2 n3 c1 c2 c3 : Nat}
end
theorem two_box (w : World) (x y z c p h d : Value) :
    Blk ((w.alloc (.cells #[x, y, z] 64)).alloc (.cells #[c, p, h, d] 27)) w.heap.size 64 [x, y, z] ∧
    Blk ((w.alloc (.cells #[x, y, z] 64)).alloc (.cells #[c, p, h, d] 27)) (w.heap.size + 1) 27 [c, p, h, d] ∧
    Grow w ((w.alloc (.cells #[x, y, z] 64)).alloc (.cells #[c, p, h, d] 27)) := by
  have g1 : Grow w (w.alloc (.cells #[x, y, z] 64)) := (Kept.refl _ _).alloc _
  have b1 := Blk.new w 64 [x, y, z]
  have z1 : (w.alloc (.cells #[x, y, z] 64)).heap.size = w.heap.size + 1 := by simp
  generalize w.alloc (.cells #[x, y, z] 64) = u at *
  have g2 : Grow u (u.alloc (.cells #[c, p, h, d] 27)) := (Kept.refl _ _).alloc _
  have b2 := Blk.new u 27 [c, p, h, d]
  rw [z1] at b2
  exact ⟨b1.grow g2, b2, g1.trans g2⟩
theorem body_sl {w : World} {b c : Nat} {B : List Int} (h : OR w b 5 1 c 16 (ucell B)) (hl : B.length = 16) : Sl w w.heap.size .u8 (some ⟨b, 0, none⟩) 16 B :=
  ⟨hl, fun _ => ⟨b, 0, rfl, h.lt, fun j hj => by rw [Nat.zero_add]; exact h.cell (by omega)⟩⟩
/-! ### ModelReads -/
def R0 : Md := fresh 3 2
def R1 : Md := (R0.run 0 ⟨1, 0, 0, 0, 0, []⟩).2
def R2 : Md := (R1.run 1 ⟨2, 0, 0, 0, 0, []⟩).2
/-- Page 0 has the body D. -/
def R3 (D : List Int) : Md := R2.putB 0 D
def R4 (D : List Int) : Md := ((R3 D).run 0 ⟨5, 0, 0, 0, 0, []⟩).2
def R5 (D : List Int) : Md := ((R4 D).run 1 ⟨5, 0, 0, 0, 0, []⟩).2
def R6 (D : List Int) : Md := ((R5 D).run 0 ⟨8, 0, 0, 0, 0, []⟩).2
def R7 (D : List Int) : Md := ((R6 D).run 0 ⟨1, 0, 0, 0, 0, []⟩).2
variable {D d : List Int}
theorem r1 : R0.run 0 ⟨1, 0, 0, 0, 0, []⟩ = (⟨0, 0, 0, []⟩, R1) := rfl
theorem r2 : R1.run 1 ⟨2, 0, 0, 0, 0, []⟩ = (⟨0, 0, 0, []⟩, R2) := rfl
theorem write_at {a : Md} {c u : Nat} (hc : c < a.N) (hh : a.held (c : Int) 0 = 0) (hu : u + d.length ≤ 16) : a.run (c : Int) ⟨4, 0, 0, (u : Int), 0, d⟩ = (⟨0, 0, 0, []⟩, a.putB 0 (MdM.splice (a.B 0) u d)) := by
  have e := run_4 (a := a) (k := c) (o := ⟨4, 0, 0, (u : Int), 0, d⟩) hc rfl
  have h := PmU.onHand_good (a := a) (f := a.write (u : Int) d) (c := (c : Int)) (h := 0) (p := 0) hh
  refine e.trans (h.trans ?_)
  have hw := PmV.write_good (a := a) (o := ⟨4, 0, 0, (u : Int), 0, d⟩) (p := 0) ⟨by show (0 : Int) ≤ (u : Int); omega, by omega, by show (d.length : Int) ≤ 16 - (u : Int); omega⟩
  refine hw.trans ?_
  rw [Int.toNat_natCast]
  rfl
theorem read_at {a : Md} {c f n : Nat} (hc : c < a.N) (hh : a.held (c : Int) 0 = 0) (hu : f + n ≤ 16) : a.run (c : Int) ⟨3, 0, 0, (f : Int), (n : Int), []⟩ = (⟨0, 0, 0, ((a.B 0).drop f).take n⟩, a) := by
  have e := run_3 (a := a) (k := c) (o := ⟨3, 0, 0, (f : Int), (n : Int), []⟩) hc rfl
  have h := PmU.onHand_good (a := a) (f := a.read (f : Int) (n : Int)) (c := (c : Int)) (h := 0) (p := 0) hh
  refine e.trans (h.trans ?_)
  have hw := PmV.read_good (a := a) (o := ⟨3, 0, 0, (f : Int), (n : Int), []⟩) (p := 0) ⟨by show (0 : Int) ≤ (f : Int); omega, by show (0 : Int) ≤ (n : Int); omega, by show (n : Int) ≤ 16 - (f : Int); omega⟩
  refine hw.trans ?_
  rw [Int.toNat_natCast, Int.toNat_natCast]
theorem r3 {u : Nat} (hu : u + d.length ≤ 16) : R2.run 0 ⟨4, 0, 0, (u : Int), 0, d⟩ = (⟨0, 0, 0, []⟩, R3 (MdM.splice zeros u d)) := write_at (a := R2) (c := 0) (by decide) rfl hu
theorem r4 : (R3 D).run 0 ⟨5, 0, 0, 0, 0, []⟩ = (⟨0, 0, 0, []⟩, R4 D) := by kernel_rfl
theorem r5 : (R4 D).run 1 ⟨5, 0, 0, 0, 0, []⟩ = (⟨0, 0, 0, []⟩, R5 D) := by kernel_rfl
theorem r6 : (R5 D).run 0 ⟨8, 0, 0, 0, 0, []⟩ = (⟨0, 0, 0, []⟩, R6 D) := by kernel_rfl
theorem r7 : (R6 D).run 0 ⟨1, 0, 0, 0, 0, []⟩ = (⟨0, 0, 0, []⟩, R7 D) := by kernel_rfl
theorem r8 : (R7 D).run 0 ⟨3, 0, 0, 0, 16, []⟩ = (⟨0, 0, 0, zeros⟩, R7 D) := by kernel_rfl
/-! ### ModelOwn -/
def O0 : Md := fresh 2 1
def O1 : Md := (O0.run 0 ⟨1, 0, 0, 0, 0, []⟩).2
def O2 (D : List Int) : Md := O1.putB 0 D
theorem w1 : O0.run 0 ⟨1, 0, 0, 0, 0, []⟩ = (⟨0, 0, 0, []⟩, O1) := rfl
theorem w2 (hu : d.length ≤ 16) : O1.run 0 ⟨4, 0, 0, 0, 0, d⟩ = (⟨0, 0, 0, []⟩, O2 (MdM.splice zeros 0 d)) := write_at (a := O1) (c := 0) (u := 0) (by decide) rfl (by omega)
theorem w3 (hD : D.length = 16) : (O2 D).run 0 ⟨3, 0, 0, 0, 16, []⟩ = (⟨0, 0, 0, D⟩, O2 D) := by
  have := read_at (a := O2 D) (c := 0) (f := 0) (n := 16) (by show 0 < 1; omega) rfl (by omega)
  refine this.trans ?_
  have e : ((O2 D).B 0).drop 0 = D := rfl
  rw [e, List.take_of_length_le (by omega)]
end Go.Proofs.YtbnkpnllgoghnaaGreat.Law13b
