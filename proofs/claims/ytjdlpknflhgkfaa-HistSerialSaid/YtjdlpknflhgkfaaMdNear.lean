/-
  The laws' Near: a call near what may be.
-/
import Derived.Test.YtjdlpknflhgkfaaMdMk
namespace Go.Proofs.Ytjdlpknflhgkfaa.MdNear
open Go.ChangeShapes Go.WideShapes Go.ChangeAt Go.RowKit
open Go.Proofs.Ytjdlpknflhgkfaa.Mem Go.Proofs.Ytjdlpknflhgkfaa.Blk Go.Proofs.Ytjdlpknflhgkfaa.Cells Go.Proofs.Ytjdlpknflhgkfaa.Orow Go.Proofs.Ytjdlpknflhgkfaa.Stages Go.Proofs.Ytjdlpknflhgkfaa.Trees

theorem call_size : (Try.prog.info? 55).map (·.size) = some 7 := by kernel_rfl
theorem load_call {w : World} {g : Nat} {t : TypeId} {a b c d e f x : Value} (hg : Blk w g t [a, b, c, d, e, f, x]) : (loadVar 55 ⟨g, 0, none⟩).run Try.prog w = .ok (.agg #[a, b, c, d, e, f, x]) w :=
  run_loadVar_row w g t 55 #[a, b, c, d, e, f, x] (0, 0) _ hg Try.underlying55 rfl call_size
theorem ret_call {w : World} {fn : Func} {R : Ending → World → Prop} {act : Act} {p g : Nat} {t : TypeId} {a b c d e f x : Value} (h : fn.results = #[.cell p 55]) (hp : act.tmps.getD p undef = .pointer (some ⟨g, 0, none⟩)) (hg : Blk w g t [a, b, c, d, e, f, x]) (hd : act.defers = []) (hR : R (.returned (.agg #[a, b, c, d, e, f, x])) w) : bodyPost Try.prog fn R .ret act w := by
  refine bodyPost_ret ?_ hd hR
  have hp' : act.tmps[p]?.getD undef = .pointer (some ⟨g, 0, none⟩) := by simpa using hp
  simp [results, h, hp', asAddr, load_call hg]
theorem store_call {w : World} {g : Nat} {t : TypeId} {a b c d e f x a' b' c' d' e' f' x' : Value} (hg : Blk w g t [a', b', c', d', e', f', x']) :
    Blk (w.setRow g #[a, b, c, d, e, f, x]) g t [a, b, c, d, e, f, x] ∧ Kept (fun k => k = g) w (w.setRow g #[a, b, c, d, e, f, x]) :=
  ⟨setRow_heap w g _ #[a, b, c, d, e, f, x] t _ hg, ⟨rfl, rfl, rfl, by simp, fun i hi hf => setRow_other w g i _ hf⟩⟩
/-- What Near tells: a call whose parts are small. -/
def NearP (P C : Nat) (A : Option Addr) (len cap : Nat) (w : World) (e : Ending) (w' : World) : Prop :=
  ∃ c k p h o n len' : Nat, e = .returned (.agg #[.int .i64 (c : Int), .int .i64 (k : Int), .int .i64 (p : Int), .int .i64 (h : Int), .int .i64 (o : Int), .int .i64 (n : Int), .slice A len' cap]) ∧ c < C ∧ 1 ≤ k ∧ k ≤ 8 ∧ p < P ∧ h < 3 ∧ o < 8 ∧ n < 9 ∧ len' = min len 8 ∧ Grow w w'
theorem three_new (w : World) (c k p h o n s : Value) :
    Grow w (((w.alloc (.cells #[c, k, p, h, o, n, s] 55)).alloc (.cells #[.int .i64 0, .int .i64 0, .int .i64 0, .int .i64 0, .int .i64 0, .int .i64 0, .slice none 0 0] 55)).alloc (.cells #[k, p, h, o, n, s] 25)) ∧
    Blk (((w.alloc (.cells #[c, k, p, h, o, n, s] 55)).alloc (.cells #[.int .i64 0, .int .i64 0, .int .i64 0, .int .i64 0, .int .i64 0, .int .i64 0, .slice none 0 0] 55)).alloc (.cells #[k, p, h, o, n, s] 25)) w.heap.size 55 [c, k, p, h, o, n, s] ∧
    Blk (((w.alloc (.cells #[c, k, p, h, o, n, s] 55)).alloc (.cells #[.int .i64 0, .int .i64 0, .int .i64 0, .int .i64 0, .int .i64 0, .int .i64 0, .slice none 0 0] 55)).alloc (.cells #[k, p, h, o, n, s] 25)) (w.heap.size + 1) 55 [.int .i64 0, .int .i64 0, .int .i64 0, .int .i64 0, .int .i64 0, .int .i64 0, .slice none 0 0] ∧
    Blk (((w.alloc (.cells #[c, k, p, h, o, n, s] 55)).alloc (.cells #[.int .i64 0, .int .i64 0, .int .i64 0, .int .i64 0, .int .i64 0, .int .i64 0, .slice none 0 0] 55)).alloc (.cells #[k, p, h, o, n, s] 25)) (w.heap.size + 1 + 1) 25 [k, p, h, o, n, s] := by
  have g1 : Grow w (w.alloc (.cells #[c, k, p, h, o, n, s] 55)) := (Kept.refl _ _).alloc _
  have b1 := Blk.new w 55 [c, k, p, h, o, n, s]
  have z1 : (w.alloc (.cells #[c, k, p, h, o, n, s] 55)).heap.size = w.heap.size + 1 := by simp
  generalize w.alloc (.cells #[c, k, p, h, o, n, s] 55) = u at *
  have g2 : Grow u (u.alloc (.cells #[.int .i64 0, .int .i64 0, .int .i64 0, .int .i64 0, .int .i64 0, .int .i64 0, .slice none 0 0] 55)) := (Kept.refl _ _).alloc _
  have b2 := Blk.new u 55 [.int .i64 0, .int .i64 0, .int .i64 0, .int .i64 0, .int .i64 0, .int .i64 0, .slice none 0 0]
  have z2 : (u.alloc (.cells #[.int .i64 0, .int .i64 0, .int .i64 0, .int .i64 0, .int .i64 0, .int .i64 0, .slice none 0 0] 55)).heap.size = u.heap.size + 1 := by simp
  generalize u.alloc (.cells #[.int .i64 0, .int .i64 0, .int .i64 0, .int .i64 0, .int .i64 0, .int .i64 0, .slice none 0 0] 55) = v at *
  have g3 : Grow v (v.alloc (.cells #[k, p, h, o, n, s] 25)) := (Kept.refl _ _).alloc _
  have b3 := Blk.new v 25 [k, p, h, o, n, s]
  rw [z1] at b2 z2
  rw [z2] at b3
  exact ⟨(g1.trans g2).trans g3, (b1.grow g2).grow g3, b2.grow g3, b3⟩
set_option maxRecDepth 4000 in
set_option maxHeartbeats 1000000 in
theorem near_any (c k p h o n : Int) (A : Option Addr) (len cap P C : Nat) (hP : 1 ≤ P) (hC : 1 ≤ C) (hPb : P ≤ 48) (hCb : C ≤ 6) (hl : len ≤ cap) (w : World) :
    Calls Try.prog 26 #[.agg #[.int .i64 c, .int .i64 k, .int .i64 p, .int .i64 h, .int .i64 o, .int .i64 n, .slice A len cap], .int .i64 (P : Int), .int .i64 (C : Int)] w (NearP P C A len cap w) := by
  obtain ⟨hg, hb1, hb2, hb3⟩ := three_new w (.int .i64 c) (.int .i64 k) (.int .i64 p) (.int .i64 h) (.int .i64 o) (.int .i64 n) (.slice A len cap)
  have HG := Lib.hid hg
  have HB1 := Lib.hid hb1
  have HB2 := Lib.hid hb2
  have HB3 := Lib.hid hb3
  obtain ⟨c', hc, hcr⟩ := tmod_nat c C (by omega)
  obtain ⟨k', hk, hkr⟩ := tmod_nat k 8 (by omega)
  obtain ⟨p', hp, hpr⟩ := tmod_nat p P (by omega)
  obtain ⟨h', hh, hhr⟩ := tmod_nat h 3 (by omega)
  obtain ⟨o', ho, hor⟩ := tmod_nat o 8 (by omega)
  obtain ⟨n', hn, hnr⟩ := tmod_nat n 9 (by omega)
  replace hk : (IntKind.u64.wrap k).tmod 8 = (k' : Int) := hk
  replace hh : (IntKind.u64.wrap h).tmod 3 = (h' : Int) := hh
  replace ho : (IntKind.u64.wrap o).tmod 8 = (o' : Int) := ho
  replace hn : (IntKind.u64.wrap n).tmod 9 = (n' : Int) := hn
  have wP : IntKind.u64.wrap (P : Int) = (P : Int) := IntWalk.u64_in _ (by omega)
  have wC : IntKind.u64.wrap (C : Int) = (C : Int) := IntWalk.u64_in _ (by omega)
  have ic : IntKind.i64.wrap (c' : Int) = (c' : Int) := IntWalk.i64_in _ (by omega)
  have ik : IntKind.i64.wrap (k' : Int) = (k' : Int) := IntWalk.i64_in _ (by omega)
  have ik1 : IntKind.i64.wrap (1 + (k' : Int)) = 1 + (k' : Int) := IntWalk.i64_in _ (by omega)
  have ip : IntKind.i64.wrap (p' : Int) = (p' : Int) := IntWalk.i64_in _ (by omega)
  have ih : IntKind.i64.wrap (h' : Int) = (h' : Int) := IntWalk.i64_in _ (by omega)
  have io : IntKind.i64.wrap (o' : Int) = (o' : Int) := IntWalk.i64_in _ (by omega)
  have i2 : IntKind.i64.wrap (n' : Int) = (n' : Int) := IntWalk.i64_in _ (by omega)
  have nP : ((P : Int) == 0) = false := by rw [beq_eq_false_iff_ne]; omega
  have nC : ((C : Int) == 0) = false := by rw [beq_eq_false_iff_ne]; omega
  have nP' : ¬ ((P : Int) = 0) := by omega
  have nC' : ¬ ((C : Int) = 0) := by omega
  obtain ⟨Q, hQ⟩ : ∃ Q, Q = NearP P C A len cap w := ⟨_, rfl⟩
  have HQ := Lib.hid hQ
  rw [← hQ]
  have HR := Lib.hid (And.intro hcr (And.intro hkr (And.intro hpr (And.intro hhr (And.intro hor hnr)))))
  clear hg hb1 hb2 hb3 hQ hcr hkr hpr hhr hor hnr
  go_enter Try.func26, Try.ntmps26
  go_upto_region 2 with (fail)
  generalize ((w.alloc (.cells #[.int .i64 c, .int .i64 k, .int .i64 p, .int .i64 h, .int .i64 o, .int .i64 n, .slice A len cap] 55)).alloc (.cells #[.int .i64 0, .int .i64 0, .int .i64 0, .int .i64 0, .int .i64 0, .int .i64 0, .slice none 0 0] 55)).alloc (.cells #[.int .i64 k, .int .i64 p, .int .i64 h, .int .i64 o, .int .i64 n, .slice A len cap] 25) = w0 at HG HB1 HB2 HB3 ⊢
  have HS0 : Hid (w.heap.size = w.heap.size) := rfl
  obtain ⟨s, hs⟩ : ∃ s, s = w.heap.size := ⟨_, rfl⟩
  have HS := Lib.hid hs
  rw [← hs] at HB1 HB2 HB3 ⊢
  clear hs HS0
  have c0 := HB3.out.cell 0
  have cf := HB3.out.frozen 0
  simp only [List.getElem?_cons_zero] at c0
  go_upto_region 3 with (fail)
  clear c0 cf
  have HB4 : Hid (Blk (w0.setCell ⟨s + 1 + 1, 0, none⟩ (.int .i64 (1 + (k' : Int)))) (s + 1 + 1) 25 [.int .i64 (1 + (k' : Int)), .int .i64 p, .int .i64 h, .int .i64 o, .int .i64 n, .slice A len cap]) := HB3.out.set 0 _
  have HK4 : Hid (Kept (· = s + 1 + 1) w0 (w0.setCell ⟨s + 1 + 1, 0, none⟩ (.int .i64 (1 + (k' : Int))))) := kept_set w0 (s + 1 + 1) 0 _
  generalize w0.setCell ⟨s + 1 + 1, 0, none⟩ (.int .i64 (1 + (k' : Int))) = w1 at HB4 HK4 ⊢
  have c1 := HB4.out.cell 1
  have c2 := HB4.out.cell 2
  have cf : w1.drew.frozen? ⟨s + 1 + 1, 1, none⟩ = false := HB4.out.frozen 1
  simp only [List.getElem?_cons_zero, List.getElem?_cons_succ] at c1 c2
  have q1 := up_cell (F := fun _ => False) (w := w1.drew) (p := ⟨s + 1 + 1, 1, none⟩) c1 id
  have q2 := up_cell (F := fun _ => False) (w := w1.drew) (p := ⟨s + 1 + 1, 2, none⟩) c2 id
  have HB5 : Hid (Blk (w1.setCell ⟨s + 1 + 1, 1, none⟩ (.int .i64 (p' : Int))).drew (s + 1 + 1) 25 [.int .i64 (1 + (k' : Int)), .int .i64 (p' : Int), .int .i64 h, .int .i64 o, .int .i64 n, .slice A len cap]) := Blk.drew (HB4.out.set 1 _)
  have HK5 : Hid (Kept (· = s + 1 + 1) w1.drew (w1.setCell ⟨s + 1 + 1, 1, none⟩ (.int .i64 (p' : Int))).drew) := kept_set w1.drew (s + 1 + 1) 1 _
  refine wp_region_tree Grow (Kept (· = s + 1 + 1)) (kept_refl _) (kept_trans _) (kept_refl _) (kept_trans _) (fun _ _ h => h.mono fun _ _ x => x.elim) [13, 15]
    (.look true [0, 1, 2, 3, 4, 5, 6, 7, 8, 12] (.one false [9, 10, 11] 13 (.one false [14] 15 (.last false [])))) (by kernel_rfl) (by kernel_rfl) ?_
  refine tr_lookE fun K hK => ?_
  simp only [sel, List.map_cons, List.map_nil, List.getD_cons_succ, List.getD_cons_zero]
  repeat (go_big_quiet_step (fail))
  refine wpQuiet_nil (hK _ ?_)
  clear hK K q1 q2
  refine tr_oneL fun K hK => ?_
  simp only [sel, List.map_cons, List.map_nil, List.getD_cons_succ, List.getD_cons_zero]
  repeat (go_big_quiet_step (fail))
  refine wpQuiet_nil ?_
  go_wp2
  refine norm_up (hK _ _ (Lr_late (by decide) HK5.out) ?_)
  clear hK K c1 c2 cf
  generalize (w1.setCell ⟨s + 1 + 1, 1, none⟩ (.int .i64 (p' : Int))).drew = w2 at HB5 HK5 ⊢
  have c2 := HB5.out.cell 2
  have cf : w2.frozen? ⟨s + 1 + 1, 2, none⟩ = false := HB5.out.frozen 2
  simp only [List.getElem?_cons_zero, List.getElem?_cons_succ] at c2
  refine tr_oneL fun K hK => ?_
  simp only [sel, List.map_cons, List.map_nil, List.getD_cons_succ, List.getD_cons_zero]
  repeat (go_big_quiet_step (fail))
  refine wpQuiet_nil ?_
  go_wp2
  refine norm_up (hK _ _ (Lr_late (by decide) (kept_set w2 (s + 1 + 1) 2 (.int .i64 (h' : Int)))) ?_)
  clear hK K c2 cf
  refine tr_lastL fun K hK => ?_
  simp only [sel, List.map_nil]
  refine wpQuiet_nil (hK _ ?_)
  clear hK K
  have HB6 : Hid (Blk (w2.setCell ⟨s + 1 + 1, 2, none⟩ (.int .i64 (h' : Int))) (s + 1 + 1) 25 [.int .i64 (1 + (k' : Int)), .int .i64 (p' : Int), .int .i64 (h' : Int), .int .i64 o, .int .i64 n, .slice A len cap]) := HB5.out.set 2 _
  have HK6 : Hid (Kept (· = s + 1 + 1) w2 (w2.setCell ⟨s + 1 + 1, 2, none⟩ (.int .i64 (h' : Int)))) := kept_set w2 (s + 1 + 1) 2 _
  generalize w2.setCell ⟨s + 1 + 1, 2, none⟩ (.int .i64 (h' : Int)) = w3 at HB6 HK6 ⊢
  have c3 := HB6.out.cell 3
  have c4 := HB6.out.cell 4
  have cf := HB6.out.frozen
  simp only [List.getElem?_cons_zero, List.getElem?_cons_succ] at c3 c4
  go_upto_region 5 with (fail)
  clear c3 c4 cf
  have HB7 : Hid (Blk ((w3.setCell ⟨s + 1 + 1, 3, none⟩ (.int .i64 (o' : Int))).setCell ⟨s + 1 + 1, 4, none⟩ (.int .i64 (n' : Int))) (s + 1 + 1) 25 [.int .i64 (1 + (k' : Int)), .int .i64 (p' : Int), .int .i64 (h' : Int), .int .i64 (o' : Int), .int .i64 (n' : Int), .slice A len cap]) := (HB6.out.set 3 _).set 4 _
  have HK7 : Hid (Kept (· = s + 1 + 1) w0 ((w3.setCell ⟨s + 1 + 1, 3, none⟩ (.int .i64 (o' : Int))).setCell ⟨s + 1 + 1, 4, none⟩ (.int .i64 (n' : Int)))) := (((HK4.out.drew.trans HK5.out).trans HK6.out).trans (kept_set w3 (s + 1 + 1) 3 _)).trans (kept_set _ (s + 1 + 1) 4 _)
  generalize (w3.setCell ⟨s + 1 + 1, 3, none⟩ (.int .i64 (o' : Int))).setCell ⟨s + 1 + 1, 4, none⟩ (.int .i64 (n' : Int)) = w4 at HB7 HK7 ⊢
  clear HB3 HB4 HB5 HB6 HK4 HK5 HK6
  have c5 := HB7.out.cell 5
  have cf := HB7.out.frozen 5
  simp only [List.getElem?_cons_zero, List.getElem?_cons_succ] at c5
  have hlc : (len : Int) ≤ (cap : Int) := by omega
  by_cases h8 : 8 < len
  · have h8z : (8 : Int) < (len : Int) := by omega
    have h8c : (8 : Int) ≤ (cap : Int) := by omega
    go_upto_region 7 with (fail)
    clear c5 cf
    have HB8 : Hid (Blk (w4.setCell ⟨s + 1 + 1, 5, none⟩ (.slice A 8 cap)) (s + 1 + 1) 25 [.int .i64 (1 + (k' : Int)), .int .i64 (p' : Int), .int .i64 (h' : Int), .int .i64 (o' : Int), .int .i64 (n' : Int), .slice A 8 cap]) := HB7.out.set 5 _
    have HKA : Hid (Kept (· = s + 1 + 1) w0 (w4.setCell ⟨s + 1 + 1, 5, none⟩ (.slice A 8 cap))) := HK7.out.trans (kept_set w4 (s + 1 + 1) 5 _)
    generalize w4.setCell ⟨s + 1 + 1, 5, none⟩ (.slice A 8 cap) = w5 at HB8 HKA ⊢
    have HC5 := Lib.hid (HB1.out.kept HKA.out (fun (e : s = s + 1 + 1) => by omega))
    have HD5 := Lib.hid (HB2.out.kept HKA.out (fun (e : s + 1 = s + 1 + 1) => by omega))
    have r0 := HC5.out.cell 0
    have o0 := HB8.out.cell 0
    have o1 := HB8.out.cell 1
    have o2 := HB8.out.cell 2
    have o3 := HB8.out.cell 3
    have o4 := HB8.out.cell 4
    have o5 := HB8.out.cell 5
    simp only [List.getElem?_cons_zero, List.getElem?_cons_succ] at r0 o0 o1 o2 o3 o4 o5
    have q0 := up_cell (F := fun x => x = s + 1) (w := w5.drew) (p := ⟨s, 0, none⟩) r0 (fun e => by have e : s = s + 1 := e; omega)
    have q1 := up_cell (F := fun x => x = s + 1) (w := w5.drew) (p := ⟨s + 1 + 1, 0, none⟩) o0 (fun e => by have e : s + 1 + 1 = s + 1 := e; omega)
    have q2 := up_cell (F := fun x => x = s + 1) (w := w5.drew) (p := ⟨s + 1 + 1, 1, none⟩) o1 (fun e => by have e : s + 1 + 1 = s + 1 := e; omega)
    have q3 := up_cell (F := fun x => x = s + 1) (w := w5.drew) (p := ⟨s + 1 + 1, 2, none⟩) o2 (fun e => by have e : s + 1 + 1 = s + 1 := e; omega)
    have q4 := up_cell (F := fun x => x = s + 1) (w := w5.drew) (p := ⟨s + 1 + 1, 3, none⟩) o3 (fun e => by have e : s + 1 + 1 = s + 1 := e; omega)
    have q5 := up_cell (F := fun x => x = s + 1) (w := w5.drew) (p := ⟨s + 1 + 1, 4, none⟩) o4 (fun e => by have e : s + 1 + 1 = s + 1 := e; omega)
    have q6 := up_cell (F := fun x => x = s + 1) (w := w5.drew) (p := ⟨s + 1 + 1, 5, none⟩) o5 (fun e => by have e : s + 1 + 1 = s + 1 := e; omega)
    have HST := Lib.hid (store_call (a := .int .i64 (c' : Int)) (b := .int .i64 (1 + (k' : Int))) (c := .int .i64 (p' : Int)) (d := .int .i64 (h' : Int)) (e := .int .i64 (o' : Int)) (f := .int .i64 (n' : Int)) (x := .slice A 8 cap) (Blk.drew HD5.out))
    clear r0 o0 o1 o2 o3 o4 o5
    refine wp_region_stages (Kept (fun x => x = s + 1)) (kept_refl _) (kept_trans _) [([0, 1, 2, 3, 4, 5, 6, 7, 8], 9)] [] (by kernel_rfl) (by kernel_rfl) ?_
    simp only [selSt, sel, List.map_cons, List.map_nil, List.getD_cons_succ, List.getD_cons_zero]
    refine st_cons fun K hK => ?_
    repeat (go_big_quiet_step (fail))
    refine wpQuiet_nil ?_
    clear q0 q1 q2 q3 q4 q5 q6
    refine wpList_plain rfl fun _ hK0 => wp_store_row 55 _ _ rfl (s + 1) #[.int .i64 (c' : Int), .int .i64 (1 + (k' : Int)), .int .i64 (p' : Int), .int .i64 (h' : Int), .int .i64 (o' : Int), .int .i64 (n' : Int), .slice A 8 cap] rfl rfl _ _ (Blk.drew HD5.out) call_size rfl (by simp [Value.oneCell']) (hK0 _ _ ?_)
    go_wp2
    refine norm_up (hK _ _ HST.out.2 (st_nil fun K3 hK3 => wpQuiet_nil (hK3 _ ?_)))
    clear hK0 hK K hK3 K3
    have HBA := Lib.hid HST.out.1
    have HKF : Hid (Grow w (w5.drew.setRow (s + 1) #[.int .i64 (c' : Int), .int .i64 (1 + (k' : Int)), .int .i64 (p' : Int), .int .i64 (h' : Int), .int .i64 (o' : Int), .int .i64 (n' : Int), .slice A 8 cap])) := (HG.out.then HKA.out fun x hx (e : x = s + 1 + 1) => by have := HS.out; omega).drew.then HST.out.2 fun x hx (e : x = s + 1) => by have := HS.out; omega
    go_wp2
    rw [HQ.out]
    have hr := HR.out
    exact ret_call rfl rfl HBA.out rfl ⟨c', 1 + k', p', h', o', n', 8, rfl, hr.1, by omega, by omega, hr.2.2.1, hr.2.2.2.1, hr.2.2.2.2.1, hr.2.2.2.2.2, by omega, HKF.out⟩
  · have h8z : ¬ (8 : Int) < (len : Int) := by omega
    have h8z' : (len : Int) ≤ 8 := by omega
    go_upto_region 7 with (fail)
    clear c5 cf
    have HB8 := HB7
    have HKA := HK7
    obtain ⟨w5, hw5⟩ : ∃ w5, w5 = w4 := ⟨_, rfl⟩
    rw [← hw5] at HB8 HKA ⊢
    clear hw5 HB7 HK7
    have HC5 := Lib.hid (HB1.out.kept HKA.out (fun (e : s = s + 1 + 1) => by omega))
    have HD5 := Lib.hid (HB2.out.kept HKA.out (fun (e : s + 1 = s + 1 + 1) => by omega))
    have r0 := HC5.out.cell 0
    have o0 := HB8.out.cell 0
    have o1 := HB8.out.cell 1
    have o2 := HB8.out.cell 2
    have o3 := HB8.out.cell 3
    have o4 := HB8.out.cell 4
    have o5 := HB8.out.cell 5
    simp only [List.getElem?_cons_zero, List.getElem?_cons_succ] at r0 o0 o1 o2 o3 o4 o5
    have q0 := up_cell (F := fun x => x = s + 1) (w := w5.drew) (p := ⟨s, 0, none⟩) r0 (fun e => by have e : s = s + 1 := e; omega)
    have q1 := up_cell (F := fun x => x = s + 1) (w := w5.drew) (p := ⟨s + 1 + 1, 0, none⟩) o0 (fun e => by have e : s + 1 + 1 = s + 1 := e; omega)
    have q2 := up_cell (F := fun x => x = s + 1) (w := w5.drew) (p := ⟨s + 1 + 1, 1, none⟩) o1 (fun e => by have e : s + 1 + 1 = s + 1 := e; omega)
    have q3 := up_cell (F := fun x => x = s + 1) (w := w5.drew) (p := ⟨s + 1 + 1, 2, none⟩) o2 (fun e => by have e : s + 1 + 1 = s + 1 := e; omega)
    have q4 := up_cell (F := fun x => x = s + 1) (w := w5.drew) (p := ⟨s + 1 + 1, 3, none⟩) o3 (fun e => by have e : s + 1 + 1 = s + 1 := e; omega)
    have q5 := up_cell (F := fun x => x = s + 1) (w := w5.drew) (p := ⟨s + 1 + 1, 4, none⟩) o4 (fun e => by have e : s + 1 + 1 = s + 1 := e; omega)
    have q6 := up_cell (F := fun x => x = s + 1) (w := w5.drew) (p := ⟨s + 1 + 1, 5, none⟩) o5 (fun e => by have e : s + 1 + 1 = s + 1 := e; omega)
    have HST := Lib.hid (store_call (a := .int .i64 (c' : Int)) (b := .int .i64 (1 + (k' : Int))) (c := .int .i64 (p' : Int)) (d := .int .i64 (h' : Int)) (e := .int .i64 (o' : Int)) (f := .int .i64 (n' : Int)) (x := .slice A len cap) (Blk.drew HD5.out))
    clear r0 o0 o1 o2 o3 o4 o5
    refine wp_region_stages (Kept (fun x => x = s + 1)) (kept_refl _) (kept_trans _) [([0, 1, 2, 3, 4, 5, 6, 7, 8], 9)] [] (by kernel_rfl) (by kernel_rfl) ?_
    simp only [selSt, sel, List.map_cons, List.map_nil, List.getD_cons_succ, List.getD_cons_zero]
    refine st_cons fun K hK => ?_
    repeat (go_big_quiet_step (fail))
    refine wpQuiet_nil ?_
    clear q0 q1 q2 q3 q4 q5 q6
    refine wpList_plain rfl fun _ hK0 => wp_store_row 55 _ _ rfl (s + 1) #[.int .i64 (c' : Int), .int .i64 (1 + (k' : Int)), .int .i64 (p' : Int), .int .i64 (h' : Int), .int .i64 (o' : Int), .int .i64 (n' : Int), .slice A len cap] rfl rfl _ _ (Blk.drew HD5.out) call_size rfl (by simp [Value.oneCell']) (hK0 _ _ ?_)
    go_wp2
    refine norm_up (hK _ _ HST.out.2 (st_nil fun K3 hK3 => wpQuiet_nil (hK3 _ ?_)))
    clear hK0 hK K hK3 K3
    have HBA := Lib.hid HST.out.1
    have HKF : Hid (Grow w (w5.drew.setRow (s + 1) #[.int .i64 (c' : Int), .int .i64 (1 + (k' : Int)), .int .i64 (p' : Int), .int .i64 (h' : Int), .int .i64 (o' : Int), .int .i64 (n' : Int), .slice A len cap])) := (HG.out.then HKA.out fun x hx (e : x = s + 1 + 1) => by have := HS.out; omega).drew.then HST.out.2 fun x hx (e : x = s + 1) => by have := HS.out; omega
    go_wp2
    rw [HQ.out]
    have hr := HR.out
    exact ret_call rfl rfl HBA.out rfl ⟨c', 1 + k', p', h', o', n', len, rfl, hr.1, by omega, by omega, hr.2.2.1, hr.2.2.2.1, hr.2.2.2.2.1, hr.2.2.2.2.2, by omega, HKF.out⟩
end Go.Proofs.Ytjdlpknflhgkfaa.MdNear
